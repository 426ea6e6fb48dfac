/-
  Walks of the specification of package assign: Check. Condition: none.
-/
import Derived.Test.YtfhdoeajoeaddaaAssignMem
import Derived.Lib.Hide
import Derived.Lib.SliceRun
import Derived.Deep.DeepCutAuto
namespace Go.Proofs.Ytfhdoeajoeaddaa.AsgW
open Go.ChangeShapes Go.WideShapes Go.ChangeAt Go.RowKit
open PairW CelW TabW MchW AsgP
set_option maxRecDepth 100000 in
set_option maxHeartbeats 1000000 in
theorem racheck_at (c : Tb) (v : Value) (f : Int) (w : World) (HT : Hid (Cels w v (cellsG c))) (HF : Hid (chA c = f)) :
    Calls Try.prog 11 #[v] w fun e w' => e = .returned (.int .i64 f) ∧ w = w' := by
  obtain ⟨A, cap, rfl, h1, h2, h3⟩ := gt_open HT.out
  unfold maxLen at h2
  have H3 := Lib.hid h3
  clear h3
  obtain ⟨n, hn⟩ : ∃ n, c.length = n := ⟨_, rfl⟩
  rw [hn] at h1 H3 HT ⊢
  have HN := Lib.hid hn
  clear hn
  by_cases h0 : 16 < n
  · obtain rfl : 3 = f := by rw [← HF.out]; exact (chA_full (by rw [HN.out]; exact h0)).symm
    have d0 : (16 : Int) < n := by omega
    go_enter Try.func11, Try.ntmps11
    go_wp2
    go_ret
    exact ⟨rfl, rfl⟩
  · have d0 : ¬ (16 : Int) < n := by omega
    go_enter Try.func11, Try.ntmps11
    go_wp2
    go_loopw [3] (fun vi wr => ∃ j : Nat, vi = .int .i64 (j : Int) ∧ j ≤ n ∧ w = wr ∧ ∀ (i : Nat) r, i < j → c[i]? = some r → r.length = n) (fun vi _ => n - (intOf vi).toNat)
    case atStart => exact ⟨0, rfl, Nat.zero_le _, rfl, fun i r h => absurd h (Nat.not_lt_zero _)⟩
    case round =>
      obtain ⟨j, rfl, hj, rfl, hok⟩ := hrel
      have HOK := Lib.hid hok
      clear hok
      by_cases hlt : j < n
      · obtain ⟨g, off, rfl, h4⟩ := H3.out (by omega)
        obtain ⟨r, hr⟩ : ∃ r, c[j]? = some r := ⟨_, List.getElem?_eq_getElem (by rw [HN.out]; exact hlt)⟩
        obtain ⟨u, h5, h6⟩ := h4 j r hr
        obtain ⟨B, cr, rfl, h7, h8, _⟩ := cel_int h6
        unfold maxLen at h8
        have hjn : (j : Int) < n := by omega
        have HR := Lib.hid hr
        obtain ⟨k, hk⟩ : ∃ k, r.length = k := ⟨_, rfl⟩
        rw [hk] at h5 h7
        have HK := Lib.hid hk
        clear h4 h6 hr hk
        by_cases e : k = n
        · subst e
          go_wp2
          go_roundw
          case rel => exact ⟨j + 1, by go_num, hlt, trivial, fun i r' hi hr' => by
            by_cases e : i = j
            · subst e
              rw [HR.out] at hr'
              injection hr' with hr'
              rw [← hr']
              exact HK.out
            · exact HOK.out i r' (by omega) hr'⟩
          case measure => simp [intOf]; omega
        · obtain rfl : 2 = f := by rw [← HF.out]; exact (chA_form (by rw [HN.out]; omega) HR.out (by rw [HK.out, HN.out]; exact e)).symm
          have d2 : ((k : Int) != (n : Int)) = true := bne_iff_ne.2 (by omega)
          go_wp2
          go_ret
          exact ⟨rfl, rfl⟩
      · obtain rfl : n = j := by omega
        have HS := Lib.hid (show Sqa c from fun r hr => by
          obtain ⟨i, hi, e⟩ := List.mem_iff_getElem.1 hr
          rw [HN.out]
          exact HOK.out i r (by rw [← HN.out]; exact hi) (by rw [List.getElem?_eq_getElem hi, e]))
        clear HOK H3
        go_wp2
        go_loopw [4, 5] (fun vi _ wr => ∃ i : Nat, vi = .int .i64 (i : Int) ∧ i ≤ n ∧ w = wr ∧ ∀ a, a < i → ∀ b, b < n → 0 ≤ ct c a b ∧ ct c a b ≤ 1099511627776) (fun vi _ _ => n - (intOf vi).toNat)
        case atStart => exact ⟨0, rfl, Nat.zero_le _, rfl, fun a h => absurd h (Nat.not_lt_zero _)⟩
        case round =>
          obtain ⟨i, rfl, hi, rfl, hok⟩ := hrel
          have HOK := Lib.hid hok
          clear hok
          by_cases hlt : i < n
          · have hin : (i : Int) < n := by omega
            go_wp2
            go_loopw [5] (fun vj wr => ∃ j : Nat, vj = .int .i64 (j : Int) ∧ j ≤ n ∧ w = wr ∧ ∀ b, b < j → 0 ≤ ct c i b ∧ ct c i b ≤ 1099511627776) (fun vj _ => n - (intOf vj).toNat)
            case atStart => exact ⟨0, rfl, Nat.zero_le _, rfl, fun a h => absurd h (Nat.not_lt_zero _)⟩
            case round =>
              obtain ⟨j, rfl, hj, rfl, hok2⟩ := hrel
              have HOK2 := Lib.hid hok2
              clear hok2
              by_cases hlt2 : j < n
              · obtain ⟨g, off, cap', gr, og, cr, ev, h3, h4, h5, h6, h7, h8⟩ := gt_row HT.out HS.out HN.out hlt
                injection ev with ev1 ev2 ev3
                subst ev1 ev3
                unfold maxLen at h7
                have h9 := h8 j hlt2
                have hjn : (j : Int) < n := by omega
                obtain ⟨x, hx⟩ : ∃ x, ct c i j = x := ⟨_, rfl⟩
                rw [hx] at h9
                have HX := Lib.hid hx
                clear hx h8 h4
                have bad : (x < 0 ∨ 1099511627776 < x) → 1 = f := fun q => by
                  rw [← HF.out]
                  obtain ⟨r, hr⟩ : ∃ r, c[i]? = some r := ⟨_, List.getElem?_eq_getElem (by rw [HN.out]; exact hlt)⟩
                  have hl := HS.out r (List.mem_of_getElem? hr)
                  rw [HN.out] at hl
                  exact (chA_range (by rw [HN.out]; omega) HS.out hr (row_ct (j := j) hr (by omega)) (by rw [HX.out]; exact q)).symm
                have BAD := Lib.hid bad
                clear bad
                by_cases e1 : x < 0
                · obtain rfl := BAD.out (.inl e1)
                  go_wp2
                  go_ret
                  exact ⟨rfl, rfl⟩
                · by_cases e2 : 1099511627776 < x
                  · obtain rfl := BAD.out (.inr e2)
                    go_wp2
                    go_ret
                    exact ⟨rfl, rfl⟩
                  · go_wp2
                    go_roundw
                    case rel => exact ⟨j + 1, by go_num, hlt2, trivial, fun b hb => by
                      by_cases e : b = j
                      · subst e; rw [HX.out]; omega
                      · exact HOK2.out b (by omega)⟩
                    case measure => simp [intOf]; omega
              · obtain rfl : n = j := by omega
                go_wp2
                go_roundw
                case rel => exact ⟨i + 1, by go_num, hlt, trivial, fun a ha => by
                  by_cases e : a = i
                  · subst e; exact HOK2.out
                  · exact HOK.out a (by omega)⟩
                case measure => simp [intOf]; omega
          · obtain rfl : n = i := by omega
            obtain rfl : 0 = f := by
              rw [← HF.out]
              exact (chA_fine (by rw [HN.out]; omega) HS.out (rga_mk HS.out (by rw [HN.out]; exact HOK.out))).symm
            go_wp2
            go_ret
            exact ⟨rfl, rfl⟩
end Go.Proofs.Ytfhdoeajoeaddaa.AsgW
