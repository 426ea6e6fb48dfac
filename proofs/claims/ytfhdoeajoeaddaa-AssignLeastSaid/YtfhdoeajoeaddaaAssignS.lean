/-
  Walks of the laws' small functions: same, square. Condition: none.
-/
import Derived.Test.YtfhdoeajoeaddaaAssignA
namespace Go.Proofs.Ytfhdoeajoeaddaa.AsgW
open Go.ChangeShapes Go.WideShapes Go.ChangeAt Go.RowKit
open PairW CelW TabW MchW AsgP
set_option maxRecDepth 100000 in
theorem same_yes (l : List Int) (va vb : Value) (w : World) (HA : Hid (Cel w va (cellsI l))) (HB : Hid (Cel w vb (cellsI l))) :
    Calls Try.prog 18 #[va, vb] w fun e w' => e = .returned (.bool true) ∧ Own w w' := by
  obtain ⟨A, ca, rfl, a1, a2, a3⟩ := cel_ints HA.out
  obtain ⟨B, cb, rfl, b1, b2, b3⟩ := cel_ints HB.out
  unfold maxLen at a2 b2
  have HCA := Lib.hid a3
  have HCB := Lib.hid b3
  obtain ⟨n, hn⟩ : ∃ n, l.length = n := ⟨_, rfl⟩
  have HN := Lib.hid hn
  rw [hn] at a1 b1 ⊢
  clear a3 b3 HA HB hn
  go_enter Try.func18, Try.ntmps18
  go_wp2
  go_loopw [5] (fun i wr => ∃ k : Nat, i = .int .i64 k ∧ k ≤ n ∧ Own w wr) (fun i _ => n - (intOf i).toNat)
  case atStart => exact ⟨0, rfl, Nat.zero_le _, Own.refl w⟩
  case round =>
    obtain ⟨k, rfl, hk, q⟩ := hrel
    by_cases hlt : k < n
    · obtain ⟨g, off, rfl, hc⟩ := HCA.out (by rw [HN.out]; omega)
      obtain ⟨g2, off2, rfl, hc2⟩ := HCB.out (by rw [HN.out]; omega)
      have hkl : k < l.length := by rw [HN.out]; exact hlt
      have c0 := q.cell (hc k hkl)
      have c1 := q.cell (hc2 k hkl)
      obtain ⟨z, hz⟩ : ∃ z, l[k] = z := ⟨_, rfl⟩
      rw [hz] at c0 c1
      clear hc hc2 hz hkl
      have hkn : (k : Int) < n := by omega
      have hzz : (z == z) = true := beq_self_eq_true z
      go_upto_region 6 with (fail)
      go_quiet (fail)
      go_wp2
      go_roundw
      case rel => exact ⟨k + 1, by go_num, hlt, q.drewN _⟩
      case measure => simp [intOf]; omega
    · obtain rfl : k = n := by omega
      go_wp2
      go_ret
      exact ⟨rfl, q⟩
set_option maxRecDepth 100000 in
theorem square_at (c : Tb) (v : Value) (b : Bool) (w : World) (HT : Hid (Cels w v (cellsG c))) (HB : Hid (c.all (fun r => decide (r.length = c.length)) = b)) :
    Calls Try.prog 19 #[v] w fun e w' => e = .returned (.bool b) ∧ w = w' := by
  obtain ⟨A, cap, rfl, h1, h2, h3⟩ := gt_open HT.out
  unfold maxLen at h2
  have H3 := Lib.hid h3
  clear h3
  obtain ⟨n, hn⟩ : ∃ n, c.length = n := ⟨_, rfl⟩
  rw [hn] at h1 H3 ⊢
  have HN := Lib.hid hn
  clear hn
  go_enter Try.func19, Try.ntmps19
  go_wp2
  go_loopw [3] (fun vi wr => ∃ j : Nat, vi = .int .i64 (j : Int) ∧ j ≤ n ∧ w = wr ∧ ∀ (i : Nat) r, i < j → c[i]? = some r → r.length = n) (fun vi _ => n - (intOf vi).toNat)
  case atStart => exact ⟨0, rfl, Nat.zero_le _, rfl, fun i r h => absurd h (Nat.not_lt_zero _)⟩
  case round =>
    obtain ⟨j, rfl, hj, rfl, hok⟩ := hrel
    have HOK := Lib.hid hok
    clear hok
    by_cases hlt : j < n
    · obtain ⟨g, off, rfl, h4⟩ := H3.out (by omega)
      obtain ⟨r, hr⟩ : ∃ r, c[j]? = some r := ⟨_, List.getElem?_eq_getElem (by rw [HN.out]; exact hlt)⟩
      obtain ⟨u, h5, h6⟩ := h4 j r hr
      obtain ⟨B, cr, rfl, h7, h8, _⟩ := cel_int h6
      unfold maxLen at h8
      have hjn : (j : Int) < n := by omega
      have HR := Lib.hid hr
      obtain ⟨k, hk⟩ : ∃ k, r.length = k := ⟨_, rfl⟩
      rw [hk] at h5 h7
      have HK := Lib.hid hk
      clear h4 h6 hr hk
      by_cases e : k = n
      · subst e
        go_wp2
        go_roundw
        case rel => exact ⟨j + 1, by go_num, hlt, trivial, fun i r' hi hr' => by
          by_cases e : i = j
          · subst e
            rw [HR.out] at hr'
            injection hr' with hr'
            rw [← hr']
            exact HK.out
          · exact HOK.out i r' (by omega) hr'⟩
        case measure => simp [intOf]; omega
      · obtain rfl : false = b := by
          rw [← HB.out]
          exact (Bool.eq_false_iff.2 fun q => e (by rw [← HK.out, ← HN.out]; exact sqa_iff.1 q r (List.mem_of_getElem? HR.out))).symm
        have d2 : ((k : Int) != (n : Int)) = true := bne_iff_ne.2 (by omega)
        go_wp2
        go_ret
        exact ⟨rfl, rfl⟩
    · obtain rfl : n = j := by omega
      obtain rfl : true = b := by
        rw [← HB.out]
        exact (sqa_iff.2 fun r hr => by
          obtain ⟨i, hi, e⟩ := List.mem_iff_getElem.1 hr
          rw [HN.out]
          exact HOK.out i r (by rw [← HN.out]; exact hi) (by rw [List.getElem?_eq_getElem hi, e])).symm
      go_wp2
      go_ret
      exact ⟨rfl, rfl⟩
end Go.Proofs.Ytfhdoeajoeaddaa.AsgW
