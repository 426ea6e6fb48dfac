/-
  Walks of the program of package match: width, Check, size; of slices.Index, Contains, Clone at integers. Condition: none.
-/
import Derived.Test.YtfhdoeajoeaddaaMatchMem
import Derived.Lib.Hide
import Derived.Lib.SliceRun
import Derived.Deep.DeepCutAuto
namespace Go.Proofs.Ytfhdoeajoeaddaa.MchW
open Go.ChangeShapes Go.WideShapes Go.ChangeAt Go.RowKit
open PairW CelW TabW MchP
set_option maxRecDepth 100000 in
theorem pwidth_at (l : List (List Bool)) (v : Value) (W : Nat) (w : World) (HT : Hid (Cels w v (cellsB l))) (HW : Hid (wd l = W)) :
    Calls Try.prog 39 #[v] w fun e w' => e = .returned (.int .i64 (W : Int)) ∧ w = w' := by
  obtain ⟨A, cap, rfl, h1, h2, h3⟩ := tb_open HT.out
  unfold maxLen at h2
  obtain ⟨n, hn⟩ : ∃ n, l.length = n := ⟨_, rfl⟩
  rw [hn] at h1 h3 ⊢
  have HN := Lib.hid hn
  clear hn
  by_cases h0 : n = 0
  · subst h0
    obtain rfl : 0 = W := by rw [← HW.out, wd_nil HN.out]
    clear h3
    go_enter Try.func39, Try.ntmps39
    go_wp2
    go_ret
    exact ⟨rfl, rfl⟩
  · obtain ⟨g, off, rfl, h4⟩ := h3 (by omega)
    obtain ⟨r, hr⟩ : ∃ r, l[0]? = some r := ⟨_, List.getElem?_eq_getElem (by rw [HN.out]; omega)⟩
    obtain ⟨u, h5, h6⟩ := h4 0 r hr
    obtain ⟨B, cr, rfl, h7, h8, _⟩ := cel_bool h6
    rw [← wd_of hr, HW.out] at h5 h7
    rw [Nat.add_zero] at h5
    unfold maxLen at h8
    have d0 : ((n : Int) == 0) = false := beq_eq_false_iff_ne.2 (by omega)
    have d1 : (0 : Int) < n := by omega
    clear h3 h4 hr h6 h0
    go_enter Try.func39, Try.ntmps39
    go_wp2
    go_ret
    exact ⟨rfl, rfl⟩
set_option maxRecDepth 100000 in
set_option maxHeartbeats 1000000 in
theorem pcheck_at (l : List (List Bool)) (v : Value) (f : Int) (w : World) (HT : Hid (Cels w v (cellsB l))) (HF : Hid (chkE l = f)) :
    Calls Try.prog 29 #[v] w fun e w' => e = .returned (.int .i64 f) ∧ w = w' := by
  obtain ⟨A, cap, rfl, h1, h2, h3⟩ := tb_open HT.out
  unfold maxLen at h2
  have H3 := Lib.hid h3
  clear h3
  obtain ⟨n, hn⟩ : ∃ n, l.length = n := ⟨_, rfl⟩
  rw [hn] at h1 H3 HT ⊢
  have HN := Lib.hid hn
  clear hn
  obtain ⟨W, hW⟩ : ∃ W, wd l = W := ⟨_, rfl⟩
  have HW := Lib.hid hW
  have hcall := pwidth_at l _ W w HT HW
  clear hW
  by_cases h0 : 24 < n
  · obtain rfl : 3 = f := by rw [← HF.out]; exact (chk_full (.inl (by rw [HN.out]; exact h0))).symm
    have d0 : (24 : Int) < n := by omega
    go_enter Try.func29, Try.ntmps29
    go_wp2_with (go_at_call 39; refine hcall.mono ?_; rintro e w1 ⟨rfl, rfl⟩)
    go_ret
    exact ⟨rfl, rfl⟩
  · have d0 : ¬ (24 : Int) < n := by omega
    by_cases h0' : 24 < W
    · obtain rfl : 3 = f := by rw [← HF.out]; exact (chk_full (.inr (by rw [HW.out]; exact h0'))).symm
      have d1 : (24 : Int) < W := by omega
      go_enter Try.func29, Try.ntmps29
      go_wp2_with (go_at_call 39; refine hcall.mono ?_; rintro e w1 ⟨rfl, rfl⟩)
      go_ret
      exact ⟨rfl, rfl⟩
    · have d1 : ¬ (24 : Int) < W := by omega
      go_enter Try.func29, Try.ntmps29
      go_wp2_with (go_at_call 39; refine hcall.mono ?_; rintro e w1 ⟨rfl, rfl⟩)
      go_loopw [5, 17] (fun _ vi wr => ∃ j : Nat, vi = .int .i64 (j : Int) ∧ j ≤ n ∧ wr = w ∧ ∀ (i : Nat) r, i < j → l[i]? = some r → r.length = W) (fun _ vi _ => n - (intOf vi).toNat)
      case atStart => exact ⟨0, rfl, Nat.zero_le _, rfl, fun i r h => absurd h (Nat.not_lt_zero _)⟩
      case round =>
        obtain ⟨j, rfl, hj, rfl, hok⟩ := hrel
        have HOK := Lib.hid hok
        clear hok
        by_cases hlt : j < n
        · obtain ⟨g, off, rfl, h4⟩ := H3.out (by omega)
          obtain ⟨r, hr⟩ : ∃ r, l[j]? = some r := ⟨_, List.getElem?_eq_getElem (by rw [HN.out]; exact hlt)⟩
          obtain ⟨u, h5, h6⟩ := h4 j r hr
          obtain ⟨B, cr, rfl, h7, h8, _⟩ := cel_bool h6
          unfold maxLen at h8
          have hjn : (j : Int) < n := by omega
          have HR := Lib.hid hr
          obtain ⟨k, hk⟩ : ∃ k, r.length = k := ⟨_, rfl⟩
          rw [hk] at h5 h7
          have HK := Lib.hid hk
          clear h4 h6 hr hk hcall
          by_cases e : k = W
          · subst e
            go_wp2
            go_roundw
            case rel => exact ⟨j + 1, by go_num, hlt, trivial, fun i r' hi hr' => by
              by_cases e : i = j
              · subst e
                rw [HR.out] at hr'
                injection hr' with hr'
                rw [← hr']
                exact HK.out
              · exact HOK.out i r' (by omega) hr'⟩
            case measure => simp [intOf]; omega
          · obtain rfl : 2 = f := by rw [← HF.out]; exact (chk_form (by rw [HN.out]; omega) (by rw [HW.out]; omega) HR.out (by rw [HK.out, HW.out]; exact e)).symm
            have d2 : ((k : Int) != (W : Int)) = true := bne_iff_ne.2 (by omega)
            go_wp2
            go_ret
            exact ⟨rfl, rfl⟩
        · obtain rfl : j = n := by omega
          obtain rfl : 0 = f := by
            rw [← HF.out]
            exact (chk_sq (by rw [HN.out]; omega) (by rw [HW.out]; omega) (fun r hr => by
              obtain ⟨i, hi, e⟩ := List.mem_iff_getElem.1 hr
              rw [HW.out]
              exact HOK.out i r (by rw [← HN.out]; exact hi) (by rw [List.getElem?_eq_getElem hi, e]))).symm
          go_wp2
          go_ret
          exact ⟨rfl, rfl⟩
set_option maxRecDepth 100000 in
theorem psize_at (m : List Int) (v : Value) (z : Nat) (w : World) (HC : Hid (Cel w v (cellsI m))) (HZ : Hid (sz m = z)) :
    Calls Try.prog 30 #[v] w fun e w' => e = .returned (.int .i64 (z : Int)) ∧ w = w' := by
  obtain ⟨A, cap, rfl, h1, h2, h3⟩ := cel_int HC.out
  unfold maxLen at h2
  have H3 := Lib.hid h3
  clear h3
  obtain ⟨n, hn⟩ : ∃ n, m.length = n := ⟨_, rfl⟩
  rw [hn] at h1 H3 ⊢
  have HN := Lib.hid hn
  clear hn
  go_enter Try.func30, Try.ntmps30
  go_wp2
  go_loopw [3, 5, 8] (fun vn _ vi wr => ∃ j k : Nat, vi = .int .i64 (j : Int) ∧ vn = .int .i64 (k : Int) ∧ j ≤ n ∧ k ≤ j ∧ wr = w ∧ sz (m.take j) = k) (fun _ _ vi _ => n - (intOf vi).toNat)
  case atStart => exact ⟨0, 0, rfl, rfl, Nat.zero_le _, Nat.le_refl _, rfl, rfl⟩
  case round =>
    obtain ⟨j, k, rfl, rfl, hj, hk, rfl, hs⟩ := hrel
    have HS := Lib.hid hs
    clear hs
    by_cases hlt : j < n
    · obtain ⟨g, off, rfl, h4⟩ := H3.out (by omega)
      obtain ⟨x, hx⟩ : ∃ x, m[j]? = some x := ⟨_, List.getElem?_eq_getElem (by rw [HN.out]; exact hlt)⟩
      have e0 := h4 j x hx
      have hjn : (j : Int) < n := by omega
      have HT := Lib.hid (sz_take hx)
      clear h4 hx
      by_cases e : x = -1
      · subst e
        go_wp2
        go_roundw
        case rel => exact ⟨j + 1, k, by go_num, rfl, hlt, by omega, trivial, by rw [HT.out, if_pos rfl, HS.out]; rfl⟩
        case measure => simp [intOf]; omega
      · have d1 : (x != -1) = true := bne_iff_ne.2 e
        go_wp2
        go_roundw
        case rel => exact ⟨j + 1, k + 1, by go_num, by go_num, hlt, by omega, trivial, by rw [HT.out, if_neg e, HS.out]⟩
        case measure => simp [intOf]; omega
    · obtain rfl : j = n := by omega
      obtain rfl : k = z := by rw [← HZ.out, ← HS.out, List.take_of_length_le (by rw [HN.out]; exact Nat.le_refl _)]
      go_wp2
      go_ret
      exact ⟨rfl, rfl⟩
end Go.Proofs.Ytfhdoeajoeaddaa.MchW
