/-
  Package match: the laws' own small functions; the chapter's examples; the laws' awake. Condition: none.
-/
import Derived.Test.YtdgahlojdllkbaaMatchPG
import Derived.Test.YtdgahlojdllkbaaMatchD
namespace Go.Proofs.Ytdgahlojdllkbaa.MchW
open Go.ChangeShapes Go.WideShapes Go.ChangeAt Go.RowKit
open PairW CelW TabW MchP
set_option maxRecDepth 100000 in
theorem lsize_at (m : List Int) (v : Value) (z : Nat) (w : World) (HC : Hid (Cel w v (cellsI m))) (HZ : Hid (sz m = z)) :
    Calls Try.prog 21 #[v] w fun e w' => e = .returned (.int .i64 (z : Int)) ∧ w = w' := by
  obtain ⟨A, cap, rfl, h1, h2, h3⟩ := cel_int HC.out
  unfold maxLen at h2
  have H3 := Lib.hid h3
  clear h3
  obtain ⟨n, hn⟩ : ∃ n, m.length = n := ⟨_, rfl⟩
  rw [hn] at h1 H3 ⊢
  have HN := Lib.hid hn
  clear hn
  go_enter Try.func21, Try.ntmps21
  go_wp2
  go_loopw [3, 4] (fun vn vi wr => ∃ j k : Nat, vi = .int .i64 (j : Int) ∧ vn = .int .i64 (k : Int) ∧ j ≤ n ∧ k ≤ j ∧ wr = w ∧ sz (m.take j) = k) (fun _ vi _ => n - (intOf vi).toNat)
  case atStart => exact ⟨0, 0, rfl, rfl, Nat.zero_le _, Nat.le_refl _, rfl, rfl⟩
  case round =>
    obtain ⟨j, k, rfl, rfl, hj, hk, rfl, hs⟩ := hrel
    have HS := Lib.hid hs
    clear hs
    by_cases hlt : j < n
    · obtain ⟨g, off, rfl, h4⟩ := H3.out (by omega)
      obtain ⟨x, hx⟩ : ∃ x, m[j]? = some x := ⟨_, List.getElem?_eq_getElem (by rw [HN.out]; exact hlt)⟩
      have e0 := h4 j x hx
      have hjn : (j : Int) < n := by omega
      have HT := Lib.hid (sz_take hx)
      clear h4 hx
      by_cases e : x = -1
      · subst e
        go_wp2
        go_roundw
        case rel => exact ⟨j + 1, k, by go_num, rfl, hlt, by omega, trivial, by rw [HT.out, if_pos rfl, HS.out]; rfl⟩
        case measure => simp [intOf]; omega
      · have d1 : (x != -1) = true := bne_iff_ne.2 e
        go_wp2
        go_roundw
        case rel => exact ⟨j + 1, k + 1, by go_num, by go_num, hlt, by omega, trivial, by rw [HT.out, if_neg e, HS.out]⟩
        case measure => simp [intOf]; omega
    · obtain rfl : j = n := by omega
      obtain rfl : k = z := by rw [← HZ.out, ← HS.out, List.take_of_length_le (by rw [HN.out]; exact Nat.le_refl _)]
      go_wp2
      go_ret
      exact ⟨rfl, rfl⟩
set_option maxRecDepth 100000 in
set_option maxHeartbeats 1000000 in
theorem lhas_at (m : List Int) (v : Value) (x : Int) (t : Bool) (w : World) (HC : Hid (Cel w v (cellsI m))) (HF : Hid (decide (x ∈ m) = t)) :
    Calls Try.prog 23 #[v, .int .i64 x] w fun e w' => e = .returned (.bool t) ∧ w = w' := by
  obtain ⟨A, cap, rfl, h1, h2, h3⟩ := cel_int HC.out
  unfold maxLen at h2
  have H3 := Lib.hid h3
  clear h3
  obtain ⟨n, hn⟩ : ∃ n, m.length = n := ⟨_, rfl⟩
  rw [hn] at h1 H3 ⊢
  have HN := Lib.hid hn
  clear hn
  go_enter Try.func23, Try.ntmps23
  go_wp2
  go_loopw [5] (fun vi wr => ∃ j : Nat, vi = .int .i64 (j : Int) ∧ j ≤ n ∧ wr = w ∧ ∀ (i : Nat) y, i < j → m[i]? = some y → y ≠ x) (fun vi _ => n - (intOf vi).toNat)
  case atStart => exact ⟨0, rfl, Nat.zero_le _, rfl, fun i y h => absurd h (Nat.not_lt_zero _)⟩
  case round =>
    obtain ⟨j, rfl, hj, rfl, hs⟩ := hrel
    have HS := Lib.hid hs
    clear hs
    by_cases hlt : j < n
    · obtain ⟨g, off, rfl, h4⟩ := H3.out (by omega)
      obtain ⟨y, hy⟩ : ∃ y, m[j]? = some y := ⟨_, List.getElem?_eq_getElem (by rw [HN.out]; exact hlt)⟩
      have e0 := h4 j y hy
      have hjn : (j : Int) < n := by omega
      have HY := Lib.hid hy
      clear h4 hy
      by_cases e : y = x
      · subst e
        obtain rfl : true = t := by rw [← HF.out]; exact (decide_eq_true (List.mem_of_getElem? HY.out)).symm
        go_wp2
        go_ret
        exact ⟨rfl, rfl⟩
      · have d1 : (y == x) = false := beq_eq_false_iff_ne.2 e
        go_wp2
        go_roundw
        case rel => exact ⟨j + 1, by go_num, hlt, trivial, fun i y' hi hy' => by
          by_cases e2 : i = j
          · subst e2
            rw [HY.out] at hy'
            injection hy' with hy'
            rw [← hy']
            exact e
          · exact HS.out i y' (by omega) hy'⟩
        case measure => simp [intOf]; omega
    · obtain rfl : n = j := by omega
      obtain rfl : false = t := by
        rw [← HF.out]
        refine (decide_eq_false fun h => ?_).symm
        obtain ⟨i, hi, e⟩ := List.mem_iff_getElem.1 h
        exact HS.out i x (by rw [← HN.out]; exact hi) (by rw [List.getElem?_eq_getElem hi, e]) rfl
      go_wp2
      go_ret
      exact ⟨rfl, rfl⟩
set_option maxRecDepth 100000 in
set_option maxHeartbeats 1000000 in
theorem asc_yes (A : List Nat) (v : Value) (n : Nat) (w : World) (HC : Hid (Cel w v (cellsI (natsI A)))) (HA : Hid (A.Pairwise (· < ·))) (HL : Hid (∀ x, x ∈ A → x < n)) :
    Calls Try.prog 22 #[v, .int .i64 (n : Int)] w fun e w' => e = .returned (.bool true) ∧ Own w w' := by
  obtain ⟨B, cap, rfl, h1, h2, h3⟩ := cel_int HC.out
  unfold maxLen at h2
  have H3 := Lib.hid h3
  clear h3
  obtain ⟨k, hk⟩ : ∃ k, A.length = k := ⟨_, rfl⟩
  rw [natsI_len, hk] at h1 H3 ⊢
  have HN := Lib.hid hk
  clear hk
  go_enter Try.func22, Try.ntmps22
  go_wp2
  go_loopw [5] (fun vi wr => ∃ j : Nat, vi = .int .i64 (j : Int) ∧ j ≤ k ∧ Own w wr) (fun vi _ => k - (intOf vi).toNat)
  case atStart => exact ⟨0, rfl, Nat.zero_le _, Own.refl w⟩
  case round =>
    obtain ⟨j, rfl, hj, q⟩ := hrel
    by_cases hlt : j < k
    · obtain ⟨g, off, rfl, h4⟩ := H3.out (by omega)
      obtain ⟨x, hx⟩ : ∃ x, A[j]? = some x := ⟨_, List.getElem?_eq_getElem (by rw [HN.out]; exact hlt)⟩
      have e0 := q.cell (h4 j _ (natsI_at hx))
      have hxn := HL.out x (List.mem_of_getElem? hx)
      have hjk : (j : Int) < k := by omega
      have d1 : ¬ (n : Int) ≤ (x : Int) := by omega
      by_cases hj0 : j = 0
      · subst hj0
        rw [Nat.add_zero] at e0
        have c1 : decide ((n : Int) ≤ (x : Int)) = false := decide_eq_false d1
        have c2 : decide ((x : Int) < 0) = false := decide_eq_false (by omega)
        clear h4 hx
        go_upto_region 4 with (fail)
        go_quiet (fail)
        go_wp2
        go_roundw
        case rel => exact ⟨1, by go_num, hlt, q.drewN _⟩
        case measure => simp [intOf]; omega
      · obtain ⟨i, hi⟩ : ∃ i, j - 1 = i := ⟨_, rfl⟩
        obtain ⟨y, hy⟩ : ∃ y, A[i]? = some y := ⟨_, List.getElem?_eq_getElem (by rw [HN.out]; omega)⟩
        have e1 := q.cell (h4 i _ (natsI_at hy))
        have hyx : y < x := by
          obtain ⟨hi1, e2⟩ := List.getElem?_eq_some_iff.1 hy
          obtain ⟨hj1, e3⟩ := List.getElem?_eq_some_iff.1 hx
          rw [← e2, ← e3]
          exact List.pairwise_iff_getElem.1 HA.out i j hi1 hj1 (by omega)
        have d2 : ¬ (x : Int) ≤ (y : Int) := by omega
        have d3 : (0 : Int) < (j : Int) := by omega
        have hik : (i : Int) < k := by omega
        have d4 : (j : Int) - 1 = (i : Int) := by omega
        have c1 : decide ((n : Int) ≤ (x : Int)) = false := decide_eq_false d1
        have c2 : decide ((x : Int) < 0) = false := decide_eq_false (by omega)
        have c3 : decide ((0 : Int) < (j : Int)) = true := decide_eq_true d3
        have c4 : decide (0 < j) = true := decide_eq_true (by omega)
        have c5 : decide ((x : Int) ≤ (y : Int)) = false := decide_eq_false d2
        clear h4 hx hy hi hyx
        go_upto_region 4 with (fail)
        go_quiet (fail)
        go_wp2
        go_roundw
        case rel => exact ⟨j + 1, by go_num, hlt, q.drewN _⟩
        case measure => simp [intOf]; omega
    · obtain rfl : k = j := by omega
      go_wp2
      go_ret
      exact ⟨rfl, q⟩
set_option maxRecDepth 100000 in
theorem matches_at (l : List (List Bool)) (M : List Int) (vl vw : Value) (w : World) (HT : Hid (Cels w vl (cellsB l))) (HW : Hid (Cel w vw (cellsI M))) (HF : Hid (chkE l = 0)) (HM : Hid (maV l = M)) :
    Calls Try.prog 29 #[vl, vw] w fun e w' => e = .returned (.bool true) ∧ Own w w' := by
  have hcall := pmatch_at l vl M 0 w HT HF HM
  go_enter Try.func29, Try.ntmps29
  go_wp2_with (first
    | (go_at_call 16; refine hcall.mono ?_; rintro e w1 ⟨v, rfl, hr, q1, _⟩; have HR := Lib.hid (cel_of_row hr); have HQ1 := Lib.hid q1; have HW1 := Lib.hid (HW.out.own q1); clear hr q1)
    | (go_at_call 18; refine (rints_yes M v vw w1 HR HW1).mono ?_; rintro e w2 ⟨rfl, q2⟩; have HQ2 := Lib.hid q2; clear q2))
  go_ret
  exact ⟨rfl, HQ1.out.trans HQ2.out⟩
end Go.Proofs.Ytdgahlojdllkbaa.MchW
