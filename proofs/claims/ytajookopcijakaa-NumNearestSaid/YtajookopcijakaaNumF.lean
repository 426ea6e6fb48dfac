/-
  Walk of Root of package num: what a call returns for every input, at every world. Condition: none.
-/
import Derived.Test.YtajookopcijakaaNumA
import Derived.Test.YtajookopcijakaaNumPlainB
import Derived.LoopTactic
namespace Go.Proofs.Ytajookopcijakaa.NumW
open Go.ChangeShapes Go.WideShapes Go.ChangeAt Go.RowKit
open NumP

set_option maxHeartbeats 800000 in
theorem root_bad (n : Int) (w : World) (h : n < 0 ∨ 1125899906842624 < n) :
    Calls Try.prog 22 #[.int .i64 n] w fun e w' => e = .returned (.tuple #[.int .i64 (rootV n), .int .i64 (rootE n)]) ∧ w = w' := by
  have H := Lib.hid (root_no n h)
  by_cases h1 : n < 0
  · clear h
    go_enter Try.func22, Try.ntmps22
    go_wp2
    go_ret2
    exact ⟨ret_two H.out.2.symm H.out.1.symm, rfl⟩
  · have h2 : 1125899906842624 < n := by omega
    clear h
    go_enter Try.func22, Try.ntmps22
    go_wp2
    go_ret2
    exact ⟨ret_two H.out.2.symm H.out.1.symm, rfl⟩

set_option maxHeartbeats 800000 in
theorem root_good (n : Int) (w : World) (h0 : 0 ≤ n) (h1 : n ≤ 1125899906842624) :
    Calls Try.prog 22 #[.int .i64 n] w fun e w' => e = .returned (.tuple #[.int .i64 (rootLoop n 26), .int .i64 0]) ∧ w = w' := by
  go_enter Try.func22, Try.ntmps22
  go_wp2
  go_loop [4, 13] (fun r i => ∃ k : Nat, k ≤ 26 ∧ i = .int .i64 k ∧ r = .int .i64 (rootLoop n k)) (fun _ i => 26 - (intOf i).toNat)
  case atStart => exact ⟨0, Nat.zero_le _, rfl, rfl⟩
  case round =>
    obtain ⟨k, hk, rfl, rfl⟩ := hrel
    have hb := root_bd n k hk
    by_cases hlt : k < 26
    · have h2 := pow_half k hlt
      have p1 := pow_pos (25 - k)
      rw [h2] at hb
      obtain ⟨q1, q2⟩ := root_prod (rootLoop n k) (2 ^ (25 - k)) hb.1 p1 hb.2
      clear h2
      by_cases hc : (rootLoop n k + 2 ^ (25 - k)) * (rootLoop n k + 2 ^ (25 - k)) ≤ n
      · have HS := Lib.hid (show rootLoop n (k + 1) = rootLoop n k + 2 ^ (25 - k) by rw [rootLoop, if_pos hc])
        go_wp2
        go_round
        case rel => exact ⟨k + 1, by omega, by go_num, by rw [HS.out]⟩
        case measure => simp [intOf]; omega
      · have HS := Lib.hid (show rootLoop n (k + 1) = rootLoop n k by rw [rootLoop, if_neg hc])
        go_wp2
        go_round
        case rel => exact ⟨k + 1, by omega, by go_num, by rw [HS.out]⟩
        case measure => simp [intOf]; omega
    · obtain rfl : k = 26 := by omega
      clear hb
      go_wp2
      go_ret2
      exact ⟨rfl, rfl⟩

/-- Root, whatever the argument is. -/
theorem root_any (n : Int) (w : World) :
    Calls Try.prog 22 #[.int .i64 n] w fun e w' => e = .returned (.tuple #[.int .i64 (rootV n), .int .i64 (rootE n)]) ∧ w = w' := by
  by_cases h : n < 0 ∨ 1125899906842624 < n
  · exact root_bad n w h
  · have h0 : 0 ≤ n := by omega
    have h1 : n ≤ 1125899906842624 := by omega
    have ho : rootOk n = true := by unfold rootOk; simp [h0, h1]
    have e1 : rootV n = rootLoop n 26 := by unfold rootV; rw [if_pos ho]
    have e2 : rootE n = 0 := by unfold rootE; rw [if_pos ho]
    rw [e1, e2]
    exact root_good n w h0 h1
theorem root_at (n v f : Int) (w : World) (H : Hid (rootV n = v ∧ rootE n = f)) :
    Calls Try.prog 22 #[.int .i64 n] w fun e w' => e = .returned (.tuple #[.int .i64 v, .int .i64 f]) ∧ w = w' := by
  obtain ⟨rfl, rfl⟩ := H.out
  exact root_any n w

/-! ### Gcd -/
set_option maxHeartbeats 800000 in
theorem gcd_bad (a b : Int) (w : World) (h : smallB a = false ∨ smallB b = false) :
    Calls Try.prog 23 #[.int .i64 a, .int .i64 b] w fun e w' => e = .returned (.tuple #[.int .i64 (gcdV a b), .int .i64 (gcdE a b)]) ∧ Drew w w' := by
  have H := Lib.hid (gcd_no h)
  by_cases ha : smallB a = false
  · clear h
    go_enter Try.func23, Try.ntmps23
    go_wp2_with (go_at_call 31; refine (small_any _ _).mono ?_; rintro e w' ⟨rfl, rfl⟩)
    go_ret2
    exact ⟨ret_two H.out.1.symm H.out.2.symm, Drew.refl _⟩
  · have ha := Bool.of_not_eq_false ha
    have hb : smallB b = false := by
      rcases h with h | h
      · rw [ha] at h; simp at h
      · exact h
    clear h
    go_enter Try.func23, Try.ntmps23
    go_wp2_with (go_at_call 31; refine (small_any _ _).mono ?_; rintro e w' ⟨rfl, rfl⟩)
    go_ret2
    exact ⟨ret_two H.out.1.symm H.out.2.symm, Drew.refl _⟩

set_option maxHeartbeats 800000 in
theorem rgcd_bad (a b : Int) (w : World) (h : smallB a = false ∨ smallB b = false) :
    Calls Try.prog 24 #[.int .i64 a, .int .i64 b] w fun e w' => e = .returned (.tuple #[.int .i64 (gcdV a b), .int .i64 (gcdE a b)]) ∧ Drew w w' := by
  have H := Lib.hid (gcd_no h)
  by_cases ha : smallB a = false
  · clear h
    go_enter Try.func24, Try.ntmps24
    go_wp2_with (go_at_call 30; refine (rsmall_any _ _).mono ?_; rintro e w' ⟨rfl, rfl⟩)
    go_ret2
    exact ⟨ret_two H.out.1.symm H.out.2.symm, Drew.refl _⟩
  · have ha := Bool.of_not_eq_false ha
    have hb : smallB b = false := by
      rcases h with h | h
      · rw [ha] at h; simp at h
      · exact h
    clear h
    go_enter Try.func24, Try.ntmps24
    go_wp2_with (go_at_call 30; refine (rsmall_any _ _).mono ?_; rintro e w' ⟨rfl, rfl⟩)
    go_ret2
    exact ⟨ret_two H.out.1.symm H.out.2.symm, Drew.refl _⟩

/-- The step of the specification's loop, for natural numbers. -/
theorem nat_step (x y : Nat) (h : 0 < y) : Nat.gcd y (x % y) = Nat.gcd x y ∧ x % y < y := by
  refine ⟨?_, Nat.mod_lt _ h⟩
  rw [Nat.gcd_comm y, ← Nat.gcd_rec, Nat.gcd_comm]

set_option maxHeartbeats 800000 in
theorem rgcd_good (a b : Int) (w : World) (ha : smallB a = true) (hb : smallB b = true) :
    Calls Try.prog 24 #[.int .i64 a, .int .i64 b] w fun e w' => e = .returned (.tuple #[.int .i64 (gcdV a b), .int .i64 (gcdE a b)]) ∧ Drew w w' := by
  have H := Lib.hid (gcd_ok ha hb)
  have HG := Lib.hid (show Int.gcd a b = Nat.gcd a.natAbs b.natAbs from rfl)
  obtain ⟨a0, a1⟩ := (small_iff a).1 ha
  obtain ⟨b0, b1⟩ := (small_iff b).1 hb
  obtain ⟨x, hx⟩ : ∃ x, a.natAbs = x := ⟨_, rfl⟩
  obtain ⟨y, hy⟩ : ∃ y, b.natAbs = y := ⟨_, rfl⟩
  have hx1 : x ≤ 1125899906842624 := by omega
  have hy1 : y ≤ 1125899906842624 := by omega
  have HX := Lib.hid hx
  have HY := Lib.hid hy
  clear hx hy
  go_enter Try.func24, Try.ntmps24
  go_wp2_with (first | (go_at_call 30; refine (rsmall_any _ _).mono ?_; rintro e w' ⟨rfl, rfl⟩) | (go_at_call 33; refine (size_any _ _ (by omega) (by omega)).mono ?_; rintro e w' ⟨rfl, rfl⟩))
  go_loopw [6, 7] (fun p q wr => ∃ u v : Nat, p = .int .i64 u ∧ q = .int .i64 v ∧ u ≤ 1125899906842624 ∧ v ≤ 1125899906842624 ∧ Nat.gcd u v = Nat.gcd x y ∧ Drew w wr) (fun _ q _ => (intOf q).toNat)
  case atStart => exact ⟨x, y, by rw [HX.out], by rw [HY.out], hx1, hy1, rfl, Drew.refl _⟩
  case round =>
    obtain ⟨u, v, rfl, rfl, hu, hv, hg, hw⟩ := hrel
    have HL := Lib.hid hg
    have HW := Lib.hid hw
    clear hg hw
    by_cases hp : 0 < v
    · have hs := nat_step u v hp
      have HS := Lib.hid hs.1
      have hm := hs.2
      clear hs
      go_wp2
      go_quiet (fail)
      go_wp2
      go_roundw
      case rel => exact ⟨v, u % v, rfl, by go_num, hv, by omega, by rw [HS.out, HL.out], HW.out.step _⟩
      case measure => simp [intOf]; omega
    · obtain rfl : v = 0 := by omega
      go_wp2
      go_ret2
      exact ⟨ret_two (by rw [H.out.1, HG.out, HX.out, HY.out, ← HL.out, Nat.gcd_zero_right]) H.out.2.symm, HW.out⟩
theorem rgcd_any (a b : Int) (w : World) :
    Calls Try.prog 24 #[.int .i64 a, .int .i64 b] w fun e w' => e = .returned (.tuple #[.int .i64 (gcdV a b), .int .i64 (gcdE a b)]) ∧ Drew w w' := by
  by_cases h : smallB a = false ∨ smallB b = false
  · exact rgcd_bad a b w h
  · exact rgcd_good a b w (Bool.of_not_eq_false fun x => h (Or.inl x)) (Bool.of_not_eq_false fun x => h (Or.inr x))
end Go.Proofs.Ytajookopcijakaa.NumW
