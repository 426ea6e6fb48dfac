/-
  Walks of the specification of package share: amount, over, Same. Condition: none.
-/
import Derived.Test.YtmliajkbknjacaaNumE
import Derived.Test.YtmliajkbknjacaaMatchMem
import Derived.Test.YtmliajkbknjacaaSharePlain
import Derived.Lib.Hide
namespace Go.Proofs.Ytmliajkbknjacaa.ShaW
open Go.ChangeShapes Go.WideShapes Go.ChangeAt Go.RowKit
open PairW CelW MchW ShaP NumP
open NumW (rfloor_any)
set_option maxRecDepth 100000 in
theorem amount_at (x : Int) (b : Bool) (w : World) (H : Hid ((decide (0 ≤ x) && decide (x ≤ 1099511627776)) = b)) :
    Calls Try.prog 22 #[.int .i64 x] w fun e w' => e = .returned (.bool b) ∧ w = w' := by
  obtain rfl := H.out
  by_cases h0 : 0 ≤ x
  · go_enter Try.func22, Try.ntmps22
    go_wp2
    go_ret
    exact ⟨rfl, rfl⟩
  · go_enter Try.func22, Try.ntmps22
    go_wp2
    go_ret
    have e : decide (0 ≤ x) = false := decide_eq_false (by omega)
    exact ⟨by rw [e, Bool.false_and]; rfl, rfl⟩
theorem rfl_at (x c q s : Int) (w : World) (hx : 0 ≤ x ∧ x ≤ 8796093022208) (hc : 1 ≤ c ∧ c ≤ 1099511627776) (HQ : Hid (x / c = q)) (HS : Hid (x % c = s)) :
    Calls Try.prog 34 #[.int .i64 x, .int .i64 c] w fun e w' => e = .returned (.tuple #[.int .i64 q, .int .i64 s, .int .i64 0]) ∧ Drew w w' := by
  obtain ⟨e1, e2, e3⟩ := floor_ok (a := x) (b := c) ((small_iff _).2 (by omega)) ((small_iff _).2 (by omega)) hc.1
  refine (rfloor_any x c w).mono ?_
  rintro e w' ⟨rfl, h⟩
  rw [e1, e2, e3, HQ.out, HS.out]
  exact ⟨rfl, h⟩
theorem drew_trans {a b c : World} (h : Drew a b) (k : NumW.Drew b c) : Drew a c := by
  obtain ⟨m, rfl⟩ := h
  obtain ⟨n, rfl⟩ := k
  exact ⟨_, World.drewN_drewN _ _ _⟩
/-- One digit more: the quotient, what is left, and the bounds. -/
theorem over_step {a c n r : Int} {B B' : Nat} {t : Int} (hc : 1 ≤ c) (he : c * n + r = a * (B : Int)) (hB : (B' : Int) = 2 * B + t) : c * (2 * n + (2 * r + t * a) / c) + (2 * r + t * a) % c = a * (B' : Int) ∧ 0 ≤ (2 * r + t * a) % c ∧ (2 * r + t * a) % c < c := by
  have e := Int.mul_ediv_add_emod (2 * r + t * a) c
  refine ⟨?_, Int.emod_nonneg _ (by omega), Int.emod_lt_of_pos _ (by omega)⟩
  have e2 : a * (B' : Int) = 2 * (a * B) + t * a := by rw [hB]; grind
  rw [e2, ← he]
  grind
theorem over_le {a b c n r : Int} (ha : 0 ≤ a) (hc : 1 ≤ c) (he : c * n + r = a * b) (hr0 : 0 ≤ r) (hr : r < c) (hb0 : 0 ≤ b) (hb : b ≤ c) : 0 ≤ n ∧ n ≤ a := by
  have h1 : a * b ≤ a * c := Int.mul_le_mul_of_nonneg_left hb ha
  have h2 : 0 ≤ a * b := Int.mul_nonneg ha hb0
  constructor
  · refine Int.not_lt.1 fun q => ?_
    have : c * n ≤ c * (-1) := Int.mul_le_mul_of_nonneg_left (by omega) (by omega)
    omega
  · refine Int.not_lt.1 fun q => ?_
    have : c * (a + 1) ≤ c * n := Int.mul_le_mul_of_nonneg_left (by omega) (by omega)
    rw [Int.mul_add, Int.mul_comm c a] at this
    omega
set_option maxRecDepth 100000 in
set_option maxHeartbeats 2000000 in
theorem over_at (a b c q r : Int) (w : World) (ha : 0 ≤ a ∧ a ≤ 1099511627776) (hb : 0 ≤ b) (hbc : b ≤ c) (hc : 1 ≤ c ∧ c ≤ 1099511627776) (HQ : Hid (a * b / c = q)) (HR : Hid (a * b % c = r)) :
    Calls Try.prog 23 #[.int .i64 a, .int .i64 b, .int .i64 c] w fun e w' => e = .returned (.tuple #[.int .i64 q, .int .i64 r]) ∧ Drew w w' := by
  obtain ⟨b, rfl⟩ : ∃ m : Nat, b = m := ⟨b.toNat, by omega⟩
  go_enter Try.func23, Try.ntmps23
  go_wp2
  go_loopw [8, 9, 10, 11, 12, 13] (fun v8 v9 v10 _ _ _ wr => ∃ (n r : Int) (j : Nat), v8 = .int .i64 n ∧ v9 = .int .i64 r ∧ v10 = .int .i64 ((j : Int) - 1) ∧ j ≤ 41 ∧ Drew w wr ∧ c * n + r = a * ((b / 2 ^ j : Nat) : Int) ∧ 0 ≤ r ∧ r < c) (fun _ _ v10 _ _ _ _ => (intOf v10 + 1).toNat)
  case atStart => exact ⟨0, 0, 41, rfl, rfl, rfl, Nat.le_refl _, Drew.refl w, by rw [Nat.div_eq_of_lt (show b < 2 ^ 41 by omega)]; simp, by omega, by omega⟩
  case round =>
    obtain ⟨n, r', j, rfl, rfl, rfl, hj, hd, he, hr0, hr1⟩ := hrel
    have hB0 : ((b / 2 ^ j : Nat) : Int) ≤ c := by
      have : b / 2 ^ j ≤ b := Nat.div_le_self ..
      omega
    obtain ⟨hn0, hn1⟩ := over_le ha.1 hc.1 he hr0 hr1 (Int.natCast_nonneg _) hB0
    have HE := Lib.hid he
    obtain ⟨ha0, ha1⟩ := ha
    obtain ⟨hc0, hc1⟩ := hc
    clear he hB0
    cases j with
    | zero =>
      obtain ⟨rfl, rfl⟩ : n = q ∧ r' = r := by
        have e : c * n + r' = a * (b : Int) := by have := HE.out; rwa [Nat.pow_zero, Nat.div_one] at this
        rw [← HQ.out, ← HR.out, ← e]
        rw [Int.add_comm, Int.add_mul_ediv_left _ _ (by omega), Int.ediv_eq_zero_of_lt hr0 hr1, Int.add_mul_emod_self_left, Int.emod_eq_of_lt hr0 hr1]
        omega
      go_wp2
      go_ret2
      exact ⟨rfl, hd⟩
    | succ j =>
      have hjz : (0 : Int) ≤ ((j + 1 : Nat) : Int) - 1 := by omega
      obtain ⟨D, hD⟩ : ∃ D : Nat, b / 2 ^ j = D := ⟨_, rfl⟩
      have hDI : (b : Int) / 2 ^ j = (D : Int) := by rw [← hD]; norm_cast
      have hD2 : b / 2 ^ (j + 1) = D / 2 := by rw [Nat.pow_succ, ← Nat.div_div_eq_div_mul, hD]
      have HE2 := Lib.hid (show c * n + r' = a * ((D / 2 : Nat) : Int) by rw [← hD2]; exact HE.out)
      have HD := Lib.hid hD
      clear hD hD2 HE
      have hdm := Nat.div_add_mod D 2
      have htm : (D : Int).tmod 2 = ((D % 2 : Nat) : Int) := by rw [Int.tmod_eq_emod_of_nonneg (by omega)]; rfl
      by_cases ht : D % 2 = 1
      · have d1 : (((b : Int) / 2 ^ j).tmod 2 == 1) = true := by rw [hDI, htm, ht]; rfl
        obtain ⟨x, hx⟩ : ∃ x, 2 * r' + a = x := ⟨_, rfl⟩
        have HX := Lib.hid hx
        have hst := over_step (t := 1) (B' := D) hc0 HE2.out (by omega)
        rw [Int.one_mul, hx] at hst
        obtain ⟨y, hy⟩ : ∃ y, x / c = y := ⟨_, rfl⟩
        obtain ⟨z, hz⟩ : ∃ z, x % c = z := ⟨_, rfl⟩
        rw [hy, hz] at hst
        have hy0 : 0 ≤ y ∧ y ≤ 3298534883328 := by
          have h1 : 0 ≤ x / c := Int.ediv_nonneg (by omega) (by omega)
          have h2 : x / c ≤ x := Int.ediv_le_self _ (by omega)
          omega
        obtain ⟨hy1, hy2⟩ := hy0
        have HST := Lib.hid hst
        have hfl := fun w => rfl_at x c y z w (by omega) ⟨hc0, hc1⟩ (Lib.hid hy) (Lib.hid hz)
        have HFL := Lib.hid hfl
        clear hst hy hz hfl hdm htm hDI ht
        go_wp2_with (go_at_call 34; refine (HFL.out _).mono ?_; rintro e w5 ⟨rfl, q5⟩; have HQ5 := Lib.hid (drew_trans hd q5); clear q5)
        go_roundw
        case rel => exact ⟨2 * n + y, z, j, by go_num, rfl, by go_num, by omega, HQ5.out, by rw [HD.out]; exact HST.out.1, HST.out.2⟩
        case measure => simp [intOf]
      · have d1 : (((b : Int) / 2 ^ j).tmod 2 == 1) = false := by rw [hDI, htm, show D % 2 = 0 by omega]; rfl
        obtain ⟨x, hx⟩ : ∃ x, 2 * r' = x := ⟨_, rfl⟩
        have HX := Lib.hid hx
        have hst := over_step (t := 0) (B' := D) hc0 HE2.out (by omega)
        rw [Int.zero_mul, Int.add_zero, hx] at hst
        obtain ⟨y, hy⟩ : ∃ y, x / c = y := ⟨_, rfl⟩
        obtain ⟨z, hz⟩ : ∃ z, x % c = z := ⟨_, rfl⟩
        rw [hy, hz] at hst
        have hy0 : 0 ≤ y ∧ y ≤ 3298534883328 := by
          have h1 : 0 ≤ x / c := Int.ediv_nonneg (by omega) (by omega)
          have h2 : x / c ≤ x := Int.ediv_le_self _ (by omega)
          omega
        obtain ⟨hy1, hy2⟩ := hy0
        have HST := Lib.hid hst
        have hfl := fun w => rfl_at x c y z w (by omega) ⟨hc0, hc1⟩ (Lib.hid hy) (Lib.hid hz)
        have HFL := Lib.hid hfl
        clear hst hy hz hfl hdm htm hDI ht
        go_wp2_with (go_at_call 34; refine (HFL.out _).mono ?_; rintro e w5 ⟨rfl, q5⟩; have HQ5 := Lib.hid (drew_trans hd q5); clear q5)
        go_roundw
        case rel => exact ⟨2 * n + y, z, j, by go_num, rfl, by go_num, by omega, HQ5.out, by rw [HD.out]; exact HST.out.1, HST.out.2⟩
        case measure => simp [intOf]
end Go.Proofs.Ytmliajkbknjacaa.ShaW
