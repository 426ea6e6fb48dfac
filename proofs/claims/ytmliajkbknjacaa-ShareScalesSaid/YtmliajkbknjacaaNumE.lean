/-
  Walks of Floor, Round and Lerp of the specification of package num: each returns what the program's function returns, for every input, at every world. Condition: the arguments are numbers of 64 bits.
-/
import Derived.Test.YtmliajkbknjacaaNumD
namespace Go.Proofs.Ytmliajkbknjacaa.NumW
open Go.ChangeShapes Go.WideShapes Go.ChangeAt Go.RowKit
open NumP


set_option maxHeartbeats 800000 in
theorem rfloor_any (a b : Int) (w : World) :
    Calls Try.prog 34 #[.int .i64 a, .int .i64 b] w fun e w' => e = .returned (.tuple #[.int .i64 (floorQ a b), .int .i64 (floorR a b), .int .i64 (floorE a b)]) ∧ Drew w w' := by
  by_cases ha : smallB a = false
  · have HE := Lib.hid (floorE_range (a := a) (b := b) (Or.inl ha))
    have HV := Lib.hid (floor_err (a := a) (b := b) (by rw [HE.out]; decide))
    go_enter Try.func34, Try.ntmps34
    go_wp2_with (go_at_call 41; refine (rsmall_any _ _).mono ?_; rintro e w' ⟨rfl, rfl⟩)
    go_ret3
    exact ⟨ret_three HV.out.1.symm HV.out.2.symm HE.out.symm, Drew.refl _⟩
  · have ha := Bool.of_not_eq_false ha
    by_cases hb : smallB b = false
    · have HE := Lib.hid (floorE_range (a := a) (b := b) (Or.inr hb))
      have HV := Lib.hid (floor_err (a := a) (b := b) (by rw [HE.out]; decide))
      go_enter Try.func34, Try.ntmps34
      go_wp2_with (go_at_call 41; refine (rsmall_any _ _).mono ?_; rintro e w' ⟨rfl, rfl⟩)
      go_ret3
      exact ⟨ret_three HV.out.1.symm HV.out.2.symm HE.out.symm, Drew.refl _⟩
    · have hb := Bool.of_not_eq_false hb
      obtain ⟨a0, a1⟩ := (small_iff a).1 ha
      obtain ⟨b0, b1⟩ := (small_iff b).1 hb
      by_cases h0 : b = 0
      · have HE := Lib.hid (show floorE a b = 11 by rw [h0]; exact floorE_div ha)
        have HV := Lib.hid (floor_err (a := a) (b := b) (by rw [HE.out]; decide))
        have h1 : 0 ≤ b := by omega
        have h2 : b ≤ 0 := by omega
        clear h0
        go_enter Try.func34, Try.ntmps34
        go_wp2_with (go_at_call 41; refine (rsmall_any _ _).mono ?_; rintro e w' ⟨rfl, rfl⟩)
        go_ret3
        exact ⟨ret_three HV.out.1.symm HV.out.2.symm HE.out.symm, Drew.refl _⟩
      · by_cases hn : b < 0
        · have HE := Lib.hid (floorE_neg ha hb hn)
          have HV := Lib.hid (floor_err (a := a) (b := b) (by rw [HE.out]; decide))
          clear h0
          go_enter Try.func34, Try.ntmps34
          go_wp2_with (go_at_call 41; refine (rsmall_any _ _).mono ?_; rintro e w' ⟨rfl, rfl⟩)
          go_ret3
          exact ⟨ret_three HV.out.1.symm HV.out.2.symm HE.out.symm, Drew.refl _⟩
        · have hp : 1 ≤ b := by omega
          have HE := Lib.hid (floor_ok ha hb hp)
          clear h0 hn
          go_enter Try.func34, Try.ntmps34
          go_wp2_with (first | (go_at_call 41; refine (rsmall_any _ _).mono ?_; rintro e w' ⟨rfl, rfl⟩) | (go_at_call 42; refine (down_any _ _ _ (by omega) (by omega) (by omega) (by omega)).mono ?_; rintro e w' ⟨rfl, ⟨n1, rfl⟩⟩))
          go_ret3
          exact ⟨ret_three HE.out.2.1.symm HE.out.2.2.symm HE.out.1.symm, (Drew.refl _).step _⟩



end Go.Proofs.Ytmliajkbknjacaa.NumW
