/-
  Walks of Floor, Round and Lerp of the specification of package num: each returns what the program's function returns, for every input, at every world. Condition: the arguments are numbers of 64 bits.
-/
import Derived.Test.YtbmcompnhjbdkaaDoorNumD
namespace Go.Proofs.YtbmcompnhjbdkaaDoor.NumW
open Go.ChangeShapes Go.WideShapes Go.ChangeAt Go.RowKit
open NumP

theorem nearest_at (a b v : Int) (w : World) (H : Hid (nearV a b = v)) (ha0 : -1152921504606846976 ≤ a) (ha1 : a ≤ 1152921504606846976) (hb : 1 ≤ b) (hb1 : b ≤ 1152921504606846976) :
    Calls Tryd.prog 29 #[.int .i64 a, .int .i64 b] w fun e w' => e = .returned (.int .i64 v) ∧ Drew w w' := by
  obtain rfl := H.out
  exact nearest_any a b w ha0 ha1 hb hb1


set_option maxHeartbeats 800000 in
theorem rround_any (a b : Int) (w : World) :
    Calls Tryd.prog 25 #[.int .i64 a, .int .i64 b] w fun e w' => e = .returned (.tuple #[.int .i64 (roundV a b), .int .i64 (roundE a b)]) ∧ Drew w w' := by
  by_cases ha : smallB a = false
  · have HE := Lib.hid (roundE_range (a := a) (b := b) (Or.inl ha))
    have HV := Lib.hid (round_err (a := a) (b := b) (by rw [HE.out]; decide))
    go_enter Tryd.func25, Tryd.ntmps25
    go_wp2_with (go_at_call 28; refine (rsmall_any _ _).mono ?_; rintro e w' ⟨rfl, rfl⟩)
    go_ret2
    exact ⟨ret_two HV.out.symm HE.out.symm, Drew.refl _⟩
  · have ha := Bool.of_not_eq_false ha
    by_cases hb : smallB b = false
    · have HE := Lib.hid (roundE_range (a := a) (b := b) (Or.inr hb))
      have HV := Lib.hid (round_err (a := a) (b := b) (by rw [HE.out]; decide))
      go_enter Tryd.func25, Tryd.ntmps25
      go_wp2_with (go_at_call 28; refine (rsmall_any _ _).mono ?_; rintro e w' ⟨rfl, rfl⟩)
      go_ret2
      exact ⟨ret_two HV.out.symm HE.out.symm, Drew.refl _⟩
    · have hb := Bool.of_not_eq_false hb
      obtain ⟨a0, a1⟩ := (small_iff a).1 ha
      obtain ⟨b0, b1⟩ := (small_iff b).1 hb
      by_cases h0 : b = 0
      · have HE := Lib.hid (show roundE a b = 11 by rw [h0]; exact roundE_div ha)
        have HV := Lib.hid (round_err (a := a) (b := b) (by rw [HE.out]; decide))
        have h1 : 0 ≤ b := by omega
        have h2 : b ≤ 0 := by omega
        clear h0
        go_enter Tryd.func25, Tryd.ntmps25
        go_wp2_with (go_at_call 28; refine (rsmall_any _ _).mono ?_; rintro e w' ⟨rfl, rfl⟩)
        go_ret2
        exact ⟨ret_two HV.out.symm HE.out.symm, Drew.refl _⟩
      · have ho := round_ok ha hb h0
        by_cases hn : b < 0
        · rw [if_pos hn] at ho
          have HR := Lib.hid ho.2.symm
          have HE := Lib.hid ho.1
          clear h0 ho
          go_enter Tryd.func25, Tryd.ntmps25
          go_wp2_with (first | (go_at_call 28; refine (rsmall_any _ _).mono ?_; rintro e w' ⟨rfl, rfl⟩) | (go_at_call 29; refine (nearest_at _ _ (roundV a b) _ HR (by omega) (by omega) (by omega) (by omega)).mono ?_; rintro e w' ⟨rfl, ⟨n1, rfl⟩⟩))
          go_ret2
          exact ⟨ret_two rfl HE.out.symm, (Drew.refl _).step _⟩
        · rw [if_neg hn] at ho
          have HR := Lib.hid ho.2.symm
          have HE := Lib.hid ho.1
          have hp : 1 ≤ b := by omega
          clear h0 ho
          go_enter Tryd.func25, Tryd.ntmps25
          go_wp2_with (first | (go_at_call 28; refine (rsmall_any _ _).mono ?_; rintro e w' ⟨rfl, rfl⟩) | (go_at_call 29; refine (nearest_at _ _ (roundV a b) _ HR (by omega) (by omega) (by omega) (by omega)).mono ?_; rintro e w' ⟨rfl, ⟨n1, rfl⟩⟩))
          go_ret2
          exact ⟨ret_two rfl HE.out.symm, (Drew.refl _).step _⟩


end Go.Proofs.YtbmcompnhjbdkaaDoor.NumW
