/-
  Walks of the small helpers of the statements about num, and of the chapter's examples (awake): it returns true at every world. Condition: none.
-/
import Derived.Test.YtajookopcijakaaNumD
import Derived.Test.YtajookopcijakaaNumG
import Derived.Test.YtajookopcijakaaNumH
namespace Go.Proofs.Ytajookopcijakaa.NumW
open Go.ChangeShapes Go.WideShapes Go.ChangeAt Go.RowKit
open NumP

theorem lerps_yes (v a b k d : Int) (w : World) (H : Hid (lerpV a b k d = v ∧ lerpE a b k d = 0)) :
    Calls Try.prog 16 #[.int .i64 v, .int .i64 a, .int .i64 b, .int .i64 k, .int .i64 d] w fun e w' => e = .returned (.bool true) ∧ Drew w w' := by
  go_enter Try.func16, Try.ntmps16
  go_wp2_with (go_at_call 12; refine (lerp_at _ _ _ _ v 0 _ H).mono ?_; rintro e w' ⟨rfl, ⟨n1, rfl⟩⟩)
  go_ret
  exact ⟨rfl, (Drew.refl _).step _⟩
theorem rounds_yes (v a b : Int) (w : World) (H : Hid (roundV a b = v ∧ roundE a b = 0)) (ha0 : -9223372036854775808 ≤ a) (ha1 : a ≤ 9223372036854775807) (hb0 : -9223372036854775808 ≤ b) (hb1 : b ≤ 9223372036854775807) :
    Calls Try.prog 21 #[.int .i64 v, .int .i64 a, .int .i64 b] w fun e w' => e = .returned (.bool true) ∧ Drew w w' := by
  go_enter Try.func21, Try.ntmps21
  go_wp2_with (go_at_call 17; refine (round_at _ _ v 0 _ H ha0 ha1 hb0 hb1).mono ?_; rintro e w' ⟨rfl, ⟨n1, rfl⟩⟩)
  go_ret
  exact ⟨rfl, (Drew.refl _).step _⟩
theorem compares_yes (v a b c d : Int) (w : World) (H : Hid (cmpV a b c d = v ∧ cmpE a b c d = 0)) :
    Calls Try.prog 27 #[.int .i64 v, .int .i64 a, .int .i64 b, .int .i64 c, .int .i64 d] w fun e w' => e = .returned (.bool true) ∧ w = w' := by
  go_enter Try.func27, Try.ntmps27
  go_wp2_with (go_at_call 25; refine (cmp_at _ _ _ _ v 0 _ H).mono ?_; rintro e w' ⟨rfl, rfl⟩)
  go_ret
  exact ⟨rfl, rfl⟩

theorem ex_l1 : lerpV 0 5 1 2 = 2 ∧ lerpE 0 5 1 2 = 0 := by decide
theorem ex_l2 : lerpV 0 7 1 2 = 4 ∧ lerpE 0 7 1 2 = 0 := by decide
theorem ex_l3 : lerpV 10 20 1 3 = 13 ∧ lerpE 10 20 1 3 = 0 := by decide
theorem ex_l4 : lerpV (-5) 0 1 2 = -2 ∧ lerpE (-5) 0 1 2 = 0 := by decide
theorem ex_r1 : roundV 5 2 = 2 ∧ roundE 5 2 = 0 := by decide
theorem ex_r2 : roundV 7 2 = 4 ∧ roundE 7 2 = 0 := by decide
theorem ex_r3 : roundV (-7) 2 = -4 ∧ roundE (-7) 2 = 0 := by decide
theorem ex_r4 : roundV 7 (-2) = -4 ∧ roundE 7 (-2) = 0 := by decide
theorem ex_r5 : roundV 1 0 = 0 ∧ roundE 1 0 = 11 := by decide
theorem ex_f1 : floorQ (-7) 2 = -4 ∧ floorR (-7) 2 = 1 ∧ floorE (-7) 2 = 0 := by decide
theorem ex_f2 : floorQ 7 (-2) = 0 ∧ floorR 7 (-2) = 0 ∧ floorE 7 (-2) = 1 := by decide
theorem ex_q1 : rootV 99 = 9 ∧ rootE 99 = 0 := by decide +kernel
theorem ex_g1 : gcdV (-12) 18 = 6 ∧ gcdE (-12) 18 = 0 := by decide
theorem ex_c1 : cmpV 3 4 2 6 = 0 ∧ cmpE 3 4 2 6 = 0 := by decide
theorem ex_c2 : cmpV (-1) 5 0 9 = -1 ∧ cmpE (-1) 5 0 9 = 0 := by decide
theorem ex_c3 : cmpV 1125899906842624 1125899906842624 1125899906842624 1125899906842623 = 1 ∧ cmpE 1125899906842624 1125899906842624 1125899906842624 1125899906842623 = 0 := by decide

set_option maxRecDepth 100000 in
set_option maxHeartbeats 2000000 in
theorem awake_any (w : World) : Calls Try.prog 14 #[] w fun e w' => e = .returned (.bool true) ∧ Drew w w' := by
  go_enter Try.func14, Try.ntmps14
  go_wp2_with (first
    | (go_at_call 16; (first | (with_reducible refine (lerps_yes 2 0 5 1 2 _ (Lib.hid ex_l1)).mono ?_) | (with_reducible refine (lerps_yes 4 0 7 1 2 _ (Lib.hid ex_l2)).mono ?_) | (with_reducible refine (lerps_yes 13 10 20 1 3 _ (Lib.hid ex_l3)).mono ?_) | (with_reducible refine (lerps_yes (-2) (-5) 0 1 2 _ (Lib.hid ex_l4)).mono ?_)); rintro e w' ⟨rfl, ⟨n1, rfl⟩⟩)
    | (go_at_call 21; (first | (with_reducible refine (rounds_yes 2 5 2 _ (Lib.hid ex_r1) (by decide) (by decide) (by decide) (by decide)).mono ?_) | (with_reducible refine (rounds_yes 4 7 2 _ (Lib.hid ex_r2) (by decide) (by decide) (by decide) (by decide)).mono ?_) | (with_reducible refine (rounds_yes (-4) (-7) 2 _ (Lib.hid ex_r3) (by decide) (by decide) (by decide) (by decide)).mono ?_) | (with_reducible refine (rounds_yes (-4) 7 (-2) _ (Lib.hid ex_r4) (by decide) (by decide) (by decide) (by decide)).mono ?_)); rintro e w' ⟨rfl, ⟨n1, rfl⟩⟩)
    | (go_at_call 19; (first | (with_reducible refine (floor_at (-7) 2 (-4) 1 0 _ (Lib.hid ex_f1)).mono ?_) | (with_reducible refine (floor_at 7 (-2) 0 0 1 _ (Lib.hid ex_f2)).mono ?_)); rintro e w' ⟨rfl, ⟨n1, rfl⟩⟩)
    | (go_at_call 22; refine (root_at 99 9 0 _ (Lib.hid ex_q1)).mono ?_; rintro e w' ⟨rfl, rfl⟩)
    | (go_at_call 23; refine (gcd_at (-12) 18 6 0 _ (Lib.hid ex_g1)).mono ?_; rintro e w' ⟨rfl, ⟨n1, rfl⟩⟩)
    | (go_at_call 17; refine (round_at 1 0 0 11 _ (Lib.hid ex_r5) (by decide) (by decide) (by decide) (by decide)).mono ?_; rintro e w' ⟨rfl, ⟨n1, rfl⟩⟩)
    | (go_at_call 27; (first | (with_reducible refine (compares_yes 0 3 4 2 6 _ (Lib.hid ex_c1)).mono ?_) | (with_reducible refine (compares_yes (-1) (-1) 5 0 9 _ (Lib.hid ex_c2)).mono ?_) | (with_reducible refine (compares_yes 1 1125899906842624 1125899906842624 1125899906842624 1125899906842623 _ (Lib.hid ex_c3)).mono ?_)); rintro e w' ⟨rfl, rfl⟩))
  go_ret
  exact ⟨rfl, by repeat (first | exact Drew.refl _ | refine Drew.step ?_ _)⟩
end Go.Proofs.Ytajookopcijakaa.NumW
