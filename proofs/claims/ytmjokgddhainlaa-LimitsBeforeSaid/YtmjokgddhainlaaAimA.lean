/-
  Walks of the specification of layer aim: the small functions, Check, Swap. Condition: none.
-/
import Derived.Test.YtmjokgddhainlaaAimPlain
import Derived.Test.YtmjokgddhainlaaPairs
import Derived.Lib.Hide
namespace Go.Proofs.Ytmjokgddhainlaa.AimW
open Go.ChangeShapes Go.WideShapes Go.ChangeAt Go.RowKit
open PairW AimP
theorem ril_at (d : Int) (t : Bool) (w : World) (H : Hid (isLimb d = t)) :
    Calls Try.prog 48 #[.int .i64 d] w fun r w' => r = .returned (.bool t) ∧ w = w' := by
  have hi := limb_iff d
  rw [H.out] at hi
  clear H
  by_cases h1 : 0 ≤ d
  · by_cases h2 : d < 6
    · obtain rfl : t = true := hi.2 (by omega)
      clear hi
      go_enter Try.func48, Try.ntmps48
      go_wp2
      go_ret
      exact ⟨ret_bool (by simp), rfl⟩
    · obtain rfl : t = false := by cases t <;> simp at hi ⊢; omega
      clear hi
      go_enter Try.func48, Try.ntmps48
      go_wp2
      go_ret
      exact ⟨ret_bool (by simp), rfl⟩
  · obtain rfl : t = false := by cases t <;> simp at hi ⊢; omega
    clear hi
    go_enter Try.func48, Try.ntmps48
    go_wp2
    go_ret
    exact ⟨ret_bool (by simp), rfl⟩
theorem rpo_at (z e b : Int) (t : Bool) (w : World) (H : Hid (poleB e = t)) :
    Calls Try.prog 58 #[.agg #[.int .i64 z, .int .i64 e, .int .i64 b]] w fun r w' => r = .returned (.bool t) ∧ w' = w.alloc (.cells #[.int .i64 z, .int .i64 e, .int .i64 b] 34) := by
  by_cases h1 : e = 64
  · subst h1
    obtain rfl : true = t := H.out
    go_enter Try.func58, Try.ntmps58
    go_wp2
    go_ret
    exact ⟨rfl, rfl⟩
  · by_cases h2 : e = -64
    · subst h2
      obtain rfl : true = t := H.out
      go_enter Try.func58, Try.ntmps58
      go_wp2
      go_ret
      exact ⟨rfl, rfl⟩
    · obtain rfl : false = t := ((pole_no e).2 ⟨h1, h2⟩).symm.trans H.out
      have k1 : (e == 64) = false := beq_eq_false_iff_ne.2 h1
      have k2 : (e == -64) = false := beq_eq_false_iff_ne.2 h2
      clear h1 h2 H
      go_enter Try.func58, Try.ntmps58
      go_wp2
      go_ret
      exact ⟨rfl, rfl⟩
set_option maxRecDepth 100000 in
set_option maxHeartbeats 1000000 in
theorem rcheck_at (l z e b c : Int) (w : World) (H : Hid (chk l z e b = c)) :
    Calls Try.prog 38 #[.int .i64 l, .agg #[.int .i64 z, .int .i64 e, .int .i64 b]] w fun r w' => r = .returned (.int .i64 c) ∧ Own w w' := by
  obtain rfl := H.out
  clear H
  unfold chk
  by_cases h1 : 0 ≤ l ∧ l ≤ 5
  · have HL := Lib.hid ((limb_iff l).2 h1)
    rw [if_pos h1]
    by_cases h2 : (0 ≤ z ∧ z ≤ 255) ∧ (-64 ≤ e ∧ e ≤ 64) ∧ 0 ≤ b ∧ b ≤ 6
    · rw [if_pos h2]
      have d0 : decide (z < 0) = false := decide_eq_false (by omega)
      have d1 : decide (255 < z) = false := decide_eq_false (by omega)
      have d2 : decide (e < -64) = false := decide_eq_false (by omega)
      have d3 : decide (64 < e) = false := decide_eq_false (by omega)
      have d4 : decide (b < 0) = false := decide_eq_false (by omega)
      have d5 : decide (6 < b) = false := decide_eq_false (by omega)
      by_cases h3 : e = 64 ∨ e = -64
      · have HP := Lib.hid ((pole_iff e).2 h3)
        by_cases h4 : z = 0
        · rw [if_neg (fun x => x.2 h4)]
          subst h4
          clear h1 h2 h3
          go_enter Try.func38, Try.ntmps38
          go_wp2_with (first | (go_at_call 48; with_reducible refine (ril_at l true _ HL).mono ?_; rintro r w1 ⟨rfl, rfl⟩) | (go_at_call 58; with_reducible refine (rpo_at _ _ _ true _ HP).mono ?_; rintro r w1 ⟨rfl, rfl⟩))
          go_ret
          exact ⟨rfl, by repeat (first | exact Own.refl w | apply Own.alloc)⟩
        · have k : (z != 0) = true := bne_iff_ne.2 h4
          rw [if_pos ⟨h3, h4⟩]
          clear h1 h2 h3 h4
          go_enter Try.func38, Try.ntmps38
          go_wp2_with (first | (go_at_call 48; with_reducible refine (ril_at l true _ HL).mono ?_; rintro r w1 ⟨rfl, rfl⟩) | (go_at_call 58; with_reducible refine (rpo_at _ _ _ true _ HP).mono ?_; rintro r w1 ⟨rfl, rfl⟩))
          go_ret
          exact ⟨rfl, by repeat (first | exact Own.refl w | apply Own.alloc)⟩
      · have HP := Lib.hid ((pole_no e).2 (by omega))
        rw [if_neg (fun x => h3 x.1)]
        clear h1 h2 h3
        go_enter Try.func38, Try.ntmps38
        go_wp2_with (first | (go_at_call 48; with_reducible refine (ril_at l true _ HL).mono ?_; rintro r w1 ⟨rfl, rfl⟩) | (go_at_call 58; with_reducible refine (rpo_at _ _ _ false _ HP).mono ?_; rintro r w1 ⟨rfl, rfl⟩))
        go_ret
        exact ⟨rfl, by repeat (first | exact Own.refl w | apply Own.alloc)⟩
    · rw [if_neg h2]
      by_cases c0 : z < 0
      · have d0 : decide (z < 0) = true := decide_eq_true c0
        clear h1 h2
        go_enter Try.func38, Try.ntmps38
        go_wp2_with (go_at_call 48; with_reducible refine (ril_at l true _ HL).mono ?_; rintro r w1 ⟨rfl, rfl⟩)
        go_ret
        exact ⟨rfl, by repeat (first | exact Own.refl w | apply Own.alloc)⟩
      have d0 : decide (z < 0) = false := decide_eq_false c0
      by_cases c1 : 255 < z
      · have d1 : decide (255 < z) = true := decide_eq_true c1
        clear h1 h2
        go_enter Try.func38, Try.ntmps38
        go_wp2_with (go_at_call 48; with_reducible refine (ril_at l true _ HL).mono ?_; rintro r w1 ⟨rfl, rfl⟩)
        go_ret
        exact ⟨rfl, by repeat (first | exact Own.refl w | apply Own.alloc)⟩
      have d1 : decide (255 < z) = false := decide_eq_false c1
      by_cases c2 : e < -64
      · have d2 : decide (e < -64) = true := decide_eq_true c2
        clear h1 h2
        go_enter Try.func38, Try.ntmps38
        go_wp2_with (go_at_call 48; with_reducible refine (ril_at l true _ HL).mono ?_; rintro r w1 ⟨rfl, rfl⟩)
        go_ret
        exact ⟨rfl, by repeat (first | exact Own.refl w | apply Own.alloc)⟩
      have d2 : decide (e < -64) = false := decide_eq_false c2
      by_cases c3 : 64 < e
      · have d3 : decide (64 < e) = true := decide_eq_true c3
        clear h1 h2
        go_enter Try.func38, Try.ntmps38
        go_wp2_with (go_at_call 48; with_reducible refine (ril_at l true _ HL).mono ?_; rintro r w1 ⟨rfl, rfl⟩)
        go_ret
        exact ⟨rfl, by repeat (first | exact Own.refl w | apply Own.alloc)⟩
      have d3 : decide (64 < e) = false := decide_eq_false c3
      by_cases c4 : b < 0
      · have d4 : decide (b < 0) = true := decide_eq_true c4
        clear h1 h2
        go_enter Try.func38, Try.ntmps38
        go_wp2_with (go_at_call 48; with_reducible refine (ril_at l true _ HL).mono ?_; rintro r w1 ⟨rfl, rfl⟩)
        go_ret
        exact ⟨rfl, by repeat (first | exact Own.refl w | apply Own.alloc)⟩
      have d4 : decide (b < 0) = false := decide_eq_false c4
      have d5 : decide (6 < b) = true := decide_eq_true (by omega)
      clear h1 h2
      go_enter Try.func38, Try.ntmps38
      go_wp2_with (go_at_call 48; with_reducible refine (ril_at l true _ HL).mono ?_; rintro r w1 ⟨rfl, rfl⟩)
      go_ret
      exact ⟨rfl, by repeat (first | exact Own.refl w | apply Own.alloc)⟩
  · have HL := Lib.hid ((limb_no l).2 (by omega))
    rw [if_neg h1]
    clear h1
    go_enter Try.func38, Try.ntmps38
    go_wp2_with (go_at_call 48; with_reducible refine (ril_at l false _ HL).mono ?_; rintro r w1 ⟨rfl, rfl⟩)
    go_ret
    exact ⟨rfl, (Own.refl w).alloc _⟩
set_option maxRecDepth 100000 in
theorem rswap_at (l m c : Int) (w : World) (H : Hid (swp l = m ∧ swE l = c)) :
    Calls Try.prog 29 #[.int .i64 l] w fun r w' => r = .returned (.tuple #[.int .i64 m, .int .i64 c]) ∧ w = w' := by
  obtain ⟨rfl, rfl⟩ := H.out
  clear H
  by_cases h : 0 ≤ l ∧ l ≤ 5
  · have t : l = 0 ∨ l = 1 ∨ l = 2 ∨ l = 3 ∨ l = 4 ∨ l = 5 := by omega
    clear h
    rcases t with rfl | rfl | rfl | rfl | rfl | rfl
    all_goals
      go_enter Try.func29, Try.ntmps29
      go_wp2_with (go_at_call 48; refine (ril_at _ true _ (Lib.hid (by decide))).mono ?_; rintro r w1 ⟨rfl, rfl⟩)
      go_ret2
      exact ⟨rfl, rfl⟩
  · have HV := Lib.hid (show swp l = 0 by unfold swp; rw [if_neg (by omega), if_neg (by omega), if_neg (by omega), if_neg (by omega), if_neg (by omega)])
    have HE := Lib.hid (show swE l = 9 from if_neg h)
    have HL := Lib.hid ((limb_no l).2 (by omega))
    clear h
    go_enter Try.func29, Try.ntmps29
    go_wp2_with (go_at_call 48; with_reducible refine (ril_at l false _ HL).mono ?_; rintro r w1 ⟨rfl, rfl⟩)
    go_ret2
    exact ⟨ret_two HV.out.symm HE.out.symm, rfl⟩
end Go.Proofs.Ytmjokgddhainlaa.AimW
