/-
  Walks of the program of package aim: the small functions, Check, Swap. Condition: none.
-/
import Derived.Test.YtmjokgddhainlaaAimPlain
import Derived.Test.YtmjokgddhainlaaPairs
import Derived.Lib.Hide
namespace Go.Proofs.Ytmjokgddhainlaa.AimW
open Go.ChangeShapes Go.WideShapes Go.ChangeAt Go.RowKit
open PairW AimP
def azB (d : Int) : Bool := decide (0 ≤ d) && decide (d ≤ 255)
theorem az_iff (d : Int) : azB d = true ↔ 0 ≤ d ∧ d ≤ 255 := by unfold azB; rw [Bool.and_eq_true, decide_eq_true_eq, decide_eq_true_eq]
theorem az_no (d : Int) : azB d = false ↔ d < 0 ∨ 255 < d := by rw [← Bool.not_eq_true, az_iff]; omega
def elB (d : Int) : Bool := decide (-64 ≤ d) && decide (d ≤ 64)
theorem el_iff (d : Int) : elB d = true ↔ -64 ≤ d ∧ d ≤ 64 := by unfold elB; rw [Bool.and_eq_true, decide_eq_true_eq, decide_eq_true_eq]
theorem el_no (d : Int) : elB d = false ↔ d < -64 ∨ 64 < d := by rw [← Bool.not_eq_true, el_iff]; omega
def beB (d : Int) : Bool := decide (0 ≤ d) && decide (d ≤ 6)
theorem be_iff (d : Int) : beB d = true ↔ 0 ≤ d ∧ d ≤ 6 := by unfold beB; rw [Bool.and_eq_true, decide_eq_true_eq, decide_eq_true_eq]
theorem be_no (d : Int) : beB d = false ↔ d < 0 ∨ 6 < d := by rw [← Bool.not_eq_true, be_iff]; omega
theorem pil_at (d : Int) (t : Bool) (w : World) (H : Hid (isLimb d = t)) :
    Calls Try.prog 51 #[.int .i64 d] w fun r w' => r = .returned (.bool t) ∧ w = w' := by
  have hi := limb_iff d
  rw [H.out] at hi
  clear H
  by_cases h1 : 0 ≤ d
  · by_cases h2 : d < 6
    · obtain rfl : t = true := hi.2 (by omega)
      clear hi
      go_enter Try.func51, Try.ntmps51
      go_wp2
      go_ret
      exact ⟨ret_bool (by simp), rfl⟩
    · obtain rfl : t = false := by cases t <;> simp at hi ⊢; omega
      clear hi
      go_enter Try.func51, Try.ntmps51
      go_wp2
      go_ret
      exact ⟨ret_bool (by simp), rfl⟩
  · obtain rfl : t = false := by cases t <;> simp at hi ⊢; omega
    clear hi
    go_enter Try.func51, Try.ntmps51
    go_wp2
    go_ret
    exact ⟨ret_bool (by simp), rfl⟩
theorem paz_at (d : Int) (t : Bool) (w : World) (H : Hid (azB d = t)) :
    Calls Try.prog 52 #[.int .i64 d] w fun r w' => r = .returned (.bool t) ∧ w = w' := by
  have hi := az_iff d
  rw [H.out] at hi
  clear H
  by_cases h1 : 0 ≤ d
  · by_cases h2 : d ≤ 255
    · obtain rfl : t = true := hi.2 (by omega)
      clear hi
      go_enter Try.func52, Try.ntmps52
      go_wp2
      go_ret
      exact ⟨ret_bool (by simp), rfl⟩
    · obtain rfl : t = false := by cases t <;> simp at hi ⊢; omega
      clear hi
      go_enter Try.func52, Try.ntmps52
      go_wp2
      go_ret
      exact ⟨ret_bool (by simp), rfl⟩
  · obtain rfl : t = false := by cases t <;> simp at hi ⊢; omega
    clear hi
    go_enter Try.func52, Try.ntmps52
    go_wp2
    go_ret
    exact ⟨ret_bool (by simp), rfl⟩
theorem pel_at (d : Int) (t : Bool) (w : World) (H : Hid (elB d = t)) :
    Calls Try.prog 53 #[.int .i64 d] w fun r w' => r = .returned (.bool t) ∧ w = w' := by
  have hi := el_iff d
  rw [H.out] at hi
  clear H
  by_cases h1 : -64 ≤ d
  · by_cases h2 : d ≤ 64
    · obtain rfl : t = true := hi.2 (by omega)
      clear hi
      go_enter Try.func53, Try.ntmps53
      go_wp2
      go_ret
      exact ⟨ret_bool (by simp), rfl⟩
    · obtain rfl : t = false := by cases t <;> simp at hi ⊢; omega
      clear hi
      go_enter Try.func53, Try.ntmps53
      go_wp2
      go_ret
      exact ⟨ret_bool (by simp), rfl⟩
  · obtain rfl : t = false := by cases t <;> simp at hi ⊢; omega
    clear hi
    go_enter Try.func53, Try.ntmps53
    go_wp2
    go_ret
    exact ⟨ret_bool (by simp), rfl⟩
theorem pbe_at (d : Int) (t : Bool) (w : World) (H : Hid (beB d = t)) :
    Calls Try.prog 54 #[.int .i64 d] w fun r w' => r = .returned (.bool t) ∧ w = w' := by
  have hi := be_iff d
  rw [H.out] at hi
  clear H
  by_cases h1 : 0 ≤ d
  · by_cases h2 : d ≤ 6
    · obtain rfl : t = true := hi.2 (by omega)
      clear hi
      go_enter Try.func54, Try.ntmps54
      go_wp2
      go_ret
      exact ⟨ret_bool (by simp), rfl⟩
    · obtain rfl : t = false := by cases t <;> simp at hi ⊢; omega
      clear hi
      go_enter Try.func54, Try.ntmps54
      go_wp2
      go_ret
      exact ⟨ret_bool (by simp), rfl⟩
  · obtain rfl : t = false := by cases t <;> simp at hi ⊢; omega
    clear hi
    go_enter Try.func54, Try.ntmps54
    go_wp2
    go_ret
    exact ⟨ret_bool (by simp), rfl⟩
theorem pve_at (z e b : Int) (t : Bool) (w : World) (H : Hid (poleB e = t)) :
    Calls Try.prog 55 #[.agg #[.int .i64 z, .int .i64 e, .int .i64 b]] w fun r w' => r = .returned (.bool t) ∧ w' = w.alloc (.cells #[.int .i64 z, .int .i64 e, .int .i64 b] 34) := by
  by_cases h1 : e = 64
  · subst h1
    obtain rfl : true = t := H.out
    go_enter Try.func55, Try.ntmps55
    go_wp2
    go_ret
    exact ⟨rfl, rfl⟩
  · by_cases h2 : e = -64
    · subst h2
      obtain rfl : true = t := H.out
      go_enter Try.func55, Try.ntmps55
      go_wp2
      go_ret
      exact ⟨rfl, rfl⟩
    · obtain rfl : false = t := ((pole_no e).2 ⟨h1, h2⟩).symm.trans H.out
      have k1 : (e == 64) = false := beq_eq_false_iff_ne.2 h1
      have k2 : (e == -64) = false := beq_eq_false_iff_ne.2 h2
      clear h1 h2 H
      go_enter Try.func55, Try.ntmps55
      go_wp2
      go_ret
      exact ⟨rfl, rfl⟩
set_option maxRecDepth 100000 in
set_option maxHeartbeats 1000000 in
theorem pcheck_at (l z e b c : Int) (w : World) (H : Hid (chk l z e b = c)) :
    Calls Try.prog 36 #[.int .i64 l, .agg #[.int .i64 z, .int .i64 e, .int .i64 b]] w fun r w' => r = .returned (.int .i64 c) ∧ Own w w' := by
  obtain rfl := H.out
  clear H
  unfold chk
  by_cases h1 : 0 ≤ l ∧ l ≤ 5
  · have HL := Lib.hid ((limb_iff l).2 h1)
    rw [if_pos h1]
    by_cases h2 : (0 ≤ z ∧ z ≤ 255) ∧ (-64 ≤ e ∧ e ≤ 64) ∧ 0 ≤ b ∧ b ≤ 6
    · rw [if_pos h2]
      have HA := Lib.hid ((az_iff z).2 h2.1)
      have HE := Lib.hid ((el_iff e).2 h2.2.1)
      have HB := Lib.hid ((be_iff b).2 h2.2.2)
      by_cases h3 : e = 64 ∨ e = -64
      · have HP := Lib.hid ((pole_iff e).2 h3)
        by_cases h4 : z = 0
        · rw [if_neg (fun x => x.2 h4)]
          subst h4
          clear h1 h2 h3
          go_enter Try.func36, Try.ntmps36
          go_wp2_with (first | (go_at_call 51; with_reducible refine (pil_at l true _ HL).mono ?_; rintro r w1 ⟨rfl, rfl⟩) | (go_at_call 52; with_reducible refine (paz_at _ true _ HA).mono ?_; rintro r w1 ⟨rfl, rfl⟩) | (go_at_call 53; with_reducible refine (pel_at e true _ HE).mono ?_; rintro r w1 ⟨rfl, rfl⟩) | (go_at_call 54; with_reducible refine (pbe_at b true _ HB).mono ?_; rintro r w1 ⟨rfl, rfl⟩) | (go_at_call 55; with_reducible refine (pve_at _ _ _ true _ HP).mono ?_; rintro r w1 ⟨rfl, rfl⟩))
          go_ret
          exact ⟨rfl, by repeat (first | exact Own.refl w | apply Own.alloc)⟩
        · have k : (z != 0) = true := bne_iff_ne.2 h4
          rw [if_pos ⟨h3, h4⟩]
          clear h1 h2 h3 h4
          go_enter Try.func36, Try.ntmps36
          go_wp2_with (first | (go_at_call 51; with_reducible refine (pil_at l true _ HL).mono ?_; rintro r w1 ⟨rfl, rfl⟩) | (go_at_call 52; with_reducible refine (paz_at _ true _ HA).mono ?_; rintro r w1 ⟨rfl, rfl⟩) | (go_at_call 53; with_reducible refine (pel_at e true _ HE).mono ?_; rintro r w1 ⟨rfl, rfl⟩) | (go_at_call 54; with_reducible refine (pbe_at b true _ HB).mono ?_; rintro r w1 ⟨rfl, rfl⟩) | (go_at_call 55; with_reducible refine (pve_at _ _ _ true _ HP).mono ?_; rintro r w1 ⟨rfl, rfl⟩))
          go_ret
          exact ⟨rfl, by repeat (first | exact Own.refl w | apply Own.alloc)⟩
      · have HP := Lib.hid ((pole_no e).2 (by omega))
        rw [if_neg (fun x => h3 x.1)]
        clear h1 h2 h3
        go_enter Try.func36, Try.ntmps36
        go_wp2_with (first | (go_at_call 51; with_reducible refine (pil_at l true _ HL).mono ?_; rintro r w1 ⟨rfl, rfl⟩) | (go_at_call 52; with_reducible refine (paz_at _ true _ HA).mono ?_; rintro r w1 ⟨rfl, rfl⟩) | (go_at_call 53; with_reducible refine (pel_at e true _ HE).mono ?_; rintro r w1 ⟨rfl, rfl⟩) | (go_at_call 54; with_reducible refine (pbe_at b true _ HB).mono ?_; rintro r w1 ⟨rfl, rfl⟩) | (go_at_call 55; with_reducible refine (pve_at _ _ _ false _ HP).mono ?_; rintro r w1 ⟨rfl, rfl⟩))
        go_ret
        exact ⟨rfl, by repeat (first | exact Own.refl w | apply Own.alloc)⟩
    · rw [if_neg h2]
      by_cases c1 : 0 ≤ z ∧ z ≤ 255
      · have HA := Lib.hid ((az_iff z).2 c1)
        by_cases c2 : -64 ≤ e ∧ e ≤ 64
        · have HE := Lib.hid ((el_iff e).2 c2)
          have HB := Lib.hid ((be_no b).2 (by omega))
          clear h1 h2 c1 c2
          go_enter Try.func36, Try.ntmps36
          go_wp2_with (first | (go_at_call 51; with_reducible refine (pil_at l true _ HL).mono ?_; rintro r w1 ⟨rfl, rfl⟩) | (go_at_call 52; with_reducible refine (paz_at _ true _ HA).mono ?_; rintro r w1 ⟨rfl, rfl⟩) | (go_at_call 53; with_reducible refine (pel_at e true _ HE).mono ?_; rintro r w1 ⟨rfl, rfl⟩) | (go_at_call 54; with_reducible refine (pbe_at b false _ HB).mono ?_; rintro r w1 ⟨rfl, rfl⟩))
          go_ret
          exact ⟨rfl, by repeat (first | exact Own.refl w | apply Own.alloc)⟩
        · have HE := Lib.hid ((el_no e).2 (by omega))
          clear h1 h2 c1 c2
          go_enter Try.func36, Try.ntmps36
          go_wp2_with (first | (go_at_call 51; with_reducible refine (pil_at l true _ HL).mono ?_; rintro r w1 ⟨rfl, rfl⟩) | (go_at_call 52; with_reducible refine (paz_at _ true _ HA).mono ?_; rintro r w1 ⟨rfl, rfl⟩) | (go_at_call 53; with_reducible refine (pel_at e false _ HE).mono ?_; rintro r w1 ⟨rfl, rfl⟩))
          go_ret
          exact ⟨rfl, by repeat (first | exact Own.refl w | apply Own.alloc)⟩
      · have HA := Lib.hid ((az_no z).2 (by omega))
        clear h1 h2 c1
        go_enter Try.func36, Try.ntmps36
        go_wp2_with (first | (go_at_call 51; with_reducible refine (pil_at l true _ HL).mono ?_; rintro r w1 ⟨rfl, rfl⟩) | (go_at_call 52; with_reducible refine (paz_at _ false _ HA).mono ?_; rintro r w1 ⟨rfl, rfl⟩))
        go_ret
        exact ⟨rfl, by repeat (first | exact Own.refl w | apply Own.alloc)⟩
  · have HL := Lib.hid ((limb_no l).2 (by omega))
    rw [if_neg h1]
    clear h1
    go_enter Try.func36, Try.ntmps36
    go_wp2_with (go_at_call 51; with_reducible refine (pil_at l false _ HL).mono ?_; rintro r w1 ⟨rfl, rfl⟩)
    go_ret
    exact ⟨rfl, (Own.refl w).alloc _⟩
set_option maxRecDepth 100000 in
theorem pswap_at (l m c : Int) (w : World) (H : Hid (swp l = m ∧ swE l = c)) :
    Calls Try.prog 22 #[.int .i64 l] w fun r w' => r = .returned (.tuple #[.int .i64 m, .int .i64 c]) ∧ w = w' := by
  obtain ⟨rfl, rfl⟩ := H.out
  clear H
  by_cases h : 0 ≤ l ∧ l ≤ 5
  · have t : l = 0 ∨ l = 1 ∨ l = 2 ∨ l = 3 ∨ l = 4 ∨ l = 5 := by omega
    clear h
    rcases t with rfl | rfl | rfl | rfl | rfl | rfl
    all_goals
      go_enter Try.func22, Try.ntmps22
      go_wp2
      go_ret2
      exact ⟨rfl, rfl⟩
  · have HV := Lib.hid (show swp l = 0 by unfold swp; rw [if_neg (by omega), if_neg (by omega), if_neg (by omega), if_neg (by omega), if_neg (by omega)])
    have HE := Lib.hid (show swE l = 9 from if_neg h)
    have k0 : (l == 0) = false := beq_eq_false_iff_ne.2 (by omega)
    have k1 : (l == 1) = false := beq_eq_false_iff_ne.2 (by omega)
    have k2 : (l == 2) = false := beq_eq_false_iff_ne.2 (by omega)
    have k3 : (l == 3) = false := beq_eq_false_iff_ne.2 (by omega)
    have k4 : (l == 4) = false := beq_eq_false_iff_ne.2 (by omega)
    have k5 : (l == 5) = false := beq_eq_false_iff_ne.2 (by omega)
    clear h
    go_enter Try.func22, Try.ntmps22
    go_wp2
    go_ret2
    exact ⟨ret_two HV.out.symm HE.out.symm, rfl⟩
end Go.Proofs.Ytmjokgddhainlaa.AimW
