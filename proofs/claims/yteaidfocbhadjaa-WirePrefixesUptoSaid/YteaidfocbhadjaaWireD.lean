/-
  Walks of the specification of package wire: size, TakeText. Condition: none.
-/
import Derived.Test.YteaidfocbhadjaaWireE
import Derived.Test.YteaidfocbhadjaaWireC
namespace Go.Proofs.Yteaidfocbhadjaa.WirW
open Go.ChangeShapes Go.WideShapes Go.ChangeAt Go.RowKit
open PairW CelW WirP
/-- What size says of the length and its place. -/
def SizeIs (b : Bs) (most f x : Int) (m : Nat) : Prop := sizeE b most = f ∧ (if sizeE b most = 0 then takeV b else 0) = x ∧ (if sizeE b most = 0 then takeK b else 0) = m
set_option maxRecDepth 100000 in
theorem size_at (b : Bs) (v : Value) (most f x : Int) (m : Nat) (w : World) (HB : Hid (Cel w v (cellsU b))) (H : Hid (SizeIs b most f x m)) :
    Calls Try.prog 36 #[v, .int .i64 most] w fun e w' => e = .returned (.tuple #[.int .i64 x, .int .i64 (m : Int), .int .i64 f]) ∧ w = w' := by
  obtain ⟨tf, htf⟩ : ∃ t, takeE b = t := ⟨_, rfl⟩
  obtain ⟨tx, htx⟩ : ∃ t, takeV b = t := ⟨_, rfl⟩
  obtain ⟨tm, htm⟩ : ∃ t, takeK b = t := ⟨_, rfl⟩
  have HT := Lib.hid (show takeE b = tf ∧ takeV b = tx ∧ takeK b = tm from ⟨htf, htx, htm⟩)
  have hH := H.out
  unfold SizeIs at hH
  rw [htx, htm] at hH
  unfold sizeE at hH
  rw [htf, htx] at hH
  clear htf htx htm H
  by_cases c1 : tf = 0
  · subst c1
    rw [if_neg (by simp)] at hH
    by_cases c2 : tx < 0
    · rw [if_pos c2, if_neg (by decide), if_neg (by decide)] at hH
      obtain ⟨rfl, rfl, rfl⟩ := hH
      go_enter Try.func36, Try.ntmps36
      go_wp2_with (go_at_call 12; with_reducible refine (rtake_at b v _ _ _ _ HB HT).mono ?_; rintro e w1 ⟨rfl, rfl⟩)
      go_ret3
      exact ⟨rfl, rfl⟩
    · rw [if_neg c2] at hH
      by_cases c3 : most < tx
      · rw [if_pos c3, if_neg (by decide), if_neg (by decide)] at hH
        obtain ⟨rfl, rfl, rfl⟩ := hH
        go_enter Try.func36, Try.ntmps36
        go_wp2_with (go_at_call 12; with_reducible refine (rtake_at b v _ _ _ _ HB HT).mono ?_; rintro e w1 ⟨rfl, rfl⟩)
        go_ret3
        exact ⟨rfl, rfl⟩
      · rw [if_neg c3, if_pos rfl, if_pos rfl] at hH
        obtain ⟨rfl, rfl, rfl⟩ := hH
        go_enter Try.func36, Try.ntmps36
        go_wp2_with (go_at_call 12; with_reducible refine (rtake_at b v _ _ _ _ HB HT).mono ?_; rintro e w1 ⟨rfl, rfl⟩)
        go_ret3
        exact ⟨rfl, rfl⟩
  · rw [if_pos c1, if_neg c1, if_neg c1] at hH
    obtain ⟨rfl, rfl, rfl⟩ := hH
    have d1 : (tf == 0) = false := beq_eq_false_iff_ne.2 c1
    go_enter Try.func36, Try.ntmps36
    go_wp2_with (go_at_call 12; with_reducible refine (rtake_at b v _ _ _ _ HB HT).mono ?_; rintro e w1 ⟨rfl, rfl⟩)
    go_ret3
    exact ⟨rfl, rfl⟩
end Go.Proofs.Yteaidfocbhadjaa.WirW
