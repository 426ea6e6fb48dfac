/-
  Walks of the specification of package dir: Check, Mirror, Rotate, Eighth. Condition: none.
-/
import Derived.Test.YtneobaininejaaaDoorDirPlain
import Derived.Lib.Hide
namespace Go.Proofs.YtneobaininejaaaDoor.DirW
open Go.ChangeShapes Go.WideShapes Go.ChangeAt Go.RowKit
open PairW DirP
theorem risd_at (d : Int) (t : Bool) (w : World) (H : Hid (isD d = t)) :
    Calls Tryd.prog 75 #[.int .i64 d] w fun e w' => e = .returned (.bool t) ∧ w = w' := by
  have hi := isD_iff d
  rw [H.out] at hi
  clear H
  by_cases h1 : 0 ≤ d
  · by_cases h2 : d ≤ 8
    · obtain rfl : t = true := hi.2 ⟨h1, h2⟩
      clear hi
      go_enter Tryd.func75, Tryd.ntmps75
      go_wp2
      go_ret
      exact ⟨ret_bool (by simp), rfl⟩
    · obtain rfl : t = false := by cases t <;> simp at hi ⊢; omega
      clear hi
      go_enter Tryd.func75, Tryd.ntmps75
      go_wp2
      go_ret
      exact ⟨ret_bool (by simp), rfl⟩
  · obtain rfl : t = false := by cases t <;> simp at hi ⊢; omega
    clear hi
    go_enter Tryd.func75, Tryd.ntmps75
    go_wp2
    go_ret
    exact ⟨ret_bool (by simp), rfl⟩
theorem rcheck_at (d l c : Int) (w : World) (H : Hid (chk d l = c)) :
    Calls Tryd.prog 64 #[.int .i64 d, .int .i64 l] w fun e w' => e = .returned (.int .i64 c) ∧ w = w' := by
  obtain rfl := H.out
  clear H
  unfold chk
  by_cases h : 0 ≤ d ∧ d ≤ 8
  · have HD := Lib.hid ((isD_iff d).2 h)
    by_cases k : l < -1
    · have k1 : decide (l < -1) = true := decide_eq_true k
      rw [if_neg (by omega)]
      clear h
      go_enter Tryd.func64, Tryd.ntmps64
      go_wp2_with (go_at_call 75; with_reducible refine (risd_at d true _ HD).mono ?_; rintro e w' ⟨rfl, rfl⟩)
      go_ret
      exact ⟨rfl, rfl⟩
    · have k1 : decide (l < -1) = false := decide_eq_false k
      by_cases k' : 1 < l
      · have k2 : decide (1 < l) = true := decide_eq_true k'
        rw [if_neg (by omega)]
        clear h
        go_enter Tryd.func64, Tryd.ntmps64
        go_wp2_with (go_at_call 75; with_reducible refine (risd_at d true _ HD).mono ?_; rintro e w' ⟨rfl, rfl⟩)
        go_ret
        exact ⟨rfl, rfl⟩
      · have k2 : decide (1 < l) = false := decide_eq_false k'
        rw [if_pos (by omega)]
        clear h
        go_enter Tryd.func64, Tryd.ntmps64
        go_wp2_with (go_at_call 75; with_reducible refine (risd_at d true _ HD).mono ?_; rintro e w' ⟨rfl, rfl⟩)
        go_ret
        exact ⟨rfl, rfl⟩
  · have HD := Lib.hid ((isD_no d).2 (by omega))
    rw [if_neg (fun x => h x.1)]
    clear h
    go_enter Tryd.func64, Tryd.ntmps64
    go_wp2_with (go_at_call 75; with_reducible refine (risd_at d false _ HD).mono ?_; rintro e w' ⟨rfl, rfl⟩)
    go_ret
    exact ⟨rfl, rfl⟩
theorem reighth_at (d v e0 : Int) (w : World) (H : Hid (eigV d = v ∧ eigE d = e0)) :
    Calls Tryd.prog 65 #[.int .i64 d] w fun e w' => e = .returned (.tuple #[.int .i64 v, .int .i64 e0]) ∧ w = w' := by
  obtain ⟨rfl, rfl⟩ := H.out
  clear H
  unfold eigV eigE
  by_cases h : 0 ≤ d ∧ d ≤ 8
  · have HD := Lib.hid ((isD_iff d).2 h)
    by_cases k : d = 0
    · subst k
      clear h
      go_enter Tryd.func65, Tryd.ntmps65
      go_wp2_with (go_at_call 75; with_reducible refine (risd_at 0 true _ HD).mono ?_; rintro e w' ⟨rfl, rfl⟩)
      go_ret2
      exact ⟨rfl, rfl⟩
    · have k0 : (d == 0) = false := beq_eq_false_iff_ne.2 k
      have k1 : IntKind.i64.wrap (d - 1) = d - 1 := IntWalk.i64_in _ (by omega)
      rw [if_pos (by omega), if_pos h, if_neg k]
      clear h k
      go_enter Tryd.func65, Tryd.ntmps65
      go_wp2_with (go_at_call 75; with_reducible refine (risd_at d true _ HD).mono ?_; rintro e w' ⟨rfl, rfl⟩)
      go_ret2
      first | exact ⟨rfl, rfl⟩ | (exact ⟨ret_two k1 rfl, rfl⟩)
  · have HD := Lib.hid ((isD_no d).2 (by omega))
    rw [if_neg (by omega), if_neg h]
    clear h
    go_enter Tryd.func65, Tryd.ntmps65
    go_wp2_with (go_at_call 75; with_reducible refine (risd_at d false _ HD).mono ?_; rintro e w' ⟨rfl, rfl⟩)
    go_ret2
    exact ⟨rfl, rfl⟩
theorem rmirror_at (d v e0 : Int) (w : World) (H : Hid (mirV d = v ∧ dirE d = e0)) :
    Calls Tryd.prog 52 #[.int .i64 d] w fun e w' => e = .returned (.tuple #[.int .i64 v, .int .i64 e0]) ∧ w = w' := by
  obtain ⟨rfl, rfl⟩ := H.out
  clear H
  unfold mirV dirE
  by_cases h : 0 ≤ d ∧ d ≤ 8
  · have HD := Lib.hid ((isD_iff d).2 h)
    by_cases k : d = 0
    · subst k
      clear h
      go_enter Tryd.func52, Tryd.ntmps52
      go_wp2_with (go_at_call 75; with_reducible refine (risd_at 0 true _ HD).mono ?_; rintro e w' ⟨rfl, rfl⟩)
      go_ret2
      exact ⟨rfl, rfl⟩
    · have k0 : (d == 0) = false := beq_eq_false_iff_ne.2 k
      by_cases k' : d = 1
      · subst k'
        clear h k
        go_enter Tryd.func52, Tryd.ntmps52
        go_wp2_with (go_at_call 75; with_reducible refine (risd_at 1 true _ HD).mono ?_; rintro e w' ⟨rfl, rfl⟩)
        go_ret2
        exact ⟨rfl, rfl⟩
      · have k2 : (d == 1) = false := beq_eq_false_iff_ne.2 k'
        have k1 : IntKind.i64.wrap (10 - d) = 10 - d := IntWalk.i64_in _ (by omega)
        rw [if_pos h, if_pos h, if_neg (by omega)]
        clear h k k'
        go_enter Tryd.func52, Tryd.ntmps52
        go_wp2_with (go_at_call 75; with_reducible refine (risd_at d true _ HD).mono ?_; rintro e w' ⟨rfl, rfl⟩)
        go_ret2
        first | exact ⟨rfl, rfl⟩ | (exact ⟨ret_two k1 rfl, rfl⟩)
  · have HD := Lib.hid ((isD_no d).2 (by omega))
    rw [if_neg h, if_neg h]
    clear h
    go_enter Tryd.func52, Tryd.ntmps52
    go_wp2_with (go_at_call 75; with_reducible refine (risd_at d false _ HD).mono ?_; rintro e w' ⟨rfl, rfl⟩)
    go_ret2
    exact ⟨rfl, rfl⟩
end Go.Proofs.YtneobaininejaaaDoor.DirW
