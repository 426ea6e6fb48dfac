/-
  Comparison of points as wholes. Condition: none.
-/
import Derived.Test.YtnakacflaaelnaaGeomC
namespace Go.Proofs.Ytnakacflaaelnaa.GeoW
open Go.ChangeShapes Go.WideShapes Go.ChangeAt Go.RowKit
open NumP NumW GeoP

/-- Whether two points are the same. -/
def ptB (a b c d : Int) : Bool := (a == c) && (b == d)
theorem ptB_iff (a b c d : Int) : ptB a b c d = true ↔ ((a, b) : Pt) = (c, d) := by unfold ptB; rw [Bool.and_eq_true, beq_iff_eq, beq_iff_eq, Prod.mk.injEq]
theorem ptB_yes {a b c d : Int} (h : ((a, b) : Pt) = (c, d)) : ptB a b c d = true := (ptB_iff a b c d).2 h
theorem ptB_no {a b c d : Int} (h : ¬ ((a, b) : Pt) = (c, d)) : ptB a b c d = false := Bool.of_not_eq_true (mt (ptB_iff a b c d).1 h)
theorem pt_under : Try.prog.underlying 23 = some (.struct (Try.prog.fieldsOf 23)) := by kernel_rfl
theorem pt_stood : Try.prog.stoodInHeld 23 = false := by kernel_rfl
theorem pt_guards : Try.prog.eqGuardType Try.prog.depth 23 = false := by kernel_rfl
@[go_sem high] theorem pt_guard (op : BinOp) (x y : Operand) (xs ys : Array Value) (W : World) : (eqGuard op 23 x y (.agg xs) (.agg ys)).run Try.prog W = .ok () W := run_eqGuard_agg W op 23 x y xs ys pt_guards
theorem pt_eq (a b c d : Int) (W : World) : (Op.equalIn 10000 23 (.agg #[.int .i64 a, .int .i64 b]) (.agg #[.int .i64 c, .int .i64 d])).run Try.prog W = .ok (ptB a b c d) W := by
  rw [run_equalIn_agg W 9999 23 _ _ pt_under pt_stood]
  unfold ptB
  simp [go_sem, Op.eqFields, part, Program.fieldsOf, Try.underlying23, Try.underlying3]
  by_cases h1 : a = c <;> by_cases h2 : b = d <;> simp [h1, h2]
@[go_sem high] theorem pt_eql (a b c d : Int) (W : World) : (binOp .eql 23 (.agg #[.int .i64 a, .int .i64 b]) (.agg #[.int .i64 c, .int .i64 d])).run Try.prog W = .ok (.bool (ptB a b c d)) W := by
  rw [run_eql_struct, pt_eq]
  rfl
@[go_sem high] theorem pt_neq (a b c d : Int) (W : World) : (binOp .neq 23 (.agg #[.int .i64 a, .int .i64 b]) (.agg #[.int .i64 c, .int .i64 d])).run Try.prog W = .ok (.bool (!ptB a b c d)) W := by
  rw [run_neq_struct, pt_eq]
  rfl
end Go.Proofs.Ytnakacflaaelnaa.GeoW
