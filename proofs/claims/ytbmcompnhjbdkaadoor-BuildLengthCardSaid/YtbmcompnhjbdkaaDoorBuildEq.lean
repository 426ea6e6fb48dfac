/-
  A body, and an array of masses, compared with one of the same values. Condition: none.
-/
import Derived.Test.YtbmcompnhjbdkaaDoorBuildC
import Derived.ChangeKeysEq
namespace Go.Proofs.YtbmcompnhjbdkaaDoor.BuiW
open Go.ChangeShapes Go.WideShapes Go.ChangeAt Go.RowKit
open PairW BuiP
theorem eq_int (n : Nat) (a : Int) (W : World) : (Op.equalIn (n + 1) 3 (.int .i64 a) (.int .i64 a)).run Tryd.prog W = .ok true W := by
  rw [run_equalIn_int W n 3 _ .i64 a a Tryd.underlying3]
  simp
theorem a4_self (n : Nat) (a b c e : Int) (W : World) : (Op.equalIn (n + 1 + 1) 22 (.agg #[.int .i64 a, .int .i64 b, .int .i64 c, .int .i64 e]) (.agg #[.int .i64 a, .int .i64 b, .int .i64 c, .int .i64 e])).run Tryd.prog W = .ok true W := by
  obtain ⟨i, hi⟩ : ∃ i, Tryd.prog.info? 3 = some i := ⟨_, rfl⟩
  rw [run_equalIn_array (w := W) (n + 1) _ _ Tryd.underlying22 hi, show Tryd.prog.cellsOf 3 = 1 by kernel_rfl]
  simp [Op.eqItems, List.range_succ, part, go_sem, eq_int]
@[go_sem high] theorem a4_eql (a b c e : Int) (W : World) : (binOp .eql 22 (.agg #[.int .i64 a, .int .i64 b, .int .i64 c, .int .i64 e]) (.agg #[.int .i64 a, .int .i64 b, .int .i64 c, .int .i64 e])).run Tryd.prog W = .ok (.bool true) W := by
  rw [run_eql_struct, a4_self 9998]
  rfl
theorem a4_guards : Tryd.prog.eqGuardType Tryd.prog.depth 22 = false := by kernel_rfl
@[go_sem high] theorem a4_guard (op : BinOp) (x y : Operand) (xs ys : Array Value) (W : World) : (eqGuard op 22 x y (.agg xs) (.agg ys)).run Tryd.prog W = .ok () W := run_eqGuard_agg W op 22 x y xs ys a4_guards
theorem bd_under : Tryd.prog.underlying 24 = some (.struct (Tryd.prog.fieldsOf 24)) := by kernel_rfl
theorem bd_stood : Tryd.prog.stoodInHeld 24 = false := by kernel_rfl
theorem bd_guards : Tryd.prog.eqGuardType Tryd.prog.depth 24 = false := by kernel_rfl
@[go_sem high] theorem bd_guard (op : BinOp) (x y : Operand) (xs ys : Array Value) (W : World) : (eqGuard op 24 x y (.agg xs) (.agg ys)).run Tryd.prog W = .ok () W := run_eqGuard_agg W op 24 x y xs ys bd_guards
theorem bd_self (a0 a1 a2 a3 a4 a5 a6 a7 a8 a9 a10 a11 a12 a13 a14 : Int) (W : World) : (Op.equalIn 10000 24 (.agg #[.int .i64 a0, .int .i64 a1, .int .i64 a2, .int .i64 a3, .int .i64 a4, .int .i64 a5, .int .i64 a6, .int .i64 a7, .int .i64 a8, .int .i64 a9, .int .i64 a10, .int .i64 a11, .int .i64 a12, .int .i64 a13, .int .i64 a14]) (.agg #[.int .i64 a0, .int .i64 a1, .int .i64 a2, .int .i64 a3, .int .i64 a4, .int .i64 a5, .int .i64 a6, .int .i64 a7, .int .i64 a8, .int .i64 a9, .int .i64 a10, .int .i64 a11, .int .i64 a12, .int .i64 a13, .int .i64 a14])).run Tryd.prog W = .ok true W := by
  rw [run_equalIn_agg W 9999 24 _ _ bd_under bd_stood]
  have h4 := a4_self 9997 a11 a12 a13 a14 W
  simp [go_sem, Op.eqFields, part, Program.fieldsOf, Tryd.underlying24, Tryd.underlying3, h4]
@[go_sem high] theorem bd_eql (a0 a1 a2 a3 a4 a5 a6 a7 a8 a9 a10 a11 a12 a13 a14 : Int) (W : World) : (binOp .eql 24 (.agg #[.int .i64 a0, .int .i64 a1, .int .i64 a2, .int .i64 a3, .int .i64 a4, .int .i64 a5, .int .i64 a6, .int .i64 a7, .int .i64 a8, .int .i64 a9, .int .i64 a10, .int .i64 a11, .int .i64 a12, .int .i64 a13, .int .i64 a14]) (.agg #[.int .i64 a0, .int .i64 a1, .int .i64 a2, .int .i64 a3, .int .i64 a4, .int .i64 a5, .int .i64 a6, .int .i64 a7, .int .i64 a8, .int .i64 a9, .int .i64 a10, .int .i64 a11, .int .i64 a12, .int .i64 a13, .int .i64 a14])).run Tryd.prog W = .ok (.bool true) W := by
  rw [run_eql_struct, bd_self]
  rfl
@[go_sem high] theorem bd_neq (a0 a1 a2 a3 a4 a5 a6 a7 a8 a9 a10 a11 a12 a13 a14 : Int) (W : World) : (binOp .neq 24 (.agg #[.int .i64 a0, .int .i64 a1, .int .i64 a2, .int .i64 a3, .int .i64 a4, .int .i64 a5, .int .i64 a6, .int .i64 a7, .int .i64 a8, .int .i64 a9, .int .i64 a10, .int .i64 a11, .int .i64 a12, .int .i64 a13, .int .i64 a14]) (.agg #[.int .i64 a0, .int .i64 a1, .int .i64 a2, .int .i64 a3, .int .i64 a4, .int .i64 a5, .int .i64 a6, .int .i64 a7, .int .i64 a8, .int .i64 a9, .int .i64 a10, .int .i64 a11, .int .i64 a12, .int .i64 a13, .int .i64 a14])).run Tryd.prog W = .ok (.bool false) W := by
  rw [run_neq_struct, bd_self]
  rfl
end Go.Proofs.YtbmcompnhjbdkaaDoor.BuiW
