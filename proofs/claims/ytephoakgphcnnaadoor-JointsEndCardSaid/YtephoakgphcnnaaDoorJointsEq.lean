/-
  Joints and vectors compared with those of the same values. Condition: none.
-/
import Derived.Test.YtephoakgphcnnaaDoorJointsPB
import Derived.ChangeKeysEq
namespace Go.Proofs.YtephoakgphcnnaaDoor.JntW
open Go.ChangeShapes Go.WideShapes Go.ChangeAt Go.RowKit
open PairW AimP AimW BlkW PrtW PstP PstW JntP RegD
theorem vec_under : Tryd.prog.underlying 33 = some (.struct (Tryd.prog.fieldsOf 33)) := by kernel_rfl
theorem vec_stood : Tryd.prog.stoodInHeld 33 = false := by kernel_rfl
theorem vec_self (n : Nat) (a0 a1 a2 : Int) (W : World) : (Op.equalIn (n + 1 + 1) 33 (.agg #[.int .i64 a0, .int .i64 a1, .int .i64 a2]) (.agg #[.int .i64 a0, .int .i64 a1, .int .i64 a2])).run Tryd.prog W = .ok true W := by
  rw [run_equalIn_agg W (n + 1) 33 _ _ vec_under vec_stood]
  simp [go_sem, Op.eqFields, part, Program.fieldsOf, Tryd.underlying33, Tryd.underlying3]
theorem ve_guards : Tryd.prog.eqGuardType Tryd.prog.depth 33 = false := by kernel_rfl
@[go_sem high] theorem ve_guard (op : BinOp) (x y : Operand) (xs ys : Array Value) (W : World) : (eqGuard op 33 x y (.agg xs) (.agg ys)).run Tryd.prog W = .ok () W := run_eqGuard_agg W op 33 x y xs ys ve_guards
@[go_sem high] theorem ve_eql (x y z : Int) (W : World) : (binOp .eql 33 (.agg #[.int .i64 x, .int .i64 y, .int .i64 z]) (.agg #[.int .i64 x, .int .i64 y, .int .i64 z])).run Tryd.prog W = .ok (.bool true) W := by
  rw [run_eql_struct, vec_self 9998]
  rfl
@[go_sem high] theorem ve_neq (x y z : Int) (W : World) : (binOp .neq 33 (.agg #[.int .i64 x, .int .i64 y, .int .i64 z]) (.agg #[.int .i64 x, .int .i64 y, .int .i64 z])).run Tryd.prog W = .ok (.bool false) W := by
  rw [run_neq_struct, vec_self 9998]
  rfl
set_option maxHeartbeats 1000000 in
theorem v2_self (n : Nat) (a0 a1 a2 a3 a4 a5 : Int) (W : World) : (Op.equalIn (n + 1 + 1 + 1) 34 (.agg #[.int .i64 a0, .int .i64 a1, .int .i64 a2, .int .i64 a3, .int .i64 a4, .int .i64 a5]) (.agg #[.int .i64 a0, .int .i64 a1, .int .i64 a2, .int .i64 a3, .int .i64 a4, .int .i64 a5])).run Tryd.prog W = .ok true W := by
  obtain ⟨i, hi⟩ : ∃ i, Tryd.prog.info? 33 = some i := ⟨_, rfl⟩
  rw [run_equalIn_array (w := W) (n + 1 + 1) _ _ Tryd.underlying34 hi, show Tryd.prog.cellsOf 33 = 3 by kernel_rfl]
  simp [Op.eqItems, List.range_succ, part, go_sem, vec_self]
theorem jo_under : Tryd.prog.underlying 36 = some (.struct (Tryd.prog.fieldsOf 36)) := by kernel_rfl
theorem jo_stood : Tryd.prog.stoodInHeld 36 = false := by kernel_rfl
theorem jo_guards : Tryd.prog.eqGuardType Tryd.prog.depth 36 = false := by kernel_rfl
@[go_sem high] theorem jo_guard (op : BinOp) (x y : Operand) (xs ys : Array Value) (W : World) : (eqGuard op 36 x y (.agg xs) (.agg ys)).run Tryd.prog W = .ok () W := run_eqGuard_agg W op 36 x y xs ys jo_guards
set_option maxHeartbeats 4000000 in
theorem jo_self (s : Vl) (W : World) : (Op.equalIn 10000 36 (.agg #[.int .i64 (s 0), .int .i64 (s 1), .int .i64 (s 2), .int .i64 (s 3), .int .i64 (s 4), .int .i64 (s 5), .int .i64 (s 6), .int .i64 (s 7), .int .i64 (s 8), .int .i64 (s 9), .int .i64 (s 10), .int .i64 (s 11), .int .i64 (s 12), .int .i64 (s 13), .int .i64 (s 14), .int .i64 (s 15), .int .i64 (s 16), .int .i64 (s 17), .int .i64 (s 18), .int .i64 (s 19), .int .i64 (s 20), .int .i64 (s 21), .int .i64 (s 22), .int .i64 (s 23), .int .i64 (s 24), .int .i64 (s 25), .int .i64 (s 26), .int .i64 (s 27), .int .i64 (s 28), .int .i64 (s 29), .int .i64 (s 30), .int .i64 (s 31), .int .i64 (s 32)]) (.agg #[.int .i64 (s 0), .int .i64 (s 1), .int .i64 (s 2), .int .i64 (s 3), .int .i64 (s 4), .int .i64 (s 5), .int .i64 (s 6), .int .i64 (s 7), .int .i64 (s 8), .int .i64 (s 9), .int .i64 (s 10), .int .i64 (s 11), .int .i64 (s 12), .int .i64 (s 13), .int .i64 (s 14), .int .i64 (s 15), .int .i64 (s 16), .int .i64 (s 17), .int .i64 (s 18), .int .i64 (s 19), .int .i64 (s 20), .int .i64 (s 21), .int .i64 (s 22), .int .i64 (s 23), .int .i64 (s 24), .int .i64 (s 25), .int .i64 (s 26), .int .i64 (s 27), .int .i64 (s 28), .int .i64 (s 29), .int .i64 (s 30), .int .i64 (s 31), .int .i64 (s 32)])).run Tryd.prog W = .ok true W := by
  rw [run_equalIn_agg W 9999 36 _ _ jo_under jo_stood]
  have h3 := v2_self 9996 (s 9) (s 10) (s 11) (s 12) (s 13) (s 14) W
  have h4 := v2_self 9996 (s 15) (s 16) (s 17) (s 18) (s 19) (s 20) W
  have h5 := v2_self 9996 (s 21) (s 22) (s 23) (s 24) (s 25) (s 26) W
  have h6 := v2_self 9996 (s 27) (s 28) (s 29) (s 30) (s 31) (s 32) W
  simp [go_sem, Op.eqFields, part, Program.fieldsOf, Tryd.underlying36, h3, h4, h5, h6]
@[go_sem high] theorem jo_eql (s : Vl) (W : World) : (binOp .eql 36 (.agg (cz 33 s)) (.agg (cz 33 s))).run Tryd.prog W = .ok (.bool true) W := by
  rw [run_eql_struct, show cz 33 s = #[.int .i64 (s 0), .int .i64 (s 1), .int .i64 (s 2), .int .i64 (s 3), .int .i64 (s 4), .int .i64 (s 5), .int .i64 (s 6), .int .i64 (s 7), .int .i64 (s 8), .int .i64 (s 9), .int .i64 (s 10), .int .i64 (s 11), .int .i64 (s 12), .int .i64 (s 13), .int .i64 (s 14), .int .i64 (s 15), .int .i64 (s 16), .int .i64 (s 17), .int .i64 (s 18), .int .i64 (s 19), .int .i64 (s 20), .int .i64 (s 21), .int .i64 (s 22), .int .i64 (s 23), .int .i64 (s 24), .int .i64 (s 25), .int .i64 (s 26), .int .i64 (s 27), .int .i64 (s 28), .int .i64 (s 29), .int .i64 (s 30), .int .i64 (s 31), .int .i64 (s 32)] from rfl, jo_self]
  rfl
@[go_sem high] theorem jo_neq (s : Vl) (W : World) : (binOp .neq 36 (.agg (cz 33 s)) (.agg (cz 33 s))).run Tryd.prog W = .ok (.bool false) W := by
  rw [run_neq_struct, show cz 33 s = #[.int .i64 (s 0), .int .i64 (s 1), .int .i64 (s 2), .int .i64 (s 3), .int .i64 (s 4), .int .i64 (s 5), .int .i64 (s 6), .int .i64 (s 7), .int .i64 (s 8), .int .i64 (s 9), .int .i64 (s 10), .int .i64 (s 11), .int .i64 (s 12), .int .i64 (s 13), .int .i64 (s 14), .int .i64 (s 15), .int .i64 (s 16), .int .i64 (s 17), .int .i64 (s 18), .int .i64 (s 19), .int .i64 (s 20), .int .i64 (s 21), .int .i64 (s 22), .int .i64 (s 23), .int .i64 (s 24), .int .i64 (s 25), .int .i64 (s 26), .int .i64 (s 27), .int .i64 (s 28), .int .i64 (s 29), .int .i64 (s 30), .int .i64 (s 31), .int .i64 (s 32)] from rfl, jo_self]
  rfl
@[go_sem high] theorem jo_zero (W : World) : (binOp .eql 36 (.agg (cz 33 nul)) (.agg #[.int .i64 0, .int .i64 0, .int .i64 0, .int .i64 0, .int .i64 0, .int .i64 0, .int .i64 0, .int .i64 0, .int .i64 0, .int .i64 0, .int .i64 0, .int .i64 0, .int .i64 0, .int .i64 0, .int .i64 0, .int .i64 0, .int .i64 0, .int .i64 0, .int .i64 0, .int .i64 0, .int .i64 0, .int .i64 0, .int .i64 0, .int .i64 0, .int .i64 0, .int .i64 0, .int .i64 0, .int .i64 0, .int .i64 0, .int .i64 0, .int .i64 0, .int .i64 0, .int .i64 0])).run Tryd.prog W = .ok (.bool true) W := jo_eql nul W
end Go.Proofs.YtephoakgphcnnaaDoor.JntW
