/-
  Starts and poses compared with those of the same values. Condition: none.
-/
import Derived.Test.YtneobaininejaaaDoorPosturePB
import Derived.ChangeKeysEq
namespace Go.Proofs.YtneobaininejaaaDoor.PstQ
open Go.ChangeShapes Go.WideShapes Go.ChangeAt Go.RowKit
open PstW PairW AimP AimW BlkW PrtW PstP
theorem tgt_under : Tryd.prog.underlying 25 = some (.struct (Tryd.prog.fieldsOf 25)) := by kernel_rfl
theorem tgt_stood : Tryd.prog.stoodInHeld 25 = false := by kernel_rfl
theorem tgt_self (n : Nat) (a0 a1 a2 : Int) (W : World) : (Op.equalIn (n + 1 + 1) 25 (.agg #[.int .i64 a0, .int .i64 a1, .int .i64 a2]) (.agg #[.int .i64 a0, .int .i64 a1, .int .i64 a2])).run Tryd.prog W = .ok true W := by
  rw [run_equalIn_agg W (n + 1) 25 _ _ tgt_under tgt_stood]
  simp [go_sem, Op.eqFields, part, Program.fieldsOf, Tryd.underlying25, Tryd.underlying3]
theorem aim_under : Tryd.prog.underlying 30 = some (.struct (Tryd.prog.fieldsOf 30)) := by kernel_rfl
theorem aim_stood : Tryd.prog.stoodInHeld 30 = false := by kernel_rfl
theorem aim_self (n : Nat) (a0 a1 a2 : Int) (W : World) : (Op.equalIn (n + 1 + 1) 30 (.agg #[.int .i64 a0, .int .i64 a1, .int .i64 a2]) (.agg #[.int .i64 a0, .int .i64 a1, .int .i64 a2])).run Tryd.prog W = .ok true W := by
  rw [run_equalIn_agg W (n + 1) 30 _ _ aim_under aim_stood]
  simp [go_sem, Op.eqFields, part, Program.fieldsOf, Tryd.underlying30, Tryd.underlying3]
set_option maxHeartbeats 1000000 in
theorem t6_self (n : Nat) (a0 a1 a2 a3 a4 a5 a6 a7 a8 a9 a10 a11 a12 a13 a14 a15 a16 a17 : Int) (W : World) : (Op.equalIn (n + 1 + 1 + 1) 26 (.agg #[.int .i64 a0, .int .i64 a1, .int .i64 a2, .int .i64 a3, .int .i64 a4, .int .i64 a5, .int .i64 a6, .int .i64 a7, .int .i64 a8, .int .i64 a9, .int .i64 a10, .int .i64 a11, .int .i64 a12, .int .i64 a13, .int .i64 a14, .int .i64 a15, .int .i64 a16, .int .i64 a17]) (.agg #[.int .i64 a0, .int .i64 a1, .int .i64 a2, .int .i64 a3, .int .i64 a4, .int .i64 a5, .int .i64 a6, .int .i64 a7, .int .i64 a8, .int .i64 a9, .int .i64 a10, .int .i64 a11, .int .i64 a12, .int .i64 a13, .int .i64 a14, .int .i64 a15, .int .i64 a16, .int .i64 a17])).run Tryd.prog W = .ok true W := by
  obtain ⟨i, hi⟩ : ∃ i, Tryd.prog.info? 25 = some i := ⟨_, rfl⟩
  rw [run_equalIn_array (w := W) (n + 1 + 1) _ _ Tryd.underlying26 hi, show Tryd.prog.cellsOf 25 = 3 by kernel_rfl]
  simp [Op.eqItems, List.range_succ, part, go_sem, tgt_self]
set_option maxHeartbeats 1000000 in
theorem a6_self (n : Nat) (a0 a1 a2 a3 a4 a5 a6 a7 a8 a9 a10 a11 a12 a13 a14 a15 a16 a17 : Int) (W : World) : (Op.equalIn (n + 1 + 1 + 1) 31 (.agg #[.int .i64 a0, .int .i64 a1, .int .i64 a2, .int .i64 a3, .int .i64 a4, .int .i64 a5, .int .i64 a6, .int .i64 a7, .int .i64 a8, .int .i64 a9, .int .i64 a10, .int .i64 a11, .int .i64 a12, .int .i64 a13, .int .i64 a14, .int .i64 a15, .int .i64 a16, .int .i64 a17]) (.agg #[.int .i64 a0, .int .i64 a1, .int .i64 a2, .int .i64 a3, .int .i64 a4, .int .i64 a5, .int .i64 a6, .int .i64 a7, .int .i64 a8, .int .i64 a9, .int .i64 a10, .int .i64 a11, .int .i64 a12, .int .i64 a13, .int .i64 a14, .int .i64 a15, .int .i64 a16, .int .i64 a17])).run Tryd.prog W = .ok true W := by
  obtain ⟨i, hi⟩ : ∃ i, Tryd.prog.info? 30 = some i := ⟨_, rfl⟩
  rw [run_equalIn_array (w := W) (n + 1 + 1) _ _ Tryd.underlying31 hi, show Tryd.prog.cellsOf 30 = 3 by kernel_rfl]
  simp [Op.eqItems, List.range_succ, part, go_sem, aim_self]
theorem st_under : Tryd.prog.underlying 28 = some (.struct (Tryd.prog.fieldsOf 28)) := by kernel_rfl
theorem st_stood : Tryd.prog.stoodInHeld 28 = false := by kernel_rfl
theorem st_guards : Tryd.prog.eqGuardType Tryd.prog.depth 28 = false := by kernel_rfl
@[go_sem high] theorem st_guard (op : BinOp) (x y : Operand) (xs ys : Array Value) (W : World) : (eqGuard op 28 x y (.agg xs) (.agg ys)).run Tryd.prog W = .ok () W := run_eqGuard_agg W op 28 x y xs ys st_guards
set_option maxHeartbeats 1000000 in
theorem st_self (s : Vl) (W : World) : (Op.equalIn 10000 28 (.agg #[.int .i64 (s 0), .int .i64 (s 1), .int .i64 (s 2), .int .i64 (s 3), .int .i64 (s 4), .int .i64 (s 5), .int .i64 (s 6), .int .i64 (s 7), .int .i64 (s 8), .int .i64 (s 9), .int .i64 (s 10), .int .i64 (s 11), .int .i64 (s 12), .int .i64 (s 13), .int .i64 (s 14), .int .i64 (s 15), .int .i64 (s 16), .int .i64 (s 17), .int .i64 (s 18), .int .i64 (s 19), .int .i64 (s 20), .int .i64 (s 21), .int .i64 (s 22)]) (.agg #[.int .i64 (s 0), .int .i64 (s 1), .int .i64 (s 2), .int .i64 (s 3), .int .i64 (s 4), .int .i64 (s 5), .int .i64 (s 6), .int .i64 (s 7), .int .i64 (s 8), .int .i64 (s 9), .int .i64 (s 10), .int .i64 (s 11), .int .i64 (s 12), .int .i64 (s 13), .int .i64 (s 14), .int .i64 (s 15), .int .i64 (s 16), .int .i64 (s 17), .int .i64 (s 18), .int .i64 (s 19), .int .i64 (s 20), .int .i64 (s 21), .int .i64 (s 22)])).run Tryd.prog W = .ok true W := by
  rw [run_equalIn_agg W 9999 28 _ _ st_under st_stood]
  have h2 := t6_self 9996 (s 5) (s 6) (s 7) (s 8) (s 9) (s 10) (s 11) (s 12) (s 13) (s 14) (s 15) (s 16) (s 17) (s 18) (s 19) (s 20) (s 21) (s 22) W
  simp [go_sem, Op.eqFields, part, Program.fieldsOf, Tryd.underlying28, Tryd.underlying3, h2]
@[go_sem high] theorem st_eql (s : Vl) (W : World) : (binOp .eql 28 (.agg (cz 23 s)) (.agg (cz 23 s))).run Tryd.prog W = .ok (.bool true) W := by
  rw [run_eql_struct, show cz 23 s = #[.int .i64 (s 0), .int .i64 (s 1), .int .i64 (s 2), .int .i64 (s 3), .int .i64 (s 4), .int .i64 (s 5), .int .i64 (s 6), .int .i64 (s 7), .int .i64 (s 8), .int .i64 (s 9), .int .i64 (s 10), .int .i64 (s 11), .int .i64 (s 12), .int .i64 (s 13), .int .i64 (s 14), .int .i64 (s 15), .int .i64 (s 16), .int .i64 (s 17), .int .i64 (s 18), .int .i64 (s 19), .int .i64 (s 20), .int .i64 (s 21), .int .i64 (s 22)] from rfl, st_self]
  rfl
@[go_sem high] theorem st_neq (s : Vl) (W : World) : (binOp .neq 28 (.agg (cz 23 s)) (.agg (cz 23 s))).run Tryd.prog W = .ok (.bool false) W := by
  rw [run_neq_struct, show cz 23 s = #[.int .i64 (s 0), .int .i64 (s 1), .int .i64 (s 2), .int .i64 (s 3), .int .i64 (s 4), .int .i64 (s 5), .int .i64 (s 6), .int .i64 (s 7), .int .i64 (s 8), .int .i64 (s 9), .int .i64 (s 10), .int .i64 (s 11), .int .i64 (s 12), .int .i64 (s 13), .int .i64 (s 14), .int .i64 (s 15), .int .i64 (s 16), .int .i64 (s 17), .int .i64 (s 18), .int .i64 (s 19), .int .i64 (s 20), .int .i64 (s 21), .int .i64 (s 22)] from rfl, st_self]
  rfl
@[go_sem high] theorem st_zero (W : World) : (binOp .eql 28 (.agg (cz 23 nul)) (.agg #[.int .i64 0, .int .i64 0, .int .i64 0, .int .i64 0, .int .i64 0, .int .i64 0, .int .i64 0, .int .i64 0, .int .i64 0, .int .i64 0, .int .i64 0, .int .i64 0, .int .i64 0, .int .i64 0, .int .i64 0, .int .i64 0, .int .i64 0, .int .i64 0, .int .i64 0, .int .i64 0, .int .i64 0, .int .i64 0, .int .i64 0])).run Tryd.prog W = .ok (.bool true) W := st_eql nul W
theorem po_under : Tryd.prog.underlying 33 = some (.struct (Tryd.prog.fieldsOf 33)) := by kernel_rfl
theorem po_stood : Tryd.prog.stoodInHeld 33 = false := by kernel_rfl
theorem po_guards : Tryd.prog.eqGuardType Tryd.prog.depth 33 = false := by kernel_rfl
@[go_sem high] theorem po_guard (op : BinOp) (x y : Operand) (xs ys : Array Value) (W : World) : (eqGuard op 33 x y (.agg xs) (.agg ys)).run Tryd.prog W = .ok () W := run_eqGuard_agg W op 33 x y xs ys po_guards
set_option maxHeartbeats 1000000 in
theorem po_self (s : Vl) (W : World) : (Op.equalIn 10000 33 (.agg #[.int .i64 (s 0), .int .i64 (s 1), .int .i64 (s 2), .int .i64 (s 3), .int .i64 (s 4), .int .i64 (s 5), .int .i64 (s 6), .int .i64 (s 7), .int .i64 (s 8), .int .i64 (s 9), .int .i64 (s 10), .int .i64 (s 11), .int .i64 (s 12), .int .i64 (s 13), .int .i64 (s 14), .int .i64 (s 15), .int .i64 (s 16), .int .i64 (s 17), .int .i64 (s 18), .int .i64 (s 19), .int .i64 (s 20), .int .i64 (s 21)]) (.agg #[.int .i64 (s 0), .int .i64 (s 1), .int .i64 (s 2), .int .i64 (s 3), .int .i64 (s 4), .int .i64 (s 5), .int .i64 (s 6), .int .i64 (s 7), .int .i64 (s 8), .int .i64 (s 9), .int .i64 (s 10), .int .i64 (s 11), .int .i64 (s 12), .int .i64 (s 13), .int .i64 (s 14), .int .i64 (s 15), .int .i64 (s 16), .int .i64 (s 17), .int .i64 (s 18), .int .i64 (s 19), .int .i64 (s 20), .int .i64 (s 21)])).run Tryd.prog W = .ok true W := by
  rw [run_equalIn_agg W 9999 33 _ _ po_under po_stood]
  have h2 := a6_self 9996 (s 4) (s 5) (s 6) (s 7) (s 8) (s 9) (s 10) (s 11) (s 12) (s 13) (s 14) (s 15) (s 16) (s 17) (s 18) (s 19) (s 20) (s 21) W
  simp [go_sem, Op.eqFields, part, Program.fieldsOf, Tryd.underlying33, Tryd.underlying3, h2]
@[go_sem high] theorem po_eql (s : Vl) (W : World) : (binOp .eql 33 (.agg (cz 22 s)) (.agg (cz 22 s))).run Tryd.prog W = .ok (.bool true) W := by
  rw [run_eql_struct, show cz 22 s = #[.int .i64 (s 0), .int .i64 (s 1), .int .i64 (s 2), .int .i64 (s 3), .int .i64 (s 4), .int .i64 (s 5), .int .i64 (s 6), .int .i64 (s 7), .int .i64 (s 8), .int .i64 (s 9), .int .i64 (s 10), .int .i64 (s 11), .int .i64 (s 12), .int .i64 (s 13), .int .i64 (s 14), .int .i64 (s 15), .int .i64 (s 16), .int .i64 (s 17), .int .i64 (s 18), .int .i64 (s 19), .int .i64 (s 20), .int .i64 (s 21)] from rfl, po_self]
  rfl
@[go_sem high] theorem po_neq (s : Vl) (W : World) : (binOp .neq 33 (.agg (cz 22 s)) (.agg (cz 22 s))).run Tryd.prog W = .ok (.bool false) W := by
  rw [run_neq_struct, show cz 22 s = #[.int .i64 (s 0), .int .i64 (s 1), .int .i64 (s 2), .int .i64 (s 3), .int .i64 (s 4), .int .i64 (s 5), .int .i64 (s 6), .int .i64 (s 7), .int .i64 (s 8), .int .i64 (s 9), .int .i64 (s 10), .int .i64 (s 11), .int .i64 (s 12), .int .i64 (s 13), .int .i64 (s 14), .int .i64 (s 15), .int .i64 (s 16), .int .i64 (s 17), .int .i64 (s 18), .int .i64 (s 19), .int .i64 (s 20), .int .i64 (s 21)] from rfl, po_self]
  rfl
@[go_sem high] theorem po_zero (W : World) : (binOp .eql 33 (.agg (cz 22 nul)) (.agg #[.int .i64 0, .int .i64 0, .int .i64 0, .int .i64 0, .int .i64 0, .int .i64 0, .int .i64 0, .int .i64 0, .int .i64 0, .int .i64 0, .int .i64 0, .int .i64 0, .int .i64 0, .int .i64 0, .int .i64 0, .int .i64 0, .int .i64 0, .int .i64 0, .int .i64 0, .int .i64 0, .int .i64 0, .int .i64 0])).run Tryd.prog W = .ok (.bool true) W := po_eql nul W
end Go.Proofs.YtneobaininejaaaDoor.PstQ
