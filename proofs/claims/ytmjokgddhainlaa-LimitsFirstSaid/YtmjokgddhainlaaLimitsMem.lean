/-
  Limits in memory: their forty cells; limits, limits of a limb and faults compared. Condition: none.
-/
import Derived.Test.YtmjokgddhainlaaLimitsPlain
import Derived.Test.YtmjokgddhainlaaFam
import Derived.Test.YtmjokgddhainlaaLimitsPV
import Derived.ChangeKeysEq
namespace Go.Proofs.Ytmjokgddhainlaa.LimW
open Go.ChangeShapes Go.WideShapes Go.ChangeAt Go.RowKit
open PairW AimP AimW BlkW PrtW PstP PstW RegD LimP
theorem infoL : (Try.prog.info? 23).map (·.size) = some 6 := by kernel_rfl
theorem infoL6 : (Try.prog.info? 24).map (·.size) = some 36 := by kernel_rfl
theorem infoLs : (Try.prog.info? 26).map (·.size) = some 40 := by kernel_rfl
theorem infoF : (Try.prog.info? 55).map (·.size) = some 3 := by kernel_rfl
def lc (l : Vl) (i : Nat) : Value := if i = 36 ∨ i = 37 then .bool (decide (l i = 1)) else .int .i64 (l i)
/-- The cells of limits. -/
def lz (l : Vl) : Array Value := ((List.range 40).map (lc l)).toArray
theorem lz_size (l : Vl) : (lz l).size = 40 := by simp [lz]
theorem lz_at {i : Nat} (h : i < 40) (l : Vl) : (lz l)[i]? = some (lc l i) := by simp [lz, h]
theorem lz_ext {l : Vl} {cs : Array Value} (hs : cs.size = 40) (h : ∀ i, i < 40 → cs[i]? = some (lc l i)) : cs = lz l := by
  refine Array.ext_getElem? fun i => ?_
  by_cases hi : i < 40
  · rw [h i hi, lz_at hi]
  · rw [Array.getElem?_eq_none (by omega), Array.getElem?_eq_none (by rw [lz_size]; omega)]
theorem lz_same {l m : Vl} (h : sameL l m) : lz l = lz m := lz_ext (lz_size l) fun i hi => by
  rw [lz_at hi]
  have := h i hi
  unfold lc
  by_cases c : i = 36 ∨ i = 37
  · rw [if_pos c] at this
    rw [if_pos c, if_pos c, decide_eq_decide.2 this]
  · rw [if_neg c] at this
    rw [if_neg c, if_neg c, this]
theorem lz_congr {l m : Vl} (h : ∀ i, i < 40 → l i = m i) : lz l = lz m := lz_same fun i hi => by
  rw [h i hi]
  by_cases c : i = 36 ∨ i = 37
  · rw [if_pos c]
  · rw [if_neg c]
theorem lz_one (l : Vl) : (lz l).all (·.oneCell') = true := by
  rw [Array.all_eq_true_iff_forall_mem]
  intro v hv
  simp [lz] at hv
  obtain ⟨i, _, rfl⟩ := hv
  unfold lc
  by_cases c : i = 36 ∨ i = 37
  · rw [if_pos c]; rfl
  · rw [if_neg c]; rfl
theorem lc_num (l : Vl) {i : Nat} (h : ¬ (i = 36 ∨ i = 37)) : lc l i = .int .i64 (l i) := if_neg h
theorem lz_num {i : Nat} (h : i < 40) (h2 : ¬ (i = 36 ∨ i = 37)) (l : Vl) : (lz l)[i]? = some (.int .i64 (l i)) := by rw [lz_at h, lc_num l h2]
theorem lz_set {k : Nat} (h : k < 40) (h2 : ¬ (k = 36 ∨ k = 37)) (l : Vl) (v : Int) : (lz l).setIfInBounds k (.int .i64 v) = lz (PrtW.ups l k v) := by
  refine lz_ext ?_ fun i hi => ?_
  · rw [Array.size_setIfInBounds, lz_size]
  · rw [Array.getElem?_setIfInBounds, lz_size]
    by_cases e : k = i
    · subst e; rw [if_pos rfl, if_pos h, lc_num _ h2, ups_self]
    · rw [if_neg e, lz_at hi]
      unfold lc
      rw [ups_ne l (Ne.symm e)]
theorem fam_lz : Fam lz 36 := ⟨fun f k h => lz_num (by omega) (by omega) f, fun f k v h => lz_set (by omega) (by omega) f v⟩
section
variable {w : World} {B : Nat} {l : Vl} {T : TypeId}
theorem lb_num (h : Blk w B (lz l) T) {i : Nat} (hi : i < 40) (h2 : ¬ (i = 36 ∨ i = 37)) : w.cell? ⟨B, i, none⟩ = some (.int .i64 (l i)) := by rw [h.cell i, lz_num hi h2]
theorem lb_low (h : Blk w B (lz l) T) : w.cell? ⟨B, 36, none⟩ = some (.bool (decide (l 36 = 1))) := by rw [h.cell, lz_at (by omega)]; rfl
theorem lb_rise (h : Blk w B (lz l) T) : w.cell? ⟨B, 37, none⟩ = some (.bool (decide (l 37 = 1))) := by rw [h.cell, lz_at (by omega)]; rfl
theorem lb_all (h : Blk w B (lz l) T) : Lie w B 0 (cz 36 l) := by
  have := fam_lz.lie (off := 0) (m := 36) h (by omega)
  rw [cz_congr (g := l) fun i _ => by rw [Nat.zero_add]] at this
  exact this
theorem lb_lim (h : Blk w B (lz l) T) {i : Nat} (hi : i < 6) : Lie w B (i * 6) (cz 6 (lim l i)) := fam_lz.lie h (by omega)
theorem lb_set (h : Blk w B (lz l) T) {k : Nat} (hk : k < 40) (h2 : ¬ (k = 36 ∨ k = 37)) (v : Int) : Blk (w.setCell ⟨B, k, none⟩ (.int .i64 v)) B (lz (PrtW.ups l k v)) T := by
  have := h.put k (.int .i64 v)
  rw [lz_set hk h2] at this
  exact this
end
/-- A limb's limit out of the array of all. -/
theorem idxL (l : Vl) {k : Nat} (hk : k < 6) (w : World) : (Instr.index 24 (.agg (cz 36 l)) (.int .i64 (k : Int))).run Try.prog w = .ok (.agg (cz 6 (lim l k))) w :=
  index_num (n := 6) (m := 6) Try.underlying24 (fun w => by go_simp) (fun w => by go_simp) hk _ w
theorem lz_nul : (#[.int .i64 0, .int .i64 0, .int .i64 0, .int .i64 0, .int .i64 0, .int .i64 0, .int .i64 0, .int .i64 0, .int .i64 0, .int .i64 0, .int .i64 0, .int .i64 0, .int .i64 0, .int .i64 0, .int .i64 0, .int .i64 0, .int .i64 0, .int .i64 0, .int .i64 0, .int .i64 0, .int .i64 0, .int .i64 0, .int .i64 0, .int .i64 0, .int .i64 0, .int .i64 0, .int .i64 0, .int .i64 0, .int .i64 0, .int .i64 0, .int .i64 0, .int .i64 0, .int .i64 0, .int .i64 0, .int .i64 0, .int .i64 0, .bool false, .bool false, .int .i64 0, .int .i64 0] : Array Value) = lz nul := by kernel_rfl
theorem cz6_nul : (#[.int .i64 0, .int .i64 0, .int .i64 0, .int .i64 0, .int .i64 0, .int .i64 0] : Array Value) = cz 6 nul := by kernel_rfl
theorem cz36_nul : (#[.int .i64 0, .int .i64 0, .int .i64 0, .int .i64 0, .int .i64 0, .int .i64 0, .int .i64 0, .int .i64 0, .int .i64 0, .int .i64 0, .int .i64 0, .int .i64 0, .int .i64 0, .int .i64 0, .int .i64 0, .int .i64 0, .int .i64 0, .int .i64 0, .int .i64 0, .int .i64 0, .int .i64 0, .int .i64 0, .int .i64 0, .int .i64 0, .int .i64 0, .int .i64 0, .int .i64 0, .int .i64 0, .int .i64 0, .int .i64 0, .int .i64 0, .int .i64 0, .int .i64 0, .int .i64 0, .int .i64 0, .int .i64 0] : Array Value) = cz 36 nul := by kernel_rfl
/-- Six integers. -/
def l6 (a b c d e f : Int) : Vl := fun j => if j = 0 then a else if j = 1 then b else if j = 2 then c else if j = 3 then d else if j = 4 then e else f
theorem l6_cz (a b c d e f : Int) : (#[.int .i64 a, .int .i64 b, .int .i64 c, .int .i64 d, .int .i64 e, .int .i64 f] : Array Value) = cz 6 (l6 a b c d e f) := by kernel_rfl
theorem cz6_lit (x : Vl) : cz 6 x = #[.int .i64 (x 0), .int .i64 (x 1), .int .i64 (x 2), .int .i64 (x 3), .int .i64 (x 4), .int .i64 (x 5)] := by kernel_rfl
/-! ### Comparisons -/
def fa3 (a b c : Int) : Bool := (a == 0) && ((b == 0) && (c == 0))
theorem fa_under : Try.prog.underlying 55 = some (.struct (Try.prog.fieldsOf 55)) := by kernel_rfl
theorem fa_stood : Try.prog.stoodInHeld 55 = false := by kernel_rfl
theorem fa_guards : Try.prog.eqGuardType Try.prog.depth 55 = false := by kernel_rfl
@[go_sem high] theorem fa_guard (op : BinOp) (x y : Operand) (xs ys : Array Value) (W : World) : (eqGuard op 55 x y (.agg xs) (.agg ys)).run Try.prog W = .ok () W := run_eqGuard_agg W op 55 x y xs ys fa_guards
theorem fa_eq (a b c x y z : Int) (W : World) : (Op.equalIn 10000 55 (.agg #[.int .i64 a, .int .i64 b, .int .i64 c]) (.agg #[.int .i64 x, .int .i64 y, .int .i64 z])).run Try.prog W = .ok ((a == x) && ((b == y) && (c == z))) W := by
  rw [run_equalIn_agg W 9999 55 _ _ fa_under fa_stood]
  simp [go_sem, Op.eqFields, part, Program.fieldsOf, Try.underlying55, Try.underlying27, Try.underlying3]
  by_cases h1 : a = x <;> by_cases h2 : b = y <;> by_cases h3 : c = z <;> simp [h1, h2, h3]
@[go_sem high] theorem fa_zero (a b c : Int) (W : World) : (binOp .eql 55 (.agg #[.int .i64 a, .int .i64 b, .int .i64 c]) (.agg #[.int .i64 0, .int .i64 0, .int .i64 0])).run Try.prog W = .ok (.bool (fa3 a b c)) W := by
  rw [run_eql_struct, fa_eq]
  rfl
@[go_sem high] theorem fa_nzero (a b c : Int) (W : World) : (binOp .neq 55 (.agg #[.int .i64 a, .int .i64 b, .int .i64 c]) (.agg #[.int .i64 0, .int .i64 0, .int .i64 0])).run Try.prog W = .ok (.bool (!fa3 a b c)) W := by
  rw [run_neq_struct, fa_eq]
  rfl
@[go_sem high] theorem fa_same (a b c : Int) (W : World) : (binOp .eql 55 (.agg #[.int .i64 a, .int .i64 b, .int .i64 c]) (.agg #[.int .i64 a, .int .i64 b, .int .i64 c])).run Try.prog W = .ok (.bool true) W := by
  rw [run_eql_struct, fa_eq]
  simp
theorem li_under : Try.prog.underlying 23 = some (.struct (Try.prog.fieldsOf 23)) := by kernel_rfl
theorem li_stood : Try.prog.stoodInHeld 23 = false := by kernel_rfl
theorem li_guards : Try.prog.eqGuardType Try.prog.depth 23 = false := by kernel_rfl
@[go_sem high] theorem li_guard (op : BinOp) (x y : Operand) (xs ys : Array Value) (W : World) : (eqGuard op 23 x y (.agg xs) (.agg ys)).run Try.prog W = .ok () W := run_eqGuard_agg W op 23 x y xs ys li_guards
def eqX (x y : Vl) : Bool := (x 0 == y 0) && ((x 1 == y 1) && ((x 2 == y 2) && ((x 3 == y 3) && ((x 4 == y 4) && (x 5 == y 5)))))
theorem eqX_iff (x y : Vl) : eqX x y = true ↔ ∀ j, j < 6 → x j = y j := by
  unfold eqX
  simp only [Bool.and_eq_true, beq_iff_eq]
  constructor
  · rintro ⟨h0, h1, h2, h3, h4, h5⟩ j hj
    have t : j = 0 ∨ j = 1 ∨ j = 2 ∨ j = 3 ∨ j = 4 ∨ j = 5 := by omega
    rcases t with rfl | rfl | rfl | rfl | rfl | rfl <;> assumption
  · intro h
    exact ⟨h 0 (by omega), h 1 (by omega), h 2 (by omega), h 3 (by omega), h 4 (by omega), h 5 (by omega)⟩
set_option maxHeartbeats 4000000 in
theorem li_eqs (n : Nat) (a0 a1 a2 a3 a4 a5 b0 b1 b2 b3 b4 b5 : Int) (W : World) : (Op.equalIn (n + 1 + 1) 23 (.agg #[.int .i64 a0, .int .i64 a1, .int .i64 a2, .int .i64 a3, .int .i64 a4, .int .i64 a5]) (.agg #[.int .i64 b0, .int .i64 b1, .int .i64 b2, .int .i64 b3, .int .i64 b4, .int .i64 b5])).run Try.prog W = .ok ((a0 == b0) && ((a1 == b1) && ((a2 == b2) && ((a3 == b3) && ((a4 == b4) && (a5 == b5)))))) W := by
  rw [run_equalIn_agg W (n + 1) 23 _ _ li_under li_stood]
  simp [go_sem, Op.eqFields, part, Program.fieldsOf, Try.underlying23, Try.underlying3]
  by_cases h0 : a0 = b0
  · by_cases h1 : a1 = b1
    · by_cases h2 : a2 = b2
      · by_cases h3 : a3 = b3
        · by_cases h4 : a4 = b4
          · by_cases h5 : a5 = b5 <;> simp [h0, h1, h2, h3, h4, h5]
          · simp [h0, h1, h2, h3, h4]
        · simp [h0, h1, h2, h3]
      · simp [h0, h1, h2]
    · simp [h0, h1]
  · simp [h0]
@[go_sem high] theorem li_eql (x y : Vl) (W : World) : (binOp .eql 23 (.agg (cz 6 x)) (.agg (cz 6 y))).run Try.prog W = .ok (.bool (eqX x y)) W := by
  rw [run_eql_struct, cz6_lit x, cz6_lit y, li_eqs 9998]
  rfl
set_option maxHeartbeats 4000000 in
theorem l6_self (n : Nat) (a0 a1 a2 a3 a4 a5 a6 a7 a8 a9 a10 a11 a12 a13 a14 a15 a16 a17 a18 a19 a20 a21 a22 a23 a24 a25 a26 a27 a28 a29 a30 a31 a32 a33 a34 a35 : Int) (W : World) : (Op.equalIn (n + 1 + 1 + 1) 24 (.agg #[.int .i64 a0, .int .i64 a1, .int .i64 a2, .int .i64 a3, .int .i64 a4, .int .i64 a5, .int .i64 a6, .int .i64 a7, .int .i64 a8, .int .i64 a9, .int .i64 a10, .int .i64 a11, .int .i64 a12, .int .i64 a13, .int .i64 a14, .int .i64 a15, .int .i64 a16, .int .i64 a17, .int .i64 a18, .int .i64 a19, .int .i64 a20, .int .i64 a21, .int .i64 a22, .int .i64 a23, .int .i64 a24, .int .i64 a25, .int .i64 a26, .int .i64 a27, .int .i64 a28, .int .i64 a29, .int .i64 a30, .int .i64 a31, .int .i64 a32, .int .i64 a33, .int .i64 a34, .int .i64 a35]) (.agg #[.int .i64 a0, .int .i64 a1, .int .i64 a2, .int .i64 a3, .int .i64 a4, .int .i64 a5, .int .i64 a6, .int .i64 a7, .int .i64 a8, .int .i64 a9, .int .i64 a10, .int .i64 a11, .int .i64 a12, .int .i64 a13, .int .i64 a14, .int .i64 a15, .int .i64 a16, .int .i64 a17, .int .i64 a18, .int .i64 a19, .int .i64 a20, .int .i64 a21, .int .i64 a22, .int .i64 a23, .int .i64 a24, .int .i64 a25, .int .i64 a26, .int .i64 a27, .int .i64 a28, .int .i64 a29, .int .i64 a30, .int .i64 a31, .int .i64 a32, .int .i64 a33, .int .i64 a34, .int .i64 a35])).run Try.prog W = .ok true W := by
  obtain ⟨i, hi⟩ : ∃ i, Try.prog.info? 23 = some i := ⟨_, rfl⟩
  rw [run_equalIn_array (w := W) (n + 1 + 1) _ _ Try.underlying24 hi, show Try.prog.cellsOf 23 = 6 by kernel_rfl]
  simp [Op.eqItems, List.range_succ, part, go_sem, li_eqs]
theorem ls_under : Try.prog.underlying 26 = some (.struct (Try.prog.fieldsOf 26)) := by kernel_rfl
theorem ls_stood : Try.prog.stoodInHeld 26 = false := by kernel_rfl
theorem ls_guards : Try.prog.eqGuardType Try.prog.depth 26 = false := by kernel_rfl
@[go_sem high] theorem ls_guard (op : BinOp) (x y : Operand) (xs ys : Array Value) (W : World) : (eqGuard op 26 x y (.agg xs) (.agg ys)).run Try.prog W = .ok () W := run_eqGuard_agg W op 26 x y xs ys ls_guards
theorem lz_lit (s : Vl) : lz s = #[.int .i64 (s 0), .int .i64 (s 1), .int .i64 (s 2), .int .i64 (s 3), .int .i64 (s 4), .int .i64 (s 5), .int .i64 (s 6), .int .i64 (s 7), .int .i64 (s 8), .int .i64 (s 9), .int .i64 (s 10), .int .i64 (s 11), .int .i64 (s 12), .int .i64 (s 13), .int .i64 (s 14), .int .i64 (s 15), .int .i64 (s 16), .int .i64 (s 17), .int .i64 (s 18), .int .i64 (s 19), .int .i64 (s 20), .int .i64 (s 21), .int .i64 (s 22), .int .i64 (s 23), .int .i64 (s 24), .int .i64 (s 25), .int .i64 (s 26), .int .i64 (s 27), .int .i64 (s 28), .int .i64 (s 29), .int .i64 (s 30), .int .i64 (s 31), .int .i64 (s 32), .int .i64 (s 33), .int .i64 (s 34), .int .i64 (s 35), .bool (decide (s 36 = 1)), .bool (decide (s 37 = 1)), .int .i64 (s 38), .int .i64 (s 39)] := by kernel_rfl
set_option maxHeartbeats 4000000 in
theorem ls_self (s : Vl) (W : World) : (Op.equalIn 10000 26 (.agg #[.int .i64 (s 0), .int .i64 (s 1), .int .i64 (s 2), .int .i64 (s 3), .int .i64 (s 4), .int .i64 (s 5), .int .i64 (s 6), .int .i64 (s 7), .int .i64 (s 8), .int .i64 (s 9), .int .i64 (s 10), .int .i64 (s 11), .int .i64 (s 12), .int .i64 (s 13), .int .i64 (s 14), .int .i64 (s 15), .int .i64 (s 16), .int .i64 (s 17), .int .i64 (s 18), .int .i64 (s 19), .int .i64 (s 20), .int .i64 (s 21), .int .i64 (s 22), .int .i64 (s 23), .int .i64 (s 24), .int .i64 (s 25), .int .i64 (s 26), .int .i64 (s 27), .int .i64 (s 28), .int .i64 (s 29), .int .i64 (s 30), .int .i64 (s 31), .int .i64 (s 32), .int .i64 (s 33), .int .i64 (s 34), .int .i64 (s 35), .bool (decide (s 36 = 1)), .bool (decide (s 37 = 1)), .int .i64 (s 38), .int .i64 (s 39)]) (.agg #[.int .i64 (s 0), .int .i64 (s 1), .int .i64 (s 2), .int .i64 (s 3), .int .i64 (s 4), .int .i64 (s 5), .int .i64 (s 6), .int .i64 (s 7), .int .i64 (s 8), .int .i64 (s 9), .int .i64 (s 10), .int .i64 (s 11), .int .i64 (s 12), .int .i64 (s 13), .int .i64 (s 14), .int .i64 (s 15), .int .i64 (s 16), .int .i64 (s 17), .int .i64 (s 18), .int .i64 (s 19), .int .i64 (s 20), .int .i64 (s 21), .int .i64 (s 22), .int .i64 (s 23), .int .i64 (s 24), .int .i64 (s 25), .int .i64 (s 26), .int .i64 (s 27), .int .i64 (s 28), .int .i64 (s 29), .int .i64 (s 30), .int .i64 (s 31), .int .i64 (s 32), .int .i64 (s 33), .int .i64 (s 34), .int .i64 (s 35), .bool (decide (s 36 = 1)), .bool (decide (s 37 = 1)), .int .i64 (s 38), .int .i64 (s 39)])).run Try.prog W = .ok true W := by
  rw [run_equalIn_agg W 9999 26 _ _ ls_under ls_stood]
  have h0 := l6_self 9996 (s 0) (s 1) (s 2) (s 3) (s 4) (s 5) (s 6) (s 7) (s 8) (s 9) (s 10) (s 11) (s 12) (s 13) (s 14) (s 15) (s 16) (s 17) (s 18) (s 19) (s 20) (s 21) (s 22) (s 23) (s 24) (s 25) (s 26) (s 27) (s 28) (s 29) (s 30) (s 31) (s 32) (s 33) (s 34) (s 35) W
  simp [go_sem, Op.eqFields, part, Program.fieldsOf, Try.underlying26, Try.underlying3, Try.underlying4, h0]
@[go_sem high] theorem ls_eql (s : Vl) (W : World) : (binOp .eql 26 (.agg (lz s)) (.agg (lz s))).run Try.prog W = .ok (.bool true) W := by
  rw [run_eql_struct, lz_lit s, ls_self]
  rfl
@[go_sem high] theorem ls_neq (s : Vl) (W : World) : (binOp .neq 26 (.agg (lz s)) (.agg (lz s))).run Try.prog W = .ok (.bool false) W := by
  rw [run_neq_struct, lz_lit s, ls_self]
  rfl
@[go_sem high] theorem ls_zero (W : World) : (binOp .eql 26 (.agg (lz nul)) (.agg #[.int .i64 0, .int .i64 0, .int .i64 0, .int .i64 0, .int .i64 0, .int .i64 0, .int .i64 0, .int .i64 0, .int .i64 0, .int .i64 0, .int .i64 0, .int .i64 0, .int .i64 0, .int .i64 0, .int .i64 0, .int .i64 0, .int .i64 0, .int .i64 0, .int .i64 0, .int .i64 0, .int .i64 0, .int .i64 0, .int .i64 0, .int .i64 0, .int .i64 0, .int .i64 0, .int .i64 0, .int .i64 0, .int .i64 0, .int .i64 0, .int .i64 0, .int .i64 0, .int .i64 0, .int .i64 0, .int .i64 0, .int .i64 0, .bool false, .bool false, .int .i64 0, .int .i64 0])).run Try.prog W = .ok (.bool true) W := ls_eql nul W
end Go.Proofs.Ytmjokgddhainlaa.LimW
