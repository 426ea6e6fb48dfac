/-
  Blocks of memory that are known whole: what every walk over structs in memory shares. Nothing of the program. Condition: none.
-/
import Derived.Test.YtmjokgddhainlaaPairs
import Derived.Laws.Tables
import Derived.Laws.Rows
import Derived.Deep.WholeRow
import Derived.StillTailTactics
namespace Go.Proofs.Ytmjokgddhainlaa.BlkW
open Go.ChangeShapes Go.WideShapes Go.ChangeAt Go.RowKit
open PairW
theorem heap_new (w : World) (o : Obj) : (w.alloc o).heap[w.heap.size]? = some o := by
  unfold World.alloc
  simp
theorem set_other (w : World) (p : Addr) (u : Value) {k : Nat} (h : k ≠ p.block) : (w.setCell p u).heap[k]? = w.heap[k]? := by
  unfold World.setCell
  simp only [Array.getElem?_modify]
  rw [if_neg (fun e => h e.symm)]
/-- The block B holds the cells cs. -/
def Blk (w : World) (B : Nat) (cs : Array Value) (T : TypeId) : Prop := w.heap[B]? = some (.cells cs T (0, 0))
section
variable {w w' : World} {B : Nat} {cs : Array Value} {T : TypeId}
theorem Blk.raw (h : Blk w B cs T) : w.heap[B]? = some (.cells cs T (0, 0)) := h
theorem Blk.lt (h : Blk w B cs T) : B < w.heap.size := (Array.getElem?_eq_some_iff.1 h).1
theorem Blk.cell (h : Blk w B cs T) (i : Nat) : w.cell? ⟨B, i, none⟩ = cs[i]? := cell_of_row w B i cs T (0, 0) h
theorem Blk.frozen (h : Blk w B cs T) (i : Nat) : w.frozen? ⟨B, i, none⟩ = false := by
  unfold Blk at h
  unfold World.frozen?
  simp [h]
theorem Blk.own (h : Blk w B cs T) (q : Own w w') : Blk w' B cs T := (q.block B h.lt).trans h
theorem Blk.drew (h : Blk w B cs T) : Blk w.drew B cs T := h
theorem Blk.far (h : Blk w B cs T) {p : Addr} (hp : B ≠ p.block) (u : Value) : Blk (w.setCell p u) B cs T := (set_other w p u hp).trans h
theorem Blk.put (h : Blk w B cs T) (i : Nat) (u : Value) : Blk (w.setCell ⟨B, i, none⟩ u) B (cs.setIfInBounds i u) T := by
  unfold Blk at h ⊢
  simp only [World.setCell]
  rw [Array.getElem?_modify, if_pos rfl, h]
  simp
theorem Blk.new (w : World) (cs : Array Value) (T : TypeId) : Blk (w.alloc (.cells cs T)) w.heap.size cs T := heap_new w _
theorem Blk.row (h : Blk w B cs T) (cs' : Array Value) : Blk (w.setRow B cs') B cs' T := by
  unfold Blk at h ⊢
  unfold World.setRow
  rw [Array.getElem?_modify, if_pos rfl, h]
  rfl
theorem Blk.rowfar {C : Nat} (h : Blk w B cs T) (hc : B ≠ C) (cs' : Array Value) : Blk (w.setRow C cs') B cs T := by
  unfold Blk at h ⊢
  unfold World.setRow
  rw [Array.getElem?_modify, if_neg (fun e => hc e.symm), h]
theorem blk_new (w : World) (cs : Array Value) (T : TypeId) : ∃ W B, w.alloc (.cells cs T) = W ∧ w.heap.size = B ∧ Blk W B cs T ∧ Own w W ∧ w.heap.size ≤ B := ⟨_, _, rfl, rfl, Blk.new w _ _, (Own.refl w).alloc _, Nat.le_refl _⟩
end
theorem own_setRow {a w : World} (h : Own a w) {B : Nat} (hB : a.heap.size ≤ B) (cs : Array Value) : Own a (w.setRow B cs) := by
  refine ⟨h.os, h.output, by simpa [World.setRow] using h.size, fun k hk => ?_⟩
  rw [← h.block k hk]
  unfold World.setRow
  simp only [Array.getElem?_modify]
  rw [if_neg (by omega)]
theorem results_cell1 {fn : Func} {p : Tmp} {ty : TypeId} (h : fn.results = #[.cell p ty]) (tmps : Array Value) (P : Program) (w : World) :
    (results fn tmps).run P w = ((asAddr (tmps.getD p undef)).run P w).andThen fun a w₁ => ((loadVar ty a).run P w₁).andThen fun v w₂ => .ok v w₂ := by
  simp only [results, h]
  simp [Sem.run_bind]
  cases (Sem.run P (asAddr (tmps[p]?.getD undef)) w) with
  | ok a w1 =>
    simp only [Result.andThen]
    cases Sem.run P (loadVar ty a) w1 <;> rfl
  | halt h w => rfl
/-- A struct that lies in memory, as the one result. -/
theorem blk_result {P : Program} {fn : Func} {p : Tmp} {T : TypeId} {d : TypeDesc} (h : fn.results = #[.cell p T]) {tmps : Array Value} {w : World} {B : Nat} {cs : Array Value} (hp : tmps.getD p undef = .pointer (some ⟨B, 0, none⟩)) (hb : Blk w B cs T)
    (hu : P.underlying T = some d) (hd : (match d with | .struct _ | .array _ _ => true | _ => false) = true) (hi : (P.info? T).map (·.size) = some cs.size) :
    (results fn tmps).run P w = .ok (.agg cs) w := by
  rw [results_cell1 h, hp]
  simp [asAddr, Result.andThen, run_loadVar_row w B T T cs (0, 0) _ hb hu hd hi]
/-- A struct that lies in memory, as the first result of two. -/
theorem blk_results {P : Program} {fn : Func} {p u : Tmp} {T : TypeId} {d : TypeDesc} (h : fn.results = #[.cell p T, .tmp u]) {tmps : Array Value} {w : World} {B : Nat} {cs : Array Value} {z : Value} (hp : tmps.getD p undef = .pointer (some ⟨B, 0, none⟩)) (hz : tmps.getD u undef = z) (hb : Blk w B cs T)
    (hu : P.underlying T = some d) (hd : (match d with | .struct _ | .array _ _ => true | _ => false) = true) (hi : (P.info? T).map (·.size) = some cs.size) :
    (results fn tmps).run P w = .ok (.tuple #[.agg cs, z]) w := by
  rw [results_cell_tmp h, hp, hz]
  simp [asAddr, Result.andThen, run_loadVar_row w B T T cs (0, 0) _ hb hu hd hi]
/-- Three cells. -/
theorem Blk.three {w : World} {B : Nat} {x y z : Value} {T : TypeId} (h : Blk w B #[x, y, z] T) : w.cell? ⟨B, 0, none⟩ = some x ∧ w.cell? ⟨B, 1, none⟩ = some y ∧ w.cell? ⟨B, 2, none⟩ = some z := ⟨h.cell 0, h.cell 1, h.cell 2⟩
theorem Blk.set3 {w : World} {B : Nat} {x y z : Value} {T : TypeId} (h : Blk w B #[x, y, z] T) (a b c : Value) : Blk (((w.setCell ⟨B, 0, none⟩ a).setCell ⟨B, 1, none⟩ b).setCell ⟨B, 2, none⟩ c) B #[a, b, c] T := ((h.put 0 a).put 1 b).put 2 c
theorem own_set3 {a w : World} (h : Own a w) {B : Nat} (hB : a.heap.size ≤ B) (x y z : Value) : Own a (((w.setCell ⟨B, 0, none⟩ x).setCell ⟨B, 1, none⟩ y).setCell ⟨B, 2, none⟩ z) := ((h.setCell hB x).setCell hB y).setCell hB z
theorem own_num {w w' : World} (h : ∃ n, w' = w.drewN n) : Own w w' := by
  obtain ⟨n, rfl⟩ := h
  exact (Own.refl w).drewN n
theorem size_alloc (w : World) (o : Obj) : (w.alloc o).heap.size = w.heap.size + 1 := by simp
/-- Two blocks made one after the other. -/
theorem two_new (w : World) (c1 : Array Value) (T1 : TypeId) (c2 : Array Value) (T2 : TypeId) : ∃ W B C, (w.alloc (.cells c1 T1)).alloc (.cells c2 T2) = W ∧ w.heap.size + 1 = C ∧ w.heap.size = B ∧ Blk W B c1 T1 ∧ Blk W C c2 T2 ∧ Own w W ∧ w.heap.size ≤ B ∧ w.heap.size ≤ C ∧ B ≠ C := by
  refine ⟨_, _, _, rfl, rfl, rfl, (Blk.new w c1 T1).own ((Own.refl _).alloc _), ?_, ((Own.refl w).alloc _).alloc _, Nat.le_refl _, Nat.le_succ _, by omega⟩
  have := Blk.new (w.alloc (.cells c1 T1)) c2 T2
  rw [size_alloc] at this
  exact this
/-- Three blocks made one after the other. -/
theorem three_new (w : World) (c1 : Array Value) (T1 : TypeId) (c2 : Array Value) (T2 : TypeId) (c3 : Array Value) (T3 : TypeId) :
    ∃ W B C D, ((w.alloc (.cells c1 T1)).alloc (.cells c2 T2)).alloc (.cells c3 T3) = W ∧ w.heap.size + 1 + 1 = D ∧ w.heap.size + 1 = C ∧ w.heap.size = B ∧ Blk W B c1 T1 ∧ Blk W C c2 T2 ∧ Blk W D c3 T3 ∧ Own w W ∧ w.heap.size ≤ B ∧ w.heap.size ≤ C ∧ w.heap.size ≤ D ∧ (B ≠ C ∧ B ≠ D ∧ C ≠ D) := by
  obtain ⟨W, B, C, rfl, rfl, rfl, hb, hc, g, h1, h2, h3⟩ := two_new w c1 T1 c2 T2
  have q : Own ((w.alloc (.cells c1 T1)).alloc (.cells c2 T2)) (((w.alloc (.cells c1 T1)).alloc (.cells c2 T2)).alloc (.cells c3 T3)) := (Own.refl _).alloc _
  refine ⟨_, _, _, _, rfl, rfl, rfl, rfl, hb.own q, hc.own q, ?_, g.trans q, by omega, by omega, by omega, by omega, by omega, by omega⟩
  have := Blk.new ((w.alloc (.cells c1 T1)).alloc (.cells c2 T2)) c3 T3
  rw [size_alloc, size_alloc] at this
  exact this
theorem Blk.one {w : World} {B : Nat} {x : Value} {T : TypeId} (h : Blk w B #[x] T) : w.cell? ⟨B, 0, none⟩ = some x := h.cell 0
/-- Five blocks made one after the other. -/
theorem five_new (w : World) (c1 : Array Value) (T1 : TypeId) (c2 : Array Value) (T2 : TypeId) (c3 : Array Value) (T3 : TypeId) (c4 : Array Value) (T4 : TypeId) (c5 : Array Value) (T5 : TypeId) :
    ∃ W B1 B2 B3 B4 B5, ((((w.alloc (.cells c1 T1)).alloc (.cells c2 T2)).alloc (.cells c3 T3)).alloc (.cells c4 T4)).alloc (.cells c5 T5) = W ∧ w.heap.size + 1 + 1 + 1 + 1 = B5 ∧ w.heap.size + 1 + 1 + 1 = B4 ∧ w.heap.size + 1 + 1 = B3 ∧ w.heap.size + 1 = B2 ∧ w.heap.size = B1 ∧
      Blk W B1 c1 T1 ∧ Blk W B2 c2 T2 ∧ Blk W B3 c3 T3 ∧ Blk W B4 c4 T4 ∧ Blk W B5 c5 T5 ∧ Own w W ∧ w.heap.size ≤ B5 := by
  obtain ⟨W, B, C, D, rfl, rfl, rfl, rfl, hb, hc, hd, g, h1, h2, h3, -⟩ := three_new w c1 T1 c2 T2 c3 T3
  generalize hW : ((w.alloc (.cells c1 T1)).alloc (.cells c2 T2)).alloc (.cells c3 T3) = W at *
  have hs : W.heap.size = w.heap.size + 1 + 1 + 1 := by rw [← hW, size_alloc, size_alloc, size_alloc]
  have q : Own W ((W.alloc (.cells c4 T4)).alloc (.cells c5 T5)) := ((Own.refl _).alloc _).alloc _
  refine ⟨_, _, _, _, _, _, rfl, rfl, rfl, rfl, rfl, rfl, hb.own q, hc.own q, hd.own q, ?_, ?_, g.trans q, by omega⟩
  · have := (Blk.new W c4 T4).own ((Own.refl _).alloc (.cells c5 T5))
    rw [hs] at this
    exact this
  · have := Blk.new (W.alloc (.cells c4 T4)) c5 T5
    rw [size_alloc, hs] at this
    exact this
theorem Blk.newd (w : World) (cs : Array Value) (T : TypeId) : Blk (w.drew.alloc (.cells cs T)) w.heap.size cs T := Blk.new w.drew cs T
theorem Blk.far3 {w : World} {B R : Nat} {cs : Array Value} {T : TypeId} (h : Blk w B cs T) (hne : B ≠ R) (x y z : Value) : Blk (((w.setCell ⟨R, 0, none⟩ x).setCell ⟨R, 1, none⟩ y).setCell ⟨R, 2, none⟩ z) B cs T := ((h.far (p := ⟨R, 0, none⟩) hne x).far (p := ⟨R, 1, none⟩) hne y).far (p := ⟨R, 2, none⟩) hne z
end Go.Proofs.Ytmjokgddhainlaa.BlkW
