/-
  Blocks of memory that are known whole, and bodies in them: what every walk over bodies shares. Condition: none.
-/
import Derived.Test.YtighpjhipgobiaaDoorPairs
import Derived.Test.YtighpjhipgobiaaDoorBuildPlain
import Derived.StillTailTactics
namespace Go.Proofs.YtighpjhipgobiaaDoor.BuiW
open Go.ChangeShapes Go.WideShapes Go.ChangeAt Go.RowKit
open PairW BuiP
theorem heap_new (w : World) (o : Obj) : (w.alloc o).heap[w.heap.size]? = some o := by
  unfold World.alloc
  simp
theorem set_other (w : World) (p : Addr) (u : Value) {k : Nat} (h : k ≠ p.block) : (w.setCell p u).heap[k]? = w.heap[k]? := by
  unfold World.setCell
  simp only [Array.getElem?_modify]
  rw [if_neg (fun e => h e.symm)]
/-- The block B holds the cells cs. -/
def Blk (w : World) (B : Nat) (cs : Array Value) (T : TypeId) : Prop := w.heap[B]? = some (.cells cs T (0, 0))
section
variable {w w' : World} {B : Nat} {cs : Array Value} {T : TypeId}
theorem Blk.lt (h : Blk w B cs T) : B < w.heap.size := (Array.getElem?_eq_some_iff.1 h).1
theorem Blk.cell (h : Blk w B cs T) (i : Nat) : w.cell? ⟨B, i, none⟩ = cs[i]? := cell_of_row w B i cs T (0, 0) h
theorem Blk.frozen (h : Blk w B cs T) (i : Nat) : w.frozen? ⟨B, i, none⟩ = false := by
  unfold Blk at h
  unfold World.frozen?
  simp [h]
theorem Blk.own (h : Blk w B cs T) (q : Own w w') : Blk w' B cs T := (q.block B h.lt).trans h
theorem Blk.drew (h : Blk w B cs T) : Blk w.drew B cs T := h
theorem Blk.far (h : Blk w B cs T) {p : Addr} (hp : B ≠ p.block) (u : Value) : Blk (w.setCell p u) B cs T := (set_other w p u hp).trans h
theorem Blk.put (h : Blk w B cs T) (i : Nat) (u : Value) : Blk (w.setCell ⟨B, i, none⟩ u) B (cs.setIfInBounds i u) T := by
  unfold Blk at h ⊢
  simp only [World.setCell]
  rw [Array.getElem?_modify, if_pos rfl, h]
  simp
theorem Blk.new (w : World) (cs : Array Value) (T : TypeId) : Blk (w.alloc (.cells cs T)) w.heap.size cs T := heap_new w _
end
/-- A body in memory. -/
def Bx (w : World) (B : Nat) (b : Bl) : Prop := Blk w B #[.int .i64 (b 0), .int .i64 (b 1), .int .i64 (b 2), .int .i64 (b 3), .int .i64 (b 4), .int .i64 (b 5), .int .i64 (b 6), .int .i64 (b 7), .int .i64 (b 8), .int .i64 (b 9), .int .i64 (b 10), .int .i64 (b 11), .int .i64 (b 12), .int .i64 (b 13), .int .i64 (b 14)] 24
section
variable {w w' : World} {B : Nat} {b : Bl}
theorem Bx.own (h : Bx w B b) (q : Own w w') : Bx w' B b := Blk.own h q
theorem Bx.lt (h : Bx w B b) : B < w.heap.size := Blk.lt h
theorem Bx.cells (h : Bx w B b) : w.cell? ⟨B, 0, none⟩ = some (.int .i64 (b 0)) ∧ w.cell? ⟨B, 1, none⟩ = some (.int .i64 (b 1)) ∧ w.cell? ⟨B, 2, none⟩ = some (.int .i64 (b 2)) ∧ w.cell? ⟨B, 3, none⟩ = some (.int .i64 (b 3)) ∧ w.cell? ⟨B, 4, none⟩ = some (.int .i64 (b 4)) ∧ w.cell? ⟨B, 5, none⟩ = some (.int .i64 (b 5)) ∧ w.cell? ⟨B, 6, none⟩ = some (.int .i64 (b 6)) ∧ w.cell? ⟨B, 7, none⟩ = some (.int .i64 (b 7)) ∧ w.cell? ⟨B, 8, none⟩ = some (.int .i64 (b 8)) ∧ w.cell? ⟨B, 9, none⟩ = some (.int .i64 (b 9)) ∧ w.cell? ⟨B, 10, none⟩ = some (.int .i64 (b 10)) ∧ w.cell? ⟨B, 11, none⟩ = some (.int .i64 (b 11)) ∧ w.cell? ⟨B, 12, none⟩ = some (.int .i64 (b 12)) ∧ w.cell? ⟨B, 13, none⟩ = some (.int .i64 (b 13)) ∧ w.cell? ⟨B, 14, none⟩ = some (.int .i64 (b 14)) :=
  ⟨Blk.cell h 0, Blk.cell h 1, Blk.cell h 2, Blk.cell h 3, Blk.cell h 4, Blk.cell h 5, Blk.cell h 6, Blk.cell h 7, Blk.cell h 8, Blk.cell h 9, Blk.cell h 10, Blk.cell h 11, Blk.cell h 12, Blk.cell h 13, Blk.cell h 14⟩
theorem Bx.at (h : Bx w B b) {i : Nat} (hi : i < 15) : w.cell? ⟨B, i, none⟩ = some (.int .i64 (b i)) := by
  match i, hi with
  | 0, _ => exact Blk.cell h 0
  | 1, _ => exact Blk.cell h 1
  | 2, _ => exact Blk.cell h 2
  | 3, _ => exact Blk.cell h 3
  | 4, _ => exact Blk.cell h 4
  | 5, _ => exact Blk.cell h 5
  | 6, _ => exact Blk.cell h 6
  | 7, _ => exact Blk.cell h 7
  | 8, _ => exact Blk.cell h 8
  | 9, _ => exact Blk.cell h 9
  | 10, _ => exact Blk.cell h 10
  | 11, _ => exact Blk.cell h 11
  | 12, _ => exact Blk.cell h 12
  | 13, _ => exact Blk.cell h 13
  | 14, _ => exact Blk.cell h 14
  | n + 15, h => omega
theorem Bx.new (w : World) (b : Bl) : Bx (w.alloc (.cells #[.int .i64 (b 0), .int .i64 (b 1), .int .i64 (b 2), .int .i64 (b 3), .int .i64 (b 4), .int .i64 (b 5), .int .i64 (b 6), .int .i64 (b 7), .int .i64 (b 8), .int .i64 (b 9), .int .i64 (b 10), .int .i64 (b 11), .int .i64 (b 12), .int .i64 (b 13), .int .i64 (b 14)] 24)) w.heap.size b := Blk.new w _ _
theorem box_new (w : World) (b : Bl) : ∃ W0, w.alloc (.cells #[.int .i64 (b 0), .int .i64 (b 1), .int .i64 (b 2), .int .i64 (b 3), .int .i64 (b 4), .int .i64 (b 5), .int .i64 (b 6), .int .i64 (b 7), .int .i64 (b 8), .int .i64 (b 9), .int .i64 (b 10), .int .i64 (b 11), .int .i64 (b 12), .int .i64 (b 13), .int .i64 (b 14)] 24) = W0 ∧ Bx W0 w.heap.size b ∧ Own w W0 := ⟨_, rfl, Bx.new w b, (Own.refl w).alloc _⟩
end
end Go.Proofs.YtighpjhipgobiaaDoor.BuiW
