/-
  Walks of the table of sines, of Sin and Cos of the specification of package angle: what each call returns. Condition: none.
-/
import Derived.Test.YtbcoknlkncnmfaaDoorAngleA
import Derived.Laws.Tables
import Derived.Laws.Rows
import Derived.Deep.WholeRow
import Derived.RowKit3
namespace Go.Proofs.YtbcoknlkncnmfaaDoor.AngW
open Go.ChangeShapes Go.WideShapes Go.ChangeAt Go.RowKit
open NumP NumW AngP

/-- A composite value whose parts are known: the array that it builds. -/
theorem wpList_build_eq {P : Program} {ops : Array Oper} {rest : List Oper} {o : Oper} {a : Act} {w : World} {Q : Exit → Act → World → Prop} (hg : o.guard = none) (t : TypeId) (parts : Array (Nat × Operand)) (ho : o.op = .build t parts)
    (cells : Array Value) (hf : P.built t (parts.map fun (i, x) => (i, a.eval x)).toList = some cells)
    (h : wpList P ops Q rest (a.put o.dst (.agg cells)) w) : wpList P ops Q (o :: rest) a w :=
  wpList_build hg t parts ho (by rw [hf]; rfl) (by rw [hf]; exact h)

/-- The table as a value of Go. -/
def tabCells : Array Value := (tabS.map (Value.int .i64)).toArray
theorem tab_size : tabCells.size = 65 := by decide
theorem tab_at (k : Nat) (h : k < 65) : tabCells[k]? = some (.int .i64 (tabN k)) := by
  unfold tabCells tabN
  rw [List.getElem?_toArray, List.getElem?_map, List.getD_eq_getElem?_getD]
  have hl : k < tabS.length := h
  rw [List.getElem?_eq_getElem hl]
  rfl
theorem tab_one : tabCells.all (·.oneCell') = true := by decide +kernel

theorem set_new2 (w : World) (A : Obj) (c c' : Array Value) (t : TypeId) : ((w.alloc A).alloc (.cells c t)).setRow (w.heap.size + 1) c' = (w.alloc A).alloc (.cells c' t) := by
  have h := World.setRow_alloc_new (w.alloc A) c c' t
  have e : (w.alloc A).heap.size = w.heap.size + 1 := by show (w.heap.push A).size = _; simp
  rw [e] at h
  exact h
theorem grown_cell {W w' : World} (h : Grown W w') {b o : Nat} {v : Value} (hc : W.cell? ⟨b, o, none⟩ = some v) : w'.cell? ⟨b, o, none⟩ = some v := by
  have h3 := h.1.2.2 b (block_lt_of_cell hc)
  revert hc h3
  simp only [World.cell?]
  generalize W.heap[b]? = x
  generalize w'.heap[b]? = y
  intro hc h3
  rcases x with _ | x
  · simp at hc
  · cases x <;> try (simp at hc; done)
    rcases y with _ | y
    · simp at h3
    · cases y <;> try (simp at h3; done)
      simp only at hc h3 ⊢
      rw [h3.2.2.2 o (fun f => f)]
      exact hc
theorem grown_trans {a b c : World} (h1 : Grown a b) (h2 : Grown b c) : Grown a c :=
  ⟨World.keptBut_trans h1.1 h2.1, fun x => (h2.2.1 x).trans (h1.2.1 x), Nat.le_trans h1.2.2 h2.2.2⟩
theorem grown_drewN {W w' : World} (h : Grown W w') (n : Nat) : Grown W (w'.drewN n) := h
theorem grown_drew {W w' : World} (h : Drew W w') : Grown W w' := by
  obtain ⟨n, rfl⟩ := h
  exact grown_drewN (Grown.refl _) n


end Go.Proofs.YtbcoknlkncnmfaaDoor.AngW
