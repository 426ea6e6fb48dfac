/-
  Rows loaded behind a guard; two new blocks stored into whole. Nothing of the program. Condition: none.
-/
import Derived.Test.YtighpjhipgobiaaDoorPart
namespace Go.Proofs.YtighpjhipgobiaaDoor.PrtW
open Go.ChangeShapes Go.WideShapes Go.ChangeAt Go.RowKit
open PairW BlkW
/-- A whole row loaded, behind a guard that says yes. -/
theorem wpList_load_row_g {P : Program} {ops : Array Oper} {rest : List Oper} {o : Oper} {a : Act} {w : World} {Q : Exit → Act → World → Prop} (hw : Region.wanted o (yielded ops a.tmps) = true) (ty : TypeId) (x : Operand) (ho : o.op = .load ty x)
    (g : Nat) (hx : a.eval x = .pointer (some ⟨g, 0, none⟩)) (t : TypeId) (cs : Array Value) (fr : Nat × Nat) (d : TypeDesc) (hg : w.heap[g]? = some (.cells cs t fr))
    (hu : P.underlying ty = some d) (hd : (match d with | .struct _ | .array _ _ => true | _ => false) = true) (hi : (P.info? ty).map (·.size) = some cs.size)
    (h : wpList P ops Q rest (a.put o.dst (.agg cs)) w) : wpList P ops Q (o :: rest) a w :=
  wpList_step fun _ hK => by rw [if_pos hw]; exact wp_load_row ty x ho g hx t cs fr d hg hu hd hi (hK _ _ h)
/-- The older of two new blocks, the newer of two, stored into whole. -/
theorem setRow_alloc2 (w : World) (z c : Array Value) (T : TypeId) (o : Obj) : ((w.alloc (.cells z T)).alloc o).setRow w.heap.size c = (w.alloc (.cells c T)).alloc o := by
  unfold World.setRow World.alloc
  simp only [World.mk.injEq, and_true]
  refine Array.ext_getElem? fun k => ?_
  rw [Array.getElem?_modify]
  by_cases h : w.heap.size = k
  · subst h
    simp [Array.getElem?_push]
  · rw [if_neg h]
    simp only [Array.getElem?_push, Array.size_push]
    by_cases h2 : k = w.heap.size + 1
    · rw [if_pos h2, if_pos h2]
    · rw [if_neg h2, if_neg h2, if_neg (fun e => h e.symm), if_neg (fun e => h e.symm)]
theorem setRow_alloc2n (w : World) (z c : Array Value) (T : TypeId) (o : Obj) : ((w.alloc o).alloc (.cells z T)).setRow (w.heap.size + 1) c = (w.alloc o).alloc (.cells c T) := by
  have := World.setRow_alloc_new (w.alloc o) z c T
  rw [size_alloc] at this
  exact this
end Go.Proofs.YtighpjhipgobiaaDoor.PrtW
