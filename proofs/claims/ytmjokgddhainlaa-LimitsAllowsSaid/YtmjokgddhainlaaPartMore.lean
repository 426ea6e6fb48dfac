/-
  Several texts in one file: PartB, PartC. Condition: those of each.
-/
import Derived.Test.YtmjokgddhainlaaPart
/-
  Rows loaded behind a guard; two new blocks stored into whole. Nothing of the program. Condition: none.
-/
namespace Go.Proofs.Ytmjokgddhainlaa.PrtW
open Go.ChangeShapes Go.WideShapes Go.ChangeAt Go.RowKit
open PairW BlkW
/-- A whole row loaded, behind a guard that says yes. -/
theorem wpList_load_row_g {P : Program} {ops : Array Oper} {rest : List Oper} {o : Oper} {a : Act} {w : World} {Q : Exit → Act → World → Prop} (hw : Region.wanted o (yielded ops a.tmps) = true) (ty : TypeId) (x : Operand) (ho : o.op = .load ty x)
    (g : Nat) (hx : a.eval x = .pointer (some ⟨g, 0, none⟩)) (t : TypeId) (cs : Array Value) (fr : Nat × Nat) (d : TypeDesc) (hg : w.heap[g]? = some (.cells cs t fr))
    (hu : P.underlying ty = some d) (hd : (match d with | .struct _ | .array _ _ => true | _ => false) = true) (hi : (P.info? ty).map (·.size) = some cs.size)
    (h : wpList P ops Q rest (a.put o.dst (.agg cs)) w) : wpList P ops Q (o :: rest) a w :=
  wpList_step fun _ hK => by rw [if_pos hw]; exact wp_load_row ty x ho g hx t cs fr d hg hu hd hi (hK _ _ h)
/-- The older of two new blocks, the newer of two, stored into whole. -/
theorem setRow_alloc2 (w : World) (z c : Array Value) (T : TypeId) (o : Obj) : ((w.alloc (.cells z T)).alloc o).setRow w.heap.size c = (w.alloc (.cells c T)).alloc o := by
  unfold World.setRow World.alloc
  simp only [World.mk.injEq, and_true]
  refine Array.ext_getElem? fun k => ?_
  rw [Array.getElem?_modify]
  by_cases h : w.heap.size = k
  · subst h
    simp [Array.getElem?_push]
  · rw [if_neg h]
    simp only [Array.getElem?_push, Array.size_push]
    by_cases h2 : k = w.heap.size + 1
    · rw [if_pos h2, if_pos h2]
    · rw [if_neg h2, if_neg h2, if_neg (fun e => h e.symm), if_neg (fun e => h e.symm)]
theorem setRow_alloc2n (w : World) (z c : Array Value) (T : TypeId) (o : Obj) : ((w.alloc o).alloc (.cells z T)).setRow (w.heap.size + 1) c = (w.alloc o).alloc (.cells c T) := by
  have := World.setRow_alloc_new (w.alloc o) z c T
  rw [size_alloc] at this
  exact this
end Go.Proofs.Ytmjokgddhainlaa.PrtW

/-
  Parts of memory that are known cell by cell (a part of a slice, of an argument's block): loaded whole. Nothing of the program. Condition: none.
-/
namespace Go.Proofs.Ytmjokgddhainlaa.PrtW
open Go.ChangeShapes Go.WideShapes Go.ChangeAt Go.RowKit
open PairW BlkW
/-- The cells vs lie at an address. -/
def Lie (w : World) (B off : Nat) (vs : Array Value) : Prop := ∀ (j : Nat) (v : Value), vs[j]? = some v → w.cell? ⟨B, off + j, none⟩ = some v
theorem Lie.own {w w' : World} {B off : Nat} {vs : Array Value} (h : Lie w B off vs) (g : Own w w') : Lie w' B off vs := fun j v hv => g.cell (h j v hv)
theorem lie_cz {w : World} {B off n : Nat} {f : Nat → Int} (h : ∀ i, i < n → w.cell? ⟨B, off + i, none⟩ = some (.int .i64 (f i))) : Lie w B off (cz n f) := fun j v hv => by
  have hj : j < n := by
    have := (Array.getElem?_eq_some_iff.1 hv).1
    rwa [cz_size] at this
  rw [cz_at hj] at hv
  rw [← hv]
  exact h j hj
theorem lie_num {w : World} {B off n : Nat} {f : Nat → Int} (h : Lie w B off (cz n f)) {i : Nat} (hi : i < n) : w.cell? ⟨B, off + i, none⟩ = some (.int .i64 (f i)) := h i _ (cz_at hi f)
section
variable {P : Program} {w : World} {B off : Nat} {ty : TypeId} {d : TypeDesc} {vs : Array Value}
theorem run_loadVar_lie (hc : Lie w B off vs) (hu : P.underlying ty = some d) (hd : (match d with | .struct _ | .array _ _ => true | _ => false) = true) (hi : (P.info? ty).map (·.size) = some vs.size) :
    (loadVar ty ⟨B, off, none⟩).run P w = .ok (.agg vs) w := by
  have hl : (loadCells ⟨B, off, none⟩ vs.toList.length).run P w = .ok vs.toList.toArray w :=
    run_loadCells_list (P := P) w ⟨B, off, none⟩ vs.toList (fun j v h => by
      rw [add_at]
      exact hc j v (by simpa using h))
  cases hq : P.info? ty with
  | none => simp [hq] at hi
  | some i =>
    have hs : i.size = vs.size := by simpa [hq] using hi
    have hagg : (isAgg ty).run P w = .ok true w := by
      unfold isAgg
      rw [Sem.run_bind, run_underlying hu w]
      cases d <;> simp_all
    simp only [Array.length_toList, Array.toArray_toList] at hl
    simp [loadVar, Sem.run_bind, hagg, sizeOf, typeInfo, hq, hs, hl]
theorem run_loadAt_lie (hc : Lie w B off vs) (hu : P.underlying ty = some d) (hd : (match d with | .struct _ | .array _ _ => true | _ => false) = true) (hi : (P.info? ty).map (·.size) = some vs.size) :
    (Instr.loadAt ty (.pointer (some ⟨B, off, none⟩))).run P w = .ok (.agg vs) w := by
  simp only [Instr.loadAt, Instr.sureAddr, Sem.run_bind, Sem.run_pure, Result.andThen_ok, run_loadVar_lie hc hu hd hi]
end
section
variable {P : Program} {ops : Array Oper} {rest : List Oper} {o : Oper} {a : Act} {w : World} {Q : Exit → Act → World → Prop}
theorem wp_load_lie {K : Act → World → Prop} (ty : TypeId) (x : Operand) (ho : o.op = .load ty x) (B off : Nat) (hx : a.eval x = .pointer (some ⟨B, off, none⟩)) (vs : Array Value) (hc : Lie w B off vs)
    (d : TypeDesc) (hu : P.underlying ty = some d) (hd : (match d with | .struct _ | .array _ _ => true | _ => false) = true) (hi : (P.info? ty).map (·.size) = some vs.size) (h : K (a.put o.dst (.agg vs)) w) : o.wp P a w K Q := by
  unfold Oper.wp execOp
  simp only [ho, hx, Instr.loadAt, Instr.sureAddr, Sem.run_bind, Sem.run_pure, Result.andThen_ok, run_loadVar_lie hc hu hd hi]
  exact h
/-- A struct or an array that lies somewhere, loaded whole. -/
theorem wpList_load_lie (hgd : o.guard = none) (ty : TypeId) (x : Operand) (ho : o.op = .load ty x) (B off : Nat) (hx : a.eval x = .pointer (some ⟨B, off, none⟩)) (vs : Array Value) (hc : Lie w B off vs)
    (d : TypeDesc) (hu : P.underlying ty = some d) (hd : (match d with | .struct _ | .array _ _ => true | _ => false) = true) (hi : (P.info? ty).map (·.size) = some vs.size)
    (h : wpList P ops Q rest (a.put o.dst (.agg vs)) w) : wpList P ops Q (o :: rest) a w :=
  wpList_plain hgd fun _ hK => wp_load_lie ty x ho B off hx vs hc d hu hd hi (hK _ _ h)
theorem wpList_load_lie_g (hw : Region.wanted o (yielded ops a.tmps) = true) (ty : TypeId) (x : Operand) (ho : o.op = .load ty x) (B off : Nat) (hx : a.eval x = .pointer (some ⟨B, off, none⟩)) (vs : Array Value) (hc : Lie w B off vs)
    (d : TypeDesc) (hu : P.underlying ty = some d) (hd : (match d with | .struct _ | .array _ _ => true | _ => false) = true) (hi : (P.info? ty).map (·.size) = some vs.size)
    (h : wpList P ops Q rest (a.put o.dst (.agg vs)) w) : wpList P ops Q (o :: rest) a w :=
  wpList_step fun _ hK => by rw [if_pos hw]; exact wp_load_lie ty x ho B off hx vs hc d hu hd hi (hK _ _ h)
end
end Go.Proofs.Ytmjokgddhainlaa.PrtW
