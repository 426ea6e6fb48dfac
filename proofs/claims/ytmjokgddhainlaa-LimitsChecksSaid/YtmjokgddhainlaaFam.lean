/-
  Blocks of which the first cells are integers known by a function, and the others anything: parts loaded and stored. Nothing of the program. Condition: none.
-/
import Derived.Test.YtmjokgddhainlaaPartMore
namespace Go.Proofs.Ytmjokgddhainlaa.PrtW
open Go.ChangeShapes Go.WideShapes Go.ChangeAt Go.RowKit
open PairW BlkW
/-- The cells z f: the first N are the integers f 0 .. f (N - 1). -/
structure Fam (z : (Nat → Int) → Array Value) (N : Nat) : Prop where
  cell : ∀ (f : Nat → Int) (k : Nat), k < N → (z f)[k]? = some (.int .i64 (f k))
  set : ∀ (f : Nat → Int) (k : Nat) (v : Int), k < N → (z f).setIfInBounds k (.int .i64 v) = z (PrtW.ups f k v)
section
variable {P : Program} {w : World} {B off n m : Nat} {f g : Nat → Int} {T ty : TypeId} {z : (Nat → Int) → Array Value}
theorem Fam.lie (hz : Fam z n) (hB : Blk w B (z f) T) (h : off + m ≤ n) : Lie w B off (cz m (fun j => f (off + j))) := lie_cz fun i hi => by rw [hB.cell, hz.cell f _ (by omega)]
theorem run_storeCells_fam (hz : Fam z n) : ∀ (gs : List Int) (i : Nat) (f : Nat → Int) (w : World), Blk w B (z f) T → off + i + gs.length ≤ n →
    (storeCells ⟨B, off, none⟩ (gs.map (Value.int .i64)) i).run P w = .ok () (w.setRow B (z (put f (off + i) gs.length (fun j => gs.getD j 0))))
  | [], i, f, w, hB, _ => by
    have e : z (put f (off + i) ([] : List Int).length fun j => ([] : List Int).getD j 0) = z f := congrArg z (funext fun k => put_out f _ (by simp; omega))
    simp only [List.map_nil, storeCells]
    rw [e]
    have hlt := hB.lt
    have hv : w.heap[B] = .cells (z f) T (0, 0) := (Array.getElem?_eq_some_iff.1 hB.raw).2
    show Result.ok () w = _
    congr 1
    unfold World.setRow
    cases w with
    | mk heap tape drawn os output =>
      congr 1
      apply Array.ext
      · simp
      · intro k h1 h2
        simp only [Array.getElem_modify]
        split
        · rename_i hk; subst hk; simp at hv; simp [hv]
        · rfl
  | v :: rest, i, f, w, hB, hl => by
    have hlt : off + i < n := by simp at hl; omega
    have hst : (store ((⟨B, off, none⟩ : Addr).add i) (Value.int .i64 v)).run P w = .ok () (w.setRow B (z (PrtW.ups f (off + i) v))) := by
      rw [add_at, run_store P w _ _ _ rfl, hB.cell, hz.cell f _ hlt]
      have hf := hB.frozen (off + i)
      simp [hf, setCell_eq_setRow w B (off + i) (z f) T (0, 0) _ hB.raw, hz.set f _ _ hlt]
    have ih := run_storeCells_fam hz rest (i + 1) (PrtW.ups f (off + i) v) (w.setRow B (z (PrtW.ups f (off + i) v))) (hB.row _) (by simp at hl ⊢; omega)
    simp only [List.map_cons, storeCells, Sem.run_bind, hst, Result.andThen_ok, ih, setRow_setRow]
    congr 2
    refine congrArg z (funext fun k => ?_)
    by_cases h1 : k = off + i
    · subst h1
      rw [put_out _ _ (by omega), ups_self]
      have := put_in f (k := off + i) (m := (v :: rest).length) (j := 0) (fun j => (v :: rest).getD j 0) (by simp)
      rw [Nat.add_zero] at this
      rw [this]
      rfl
    · by_cases h2 : off + i < k ∧ k < off + i + (v :: rest).length
      · obtain ⟨j, rfl⟩ : ∃ j, k = off + i + (j + 1) := ⟨k - (off + i) - 1, by omega⟩
        have hj : j < rest.length := by simp at h2; omega
        rw [show off + i + (j + 1) = off + (i + 1) + j by omega, put_in _ _ hj, show off + (i + 1) + j = off + i + (j + 1) by omega, put_in _ _ (by simp; omega)]
        rfl
      · rw [put_out _ _ (by simp at h2; omega), ups_ne _ h1, put_out _ _ (by simp at h2 ⊢; omega)]
/-- A part of such a block, stored. -/
theorem run_storeVar_fam (hz : Fam z n) (hB : Blk w B (z f) T) (h : off + m ≤ n) (hi : (P.info? ty).map (·.size) = some m) : (storeVar ty ⟨B, off, none⟩ (.agg (cz m g))).run P w = .ok () (w.setRow B (z (put f off m g))) := by
  have hl : (cz m g).toList = ((List.range m).map g).map (Value.int .i64) := by simp [cz]
  have := run_storeCells_fam (P := P) (off := off) hz ((List.range m).map g) 0 f w hB (by simp; omega)
  have e : z (put f (off + 0) ((List.range m).map g).length fun j => ((List.range m).map g).getD j 0) = z (put f off m g) := congrArg z (funext fun k => by
    rw [Nat.add_zero, List.length_map, List.length_range]
    unfold put
    by_cases hk : off ≤ k ∧ k < off + m
    · rw [if_pos hk, if_pos hk]
      simp [List.getD_eq_getElem?_getD, show k - off < m by omega]
    · rw [if_neg hk, if_neg hk])
  rw [e] at this
  cases hq : P.info? ty with
  | none => simp [hq] at hi
  | some i =>
    have hs : i.size = m := by simpa [hq] using hi
    rw [← hl] at this
    simp [storeVar, sizeOf, typeInfo, hq, Value.cells, hs, cz_size, this]
end
section
variable {P : Program} {ops : Array Oper} {rest : List Oper} {o : Oper} {a : Act} {w : World} {Q : Exit → Act → World → Prop}
theorem wp_store_fam {K : Act → World → Prop} {z : (Nat → Int) → Array Value} {n : Nat} (hz : Fam z n) (ty : TypeId) (x y : Operand) (ho : o.op = .store ty x y) (B off m : Nat) (g : Nat → Int) (hx : a.eval x = .pointer (some ⟨B, off, none⟩)) (hy : a.eval y = .agg (cz m g))
    {T : TypeId} {f : Nat → Int} (hB : Blk w B (z f) T) (hm : off + m ≤ n) (hi : (P.info? ty).map (·.size) = some m)
    (h : K (a.put o.dst undef) (w.setRow B (z (put f off m g)))) : o.wp P a w K Q := by
  unfold Oper.wp execOp
  simp only [ho, hx, hy, Instr.storeAt, Instr.sureAddr, Sem.run_bind, Sem.run_pure, Result.andThen_ok, run_storeVar_fam hz hB hm hi]
  exact h
/-- A struct or an array within such a block, stored whole. -/
theorem wpList_store_fam {z : (Nat → Int) → Array Value} {n : Nat} (hz : Fam z n) (hgd : o.guard = none) (ty : TypeId) (x y : Operand) (ho : o.op = .store ty x y) (B off m : Nat) (g : Nat → Int) (hx : a.eval x = .pointer (some ⟨B, off, none⟩)) (vs : Array Value) (hy : a.eval y = .agg vs) (hvs : vs = cz m g)
    {T : TypeId} {f : Nat → Int} (hB : Blk w B (z f) T) (hm : off + m ≤ n) (hi : (P.info? ty).map (·.size) = some m)
    (h : wpList P ops Q rest (a.put o.dst undef) (w.setRow B (z (put f off m g)))) : wpList P ops Q (o :: rest) a w :=
  wpList_plain hgd fun _ hK => wp_store_fam hz ty x y ho B off m g hx (hvs ▸ hy) hB hm hi (hK _ _ h)
end
end Go.Proofs.Ytmjokgddhainlaa.PrtW
