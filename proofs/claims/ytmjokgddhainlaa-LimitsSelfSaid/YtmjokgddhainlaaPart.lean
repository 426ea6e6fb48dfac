/-
  Blocks of integers that are known by a function, and parts of blocks loaded and stored: what walks over structs with arrays share. Nothing of the program. Condition: none.
-/
import Derived.Test.YtmjokgddhainlaaBlk
namespace Go.Proofs.Ytmjokgddhainlaa.PrtW
open Go.ChangeShapes Go.WideShapes Go.ChangeAt Go.RowKit
open PairW BlkW
/-- The cells f 0 .. f (n - 1). -/
def cz (n : Nat) (f : Nat → Int) : Array Value := ((List.range n).map fun i => Value.int .i64 (f i)).toArray
theorem cz_size (n : Nat) (f : Nat → Int) : (cz n f).size = n := by simp [cz]
theorem cz_at {n i : Nat} (h : i < n) (f : Nat → Int) : (cz n f)[i]? = some (.int .i64 (f i)) := by simp [cz, h]
theorem cz_congr {n : Nat} {f g : Nat → Int} (h : ∀ i, i < n → f i = g i) : cz n f = cz n g := by
  unfold cz
  congr 1
  exact List.map_congr_left fun i hi => by rw [h i (List.mem_range.1 hi)]
theorem cz_ext {n : Nat} {f : Nat → Int} {cs : Array Value} (hs : cs.size = n) (h : ∀ i, i < n → cs[i]? = some (.int .i64 (f i))) : cs = cz n f := by
  refine Array.ext_getElem? fun i => ?_
  by_cases hi : i < n
  · rw [h i hi, cz_at hi]
  · rw [Array.getElem?_eq_none (by omega), Array.getElem?_eq_none (by rw [cz_size]; omega)]
theorem cz_extract {n m off : Nat} (h : off + m ≤ n) (f : Nat → Int) : (cz n f).extract off (off + m) = cz m (fun j => f (off + j)) := by
  refine cz_ext ?_ fun i hi => ?_
  · rw [Array.size_extract, cz_size]; omega
  · rw [Array.getElem?_extract, if_pos (by rw [cz_size]; omega), cz_at (by omega)]
theorem cz_one (n : Nat) (f : Nat → Int) : (cz n f).all (·.oneCell') = true := by
  rw [Array.all_eq_true_iff_forall_mem]
  intro v hv
  simp [cz] at hv
  obtain ⟨i, _, rfl⟩ := hv
  rfl
/-- f with the value v at k. -/
def ups (f : Nat → Int) (k : Nat) (v : Int) : Nat → Int := fun i => if i = k then v else f i
theorem ups_self (f : Nat → Int) (k : Nat) (v : Int) : ups f k v k = v := if_pos rfl
theorem ups_ne (f : Nat → Int) {i k : Nat} (h : i ≠ k) (v : Int) : ups f k v i = f i := if_neg h
theorem cz_set {n k : Nat} (h : k < n) (f : Nat → Int) (v : Int) : (cz n f).setIfInBounds k (.int .i64 v) = cz n (ups f k v) := by
  refine cz_ext ?_ fun i hi => ?_
  · rw [Array.size_setIfInBounds, cz_size]
  · rw [Array.getElem?_setIfInBounds, cz_size]
    by_cases e : k = i
    · subst e; rw [if_pos rfl, if_pos h, ups_self]
    · rw [if_neg e, cz_at hi, ups_ne f (Ne.symm e)]
/-- f with m values g from k on. -/
def put (f : Nat → Int) (k m : Nat) (g : Nat → Int) : Nat → Int := fun i => if k ≤ i ∧ i < k + m then g (i - k) else f i
theorem put_in (f : Nat → Int) {k m j : Nat} (g : Nat → Int) (h : j < m) : put f k m g (k + j) = g j := by
  unfold put; rw [if_pos ⟨by omega, by omega⟩, show k + j - k = j by omega]
theorem put_out (f : Nat → Int) {k m i : Nat} (g : Nat → Int) (h : i < k ∨ k + m ≤ i) : put f k m g i = f i := by
  unfold put; rw [if_neg (by omega)]
theorem add_at (B off j : Nat) : (⟨B, off, none⟩ : Addr).add j = ⟨B, off + j, none⟩ := by unfold Addr.add; split <;> simp_all
section
variable {P : Program} {w w' : World} {B off n m : Nat} {f g : Nat → Int} {T ty : TypeId} {d : TypeDesc}
theorem blk_num {w : World} {B n : Nat} {f : Nat → Int} {T : TypeId} (h : Blk w B (cz n f) T) {i : Nat} (hi : i < n) : w.cell? ⟨B, i, none⟩ = some (.int .i64 (f i)) := by rw [h.cell i, cz_at hi]
theorem blk_ups {w : World} {B n : Nat} {f : Nat → Int} {T : TypeId} (h : Blk w B (cz n f) T) {k : Nat} (hk : k < n) (v : Int) : Blk (w.setCell ⟨B, k, none⟩ (.int .i64 v)) B (cz n (PrtW.ups f k v)) T := by
  have := h.put k (.int .i64 v)
  rw [cz_set hk] at this
  exact this
theorem blk_to {w : World} {B n : Nat} {f g : Nat → Int} {T : TypeId} (h : Blk w B (cz n f) T) (he : ∀ i, i < n → f i = g i) : Blk w B (cz n g) T := by rw [← cz_congr he]; exact h
/-- A part of a block, loaded. -/
theorem run_loadVar_part {cs vs : Array Value} {fr : Nat × Nat} (hg : w.heap[B]? = some (.cells cs T fr)) (hv : ∀ (j : Nat) (v : Value), vs[j]? = some v → cs[off + j]? = some v)
    (hu : P.underlying ty = some d) (hd : (match d with | .struct _ | .array _ _ => true | _ => false) = true) (hi : (P.info? ty).map (·.size) = some vs.size) :
    (loadVar ty ⟨B, off, none⟩).run P w = .ok (.agg vs) w := by
  have hl : (loadCells ⟨B, off, none⟩ vs.toList.length).run P w = .ok vs.toList.toArray w :=
    run_loadCells_list (P := P) w ⟨B, off, none⟩ vs.toList (fun j v h => by
      rw [add_at, cell_of_row w B (off + j) cs T fr hg]
      exact hv j v (by simpa using h))
  cases hq : P.info? ty with
  | none => simp [hq] at hi
  | some i =>
    have hs : i.size = vs.size := by simpa [hq] using hi
    have hagg : (isAgg ty).run P w = .ok true w := by
      unfold isAgg
      rw [Sem.run_bind, run_underlying hu w]
      cases d <;> simp_all
    simp only [Array.length_toList, Array.toArray_toList] at hl
    simp [loadVar, Sem.run_bind, hagg, sizeOf, typeInfo, hq, hs, hl]
theorem part_num (h : off + m ≤ n) (f : Nat → Int) : ∀ (j : Nat) (v : Value), (cz m (fun j => f (off + j)))[j]? = some v → (cz n f)[off + j]? = some v := by
  intro j v hj
  have hlt : j < m := by
    have := (Array.getElem?_eq_some_iff.1 hj).1
    rwa [cz_size] at this
  rw [cz_at hlt] at hj
  rw [cz_at (by omega)]
  exact hj
theorem run_storeCells_num {n : Nat} : ∀ (gs : List Int) (i : Nat) (f : Nat → Int) (w : World), Blk w B (cz n f) T → off + i + gs.length ≤ n →
    (storeCells ⟨B, off, none⟩ (gs.map (Value.int .i64)) i).run P w = .ok () (w.setRow B (cz n (put f (off + i) gs.length (fun j => gs.getD j 0))))
  | [], i, f, w, hB, _ => by
    have e : cz n (put f (off + i) ([] : List Int).length fun j => ([] : List Int).getD j 0) = cz n f := cz_congr fun k _ => put_out f _ (by simp; omega)
    simp only [List.map_nil, storeCells]
    rw [e]
    have hlt := hB.lt
    have hv : w.heap[B] = .cells (cz n f) T (0, 0) := (Array.getElem?_eq_some_iff.1 hB.raw).2
    show Result.ok () w = _
    congr 1
    unfold World.setRow
    cases w with
    | mk heap tape drawn os output =>
      congr 1
      apply Array.ext
      · simp
      · intro k h1 h2
        simp only [Array.getElem_modify]
        split
        · rename_i hk; subst hk; simp at hv; simp [hv]
        · rfl
  | v :: rest, i, f, w, hB, hl => by
    have hlt : off + i < n := by simp at hl; omega
    have hst : (store ((⟨B, off, none⟩ : Addr).add i) (Value.int .i64 v)).run P w = .ok () (w.setRow B (cz n (PrtW.ups f (off + i) v))) := by
      rw [add_at, run_store P w _ _ _ rfl, blk_num hB hlt]
      have hf := hB.frozen (off + i)
      simp [hf, setCell_eq_setRow w B (off + i) (cz n f) T (0, 0) _ hB.raw, cz_set hlt]
    have ih := run_storeCells_num rest (i + 1) (PrtW.ups f (off + i) v) (w.setRow B (cz n (PrtW.ups f (off + i) v))) (hB.row _) (by simp at hl ⊢; omega)
    simp only [List.map_cons, storeCells, Sem.run_bind, hst, Result.andThen_ok, ih, setRow_setRow]
    congr 2
    refine cz_congr fun k _ => ?_
    by_cases h1 : k = off + i
    · subst h1
      rw [put_out _ _ (by omega), ups_self]
      have := put_in f (k := off + i) (m := (v :: rest).length) (j := 0) (fun j => (v :: rest).getD j 0) (by simp)
      rw [Nat.add_zero] at this
      rw [this]
      rfl
    · by_cases h2 : off + i < k ∧ k < off + i + (v :: rest).length
      · obtain ⟨j, rfl⟩ : ∃ j, k = off + i + (j + 1) := ⟨k - (off + i) - 1, by omega⟩
        have hj : j < rest.length := by simp at h2; omega
        rw [show off + i + (j + 1) = off + (i + 1) + j by omega, put_in _ _ hj, show off + (i + 1) + j = off + i + (j + 1) by omega, put_in _ _ (by simp; omega)]
        rfl
      · rw [put_out _ _ (by simp at h2; omega), ups_ne _ h1, put_out _ _ (by simp at h2 ⊢; omega)]
/-- A part of a block, stored. -/
theorem run_storeVar_part (hB : Blk w B (cz n f) T) (h : off + m ≤ n) (hi : (P.info? ty).map (·.size) = some m) : (storeVar ty ⟨B, off, none⟩ (.agg (cz m g))).run P w = .ok () (w.setRow B (cz n (put f off m g))) := by
  have hl : (cz m g).toList = ((List.range m).map g).map (Value.int .i64) := by simp [cz]
  have := run_storeCells_num (P := P) (off := off) ((List.range m).map g) 0 f w hB (by simp; omega)
  have e : cz n (put f (off + 0) ((List.range m).map g).length fun j => ((List.range m).map g).getD j 0) = cz n (put f off m g) := cz_congr fun k _ => by
    rw [Nat.add_zero, List.length_map, List.length_range]
    unfold put
    by_cases hk : off ≤ k ∧ k < off + m
    · rw [if_pos hk, if_pos hk]
      simp [List.getD_eq_getElem?_getD, show k - off < m by omega]
    · rw [if_neg hk, if_neg hk]
  rw [e] at this
  cases hq : P.info? ty with
  | none => simp [hq] at hi
  | some i =>
    have hs : i.size = m := by simpa [hq] using hi
    rw [← hl] at this
    simp [storeVar, sizeOf, typeInfo, hq, Value.cells, hs, cz_size, this]
end
section
variable {P : Program} {ops : Array Oper} {rest : List Oper} {o : Oper} {a : Act} {w : World} {Q : Exit → Act → World → Prop}
theorem wp_load_part {K : Act → World → Prop} (ty : TypeId) (x : Operand) (ho : o.op = .load ty x) (B off : Nat) (hx : a.eval x = .pointer (some ⟨B, off, none⟩)) {T : TypeId} {n m : Nat} {f : Nat → Int} (hB : Blk w B (cz n f) T) (hm : off + m ≤ n)
    (d : TypeDesc) (hu : P.underlying ty = some d) (hd : (match d with | .struct _ | .array _ _ => true | _ => false) = true) (hi : (P.info? ty).map (·.size) = some m)
    (h : K (a.put o.dst (.agg (cz m (fun j => f (off + j))))) w) : o.wp P a w K Q := by
  unfold Oper.wp execOp
  simp only [ho, hx, Instr.loadAt, Instr.sureAddr, Sem.run_bind, Sem.run_pure, Result.andThen_ok, run_loadVar_part hB.raw (part_num hm f) hu hd (by rw [cz_size]; exact hi)]
  exact h
/-- A struct or an array within a block, loaded whole. -/
theorem wpList_load_part (hgd : o.guard = none) (ty : TypeId) (x : Operand) (ho : o.op = .load ty x) (B off : Nat) (hx : a.eval x = .pointer (some ⟨B, off, none⟩)) {T : TypeId} {n : Nat} (m : Nat) {f : Nat → Int} (hB : Blk w B (cz n f) T) (hm : off + m ≤ n) (vs : Array Value) (hvs : vs = cz m (fun j => f (off + j)))
    (d : TypeDesc) (hu : P.underlying ty = some d) (hd : (match d with | .struct _ | .array _ _ => true | _ => false) = true) (hi : (P.info? ty).map (·.size) = some m)
    (h : wpList P ops Q rest (a.put o.dst (.agg vs)) w) : wpList P ops Q (o :: rest) a w :=
  wpList_plain hgd fun _ hK => wp_load_part ty x ho B off hx hB hm d hu hd hi (hK _ _ (hvs ▸ h))
/-- The same behind a guard that says yes. -/
theorem wpList_load_part_g (hw : Region.wanted o (yielded ops a.tmps) = true) (ty : TypeId) (x : Operand) (ho : o.op = .load ty x) (B off : Nat) (hx : a.eval x = .pointer (some ⟨B, off, none⟩)) {T : TypeId} {n : Nat} (m : Nat) {f : Nat → Int} (hB : Blk w B (cz n f) T) (hm : off + m ≤ n) (vs : Array Value) (hvs : vs = cz m (fun j => f (off + j)))
    (d : TypeDesc) (hu : P.underlying ty = some d) (hd : (match d with | .struct _ | .array _ _ => true | _ => false) = true) (hi : (P.info? ty).map (·.size) = some m)
    (h : wpList P ops Q rest (a.put o.dst (.agg vs)) w) : wpList P ops Q (o :: rest) a w :=
  wpList_step fun _ hK => by rw [if_pos hw]; exact wp_load_part ty x ho B off hx hB hm d hu hd hi (hK _ _ (hvs ▸ h))
theorem wp_store_part {K : Act → World → Prop} (ty : TypeId) (x y : Operand) (ho : o.op = .store ty x y) (B off m : Nat) (g : Nat → Int) (hx : a.eval x = .pointer (some ⟨B, off, none⟩)) (hy : a.eval y = .agg (cz m g))
    {T : TypeId} {n : Nat} {f : Nat → Int} (hB : Blk w B (cz n f) T) (hm : off + m ≤ n) (hi : (P.info? ty).map (·.size) = some m)
    (h : K (a.put o.dst undef) (w.setRow B (cz n (put f off m g)))) : o.wp P a w K Q := by
  unfold Oper.wp execOp
  simp only [ho, hx, hy, Instr.storeAt, Instr.sureAddr, Sem.run_bind, Sem.run_pure, Result.andThen_ok, run_storeVar_part hB hm hi]
  exact h
/-- A struct or an array within a block, stored whole. -/
theorem wpList_store_part (hgd : o.guard = none) (ty : TypeId) (x y : Operand) (ho : o.op = .store ty x y) (B off m : Nat) (g : Nat → Int) (hx : a.eval x = .pointer (some ⟨B, off, none⟩)) (vs : Array Value) (hy : a.eval y = .agg vs) (hvs : vs = cz m g)
    {T : TypeId} {n : Nat} {f : Nat → Int} (hB : Blk w B (cz n f) T) (hm : off + m ≤ n) (hi : (P.info? ty).map (·.size) = some m)
    (h : wpList P ops Q rest (a.put o.dst undef) (w.setRow B (cz n (put f off m g)))) : wpList P ops Q (o :: rest) a w :=
  wpList_plain hgd fun _ hK => wp_store_part ty x y ho B off m g hx (hvs ▸ hy) hB hm hi (hK _ _ h)
end
/-- A struct built of its fields' values. -/
theorem wpList_build_as {P : Program} {ops : Array Oper} {rest : List Oper} {o : Oper} {a : Act} {w : World} {Q : Exit → Act → World → Prop} (hg : o.guard = none) (t : TypeId) (parts : List (Nat × Operand)) (ho : o.op = .build t parts.toArray)
    (ps : List (Nat × Value)) (hp : (parts.map fun (i, x) => (i, a.eval x)) = ps) (vs : Array Value) (hf : P.built t ps = some vs) (h : wpList P ops Q rest (a.put o.dst (.agg vs)) w) : wpList P ops Q (o :: rest) a w := by
  have e : (parts.toArray.map fun (i, x) => (i, a.eval x)).toList = ps := by rw [Array.toList_map]; exact hp
  refine wpList_build hg t parts.toArray ho (by rw [e, hf]; rfl) ?_
  rw [e, hf]
  exact h
def l3 (x y z : Int) : Nat → Int := fun j => if j = 0 then x else if j = 1 then y else z
def l2 (x y : Int) : Nat → Int := fun j => if j = 0 then x else y
theorem l3_cz (x y z : Int) : (#[.int .i64 x, .int .i64 y, .int .i64 z] : Array Value) = cz 3 (l3 x y z) := rfl
theorem l2_cz (x y : Int) : (#[.int .i64 x, .int .i64 y] : Array Value) = cz 2 (l2 x y) := rfl
theorem put_next {f g : Nat → Int} {n : Nat} {x y z : Int} (h : ∀ j, j < n → f j = g j) (h0 : g n = x) (h1 : g (n + 1) = y) (h2 : g (n + 2) = z) : ∀ j, j < n + 3 → put f n 3 (l3 x y z) j = g j := by
  intro j hj
  unfold put
  by_cases e : n ≤ j ∧ j < n + 3
  · rw [if_pos e]
    have t : j = n ∨ j = n + 1 ∨ j = n + 2 := by omega
    unfold l3
    rcases t with rfl | rfl | rfl
    · rw [if_pos (by omega), h0]
    · rw [if_neg (by omega), if_pos (by omega), h1]
    · rw [if_neg (by omega), if_neg (by omega), h2]
  · rw [if_neg e]
    exact h j (by omega)
/-- One element of an array by value that is a struct itself. -/
theorem index_num {P : Program} {t e : TypeId} {n m : Nat} (hu : P.underlying t = some (.array n e)) (hs : ∀ w, (sizeOf e).run P w = .ok m w) (ha : ∀ w, (isAgg e).run P w = .ok true w) {k : Nat} (hk : k < n) (f : Nat → Int) (w : World) :
    (Instr.index t (.agg (cz (n * m) f)) (.int .i64 (k : Int))).run P w = .ok (.agg (cz m (fun j => f (k * m + j)))) w := by
  have h1 : (0 : Int) ≤ k ∧ (k : Int) < n := by omega
  have h2 : k * m + m ≤ n * m := by
    have : k * m + m = (k + 1) * m := by rw [Nat.add_mul, Nat.one_mul]
    rw [this]
    exact Nat.mul_le_mul_right m (by omega)
  simp [Instr.index, run_underlying hu, asIntOf, h1, part, go_sem, hs, ha, cz_extract h2]
  omega
end Go.Proofs.Ytmjokgddhainlaa.PrtW
