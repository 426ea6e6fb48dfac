/-
  A slice appended to a row of one's own that may be nil; a text as a new row of bytes. Nothing of the program. Condition: none.
-/
import Derived.Test.YteaidfocbhadjaaCells
import Derived.Lib.ConvBytes
import Derived.Laws.AppendOwn
namespace Go.Proofs.Yteaidfocbhadjaa.CelW
open Go.ChangeShapes Go.WideShapes Go.ChangeAt Go.RowKit
open PairW
theorem row_shape {w : World} {base n : Nat} {e : TypeId} {v : Value} {xs : List Value} (h : w.ownsRow base e 1 v n xs) : ∃ A cap, v = .slice A n cap := by
  rcases h.2 with ⟨h1, h2⟩ | ⟨g, cap, cur, rfl, _⟩
  · subst h2
    exact ⟨none, 0, h1⟩
  · exact ⟨_, cap, rfl⟩
/-- A row of one's own that has grown: what was there before it stays. -/
theorem row_after {w0 w w' : World} {base n : Nat} {e : TypeId} {v : Value} {xs : List Value} (q : Own w0 w) (h : w.ownsRow base e 1 v n xs) (hg : w.grownBy w' v.ownBlock) (hb : w0.heap.size ≤ base) : Own w0 w' := q.grown hg fun k hk => by
  have := (h.lt k hk).1
  omega
/-- Nothing appended to nil. -/
theorem run_append_nil_empty {P : Program} (w : World) (t ty e : TypeId) (i : TypeInfo) (ht : P.underlying t = some (.slice e)) (hi : P.info? e = some i) (A : Option Addr) (c : Nat) :
    (Builtin.append_ #[t, t] ty #[.slice none 0 0, .slice A 0 c]).run P w = .ok (.slice none 0 0) w := by
  cases A <;> simp [Builtin.append_, run_underlying ht, sizeOf, typeInfo, hi, Builtin.lenOf, Builtin.firstCells, loadCells, loadCellsFrom]
/-- A slice appended to a row of one's own, nil or not, at an operation that may be guarded. -/
theorem wpList_append_r {P : Program} {ops : Array Oper} {rest : List Oper} {o : Oper} {a : Act} {Q : Exit → Act → World → Prop} {w : World} (hw : Region.wanted o (yielded ops a.tmps) = true) (s x : Operand) (t : TypeId)
    (ho : o.op = .call { callee := .builtin .append, args := #[s, x], argTypes := #[t, t] })
    (base : Nat) (e : TypeId) (i : TypeInfo) (z : Value) (bytes : Nat) (ht : P.underlying t = some (.slice e)) (hi : P.info? e = some i) (hz : i.zero = some z) (hsize : i.size = 1) (hby : i.bytes = bytes) (hzs : z.cells.size = 1)
    (v0 : Value) (n : Nat) (xs : List Value) (hs : a.eval s = v0) (hown : w.ownsRow base e 1 v0 n xs)
    (v : Value) (news : List Value) (hx : a.eval x = v) (hv : Cel w v news) (h1 : ∀ u ∈ news, u.oneCell' = true)
    (k : Nat) (hk : n + news.length = k) (h63 : k ≤ maxLen) (hbytes : k * bytes ≤ 140737488355328) (hbase : base ≤ w.heap.size)
    (h : ∀ v' w', w'.ownsRow base e 1 v' k (xs ++ news) → (∀ w0, Own w0 w → w0.heap.size ≤ base → Own w0 w') → w.heap.size ≤ w'.heap.size → wpList P ops Q rest (a.put o.dst v') w') :
    wpList P ops Q (o :: rest) a w := by
  subst hk
  refine wpList_step fun K hK => ?_
  rw [if_pos hw]
  obtain ⟨A, c, rfl, _, _⟩ := cel_form hv
  obtain ⟨_, hA, hnews⟩ := cel_open hv
  cases A with
  | none =>
    have hm := hA rfl
    obtain rfl : news = [] := List.eq_nil_of_length_eq_zero hm
    have hrow : w.ownsRow base e 1 v0 n (xs ++ []) := by rw [List.append_nil]; exact hown
    have hfin := h v0 w hrow (fun w0 q _ => q) (Nat.le_refl _)
    rcases hown.2 with ⟨rfl, _⟩ | ⟨g, cap, cur, rfl, _, _, hn, _⟩
    · have hr := run_append_nil_empty (P := P) w t o.type e i ht hi none c
      unfold Oper.wp execOp
      simp only [ho, resolve, invoke, builtin, Sem.run_bind, Sem.run_pure, Result.andThen_ok, List.map_toArray, List.map_cons, List.map_nil, hs, hx, List.length_nil, hr]
      exact hK _ _ hfin
    · have hr := run_append_empty_geo (P := P) w t o.type e i ht hi g n cap none c hn
      unfold Oper.wp execOp
      simp only [ho, resolve, invoke, builtin, Sem.run_bind, Sem.run_pure, Result.andThen_ok, List.map_toArray, List.map_cons, List.map_nil, hs, hx, List.length_nil, hr]
      exact hK _ _ hfin
  | some ad =>
    refine wp_append_own w s x t ho base e i z 1 bytes ht hi hz hsize hby hzs (by omega) _ n xs hs hown ad news.length c news hx (by omega) (hnews ad rfl) h1 h63 hbytes hbase fun v' w' h2 h3 h4 => hK _ _ ?_
    exact h v' w' h2 (fun w0 q hb => row_after q hown h3 hb) h3.size
/-- A text's bytes as a new row. -/
theorem own_bytes (w : World) (e : TypeId) (s : ByteArray) : Own w (Lib.bytesWorld w e s) := by
  have h := (((Own.refl w).drew).alloc (.cells (Lib.bytesCells w e s) e))
  refine ⟨h.os, h.output, ?_, fun k hk => Lib.bytesWorld_at_old w e s k hk⟩
  rw [Lib.bytesWorld_size]
  omega
theorem cel_bytes (w : World) (e : TypeId) (s : ByteArray) (h : s.size ≤ maxLen) : Cel (Lib.bytesWorld w e s) (.slice (some ⟨w.heap.size, 0, none⟩) s.size (grownCap w s.size 0 e)) (cellsU s.data.toList) := by
  have hl : (cellsU s.data.toList).length = s.size := by rw [cellsU_len]; exact Array.length_toList
  refine ⟨_, _, by rw [hl], by rw [hl]; exact grownCap_ge w s.size 0 e, grownCap_le_maxLen w s.size 0 e h, fun _ => ⟨w.heap.size, 0, rfl, fun i u hu => ?_⟩⟩
  have hi : i < s.data.toList.length := by have := (List.getElem?_eq_some_iff.1 hu).1; rwa [cellsU_len] at this
  have hi2 : i < s.size := by rw [cellsU_len] at hl; omega
  rw [cellsU_at hi] at hu
  rw [Nat.zero_add, Lib.bytesWorld_cell w e s i hi2, ← hu, List.getD_eq_getElem?_getD, List.getElem?_eq_getElem hi]
  rfl
end Go.Proofs.Yteaidfocbhadjaa.CelW
