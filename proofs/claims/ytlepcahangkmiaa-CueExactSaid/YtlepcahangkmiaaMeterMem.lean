/-
  Parts of a slice of pairs; one integer appended to a row of one's own. Nothing of the program. Condition: none.
-/
import Derived.Test.YtlepcahangkmiaaMeterPlain
import Derived.Test.YtlepcahangkmiaaLists
import Derived.Test.YtlepcahangkmiaaAppendRow
namespace Go.Proofs.Ytlepcahangkmiaa.MetW
open Go.ChangeShapes Go.WideShapes Go.ChangeAt Go.RowKit
open PairW CelW RowA MetP
theorem pts_take {w : World} {A : Option Addr} {n cap : Nat} {l : List Pt} (h : Pts w (.slice A n cap) l) {k : Nat} (hk : k ≤ l.length) : Pts w (.slice A k cap) (l.take k) := by
  obtain ⟨A', cap', hv, h1, h2, h3⟩ := h
  injection hv with e1 e2 e3
  subst e1
  subst e3
  have hl : (l.take k).length = k := by rw [List.length_take]; omega
  refine ⟨A, cap, by rw [hl], by omega, h2, fun h0 => ?_⟩
  obtain ⟨b, off, h4, h5⟩ := h3 (by omega)
  refine ⟨b, off, h4, fun i hi => ?_⟩
  rw [hl] at hi
  have e : at' (l.take k) i = at' l i := by unfold at'; rw [List.getD_eq_getElem?_getD, List.getElem?_take_of_lt hi, ← List.getD_eq_getElem?_getD]
  rw [e]
  exact h5 i (by omega)
theorem pts_cut {w : World} {g off n cap : Nat} {l : List Pt} (h : Pts w (.slice (some ⟨g, off, none⟩) n cap) l) {a b m : Nat} (hab : a < b) (hb : b ≤ l.length) (hm : m = b - a) : Pts w (.slice (some ⟨g, off + a * 2, none⟩) m (cap - a)) ((l.take b).drop a) := by
  subst hm
  obtain ⟨A', cap', hv, h1, h2, h3⟩ := h
  injection hv with e1 e2 e3
  subst e1
  subst e3
  have hl := cut_len (l := l) (a := a) hb
  refine ⟨_, cap - a, by rw [hl], by omega, by omega, fun h0 => ⟨g, off + a * 2, rfl, fun i hi => ?_⟩⟩
  obtain ⟨g', off', h4, h5⟩ := h3 (by omega)
  injection h4 with h4
  injection h4 with h4 h6
  subst h4
  subst h6
  rw [hl] at hi
  rw [cut_at hi]
  have := h5 (a + i) (by omega)
  rw [show off + a * 2 + i * 2 = off + (a + i) * 2 by omega]
  exact this
/-- What an append to a row of one's own leaves as it was. -/
structure Ad (base : Nat) (v v' : Value) (w w' : World) : Prop where
  own : ∀ w0, Own w0 w → w0.heap.size ≤ base → Own w0 w'
  cell : ∀ (p : Addr) u, v.ownBlock ≠ some p.block → w.cell? p = some u → w'.cell? p = some u
  off : ∀ b, b < w.heap.size → v.ownBlock ≠ some b → v'.ownBlock ≠ some b
/-- One integer appended to a row of one's own. -/
theorem wpList_add_int {P : Program} {ops : Array Oper} {rest : List Oper} {o : Oper} {a : Act} {Q : Exit → Act → World → Prop} (w : World) (hgd : o.guard = none) (s x : Operand) (t : TypeId)
    (ho : o.op = .call { callee := .builtin .append, args := #[s, x], argTypes := #[t, t] }) (base : Nat) (e : TypeId) (i : TypeInfo) (z : Value) (ht : P.underlying t = some (.slice e)) (hi : P.info? e = some i) (hz : i.zero = some z)
    (hsize : i.size = 1) (hby : i.bytes = 8) (hzs : z.cells.size = 1) (v : Value) (n : Nat) (ou : List Int) (hs : a.eval s = v) (hown : w.ownsRow base e 1 v n (cellsI ou)) (hn : n ≤ 1000000)
    (y : Int) (hx : a.eval x = .slice (some ⟨w.heap.size, 0, none⟩) 1 1) (hb : base ≤ w.heap.size)
    (h : ∀ v' w', w'.ownsRow base e 1 v' (n + 1) (cellsI (ou ++ [y])) → Ad base v v' w w' → wpList P ops Q rest (a.put o.dst v') w') :
    wpList P ops Q (o :: rest) a (w.alloc (.cells #[.int .i64 y] e)) := by
  have q0 : Own w (w.alloc (.cells #[.int .i64 y] e)) := (Own.refl w).alloc _
  refine wpList_append_row_any _ hgd s x t ho base e i z 1 8 ht hi hz hsize hby hzs (by decide) v n (cellsI ou) hs (row_own hown q0) _ 1 1 [.int .i64 y] hx rfl (fun _ => ⟨_, rfl, ?_⟩) (by intro u hu; simp at hu; rw [hu]; rfl) (by unfold maxLen; omega) (by omega) (by simp; omega) ?_
  · intro j u hu
    match j, hu with
    | 0, hu => simp at hu; subst hu; simp [Addr.add]
  · intro v' w' h1 h2 h3
    refine h v' w' (by rw [cellsI_app]; exact h1) ⟨fun w0 h4 h5 => (h4.trans q0).grown h2 fun k hk => ?_, fun p u h4 h5 => ?_, fun b h4 h5 => ?_⟩
    · have := (hown.lt k hk).1
      omega
    · exact h2.cell (q0.cell h5) fun e => h4 e.symm
    · rcases h3 with h3 | h3
      · rw [h3]; exact h5
      · rw [h3]
        intro e
        injection e with e
        simp at e
        omega
end Go.Proofs.Ytlepcahangkmiaa.MetW
