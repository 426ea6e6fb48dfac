/-
  Tables of rows that stay while other blocks turn. Nothing of the program. Condition: none.
-/
import Derived.Test.YtdgahlojdllkbaaTab
namespace Go.Proofs.Ytdgahlojdllkbaa.TabW
open Go.ChangeShapes Go.WideShapes Go.ChangeAt Go.RowKit
open PairW CelW
/-- The blocks from lo on, below the first world's end, are as they were. -/
def Mid (lo : Nat) (w w' : World) : Prop := w.heap.size ≤ w'.heap.size ∧ ∀ k, lo ≤ k → k < w.heap.size → w'.heap[k]? = w.heap[k]?
section
variable {lo : Nat} {w w0 w1 w2 w' : World} {base : Nat} {sT eI : TypeId} {v : Value} {rows : List (List Value)} {vs : List Value}
theorem Mid.refl (lo : Nat) (w : World) : Mid lo w w := ⟨Nat.le_refl _, fun _ _ _ => rfl⟩
theorem Mid.own (h : Mid lo w w1) (q : Own w1 w2) : Mid lo w w2 := ⟨Nat.le_trans h.1 q.size, fun k h1 h2 => (q.block k (Nat.lt_of_lt_of_le h2 h.1)).trans (h.2 k h1 h2)⟩
theorem Mid.put (h : Mid lo w w1) {p : Addr} (hp : p.block < lo) (u : Value) : Mid lo w (w1.setCell p u) := ⟨by simpa [World.setCell] using h.1, fun k h1 h2 => by rw [Below.heap_setCell _ _ _ _ (by omega)]; exact h.2 k h1 h2⟩
theorem Mid.grown {ob : Option Nat} (h : Mid lo w w1) (hg : w1.grownBy w2 ob) (hb : ∀ k, ob = some k → w.heap.size ≤ k) : Mid lo w w2 :=
  ⟨Nat.le_trans h.1 hg.size, fun k h1 h2 => (hg.block k (Nat.lt_of_lt_of_le h2 h.1) fun e => by have := hb k e.symm; omega).trans (h.2 k h1 h2)⟩
theorem TabV.mid (h : TabV w base sT eI v rows vs) (m : Mid base w w1) : TabV w1 base sT eI v rows vs :=
  ⟨h.len, row_stays h.out fun k hk => m.2 k (h.out.lt k hk).1 (h.out.lt k hk).2, fun i xs u hx hu => row_stays (h.inn i xs u hx hu) fun k hk => m.2 k ((h.inn i xs u hx hu).lt k hk).1 ((h.inn i xs u hx hu).lt k hk).2, h.ap⟩
theorem TabV.cels (h : TabV w base sT eI v rows vs) : Cels w v rows := ⟨vs, h.len, cel_of_row h.out, fun i xs u hx hu => cel_of_row (h.inn i xs u hx hu)⟩
/-- One row more, when other blocks have turned meanwhile. -/
theorem TabV.moreM {b1 : Nat} {v' u : Value} {ys : List Value} (ne : eI ≠ sT) (h : TabV w0 base sT eI v rows vs) (m : Mid base w0 w) (hu : w.ownsRow b1 eI 1 u ys.length ys) (hb : w0.heap.size ≤ b1) (hbase : base ≤ w0.heap.size) (hg : w.grownBy w' v.ownBlock)
    (hr : w'.ownsRow base sT 1 v' (rows.length + 1) (vs ++ [u])) : TabV w' base sT eI v' (rows ++ [ys]) (vs ++ [u]) := by
  have hw := h.mid m
  refine ⟨by rw [List.length_append, List.length_append, h.len]; rfl, by rw [List.length_append]; exact hr, fun i xs x hxs hx => ?_, fun i j x y hij hx hy => ?_⟩
  · by_cases e : i < rows.length
    · rw [List.getElem?_append_left e] at hxs
      rw [List.getElem?_append_left (by rw [h.len]; exact e)] at hx
      have hi := hw.inn i xs x hxs hx
      exact hi.kept hg (rows_apart hi hw.out ne)
    · have hlt := (List.getElem?_eq_some_iff.1 hxs).1
      rw [List.length_append] at hlt
      have hlt : i < rows.length + 1 := hlt
      obtain rfl : i = rows.length := by omega
      rw [List.getElem?_append_right (by omega), Nat.sub_self] at hxs
      rw [List.getElem?_append_right (by rw [h.len]; omega), h.len, Nat.sub_self] at hx
      have hxs : some ys = some xs := hxs
      have hx : some u = some x := hx
      injection hxs with hxs
      injection hx with hx
      subst hxs
      subst hx
      have hu' := row_down hu (Nat.le_trans hbase hb)
      exact hu'.kept hg (rows_apart hu' hw.out ne)
  · have hjl := (List.getElem?_eq_some_iff.1 hy).1
    rw [List.length_append, h.len] at hjl
    have hjl : j < rows.length + 1 := hjl
    rw [List.getElem?_append_left (by rw [h.len]; omega)] at hx
    by_cases e : j < rows.length
    · rw [List.getElem?_append_left (by rw [h.len]; exact e)] at hy
      exact h.ap i j x y hij hx hy
    · obtain rfl : j = rows.length := by omega
      rw [List.getElem?_append_right (by rw [h.len]; omega), h.len, Nat.sub_self] at hy
      have hy : some u = some y := hy
      injection hy with hy
      subst hy
      cases hb2 : x.ownBlock with
      | none => exact .inl rfl
      | some k =>
        refine .inr fun e2 => ?_
        have h1 := (h.inn i _ x (List.getElem?_eq_getElem (show i < rows.length by omega)) hx).lt k hb2
        have h2 := hu.lt k e2.symm
        omega
end
end Go.Proofs.Ytdgahlojdllkbaa.TabW
