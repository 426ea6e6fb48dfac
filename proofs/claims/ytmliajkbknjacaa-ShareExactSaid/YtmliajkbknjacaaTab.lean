/-
  Slices of slices in memory: read, and as rows of the call's own that grow one by one. Nothing of the program. Condition: none.
-/
import Derived.Test.YtmliajkbknjacaaLists
import Derived.Test.YtmliajkbknjacaaBytes
import Derived.OneCell
namespace Go.Proofs.Ytmliajkbknjacaa.TabW
open Go.ChangeShapes Go.WideShapes Go.ChangeAt Go.RowKit
open PairW CelW
/-- The slice v holds slices that hold these cells, wherever they lie. -/
def Cels (w : World) (v : Value) (rows : List (List Value)) : Prop := ∃ vs : List Value, vs.length = rows.length ∧ Cel w v vs ∧ ∀ (i : Nat) xs u, rows[i]? = some xs → vs[i]? = some u → Cel w u xs
theorem Cels.own {w w' : World} {v : Value} {rows : List (List Value)} (h : Cels w v rows) (q : Own w w') : Cels w' v rows := by
  obtain ⟨vs, h1, h2, h3⟩ := h
  exact ⟨vs, h1, h2.own q, fun i xs u hx hu => (h3 i xs u hx hu).own q⟩
theorem cels_open {w : World} {v : Value} {rows : List (List Value)} (h : Cels w v rows) : ∃ A cap, v = .slice A rows.length cap ∧ rows.length ≤ cap ∧ cap ≤ maxLen ∧ (0 < rows.length → ∃ g off : Nat, A = some ⟨g, off, none⟩ ∧ ∀ (i : Nat) xs, rows[i]? = some xs → ∃ u, w.cell? ⟨g, off + i, none⟩ = some u ∧ Cel w u xs) := by
  obtain ⟨vs, h1, h2, h3⟩ := h
  obtain ⟨A, cap, k1, k2, k3, k4⟩ := h2
  rw [h1] at k1 k2 k4
  refine ⟨A, cap, k1, k2, k3, fun h0 => ?_⟩
  obtain ⟨g, off, k5, k6⟩ := k4 h0
  refine ⟨g, off, k5, fun i xs hx => ?_⟩
  have hv : i < vs.length := by have := (List.getElem?_eq_some_iff.1 hx).1; omega
  exact ⟨vs[i], k6 i _ (List.getElem?_eq_getElem hv), h3 i xs _ hx (List.getElem?_eq_getElem hv)⟩
/-- The slice v is a row of the call's own of rows of its own, each in a block of its own; vs are the slices that it holds. -/
structure TabV (w : World) (base : Nat) (sT eI : TypeId) (v : Value) (rows : List (List Value)) (vs : List Value) : Prop where
  len : vs.length = rows.length
  out : w.ownsRow base sT 1 v rows.length vs
  inn : ∀ (i : Nat) xs u, rows[i]? = some xs → vs[i]? = some u → w.ownsRow base eI 1 u xs.length xs
  ap : ∀ (i j : Nat) u x, i < j → vs[i]? = some u → vs[j]? = some x → u.ownBlock = none ∨ u.ownBlock ≠ x.ownBlock
def Tab (w : World) (base : Nat) (sT eI : TypeId) (v : Value) (rows : List (List Value)) : Prop := ∃ vs, TabV w base sT eI v rows vs
section
variable {w w' : World} {base : Nat} {sT eI : TypeId} {v : Value} {rows : List (List Value)} {vs : List Value}
theorem TabV.own (h : TabV w base sT eI v rows vs) (q : Own w w') : TabV w' base sT eI v rows vs :=
  ⟨h.len, row_own h.out q, fun i xs u hx hu => row_own (h.inn i xs u hx hu) q, h.ap⟩
theorem Tab.own (h : Tab w base sT eI v rows) (q : Own w w') : Tab w' base sT eI v rows := by
  obtain ⟨vs, h⟩ := h
  exact ⟨vs, h.own q⟩
theorem Tab.cels (h : Tab w base sT eI v rows) : Cels w v rows := by
  obtain ⟨vs, h⟩ := h
  exact ⟨vs, h.len, cel_of_row h.out, fun i xs u hx hu => cel_of_row (h.inn i xs u hx hu)⟩
theorem Tab.form (h : Tab w base sT eI v rows) : ∃ A c, v = .slice A rows.length c := by
  obtain ⟨vs, h⟩ := h
  exact row_shape h.out
theorem tab_nil (w : World) (base : Nat) (sT eI : TypeId) : TabV w base sT eI (.slice none 0 0) [] [] := ⟨rfl, World.ownsRow_nil _ _ _ _, fun i xs u h => by simp at h, fun i j u x _ h => by simp at h⟩
theorem tab_made {n : Nat} (h : w.ownsRow base sT 1 v n (List.replicate n (.slice none 0 0))) : TabV w base sT eI v (List.replicate n []) (List.replicate n (.slice none 0 0)) := by
  refine ⟨by rw [List.length_replicate, List.length_replicate], by rw [List.length_replicate]; exact h, fun i xs u hx hu => ?_, fun i j u x _ hu _ => .inl ?_⟩
  · rw [List.getElem?_replicate] at hx hu
    split at hx
    · rename_i hi
      rw [if_pos hi] at hu
      injection hx with hx
      injection hu with hu
      subst hx
      subst hu
      exact World.ownsRow_nil _ _ _ _
    · cases hx
  · rw [List.getElem?_replicate] at hu
    split at hu
    · injection hu with hu
      subst hu
      rfl
    · cases hu
theorem TabV.down {b : Nat} (h : TabV w base sT eI v rows vs) (hb : b ≤ base) : TabV w b sT eI v rows vs := ⟨h.len, row_down h.out hb, fun i xs u hx hu => row_down (h.inn i xs u hx hu) hb, h.ap⟩
theorem Tab.down {b : Nat} (h : Tab w base sT eI v rows) (hb : b ≤ base) : Tab w b sT eI v rows := by
  obtain ⟨vs, h⟩ := h
  exact ⟨vs, h.down hb⟩
/-- A row stays where its block does. -/
theorem row_stays {w w4 : World} {base n : Nat} {e : TypeId} {x : Value} {xs : List Value} (h : w.ownsRow base e 1 x n xs) (hb : ∀ k, x.ownBlock = some k → w4.heap[k]? = w.heap[k]?) : w4.ownsRow base e 1 x n xs := by
  refine ⟨h.1, h.2.imp id ?_⟩
  rintro ⟨g, cap, cur, rfl, h2, h3, h4⟩
  exact ⟨g, cap, cur, rfl, h2, (hb g rfl).trans h3, h4⟩
/-- The i-th row. -/
theorem TabV.row {g n c i : Nat} (h : TabV w base sT eI (.slice (some ⟨g, 0, none⟩) n c) rows vs) (hi : i < rows.length) : ∃ u xs, rows[i]? = some xs ∧ vs[i]? = some u ∧ w.cell? ⟨g, i, none⟩ = some u ∧ w.frozen? ⟨g, i, none⟩ = false ∧ w.ownsRow base eI 1 u xs.length xs := by
  have hv : i < vs.length := by rw [h.len]; exact hi
  have hn : n = rows.length := by
    obtain ⟨A, cap, e⟩ := row_shape h.out
    injection e with _ e
  have ho := h.out
  subst hn
  refine ⟨vs[i], rows[i], List.getElem?_eq_getElem hi, List.getElem?_eq_getElem hv, ?_, World.ownsRow.frozenAt ho i, h.inn i _ _ (List.getElem?_eq_getElem hi) (List.getElem?_eq_getElem hv)⟩
  rw [World.ownsRow.cellAt ho i (by omega), List.getElem?_eq_getElem hv]
/-- One row has turned; its slice is stored. -/
theorem TabV.turn {w4 : World} {g n c i m : Nat} {u u' : Value} {ys : List Value} (ne : eI ≠ sT) (h : TabV w base sT eI (.slice (some ⟨g, 0, none⟩) n c) rows vs) (hi : i < rows.length) (hu : vs[i]? = some u)
    (hg : ∀ k, k < w.heap.size → u.ownBlock ≠ some k → w4.heap[k]? = w.heap[k]?) (hr : w4.ownsRow base eI 1 u' m ys) (hat : u'.ownBlock = u.ownBlock ∨ ∃ b, u'.ownBlock = some b ∧ w.heap.size ≤ b) :
    TabV (w4.setCell ⟨g, i, none⟩ u') base sT eI (.slice (some ⟨g, 0, none⟩) n c) (rows.set i ys) (vs.set i u') := by
  have hn : n = rows.length := by
    obtain ⟨A, cap, e⟩ := row_shape h.out
    injection e with _ e
  subst hn
  have hm : ys.length = m := by have := hr.1; omega
  have hui := h.inn i _ u (List.getElem?_eq_getElem hi) hu
  have hug : u.ownBlock ≠ some g := fun e => by
    rcases rows_apart hui h.out ne with k | k
    · rw [e] at k; cases k
    · exact k (by rw [e]; rfl)
  have ho4 : w4.ownsRow base sT 1 (.slice (some ⟨g, 0, none⟩) rows.length c) rows.length vs := row_stays h.out fun k hk => by
    have e : g = k := by injection hk
    subst e
    exact hg g (h.out.lt g rfl).2 hug
  have hset : ∀ {x : Value} {k : Nat} {xs : List Value}, w4.ownsRow base eI 1 x k xs → (w4.setCell ⟨g, i, none⟩ u').ownsRow base eI 1 x k xs := fun hx => ownsRow_setCell_other hx (fun e => by
    rcases rows_apart hx ho4 ne with k | k
    · rw [k] at e; cases e
    · exact k (by rw [e]; rfl)) u'
  have hother : ∀ (j : Nat) x, j ≠ i → vs[j]? = some x → ∀ k, x.ownBlock = some k → u.ownBlock ≠ some k := fun j x hji hx k hk e => by
    rcases Nat.lt_or_ge j i with q | q
    · rcases h.ap j i x u q hx hu with r | r
      · rw [hk] at r; cases r
      · exact r (by rw [hk, e])
    · rcases h.ap i j u x (by omega) hu hx with r | r
      · rw [e] at r; cases r
      · exact r (by rw [hk, e])
  have hjl : ∀ (j : Nat) x, vs[j]? = some x → j < rows.length := fun j x hx => by have := (List.getElem?_eq_some_iff.1 hx).1; rw [h.len] at this; exact this
  refine ⟨by rw [List.length_set, List.length_set, h.len], by rw [List.length_set]; exact (World.ownsRow.stored ho4 i u').1, fun j xs x hxs hx => ?_, fun j k x y hjk hx hy => ?_⟩
  · rw [List.getElem?_set] at hxs hx
    by_cases e : i = j
    · subst e
      rw [if_pos rfl, if_pos (by omega)] at hxs
      rw [if_pos rfl, if_pos (by rw [h.len]; omega)] at hx
      injection hxs with hxs
      injection hx with hx
      subst hxs
      subst hx
      rw [hm]
      exact hset hr
    · rw [if_neg e] at hxs hx
      have hrow := h.inn j xs x hxs hx
      exact hset (row_stays hrow fun k hk => hg k (hrow.lt k hk).2 (hother j x (fun q => e q.symm) hx k hk))
  · rw [List.getElem?_set] at hx hy
    have fresh : ∀ (a : Nat) z, a ≠ i → vs[a]? = some z → z.ownBlock = none ∨ z.ownBlock ≠ u'.ownBlock := fun a z hai hz => by
      cases hb : z.ownBlock with
      | none => exact .inl rfl
      | some b =>
        refine .inr fun e => ?_
        have hzl := (h.inn a _ z (List.getElem?_eq_getElem (hjl a z hz)) hz).lt b hb
        rcases hat with q | ⟨b', q, q2⟩
        · exact hother a z hai hz b hb (by rw [← q, ← e])
        · rw [q] at e
          injection e with e
          omega
    by_cases e : i = j
    · subst e
      rw [if_pos rfl, if_pos (by rw [h.len]; omega)] at hx
      injection hx with hx
      subst hx
      rw [if_neg (by omega)] at hy
      rcases fresh k y (by omega) hy with q | q
      · cases hb : u'.ownBlock with
        | none => exact .inl rfl
        | some b => exact .inr (by rw [q]; simp)
      · exact .inr fun e => q e.symm
    · rw [if_neg e] at hx
      by_cases e2 : i = k
      · subst e2
        rw [if_pos rfl, if_pos (by rw [h.len]; omega)] at hy
        injection hy with hy
        subst hy
        exact fresh j x (fun q => e q.symm) hx
      · rw [if_neg e2] at hy
        exact h.ap j k x y hjk hx hy
/-- One row more. -/
theorem TabV.more {w0 : World} {b1 : Nat} {v' u : Value} {ys : List Value} (ne : eI ≠ sT) (h : TabV w0 base sT eI v rows vs) (q : Own w0 w) (hu : w.ownsRow b1 eI 1 u ys.length ys) (hb : w0.heap.size ≤ b1) (hbase : base ≤ w0.heap.size) (hg : w.grownBy w' v.ownBlock)
    (hr : w'.ownsRow base sT 1 v' (rows.length + 1) (vs ++ [u])) : TabV w' base sT eI v' (rows ++ [ys]) (vs ++ [u]) := by
  have hw := h.own q
  refine ⟨by rw [List.length_append, List.length_append, h.len]; rfl, by rw [List.length_append]; exact hr, fun i xs x hxs hx => ?_, fun i j x y hij hx hy => ?_⟩
  · by_cases e : i < rows.length
    · rw [List.getElem?_append_left e] at hxs
      rw [List.getElem?_append_left (by rw [h.len]; exact e)] at hx
      have hi := hw.inn i xs x hxs hx
      exact hi.kept hg (rows_apart hi hw.out ne)
    · have hlt := (List.getElem?_eq_some_iff.1 hxs).1
      rw [List.length_append] at hlt
      have hlt : i < rows.length + 1 := hlt
      obtain rfl : i = rows.length := by omega
      rw [List.getElem?_append_right (by omega), Nat.sub_self] at hxs
      rw [List.getElem?_append_right (by rw [h.len]; omega), h.len, Nat.sub_self] at hx
      have hxs : some ys = some xs := hxs
      have hx : some u = some x := hx
      injection hxs with hxs
      injection hx with hx
      subst hxs
      subst hx
      have hu' := row_down hu (Nat.le_trans hbase hb)
      exact hu'.kept hg (rows_apart hu' hw.out ne)
  · have hjl := (List.getElem?_eq_some_iff.1 hy).1
    rw [List.length_append, h.len] at hjl
    have hjl : j < rows.length + 1 := hjl
    rw [List.getElem?_append_left (by rw [h.len]; omega)] at hx
    by_cases e : j < rows.length
    · rw [List.getElem?_append_left (by rw [h.len]; exact e)] at hy
      exact h.ap i j x y hij hx hy
    · obtain rfl : j = rows.length := by omega
      rw [List.getElem?_append_right (by rw [h.len]; omega), h.len, Nat.sub_self] at hy
      have hy : some u = some y := hy
      injection hy with hy
      subst hy
      cases hb2 : x.ownBlock with
      | none => exact .inl rfl
      | some k =>
        refine .inr fun e2 => ?_
        have h1 := (h.inn i _ x (List.getElem?_eq_getElem (show i < rows.length by omega)) hx).lt k hb2
        have h2 := hu.lt k e2.symm
        omega
theorem Tab.lt (h : TabV w base sT eI v rows vs) {i k : Nat} {u : Value} (hu : vs[i]? = some u) (hk : u.ownBlock = some k) : base ≤ k ∧ k < w.heap.size := by
  have hi : i < rows.length := by have := (List.getElem?_eq_some_iff.1 hu).1; rw [h.len] at this; exact this
  exact (h.inn i _ u (List.getElem?_eq_getElem hi) hu).lt k hk
/-- One element appended to one row, its slice stored. -/
theorem TabV.app {wq wa w4 : World} {g n c i k g' c' : Nat} {u x : Value} {xs : List Value} (ne : eI ≠ sT) (h : TabV wq base sT eI (.slice (some ⟨g, 0, none⟩) n c) rows vs) (hi : i < rows.length) (hu : vs[i]? = some u) (q : Own wq wa) (hgr : wa.grownBy w4 u.ownBlock)
    (hown : w4.ownsRow base eI 1 (.slice (some ⟨g', 0, none⟩) (k + 1) c') (k + 1) (xs ++ [x])) (hat : u.ownBlock = some g' ∨ g' = wa.heap.size) :
    TabV (w4.setCell ⟨g, i, none⟩ (.slice (some ⟨g', 0, none⟩) (k + 1) c')) base sT eI (.slice (some ⟨g, 0, none⟩) n c) (rows.set i (xs ++ [x])) (vs.set i (.slice (some ⟨g', 0, none⟩) (k + 1) c')) ∧
      ∀ w0, Own w0 wq → w0.heap.size ≤ base → Own w0 (w4.setCell ⟨g, i, none⟩ (.slice (some ⟨g', 0, none⟩) (k + 1) c')) := by
  constructor
  · refine h.turn ne hi hu (fun j hj hne => (hgr.block j (Nat.lt_of_lt_of_le hj q.size) fun e => hne e.symm).trans (q.block j hj)) hown ?_
    rcases hat with e | e
    · exact .inl e.symm
    · exact .inr ⟨g', rfl, by rw [e]; exact q.size⟩
  · intro w0 q0 hb
    have h1 : Own w0 w4 := (q0.trans q).grown hgr fun j hj => Nat.le_trans hb (Tab.lt h hu hj).1
    exact h1.setCell (Nat.le_trans hb (h.out.lt g rfl).1) _
end
end Go.Proofs.Ytmliajkbknjacaa.TabW
