/-
  What stays in memory while some blocks turn; tables of truths. Nothing of the program. Condition: none.
-/
import Derived.Test.YtmliajkbknjacaaTab
import Derived.Test.YtmliajkbknjacaaMatchPlainB
namespace Go.Proofs.Ytmliajkbknjacaa.MchW
open Go.ChangeShapes Go.WideShapes Go.ChangeAt Go.RowKit
open PairW CelW TabW MchP
/-- Nothing that was there has turned but these blocks. -/
structure Kp (G : List Nat) (w w' : World) : Prop where
  os : w'.os = w.os
  output : w'.output = w.output
  size : w.heap.size ≤ w'.heap.size
  block : ∀ k, k < w.heap.size → k ∉ G → w'.heap[k]? = w.heap[k]?
section
variable {G G' : List Nat} {a b c w w' w0 : World}
theorem Kp.refl (G : List Nat) (w : World) : Kp G w w := ⟨rfl, rfl, Nat.le_refl _, fun _ _ _ => rfl⟩
theorem Kp.more (h : Kp G a b) (k : Kp G' b c) (hs : ∀ x, x ∈ G' → x < a.heap.size → x ∈ G) : Kp G a c :=
  ⟨k.os.trans h.os, k.output.trans h.output, Nat.le_trans h.size k.size, fun i hi hn => (k.block i (Nat.lt_of_lt_of_le hi h.size) fun e => hn (hs i e hi)).trans (h.block i hi hn)⟩
theorem Kp.trans (h : Kp G a b) (k : Kp G b c) : Kp G a c := h.more k fun _ e _ => e
theorem Kp.of_own (q : Own w w') : Kp G w w' := ⟨q.os, q.output, q.size, fun k hk _ => q.block k hk⟩
theorem Kp.to_own (h : Kp [] w w') : Own w w' := ⟨h.os, h.output, h.size, fun k hk => h.block k hk (by simp)⟩
theorem Kp.drewN (h : Kp G a w) (n : Nat) : Kp G a (w.drewN n) := ⟨h.os, h.output, h.size, h.block⟩
theorem Kp.drew (h : Kp G a w) : Kp G a w.drew := ⟨h.os, h.output, h.size, h.block⟩
theorem Kp.alloc (h : Kp G a w) (o : Obj) : Kp G a (w.alloc o) := h.trans (.of_own ((Own.refl w).alloc o))
theorem set_other (w : World) (p : Addr) (u : Value) {k : Nat} (h : k ≠ p.block) : (w.setCell p u).heap[k]? = w.heap[k]? := by
  simp only [World.setCell]
  rw [Array.getElem?_modify, if_neg (fun e => h e.symm)]
theorem Kp.put (h : Kp G a w) {p : Addr} (hp : p.block < a.heap.size → p.block ∈ G) (u : Value) : Kp G a (w.setCell p u) :=
  ⟨h.os, h.output, by simpa [World.setCell] using h.size, fun k hk hn => (set_other w p u fun e => hn (by rw [e]; exact hp (by rw [← e]; exact hk))).trans (h.block k hk hn)⟩
theorem Kp.own (q : Own a w) (h : Kp G w w') (hg : ∀ x, x ∈ G → a.heap.size ≤ x) : Own a w' :=
  ⟨h.os.trans q.os, h.output.trans q.output, Nat.le_trans q.size h.size, fun k hk => (h.block k (Nat.lt_of_lt_of_le hk q.size) fun e => by have := hg k e; omega).trans (q.block k hk)⟩
theorem Kp.grown {row : Option Nat} (h : Kp G a w) (hg : w.grownBy w' row) (hr : ∀ k, row = some k → a.heap.size ≤ k ∨ k ∈ G) : Kp G a w' :=
  ⟨hg.os.trans h.os, hg.output.trans h.output, Nat.le_trans h.size hg.size, fun k hk hn => (hg.block k (Nat.lt_of_lt_of_le hk h.size) fun e => by
    rcases hr k e.symm with q | q
    · omega
    · exact hn q).trans (h.block k hk hn)⟩
theorem Kp.cell (h : Kp G w w') {p : Addr} {v : Value} (hc : w.cell? p = some v) (hp : p.block ∉ G) : w'.cell? p = some v := by
  rw [World.cell?_of_block (w := w) (h.block p.block (block_lt_of_cell hc) hp)]
  exact hc
theorem Kp.frozen (h : Kp G w w') {p : Addr} {v : Value} (hc : w.cell? p = some v) (hz : w.frozen? p = false) (hp : p.block ∉ G) : w'.frozen? p = false := by
  rw [World.frozen?_of_block (w := w) (h.block p.block (block_lt_of_cell hc) hp)]
  exact hz
theorem Kp.row (h : Kp G w w') {base n g m cap : Nat} {e : TypeId} {xs : List Value} (hr : w.ownsRow base e 1 (.slice (some ⟨g, 0, none⟩) m cap) n xs) (hg : g ∉ G) : w'.ownsRow base e 1 (.slice (some ⟨g, 0, none⟩) m cap) n xs :=
  row_stays hr fun k hk => by
    injection hk with hk
    subst hk
    exact h.block _ (hr.lt _ rfl).2 hg
theorem put_cell (w : World) {p q : Addr} (u : Value) (h : q.block ≠ p.block) : (w.setCell p u).cell? q = w.cell? q := World.cell?_of_block (w := w) (set_other w p u h)
end
/-! ### Rows of integers and of truths -/
theorem row_bool {w : World} {base g n c : Nat} {e : TypeId} {R : List Bool} (h : w.ownsRow base e 1 (.slice (some ⟨g, 0, none⟩) n c) n (cellsT R)) (hl : R.length = n) {i : Nat} (hi : i < n) : ∃ b, w.cell? ⟨g, i, none⟩ = some (.bool b) ∧ R[i]? = some b ∧ w.frozen? ⟨g, i, none⟩ = false := by
  have h0 : i < R.length := by omega
  exact ⟨R[i], (World.ownsRow.cellAt h i (by omega)).trans (cellsT_at h0), List.getElem?_eq_getElem h0, World.ownsRow.frozenAt h i⟩
theorem row_int {w : World} {base g n c : Nat} {e : TypeId} {R : List Int} (h : w.ownsRow base e 1 (.slice (some ⟨g, 0, none⟩) n c) n (cellsI R)) (hl : R.length = n) {i : Nat} (hi : i < n) : ∃ b, w.cell? ⟨g, i, none⟩ = some (.int .i64 b) ∧ R[i]? = some b ∧ w.frozen? ⟨g, i, none⟩ = false := by
  have h0 : i < R.length := by omega
  exact ⟨R[i], (World.ownsRow.cellAt h i (by omega)).trans (cellsI_at h0), List.getElem?_eq_getElem h0, World.ownsRow.frozenAt h i⟩
theorem row_put {w : World} {base g n c : Nat} {e : TypeId} {R : List Bool} (h : w.ownsRow base e 1 (.slice (some ⟨g, 0, none⟩) n c) n (cellsT R)) (i : Nat) (b : Bool) : (w.setCell ⟨g, i, none⟩ (.bool b)).ownsRow base e 1 (.slice (some ⟨g, 0, none⟩) n c) n (cellsT (R.set i b)) := by
  rw [← cellsT_set]
  exact (World.ownsRow.stored h i _).1
theorem row_puti {w : World} {base g n c : Nat} {e : TypeId} {R : List Int} (h : w.ownsRow base e 1 (.slice (some ⟨g, 0, none⟩) n c) n (cellsI R)) (i : Nat) (b : Int) : (w.setCell ⟨g, i, none⟩ (.int .i64 b)).ownsRow base e 1 (.slice (some ⟨g, 0, none⟩) n c) n (cellsI (R.set i b)) := by
  rw [← cellsI_set]
  exact (World.ownsRow.stored h i _).1
theorem row_len {w : World} {base n : Nat} {e : TypeId} {v : Value} {xs : List Value} (h : w.ownsRow base e 1 v n xs) : xs.length = n := by have := h.1; omega
/-! ### Tables of truths -/
def cellsB (l : List (List Bool)) : List (List Value) := l.map cellsT
theorem cellsB_len (l : List (List Bool)) : (cellsB l).length = l.length := List.length_map ..
theorem cellsB_at {l : List (List Bool)} {i : Nat} {r : List Bool} (h : l[i]? = some r) : (cellsB l)[i]? = some (cellsT r) := by unfold cellsB; rw [List.getElem?_map, h]; rfl
theorem cel_bool {w : World} {v : Value} {r : List Bool} (h : Cel w v (cellsT r)) : ∃ A cap, v = .slice A r.length cap ∧ r.length ≤ cap ∧ cap ≤ maxLen ∧ (0 < r.length → ∃ g off : Nat, A = some ⟨g, off, none⟩ ∧ ∀ (i : Nat) b, r[i]? = some b → w.cell? ⟨g, off + i, none⟩ = some (.bool b)) := by
  obtain ⟨A, cap, rfl, h1, h2, h3⟩ := cel_bools h
  refine ⟨A, cap, rfl, h1, h2, fun h0 => ?_⟩
  obtain ⟨g, off, rfl, h4⟩ := h3 h0
  refine ⟨g, off, rfl, fun i b hb => ?_⟩
  obtain ⟨hi, e⟩ := List.getElem?_eq_some_iff.1 hb
  rw [h4 i hi, e]
theorem cel_int {w : World} {v : Value} {r : List Int} (h : Cel w v (cellsI r)) : ∃ A cap, v = .slice A r.length cap ∧ r.length ≤ cap ∧ cap ≤ maxLen ∧ (0 < r.length → ∃ g off : Nat, A = some ⟨g, off, none⟩ ∧ ∀ (i : Nat) b, r[i]? = some b → w.cell? ⟨g, off + i, none⟩ = some (.int .i64 b)) := by
  obtain ⟨A, cap, rfl, h1, h2, h3⟩ := cel_ints h
  refine ⟨A, cap, rfl, h1, h2, fun h0 => ?_⟩
  obtain ⟨g, off, rfl, h4⟩ := h3 h0
  refine ⟨g, off, rfl, fun i b hb => ?_⟩
  obtain ⟨hi, e⟩ := List.getElem?_eq_some_iff.1 hb
  rw [h4 i hi, e]
/-- A table, opened. -/
theorem tb_open {w : World} {v : Value} {l : List (List Bool)} (h : Cels w v (cellsB l)) : ∃ A cap, v = .slice A l.length cap ∧ l.length ≤ cap ∧ cap ≤ maxLen ∧ (0 < l.length → ∃ g off : Nat, A = some ⟨g, off, none⟩ ∧ ∀ (i : Nat) r, l[i]? = some r → ∃ u, w.cell? ⟨g, off + i, none⟩ = some u ∧ Cel w u (cellsT r)) := by
  obtain ⟨A, cap, rfl, h1, h2, h3⟩ := cels_open h
  rw [cellsB_len] at h1 h3 ⊢
  refine ⟨A, cap, rfl, h1, h2, fun h0 => ?_⟩
  obtain ⟨g, off, rfl, h4⟩ := h3 h0
  exact ⟨g, off, rfl, fun i r hr => h4 i _ (cellsB_at hr)⟩
theorem row_wd {l : List (List Bool)} (hs : Sq l) {i : Nat} {r : List Bool} (h : l[i]? = some r) : r.length = wd l := hs r (List.mem_of_getElem? h)
theorem row_at2 {l : List (List Bool)} {i c : Nat} {r : List Bool} (h : l[i]? = some r) (hc : c < r.length) : r[c]? = some (at2 l i c) := by
  rw [at2_of h (List.getElem?_eq_getElem hc)]
  exact List.getElem?_eq_getElem hc
/-- One row of a table whose rows are as long as the first. -/
theorem tb_row {w : World} {v : Value} {l : List (List Bool)} {R W i : Nat} (h : Cels w v (cellsB l)) (hs : Sq l) (hR : l.length = R) (hW : wd l = W) (hi : i < R) : ∃ g off cap A cr, v = .slice (some ⟨g, off, none⟩) R cap ∧ R ≤ cap ∧ cap ≤ maxLen ∧ w.cell? ⟨g, off + i, none⟩ = some (.slice A W cr) ∧ W ≤ cr ∧ cr ≤ maxLen ∧ ∀ c, c < W → ∃ gr og : Nat, A = some ⟨gr, og, none⟩ ∧ w.cell? ⟨gr, og + c, none⟩ = some (.bool (at2 l i c)) := by
  obtain ⟨A, cap, rfl, h1, h2, h3⟩ := tb_open h
  obtain ⟨g, off, rfl, h4⟩ := h3 (by omega)
  obtain ⟨r, hr⟩ : ∃ r, l[i]? = some r := ⟨_, List.getElem?_eq_getElem (by omega)⟩
  obtain ⟨u, h5, h6⟩ := h4 i r hr
  obtain ⟨B, cr, rfl, h7, h8, h9⟩ := cel_bool h6
  have hl := row_wd hs hr
  rw [hl, hW] at h5 h7 h9
  rw [hR] at h1 ⊢
  refine ⟨g, off, cap, B, cr, rfl, h1, h2, h5, h7, h8, fun c hc => ?_⟩
  obtain ⟨gr, og, rfl, h10⟩ := h9 (by omega)
  exact ⟨gr, og, rfl, h10 c _ (row_at2 hr (by omega))⟩
/-! ### Lists -/
def natsI (l : List Nat) : List Int := l.map fun n : Nat => (n : Int)
theorem natsI_len (l : List Nat) : (natsI l).length = l.length := List.length_map ..
theorem natsI_at {l : List Nat} {i x : Nat} (h : l[i]? = some x) : (natsI l)[i]? = some (x : Int) := by unfold natsI; rw [List.getElem?_map, h]; rfl
theorem natsI_app (a b : List Nat) : natsI (a ++ b) = natsI a ++ natsI b := List.map_append
theorem take_next {α : Type} {l : List α} {k : Nat} {x : α} (h : l[k]? = some x) : l.take (k + 1) = l.take k ++ [x] := by rw [List.take_add_one, h]; rfl
theorem sz_take {m : List Int} {k : Nat} {x : Int} (h : m[k]? = some x) : sz (m.take (k + 1)) = sz (m.take k) + if x = -1 then 0 else 1 := by
  unfold sz
  rw [take_next h, List.countP_append, List.countP_cons, List.countP_nil]
  by_cases e : x = -1
  · rw [if_pos e, if_neg (by simp [e])]
  · rw [if_neg e, if_pos (by simpa using e)]
theorem sz_le (m : List Int) : sz m ≤ m.length := List.countP_le_length
end Go.Proofs.Ytmliajkbknjacaa.MchW
