/-
  Worlds that come after one another, and slices of pairs of integers in them: what every walk over lists of two-field structs shares. Nothing of the program. Condition: none.
-/
import Derived.Test.YtmjokgddhainlaaRows
import Derived.WalkKit
import Derived.ProofKit
import Derived.WalkSpells
import Derived.WalkLawsBesides
import Derived.Lib.Hide
import Derived.Outline
import Derived.Deep.QuietTactic
import Derived.BigQuiet
import Derived.Below
import Derived.Deep.RegionHeld3
import Derived.Deep.DeepCutAuto
import Derived.IntWalk
import Derived.LoopTactic
import Derived.LoopN
import Derived.OwnWalk
import Derived.Laws.OwnMore
import Derived.Shelf.Abstract
import Derived.Maps.AppendAt
import Derived.Deep.DrawnRows
namespace Go.Proofs.Ytmjokgddhainlaa.PairW
open Go.ChangeShapes Go.WideShapes Go.ChangeAt Go.RowKit

/-- The world w' is w, with answers drawn from the tape at most. -/
def Drew (w w' : World) : Prop := ∃ n, w' = w.drewN n
theorem Drew.refl (w : World) : Drew w w := ⟨0, rfl⟩
theorem Drew.step {w w' : World} (h : Drew w w') (n : Nat) : Drew w (w'.drewN n) := by
  obtain ⟨m, rfl⟩ := h
  exact ⟨m + n, by rw [World.drewN_drewN]⟩
theorem ret_bool {a b : Bool} (h : a = b) : Ending.returned (.bool a) = .returned (.bool b) := by rw [h]
theorem ret_int {a b : Int} (h : a = b) : Ending.returned (.int .i64 a) = .returned (.int .i64 b) := by rw [h]
theorem ret_two {a b c d : Int} (h : a = b) (h2 : c = d) : Ending.returned (.tuple #[.int .i64 a, .int .i64 c]) = .returned (.tuple #[.int .i64 b, .int .i64 d]) := by rw [h, h2]
theorem ret_three {a b c d e f : Int} (h : a = b) (h2 : c = d) (h3 : e = f) : Ending.returned (.tuple #[.int .i64 a, .int .i64 c, .int .i64 e]) = .returned (.tuple #[.int .i64 b, .int .i64 d, .int .i64 f]) := by rw [h, h2, h3]
theorem ret_bi {a b : Bool} {c d : Int} (h : a = b) (h2 : c = d) : Ending.returned (.tuple #[.bool a, .int .i64 c]) = .returned (.tuple #[.bool b, .int .i64 d]) := by rw [h, h2]
/-- What the call makes is its own; nothing that was there has turned. -/
structure Own (w w' : World) : Prop where
  os : w'.os = w.os
  output : w'.output = w.output
  size : w.heap.size ≤ w'.heap.size
  block : ∀ k, k < w.heap.size → w'.heap[k]? = w.heap[k]?
theorem Own.refl (w : World) : Own w w := ⟨rfl, rfl, Nat.le_refl _, fun _ _ => rfl⟩
theorem Own.trans {a b c : World} (h : Own a b) (k : Own b c) : Own a c :=
  ⟨k.os.trans h.os, k.output.trans h.output, Nat.le_trans h.size k.size, fun i hi => (k.block i (Nat.lt_of_lt_of_le hi h.size)).trans (h.block i hi)⟩
theorem Own.of_below {w w' : World} (h : Below w.heap.size w w') : Own w w' := ⟨h.os, h.output, h.size, h.block⟩
theorem Own.alloc {a w : World} (h : Own a w) (o : Obj) : Own a (w.alloc o) := h.trans (.of_below ((Below.refl _ w).alloc (Nat.le_refl _) o))
theorem Own.drewN {a w : World} (h : Own a w) (n : Nat) : Own a (w.drewN n) := ⟨h.os, h.output, h.size, h.block⟩
theorem Own.drew {a w : World} (h : Own a w) : Own a w.drew := ⟨h.os, h.output, h.size, h.block⟩
theorem Own.setCell {a w : World} (h : Own a w) {p : Addr} (hp : a.heap.size ≤ p.block) (u : Value) : Own a (w.setCell p u) :=
  ⟨h.os, h.output, by simpa [World.setCell] using h.size, fun k hk => (Below.heap_setCell w p u k (by omega)).trans (h.block k hk)⟩
theorem Own.grown {a w w' : World} (h : Own a w) {row : Option Nat} (hg : w.grownBy w' row) (hr : ∀ k, row = some k → a.heap.size ≤ k) : Own a w' :=
  ⟨hg.os.trans h.os, hg.output.trans h.output, Nat.le_trans h.size hg.size, fun k hk => (hg.block k (Nat.lt_of_lt_of_le hk h.size) (fun e => by have := hr k e.symm; omega)).trans (h.block k hk)⟩
theorem Own.of_drew {w w' : World} (h : Drew w w') : Own w w' := by
  obtain ⟨n, rfl⟩ := h
  exact (Own.refl w).drewN n
theorem Own.cell {w w' : World} (h : Own w w') {p : Addr} {v : Value} (hc : w.cell? p = some v) : w'.cell? p = some v := by
  rw [World.cell?_of_block (w := w) (h.block p.block (block_lt_of_cell hc))]
  exact hc
theorem Own.old {w w' : World} (h : Own w w') {p : Addr} (hp : p.block < w.heap.size) : w'.cell? p = w.cell? p := World.cell?_of_block (w := w) (h.block p.block hp)
theorem Own.frozen {w w' : World} (h : Own w w') {p : Addr} (hp : p.block < w.heap.size) : w'.frozen? p = w.frozen? p := World.frozen?_of_block (w := w) (h.block p.block hp)
/-- A world that comes after wr: what a region whose callees make memory of their own may stand in. -/
structure After (wr : World) where
  w : World
  o : Own wr w
instance after_is (wr : World) : Nonempty (After wr) := ⟨⟨wr, Own.refl wr⟩⟩
/-- A region that draws its order, whose operations only read and whose callees leave old memory as it was: walked once, in the order of the text. -/
theorem region_after {P : Program} {id : Nat} {Q : Exit → Act → World → Prop} {a : Act} {l : List Oper} (wr : World) (hm : P.follows .mixedOrders = true) (hB : Region.lexB .any l.toArray = true)
    (h : wpQuiet P l.toArray (fun w' => ∃ x : After wr, w' = x.w) (fun a' => ∀ w', (∃ x : After wr, w' = x.w) → Q .normal a' w') l a) : (Code.region id l.toArray true).wp P Q a wr :=
  wp_region_quiet (C := fun w' => ∃ x : After wr, w' = x.w) hm hB ⟨⟨_, (Own.refl wr).drew⟩, rfl⟩ (by simpa using h)
abbrev Pt := Int × Int
def at' (h : List Pt) (i : Nat) : Pt := h.getD i (0, 0)
theorem at_mem {h : List Pt} {k : Nat} (hk : k < h.length) : at' h k ∈ h := by
  unfold at'; rw [List.getD_eq_getElem?_getD, List.getElem?_eq_getElem hk]; exact List.getElem_mem hk
theorem take_at {l : List Pt} {k : Nat} (h : k < l.length) : l.take (k + 1) = l.take k ++ [at' l k] := by
  rw [List.take_succ_eq_append_getElem h]
  unfold at'
  rw [List.getD_eq_getElem?_getD, List.getElem?_eq_getElem h]
  rfl
theorem held6 {wr wc w1 : World} {a0 a1 a2 a3 a4 a5 : Addr} {v0 v1 v2 v3 v4 v5 : Value} (hg : Own wc w1) (h : wc.cell? a0 = some v0 ∧ wc.cell? a1 = some v1 ∧ wc.cell? a2 = some v2 ∧ wc.cell? a3 = some v3 ∧ wc.cell? a4 = some v4 ∧ wc.cell? a5 = some v5 ∧ Own wr wc) :
    w1.cell? a0 = some v0 ∧ w1.cell? a1 = some v1 ∧ w1.cell? a2 = some v2 ∧ w1.cell? a3 = some v3 ∧ w1.cell? a4 = some v4 ∧ w1.cell? a5 = some v5 ∧ Own wr w1 :=
  ⟨hg.cell h.1, hg.cell h.2.1, hg.cell h.2.2.1, hg.cell h.2.2.2.1, hg.cell h.2.2.2.2.1, hg.cell h.2.2.2.2.2.1, h.2.2.2.2.2.2.trans hg⟩
theorem frozen_kept {w w' : World} (h : Own w w') {p : Addr} {v : Value} (hc : w.cell? p = some v) (hz : w.frozen? p = false) : w'.frozen? p = false := by
  rw [h.frozen (block_lt_of_cell hc)]
  exact hz
theorem own_cell {w w' : World} (h : Own w w') {p : Addr} {v : Value} (hc : w.cell? p = some v) : w'.cell? p = some v := h.cell hc
/-- The slice value sv holds the points of l; its address is asked for where there is a point. -/
def Pts (w : World) (sv : Value) (l : List Pt) : Prop :=
  ∃ (A : Option Addr) (cap : Nat), sv = .slice A l.length cap ∧ l.length ≤ cap ∧ cap ≤ maxLen ∧
    (0 < l.length → ∃ b off : Nat, A = some ⟨b, off, none⟩ ∧ ∀ i, i < l.length → w.cell? ⟨b, off + i * 2, none⟩ = some (.int .i64 (at' l i).1) ∧ w.cell? ⟨b, off + i * 2 + 1, none⟩ = some (.int .i64 (at' l i).2))
theorem Pts.own {w w' : World} {sv : Value} {l : List Pt} (h : Pts w sv l) (hg : Own w w') : Pts w' sv l := by
  obtain ⟨A, cap, h1, h2, h3, h4⟩ := h
  refine ⟨A, cap, h1, h2, h3, fun h0 => ?_⟩
  obtain ⟨b, off, h5, h6⟩ := h4 h0
  exact ⟨b, off, h5, fun i hi => ⟨hg.cell (h6 i hi).1, hg.cell (h6 i hi).2⟩⟩
theorem pts_nil (w : World) : Pts w (.slice none 0 0) [] := ⟨none, 0, rfl, Nat.le_refl _, Nat.zero_le _, fun h => absurd h (by simp)⟩
/-- The cells of a list of points. -/
def cellsP (l : List Pt) : List Value := l.flatMap fun p => [.int .i64 p.1, .int .i64 p.2]
theorem cellsP_len (l : List Pt) : (cellsP l).length = l.length * 2 := by
  induction l with
  | nil => rfl
  | cons a l ih => show ([_, _] ++ cellsP l).length = _; rw [List.length_append, ih]; simp; omega
theorem cellsP_snoc (l : List Pt) (p : Pt) : cellsP (l ++ [p]) = cellsP l ++ [.int .i64 p.1, .int .i64 p.2] := by
  unfold cellsP; rw [List.flatMap_append]; simp
theorem cellsP_at : ∀ (l : List Pt) (i : Nat), i < l.length → (cellsP l)[i * 2]? = some (.int .i64 (at' l i).1) ∧ (cellsP l)[i * 2 + 1]? = some (.int .i64 (at' l i).2)
  | [], i, h => by simp at h
  | a :: l, 0, _ => ⟨rfl, rfl⟩
  | a :: l, i + 1, h => by
    have := cellsP_at l i (by simpa using h)
    show (_ :: _ :: cellsP l)[(i + 1) * 2]? = _ ∧ (_ :: _ :: cellsP l)[(i + 1) * 2 + 1]? = _
    rw [show (i + 1) * 2 = i * 2 + 1 + 1 by omega]
    simp only [List.getElem?_cons_succ]
    exact this
theorem pts_of_row {w : World} {base : Nat} {e : TypeId} {sv : Value} {l : List Pt} (h : w.ownsRow base e 2 sv l.length (cellsP l)) : Pts w sv l := by
  rcases h.2 with ⟨h1, h2⟩ | ⟨g, cap, cur, rfl, hb, hh, hn, hm, hs, ht⟩
  · obtain rfl := List.eq_nil_of_length_eq_zero h2
    rw [h1]
    exact pts_nil w
  · refine ⟨_, cap, rfl, hn, hm, fun _ => ⟨g, 0, rfl, fun i hi => ?_⟩⟩
    have hc := cellsP_at l i hi
    rw [Nat.zero_add]
    have a0 := World.ownsRow.cellAt h (i * 2) (by omega)
    have a1 := World.ownsRow.cellAt h (i * 2 + 1) (by omega)
    exact ⟨a0.trans hc.1, a1.trans hc.2⟩
def lenOf : Value → Nat | .slice _ n _ => n | _ => 0
theorem held4 {wr wc w1 : World} {a0 a1 a2 a3 : Addr} {v0 v1 v2 v3 : Value} (hg : Own wc w1) (h : wc.cell? a0 = some v0 ∧ wc.cell? a1 = some v1 ∧ wc.cell? a2 = some v2 ∧ wc.cell? a3 = some v3 ∧ Own wr wc) :
    w1.cell? a0 = some v0 ∧ w1.cell? a1 = some v1 ∧ w1.cell? a2 = some v2 ∧ w1.cell? a3 = some v3 ∧ Own wr w1 :=
  ⟨hg.cell h.1, hg.cell h.2.1, hg.cell h.2.2.1, hg.cell h.2.2.2.1, h.2.2.2.2.trans hg⟩
theorem row_own {w w' : World} {base : Nat} {e : TypeId} {size : Nat} {v : Value} {n : Nat} {xs : List Value} (h : w.ownsRow base e size v n xs) (hg : Own w w') : w'.ownsRow base e size v n xs := by
  refine ⟨h.1, h.2.imp id ?_⟩
  rintro ⟨g, cap, cur, h1, h2, h3, h4⟩
  refine ⟨g, cap, cur, h1, h2, ?_, h4⟩
  have hlt : g < w.heap.size := by
    rcases Nat.lt_or_ge g w.heap.size with x | x
    · exact x
    · rw [Array.getElem?_eq_none x] at h3; cases h3
  rw [hg.block g hlt]
  exact h3
theorem row_set {w : World} {base : Nat} {e : TypeId} {size : Nat} {g cap n : Nat} {xs : List Value} (h : w.ownsRow base e size (.slice (some ⟨g, 0, none⟩) n cap) n xs) {p : Addr} (hp : p.block ≠ g) (u : Value) : (w.setCell p u).ownsRow base e size (.slice (some ⟨g, 0, none⟩) n cap) n xs := by
  refine ⟨h.1, h.2.imp id ?_⟩
  rintro ⟨g', cap', cur, h1, h2, h3, h4⟩
  refine ⟨g', cap', cur, h1, h2, ?_, h4⟩
  have e : g = g' := by injection h1 with h1; injection h1 with h1; injection h1
  rw [Below.heap_setCell _ _ _ _ (by omega)]
  exact h3
theorem row_form {w : World} {base : Nat} {e : TypeId} {size : Nat} {v : Value} {n : Nat} {xs : List Value} (h : w.ownsRow base e size v n xs) (hn : 0 < n) : ∃ g cap, v = .slice (some ⟨g, 0, none⟩) n cap ∧ base ≤ g ∧ g < w.heap.size := by
  rcases h.2 with ⟨_, h1⟩ | ⟨g, cap, cur, h1, h2, h3, _⟩
  · omega
  · refine ⟨g, cap, h1, h2, ?_⟩
    rcases Nat.lt_or_ge g w.heap.size with x | x
    · exact x
    · rw [Array.getElem?_eq_none x] at h3; cases h3
theorem pt_new (w : World) (a b : Int) (t : TypeId) : (w.alloc (.cells #[.int .i64 a, .int .i64 b] t)).cell? ⟨w.heap.size, 0, none⟩ = some (.int .i64 a) ∧ (w.alloc (.cells #[.int .i64 a, .int .i64 b] t)).cell? ⟨w.heap.size, 1, none⟩ = some (.int .i64 b) ∧
    (w.alloc (.cells #[.int .i64 a, .int .i64 b] t)).frozen? ⟨w.heap.size, 0, none⟩ = false ∧ (w.alloc (.cells #[.int .i64 a, .int .i64 b] t)).frozen? ⟨w.heap.size, 1, none⟩ = false :=
  ⟨by go_simp, by go_simp, by go_simp, by go_simp⟩
/-- A slice of points, nil let in: its address is asked for where it has a point. -/
theorem Pts.open {w : World} {sv : Value} {l : List Pt} (h : Pts w sv l) : ∃ (A : Option Addr) (cap : Nat), sv = .slice A l.length cap ∧ l.length ≤ cap ∧ cap ≤ maxLen ∧
    (0 < l.length → ∃ b off : Nat, A = some ⟨b, off, none⟩ ∧ ∀ i, i < l.length → w.cell? ⟨b, off + i * 2, none⟩ = some (.int .i64 (at' l i).1) ∧ w.cell? ⟨b, off + i * 2 + 1, none⟩ = some (.int .i64 (at' l i).2)) := h
theorem lists_eq {a b : List Pt} (h : a.length = b.length) (he : ∀ i, i < a.length → at' a i = at' b i) : a = b := by
  refine List.ext_getElem h fun i h1 h2 => ?_
  have := he i h1
  unfold at' at this
  rw [List.getD_eq_getElem?_getD, List.getD_eq_getElem?_getD, List.getElem?_eq_getElem h1, List.getElem?_eq_getElem h2] at this
  exact this
theorem not_same {a b : List Pt} {i : Nat} {t : Bool} (h : at' a i ≠ at' b i) (ht : decide (a = b) = t) : t = false := by
  rw [← ht]; exact decide_eq_false (fun e => h (by rw [e]))
theorem s4 {wc w1 : World} {a0 a1 a2 a3 : Addr} {v0 v1 v2 v3 : Value} (hg : Own wc w1) (h0 : wc.cell? a0 = some v0) (h1 : wc.cell? a1 = some v1) (h2 : wc.cell? a2 = some v2) (h3 : wc.cell? a3 = some v3) :
    w1.cell? a0 = some v0 ∧ w1.cell? a1 = some v1 ∧ w1.cell? a2 = some v2 ∧ w1.cell? a3 = some v3 ∧ Own wc w1 := ⟨hg.cell h0, hg.cell h1, hg.cell h2, hg.cell h3, hg⟩
section
variable {P : Program}
theorem run_append_zeros_geo (w : World) (t ti ty e : TypeId) (k : IntKind) (i : TypeInfo) (z : Value) (ht : P.underlying t = some (.slice e)) (hti : P.underlying ti = some (.int k)) (hi : P.info? e = some i) (hz : i.zero = some z) (hs : 0 < i.size)
    (n : Nat) (h0 : 0 < n) (h63 : (n : Int) ≤ 9223372036854775807) (h48 : n * i.bytes ≤ 281474976710656) :
    (Builtin.append_ #[t, ti] ty #[.slice none 0 0, .int .i64 n]).run P w =
      .ok (.slice (some ⟨w.heap.size, 0, none⟩) n (grownCap w n 0 e)) (w.drew.alloc (.cells (Builtin.zeroCells z.cells n ++ Builtin.zeroCells z.cells (grownCap w n 0 e - n)) e)) := by
  have hn : n ≠ 0 := by omega
  have h63' : ¬ (9223372036854775807 < (n : Int)) := by omega
  have h48' : ¬ (281474976710656 < Builtin.nextslicecap n 0 * i.bytes) := by rw [nextslicecap_zero h0]; omega
  have h48i : ¬ ((281474976710656 : Int) < (n : Int) * (i.bytes : Int)) := by
    have : ((n * i.bytes : Nat) : Int) ≤ 281474976710656 := Int.ofNat_le.2 h48
    rw [Int.natCast_mul] at this
    omega
  have hw : IntKind.i64.wrap (n : Int) = n := IntWalk.i64_in _ (by omega)
  have hnn : ¬ ((n : Int) < 0) := by omega
  have hsz : ¬ (n * i.size = 0) := by intro x; rcases Nat.mul_eq_zero.1 x with x | x <;> omega
  have has : ∀ w, (asIntOf (.int .i64 (n : Int))).run P w = .ok (.i64, (n : Int)) w := fun _ => rfl
  simp [Builtin.append_, run_underlying ht, run_underlying hti, sizeOf, typeInfo, zeroValue, hi, hz, asInt, has, hw, hnn, h48i, hsz, hn, h63', h48', Question.forced, run_firstCells_none, newRow, grownCap]
/-- 'append(nil, make([]T, n)...)': a new row of n zero elements, and some more. -/
theorem wpList_append_made {ops : Array Oper} {rest : List Oper} {o : Oper} {a : Act} {Q : Exit → Act → World → Prop} (w : World) (hgd : o.guard = none) (s x : Operand) (t ti : TypeId)
    (ho : o.op = .call { callee := .builtin .append, args := #[s, x], argTypes := #[t, ti] })
    (e : TypeId) (k : IntKind) (i : TypeInfo) (z : Value) (size bytes : Nat) (ht : P.underlying t = some (.slice e)) (hti : P.underlying ti = some (.int k)) (hi : P.info? e = some i) (hz : i.zero = some z)
    (hsize : i.size = size) (hby : i.bytes = bytes) (hzs : z.cells.size = size) (hsz : 0 < size)
    (n : Nat) (hs : a.eval s = .slice none 0 0) (hx : a.eval x = .int .i64 n) (h0 : 0 < n) (h63 : n ≤ maxLen) (hbytes : n * bytes ≤ 281474976710656)
    (h : ∀ cap w', n ≤ cap → cap ≤ maxLen → w'.ownsRow w.heap.size e size (.slice (some ⟨w.heap.size, 0, none⟩) 0 cap) 0 [] → w.grownBy w' none → wpList P ops Q rest (a.put o.dst (.slice (some ⟨w.heap.size, 0, none⟩) n cap)) w') :
    wpList P ops Q (o :: rest) a w := by
  refine wpList_plain hgd fun K hK => ?_
  subst hsize
  subst hby
  have hr := run_append_zeros_geo (P := P) w t ti o.type e k i z ht hti hi hz hsz n h0 (by simp only [maxLen] at h63; omega) hbytes
  have hge := grownCap_ge w n 0 e
  have hcm : grownCap w n 0 e ≤ maxLen := grownCap_le_maxLen w n 0 e h63
  unfold Oper.wp execOp
  simp only [ho, resolve, invoke, builtin, Sem.run_bind, Sem.run_pure, Result.andThen_ok, List.map_toArray, List.map_cons, List.map_nil, hs, hx, hr]
  refine hK _ _ (h _ _ hge hcm (World.ownsRow_made w.drew _ _ (Nat.le_refl _) hcm ?_) ⟨rfl, rfl, rfl, by simp, fun j hj _ => heap_alloc_old w.drew _ hj⟩)
  simp only [Array.size_append, size_zeroCells, hzs, ← Nat.add_mul]
  congr 1
  omega
/-- An empty slice appended to a row: nothing turns. -/
theorem run_append_empty_geo (w : World) (t ty e : TypeId) (i : TypeInfo) (ht : P.underlying t = some (.slice e)) (hi : P.info? e = some i) (g k cap : Nat) (A : Option Addr) (c : Nat) (hk : k ≤ cap) :
    (Builtin.append_ #[t, t] ty #[.slice (some ⟨g, 0, none⟩) k cap, .slice A 0 c]).run P w = .ok (.slice (some ⟨g, 0, none⟩) k cap) w := by
  cases A <;> simp [Builtin.append_, run_underlying ht, sizeOf, typeInfo, hi, Builtin.lenOf, Builtin.firstCells, loadCells, loadCellsFrom, storeCells, hk]
theorem wpList_append_empty {ops : Array Oper} {rest : List Oper} {o : Oper} {a : Act} {Q : Exit → Act → World → Prop} (w : World) (hgd : o.guard = none) (s x : Operand) (t : TypeId)
    (ho : o.op = .call { callee := .builtin .append, args := #[s, x], argTypes := #[t, t] }) (e : TypeId) (i : TypeInfo) (ht : P.underlying t = some (.slice e)) (hi : P.info? e = some i) (g k cap : Nat) (A : Option Addr) (c : Nat) (hk : k ≤ cap)
    (hs : a.eval s = .slice (some ⟨g, 0, none⟩) k cap) (hx : a.eval x = .slice A 0 c) (h : wpList P ops Q rest (a.put o.dst (.slice (some ⟨g, 0, none⟩) k cap)) w) : wpList P ops Q (o :: rest) a w := by
  refine wpList_plain hgd fun K hK => ?_
  have hr := run_append_empty_geo (P := P) w t o.type e i ht hi g k cap A c hk
  unfold Oper.wp execOp
  simp only [ho, resolve, invoke, builtin, Sem.run_bind, Sem.run_pure, Result.andThen_ok, List.map_toArray, List.map_cons, List.map_nil, hs, hx, hr]
  exact hK _ _ h
end

theorem pts_row_cells {w : World} {A : Option Addr} {cap : Nat} {l : List Pt} (h : 0 < l.length → ∃ b off : Nat, A = some ⟨b, off, none⟩ ∧ ∀ i, i < l.length → w.cell? ⟨b, off + i * 2, none⟩ = some (.int .i64 (at' l i).1) ∧ w.cell? ⟨b, off + i * 2 + 1, none⟩ = some (.int .i64 (at' l i).2)) (_ : l.length ≤ cap) :
    ∀ ad, A = some ad → ∀ j u, (cellsP l)[j]? = some u → w.cell? (ad.add j) = some u := by
  intro ad hA j u hu
  have hj : j < l.length * 2 := by
    have := (List.getElem?_eq_some_iff.1 hu).1
    rw [cellsP_len] at this
    exact this
  obtain ⟨b, off, rfl, hc⟩ := h (by omega)
  injection hA with hA
  subst hA
  have hi : j / 2 < l.length := by omega
  obtain ⟨c1, c2⟩ := hc (j / 2) hi
  obtain ⟨d1, d2⟩ := cellsP_at l (j / 2) hi
  rcases Nat.mod_two_eq_zero_or_one j with h2 | h2
  · have e : j = j / 2 * 2 := by omega
    rw [e] at hu
    rw [d1] at hu
    injection hu with hu
    rw [← hu, ← c1]
    have ea : (⟨b, off, none⟩ : Addr).add j = ⟨b, off + j, none⟩ := by by_cases h0 : j = 0 <;> simp [Addr.add, h0]
    rw [ea, show off + j = off + j / 2 * 2 by omega]
  · have e : j = j / 2 * 2 + 1 := by omega
    rw [e] at hu
    rw [d2] at hu
    injection hu with hu
    rw [← hu, ← c2]
    have ea : (⟨b, off, none⟩ : Addr).add j = ⟨b, off + j, none⟩ := by by_cases h0 : j = 0 <;> simp [Addr.add, h0]
    rw [ea, show off + j = off + j / 2 * 2 + 1 by omega]
theorem cellsP_one (l : List Pt) : ∀ u ∈ cellsP l, u.oneCell' = true := by
  intro u hu
  unfold cellsP at hu
  rw [List.mem_flatMap] at hu
  obtain ⟨p, _, hp⟩ := hu
  simp at hp
  rcases hp with rfl | rfl <;> rfl
end Go.Proofs.Ytmjokgddhainlaa.PairW
