/-
  Walks of the small functions of package geom and of its specification: what each call returns. Condition: none.
-/
import Derived.Test.YtnakacflaaelnaaNumH
import Derived.Test.YtnakacflaaelnaaNumJ
import Derived.Test.YtnakacflaaelnaaGeomPlain
import Derived.Below
import Derived.Deep.RegionHeld3
import Derived.Deep.DeepCutAuto
import Derived.IntWalk
import Derived.BigQuiet
import Derived.LoopTactic
namespace Go.Proofs.Ytnakacflaaelnaa.GeoW
open Go.ChangeShapes Go.WideShapes Go.ChangeAt Go.RowKit
open NumP NumW GeoP

/-- What the call makes is its own; nothing that was there has turned. -/
structure Own (w w' : World) : Prop where
  os : w'.os = w.os
  output : w'.output = w.output
  size : w.heap.size ≤ w'.heap.size
  block : ∀ k, k < w.heap.size → w'.heap[k]? = w.heap[k]?
theorem Own.refl (w : World) : Own w w := ⟨rfl, rfl, Nat.le_refl _, fun _ _ => rfl⟩
theorem Own.trans {a b c : World} (h : Own a b) (k : Own b c) : Own a c :=
  ⟨k.os.trans h.os, k.output.trans h.output, Nat.le_trans h.size k.size, fun i hi => (k.block i (Nat.lt_of_lt_of_le hi h.size)).trans (h.block i hi)⟩
theorem Own.of_below {w w' : World} (h : Below w.heap.size w w') : Own w w' := ⟨h.os, h.output, h.size, h.block⟩
theorem Own.alloc {a w : World} (h : Own a w) (o : Obj) : Own a (w.alloc o) := h.trans (.of_below ((Below.refl _ w).alloc (Nat.le_refl _) o))
theorem Own.drewN {a w : World} (h : Own a w) (n : Nat) : Own a (w.drewN n) := ⟨h.os, h.output, h.size, h.block⟩
theorem Own.drew {a w : World} (h : Own a w) : Own a w.drew := ⟨h.os, h.output, h.size, h.block⟩
theorem Own.setCell {a w : World} (h : Own a w) {p : Addr} (hp : a.heap.size ≤ p.block) (u : Value) : Own a (w.setCell p u) :=
  ⟨h.os, h.output, by simpa [World.setCell] using h.size, fun k hk => (Below.heap_setCell w p u k (by omega)).trans (h.block k hk)⟩
theorem Own.grown {a w w' : World} (h : Own a w) {row : Option Nat} (hg : w.grownBy w' row) (hr : ∀ k, row = some k → a.heap.size ≤ k) : Own a w' :=
  ⟨hg.os.trans h.os, hg.output.trans h.output, Nat.le_trans h.size hg.size, fun k hk => (hg.block k (Nat.lt_of_lt_of_le hk h.size) (fun e => by have := hr k e.symm; omega)).trans (h.block k hk)⟩
theorem Own.of_drew {w w' : World} (h : Drew w w') : Own w w' := by
  obtain ⟨n, rfl⟩ := h
  exact (Own.refl w).drewN n
theorem Own.of_grown {w w' : World} (h : Grown w w') : Own w w' := by
  obtain ⟨⟨h1, h2, h3⟩, _, hs⟩ := h
  refine ⟨h1, h2, hs, fun k hk => ?_⟩
  have h4 := h3 k hk
  revert h4
  generalize w.heap[k]? = x
  generalize w'.heap[k]? = y
  intro h4
  rcases x with _ | x
  · cases y <;> first | rfl | exact h4
  · cases x <;> rcases y with _ | y <;> (try exact h4) <;> cases y <;> (try exact h4)
    · obtain ⟨rfl, rfl, e, h⟩ := h4
      rw [Array.ext_getElem? (fun j => h j (fun f => f))]
    · obtain ⟨rfl, rfl⟩ := h4.resolve_left (fun f => f)
      rfl
theorem Own.cell {w w' : World} (h : Own w w') {p : Addr} {v : Value} (hc : w.cell? p = some v) : w'.cell? p = some v := by
  rw [World.cell?_of_block (w := w) (h.block p.block (block_lt_of_cell hc))]
  exact hc
theorem Own.old {w w' : World} (h : Own w w') {p : Addr} (hp : p.block < w.heap.size) : w'.cell? p = w.cell? p := World.cell?_of_block (w := w) (h.block p.block hp)
theorem Own.frozen {w w' : World} (h : Own w w') {p : Addr} (hp : p.block < w.heap.size) : w'.frozen? p = w.frozen? p := World.frozen?_of_block (w := w) (h.block p.block hp)

/-- A world that comes after wr: what a region whose callees make memory of their own may stand in. -/
structure After (wr : World) where
  w : World
  o : Own wr w
instance after_is (wr : World) : Nonempty (After wr) := ⟨⟨wr, Own.refl wr⟩⟩
/-- A region that draws its order, whose operations only read and whose callees leave old memory as it was: walked once, in the order of the text. -/
theorem region_after {P : Program} {id : Nat} {Q : Exit → Act → World → Prop} {a : Act} {l : List Oper} (wr : World) (hm : P.follows .mixedOrders = true) (hB : Region.lexB .any l.toArray = true)
    (h : wpQuiet P l.toArray (fun w' => ∃ x : After wr, w' = x.w) (fun a' => ∀ w', (∃ x : After wr, w' = x.w) → Q .normal a' w') l a) : (Code.region id l.toArray true).wp P Q a wr :=
  wp_region_quiet (C := fun w' => ∃ x : After wr, w' = x.w) hm hB ⟨⟨_, (Own.refl wr).drew⟩, rfl⟩ (by simpa using h)
theorem rvalid_at (p : Pt) (t : Bool) (w : World) (H : Hid (okP p = t)) :
    Calls Try.prog 31 #[.agg #[.int .i64 p.1, .int .i64 p.2]] w fun e w' => e = .returned (.bool t) ∧ Own w w' := by
  obtain ⟨x, y⟩ := p
  have ht := H.out
  clear H
  cases t
  · rw [okP_no] at ht
    have t : x < -32768 ∨ ¬ x < -32768 ∧ 32768 < x ∨ ¬ x < -32768 ∧ ¬ 32768 < x ∧ y < -32768 ∨ ¬ x < -32768 ∧ ¬ 32768 < x ∧ ¬ y < -32768 ∧ 32768 < y := by simp at ht; omega
    clear ht
    rcases t with t | ⟨t, t1⟩ | ⟨t, t1, t2⟩ | ⟨t, t1, t2, t3⟩
    all_goals
      go_enter Try.func31, Try.ntmps31
      go_wp2
      go_ret
      exact ⟨by first | rfl | (exact ret_bool (by simp; omega)), (Own.refl w).alloc _⟩
  · obtain ⟨⟨h1, h2⟩, h3, h4⟩ := (okP_iff (x, y)).1 ht
    clear ht
    simp only at h1 h2 h3 h4
    go_enter Try.func31, Try.ntmps31
    go_wp2
    go_ret
    exact ⟨by first | rfl | (exact ret_bool (by simp; omega)), (Own.refl w).alloc _⟩
theorem rradius_at (r : Int) (t : Bool) (w : World) (H : Hid (okR r = t)) :
    Calls Try.prog 38 #[.int .i64 r] w fun e w' => e = .returned (.bool t) ∧ w = w' := by
  have hi := okR_iff r
  rw [H.out] at hi
  clear H
  by_cases h1 : 0 ≤ r
  · by_cases h2 : r ≤ 32768
    · obtain rfl : t = true := hi.2 ⟨h1, h2⟩
      clear hi
      go_enter Try.func38, Try.ntmps38
      go_wp2
      go_ret
      exact ⟨by first | rfl | (exact ret_bool (by simp; omega)), rfl⟩
    · obtain rfl : t = false := by cases t <;> simp at hi ⊢; omega
      clear hi
      go_enter Try.func38, Try.ntmps38
      go_wp2
      go_ret
      exact ⟨by first | rfl | (exact ret_bool (by simp; omega)), rfl⟩
  · obtain rfl : t = false := by cases t <;> simp at hi ⊢; omega
    clear hi
    go_enter Try.func38, Try.ntmps38
    go_wp2
    go_ret
    exact ⟨by first | rfl | (exact ret_bool (by simp; omega)), rfl⟩
/-- What a valid point's coordinates, and their differences and products, are at most. -/
def Small (p : Pt) : Prop := (-32768 ≤ p.1 ∧ p.1 ≤ 32768) ∧ (-32768 ≤ p.2 ∧ p.2 ≤ 32768)
theorem small_of {p : Pt} (h : okP p = true) : Small p := (okP_iff p).1 h
theorem mul_in {a b : Int} (ha : -65536 ≤ a ∧ a ≤ 65536) (hb : -65536 ≤ b ∧ b ≤ 65536) : -4294967296 ≤ a * b ∧ a * b ≤ 4294967296 := by
  have := mul_bd ha hb
  omega
theorem sq_in {p q : Pt} (hp : Small p) (hq : Small q) : 0 ≤ sq p q ∧ sq p q ≤ 8589934592 := by
  refine ⟨sq_pos p q, ?_⟩
  obtain ⟨h1, h2⟩ := hp
  obtain ⟨h3, h4⟩ := hq
  have a := mul_in (a := p.1 - q.1) (b := p.1 - q.1) (by omega) (by omega)
  have b := mul_in (a := p.2 - q.2) (b := p.2 - q.2) (by omega) (by omega)
  unfold sq
  omega
theorem cr_in {o p q : Pt} (ho : Small o) (hp : Small p) (hq : Small q) : -8589934592 ≤ cr o p q ∧ cr o p q ≤ 8589934592 := by
  obtain ⟨h1, h2⟩ := ho
  obtain ⟨h3, h4⟩ := hp
  obtain ⟨h5, h6⟩ := hq
  have a := mul_in (a := p.1 - o.1) (b := q.2 - o.2) (by omega) (by omega)
  have b := mul_in (a := p.2 - o.2) (b := q.1 - o.1) (by omega) (by omega)
  unfold cr
  omega
theorem rsq_at (p q : Pt) (s : Int) (w : World) (H : Hid (sq p q = s)) (hp : Small p) (hq : Small q) :
    Calls Try.prog 32 #[.agg #[.int .i64 p.1, .int .i64 p.2], .agg #[.int .i64 q.1, .int .i64 q.2]] w fun e w' => e = .returned (.int .i64 s) ∧ Own w w' := by
  have hs := H.out
  clear H
  obtain ⟨a, b⟩ := p
  obtain ⟨c, d⟩ := q
  obtain ⟨h1, h2⟩ := hp
  obtain ⟨h3, h4⟩ := hq
  simp only at h1 h2 h3 h4
  have m1 := mul_in (a := a - c) (b := a - c) (by omega) (by omega)
  have m2 := mul_in (a := b - d) (b := b - d) (by omega) (by omega)
  have HS := Lib.hid (show (a - c) * (a - c) + (b - d) * (b - d) = s from hs)
  clear hs
  go_enter Try.func32, Try.ntmps32
  go_wp2
  go_ret
  exact ⟨ret_int HS.out, ((Own.refl w).alloc _).alloc _⟩
theorem rcr_at (o p q : Pt) (s : Int) (w : World) (H : Hid (cr o p q = s)) (ho : Small o) (hp : Small p) (hq : Small q) :
    Calls Try.prog 34 #[.agg #[.int .i64 o.1, .int .i64 o.2], .agg #[.int .i64 p.1, .int .i64 p.2], .agg #[.int .i64 q.1, .int .i64 q.2]] w fun e w' => e = .returned (.int .i64 s) ∧ Own w w' := by
  have hs := H.out
  clear H
  obtain ⟨x, y⟩ := o
  obtain ⟨a, b⟩ := p
  obtain ⟨c, d⟩ := q
  obtain ⟨h1, h2⟩ := ho
  obtain ⟨h3, h4⟩ := hp
  obtain ⟨h5, h6⟩ := hq
  simp only at h1 h2 h3 h4 h5 h6
  have m1 := mul_in (a := a - x) (b := d - y) (by omega) (by omega)
  have m2 := mul_in (a := b - y) (b := c - x) (by omega) (by omega)
  have HS := Lib.hid (show (a - x) * (d - y) - (b - y) * (c - x) = s from hs)
  clear hs
  go_enter Try.func34, Try.ntmps34
  go_wp2
  go_ret
  exact ⟨ret_int HS.out, (((Own.refl w).alloc _).alloc _).alloc _⟩
theorem rbefore_at (p q : Pt) (t : Bool) (w : World) (H : Hid (before p q = t)) :
    Calls Try.prog 44 #[.agg #[.int .i64 p.1, .int .i64 p.2], .agg #[.int .i64 q.1, .int .i64 q.2]] w fun e w' => e = .returned (.bool t) ∧ Own w w' := by
  have hi := before_iff p q
  rw [H.out] at hi
  clear H
  obtain ⟨a, b⟩ := p
  obtain ⟨c, d⟩ := q
  simp only at hi
  by_cases h1 : a < c
  · obtain rfl : t = true := hi.2 (Or.inl h1)
    clear hi
    go_enter Try.func44, Try.ntmps44
    go_wp2
    go_ret
    exact ⟨by first | rfl | (exact ret_bool (by simp; omega)), ((Own.refl w).alloc _).alloc _⟩
  · by_cases h2 : a = c
    · by_cases h3 : b < d
      · obtain rfl : t = true := hi.2 (Or.inr ⟨h2, h3⟩)
        subst h2
        clear hi
        go_enter Try.func44, Try.ntmps44
        go_wp2
        go_ret
        exact ⟨by first | rfl | (exact ret_bool (by simp; omega)), ((Own.refl w).alloc _).alloc _⟩
      · obtain rfl : t = false := by cases t <;> simp at hi ⊢; omega
        subst h2
        clear hi
        go_enter Try.func44, Try.ntmps44
        go_wp2
        go_ret
        exact ⟨by first | rfl | (exact ret_bool (by simp; omega)), ((Own.refl w).alloc _).alloc _⟩
    · obtain rfl : t = false := by cases t <;> simp at hi ⊢; omega
      have h3 : (a == c) = false := beq_eq_false_iff_ne.2 h2
      clear hi h2
      go_enter Try.func44, Try.ntmps44
      go_wp2
      go_ret
      exact ⟨by first | rfl | (exact ret_bool (by simp; omega)), ((Own.refl w).alloc _).alloc _⟩
end Go.Proofs.Ytnakacflaaelnaa.GeoW
