/-
  Structs of two fields in memory; one struct appended to a row; results that lie in memory. Condition: none.
-/
import Derived.Test.YtkdfmjhhdfiiiaaGraphI
import Derived.Test.YtkdfmjhhdfiiiaaGraphPlainG
namespace Go.Proofs.Ytkdfmjhhdfiiiaa.GraW
open Go.ChangeShapes Go.WideShapes Go.ChangeAt Go.RowKit
open PairW CelW GraP
/-- What Close returns. -/
def clzE (N : Int) (l : List Ar) : Int := if chkE N l ≠ 0 then chkE N l else if 512 < (cloL N.toNat l).length then 3 else 0
def clzN (N : Int) (l : List Ar) : Int := if clzE N l = 0 then N else 0
def clzL (N : Int) (l : List Ar) : List Ar := if clzE N l = 0 then cloL N.toNat l else []
theorem clz_bad {N : Int} {l : List Ar} (h : chkE N l ≠ 0) : clzE N l = chkE N l ∧ clzN N l = 0 ∧ clzL N l = [] := by
  have h1 : clzE N l = chkE N l := if_pos h
  exact ⟨h1, by unfold clzN; rw [if_neg (by rw [h1]; exact h)], by unfold clzL; rw [if_neg (by rw [h1]; exact h)]⟩
theorem clz_full {n : Nat} {l : List Ar} (h : chkE (n : Int) l = 0) (h2 : 512 < (cloL n l).length) : clzE n l = 3 ∧ clzN n l = 0 ∧ clzL n l = [] := by
  have h1 : clzE n l = 3 := by unfold clzE; rw [if_neg (by rw [h]; simp), Int.toNat_natCast, if_pos h2]
  exact ⟨h1, by unfold clzN; rw [if_neg (by rw [h1]; decide)], by unfold clzL; rw [if_neg (by rw [h1]; decide)]⟩
theorem clz_ok {n : Nat} {l : List Ar} (h : chkE (n : Int) l = 0) (h2 : ¬ 512 < (cloL n l).length) : clzE n l = 0 ∧ clzN n l = n ∧ clzL n l = cloL n l := by
  have h1 : clzE n l = 0 := by unfold clzE; rw [if_neg (by rw [h]; simp), Int.toNat_natCast, if_neg h2]
  exact ⟨h1, by unfold clzN; rw [if_pos h1], by unfold clzL; rw [if_pos h1, Int.toNat_natCast]⟩
/-- A row of the call's own is a slice. -/
theorem row_sh {w : World} {base size n : Nat} {e : TypeId} {v : Value} {xs : List Value} (h : w.ownsRow base e size v n xs) : ∃ A cap, v = .slice A n cap := by
  rcases h.2 with ⟨rfl, rfl⟩ | ⟨g, cap, _, rfl, _⟩
  · exact ⟨_, _, rfl⟩
  · exact ⟨_, _, rfl⟩
/-- Two new structs of two fields. -/
theorem boxes_new (w : World) (a b c d : Value) (T1 T2 : TypeId) : ∃ W0, ((w.alloc (.cells #[a, b] T1)).alloc (.cells #[c, d] T2)) = W0 ∧ W0.cell? ⟨w.heap.size, 0, none⟩ = some a ∧ W0.cell? ⟨w.heap.size, 1, none⟩ = some b ∧ W0.cell? ⟨w.heap.size + 1, 0, none⟩ = some c ∧ W0.cell? ⟨w.heap.size + 1, 1, none⟩ = some d ∧ W0.frozen? ⟨w.heap.size + 1, 0, none⟩ = false ∧ W0.frozen? ⟨w.heap.size + 1, 1, none⟩ = false ∧ Own w W0 :=
  ⟨_, rfl, by go_simp, by go_simp, by go_simp, by go_simp, by go_simp, by go_simp, ((Own.refl w).alloc _).alloc _⟩
/-- A struct of two fields in memory, its second field may be stored to. -/
def Bx (w : World) (O : Nat) (x y : Value) : Prop := w.cell? ⟨O, 0, none⟩ = some x ∧ w.cell? ⟨O, 1, none⟩ = some y ∧ w.frozen? ⟨O, 1, none⟩ = false
theorem bx_new (w : World) (x y : Value) (T : TypeId) : Bx (w.alloc (.cells #[x, y] T)) w.heap.size x y := ⟨by go_simp, by go_simp, by go_simp⟩
theorem Bx.lt {w : World} {O : Nat} {x y : Value} (h : Bx w O x y) : O < w.heap.size := block_lt_of_cell h.1
theorem Bx.own {w w' : World} {O : Nat} {x y : Value} (h : Bx w O x y) (q : Own w w') : Bx w' O x y := ⟨q.cell h.1, q.cell h.2.1, frozen_kept q h.2.1 h.2.2⟩
theorem Bx.grown {w w' : World} {O : Nat} {x y : Value} {ob : Option Nat} (h : Bx w O x y) (hg : w.grownBy w' ob) (hb : ob ≠ some O) : Bx w' O x y := by
  have hk := hg.block O h.lt (fun e => hb e.symm)
  exact ⟨(World.cell?_of_block (w := w) hk).trans h.1, (World.cell?_of_block (w := w) hk).trans h.2.1, (World.frozen?_of_block (w := w) hk).trans h.2.2⟩
theorem Bx.put {w : World} {O : Nat} {x y : Value} (h : Bx w O x y) (v : Value) : Bx (w.setCell ⟨O, 1, none⟩ v) O x v := by
  obtain ⟨h0, h1, f⟩ := h
  exact ⟨by go_simp, by go_simp, by go_simp⟩
theorem lit2 (w : World) (x y : Int) (T : TypeId) : ∀ (j : Nat) u, [Value.int .i64 x, .int .i64 y][j]? = some u → (w.alloc (.cells #[.int .i64 x, .int .i64 y] T)).cell? (Addr.add ⟨w.heap.size, 0, none⟩ j) = some u := by
  intro i u hi
  match i, hi with
  | 0, hi => simp at hi; subst hi; simp [Addr.add]
  | 1, hi => simp at hi; subst hi; simp [Addr.add]
theorem one2 (x y : Int) : ∀ u ∈ [Value.int .i64 x, .int .i64 y], u.oneCell' = true := by
  intro u hu
  simp at hu
  rcases hu with rfl | rfl <;> rfl
/-- A graph that lies in memory, as the first of two results. -/
theorem gr_results {fn : Func} {p u : Tmp} (h : fn.results = #[.cell p 24, .tmp u]) {tmps : Array Value} {w : World} {B : Nat} {x y : Value} (hp : tmps.getD p undef = .pointer (some ⟨B, 0, none⟩)) (h0 : w.cell? ⟨B, 0, none⟩ = some x) (h1 : w.cell? ⟨B, 1, none⟩ = some y) :
    (results fn tmps).run Try.prog w = .ok (.tuple #[.agg #[x, y], tmps.getD u undef]) w := by
  rw [results_cell_tmp h, hp]
  go_simp
/-- By the first i arcs. -/
def clk (n : Nat) (l : List Ar) (a b i : Nat) : Bool := (l.take i).any fun p => decide (p.1 = (a : Int)) && rch n l p.2.toNat b
theorem clk_zero (n : Nat) (l : List Ar) (a b : Nat) : clk n l a b 0 = false := rfl
theorem clk_succ {n : Nat} {l : List Ar} {a b i : Nat} (h : i < l.length) : clk n l a b (i + 1) = (clk n l a b i || (decide ((at' l i).1 = (a : Int)) && rch n l (at' l i).2.toNat b)) := by
  unfold clk
  rw [take_at h, List.any_append]
  simp
theorem clk_end {n : Nat} {l : List Ar} (G : Fit n l) (a b : Nat) : clk n l a b l.length = clo n l a b := by
  unfold clk
  rw [List.take_length, clo_any G]
end Go.Proofs.Ytkdfmjhhdfiiiaa.GraW
