/-
  Arguments of the laws of package graph, opened: graphs. Condition: none.
-/
import Derived.Test.YtkdfmjhhdfiiiaaGraphA
import Derived.Test.YtkdfmjhhdfiiiaaFrame
import Derived.Deep.SlicePairs
namespace Go.Proofs.Ytkdfmjhhdfiiiaa.FrmW
open Go.ChangeShapes Go.WideShapes Go.ChangeAt Go.RowKit Go.Joins
open PairW CelW GraW GraP
theorem cells_arc : Try.prog.cellsOf 46 = 2 := by kernel_rfl
theorem cells_arcs : Try.prog.cellsOf 22 = 1 := by kernel_rfl
theorem cells_graph : Try.prog.cellsOf 24 = 2 := by kernel_rfl
section
variable {H : Type} {enc : TypeId × Value → H} {W : World} {r : Reach} {b0 : Nat} {v : Value} {d : DataW H} {p : List MemPlace} {fuel : Nat} {cs : List Value} {x : DataW H × List MemPlace}
set_option maxRecDepth 100000 in
theorem trod_arcs (h : DataW.trod enc Try.prog W 0 (fun _ => true) true fuel 22 cs = some x) : ∃ v l, cs = [v] ∧ Pts W v l := by
  rcases Go.Deep.open_slice_pairs Try.underlying22 Try.underlying46 cells_arc rfl rfl cells_int cells_int h with ⟨rfl, _⟩ | ⟨a, len', cap', m, k, V0, V1, D0, D1, P0, P1, rfl, _, hl, hm, hmm, hx, hall⟩
  · exact ⟨_, [], rfl, pts_nil W⟩
  · simp only [if_true] at hmm
    subst hmm
    have hint : ∀ i, i < m → ∃ x y, V0 i = .int .i64 x ∧ V1 i = .int .i64 y := fun i hi => by
      obtain ⟨x, h1, _⟩ := trod_i (hall i hi).2.2.1
      obtain ⟨y, h2, _⟩ := trod_i (hall i hi).2.2.2
      simp at h1 h2
      exact ⟨x, y, h1, h2⟩
    refine ⟨_, (List.range len').map fun i => (match V0 i with | .int _ x => x | _ => 0, match V1 i with | .int _ y => y | _ => 0), rfl, ⟨some a, m, by simp, by simpa using hl, hm, fun h0 => ?_⟩⟩
    simp at h0
    obtain ⟨b, off, spot⟩ := a
    have hspot : spot = none := by simpa [Addr.add] using World.cell?_spot (hall 0 (by omega)).1
    subst hspot
    refine ⟨b, off, rfl, fun i hi => ?_⟩
    simp at hi
    obtain ⟨x, y, e0, e1⟩ := hint i (by omega)
    have hc0 := (hall i (by omega)).1
    have hc1 := (hall i (by omega)).2.1
    rw [e0, Addr.add_lit] at hc0
    rw [e1, Addr.add_lit] at hc1
    have hat : at' ((List.range len').map fun i => ((match V0 i with | .int _ x => x | _ => 0 : Int), (match V1 i with | .int _ y => y | _ => 0 : Int))) i = (x, y) := by
      unfold at'
      rw [List.getD_eq_getElem?_getD, List.getElem?_map, List.getElem?_range hi]
      simp [e0, e1]
    rw [hat]
    exact ⟨hc0, by rw [Nat.add_assoc]; exact hc1⟩
set_option maxRecDepth 100000 in
theorem open_graph (hv : Value.okWide Try.prog W r b0 24 v) (h : DataW.Trod enc Try.prog W 0 (fun _ => true) true 24 v d p) : ∃ (N : Int) (sv : Value) (l : List Ar), v = grV N sv ∧ Pts W sv l := by
  obtain ⟨cs, rfl, _⟩ := okWide_struct Try.underlying24 hv
  obtain ⟨n, h⟩ := h
  obtain ⟨y0, y1, n, _, hl, h0, h1⟩ := trod_struct2 Try.underlying24 h
  rw [cells_graph] at hl
  obtain ⟨cs⟩ := cs
  match cs, hl with
  | [c0, c1], _ =>
    simp [Value.cells, cells_int, cells_arcs] at h0 h1
    obtain ⟨a, e0, _⟩ := trod_i h0
    obtain ⟨sv, l, e1, hp⟩ := trod_arcs h1
    simp at e0 e1
    subst e0
    subst e1
    exact ⟨a, _, l, rfl, hp⟩
end
end Go.Proofs.Ytkdfmjhhdfiiiaa.FrmW
