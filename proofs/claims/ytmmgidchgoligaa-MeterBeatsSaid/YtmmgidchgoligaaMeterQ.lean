/-
  Arguments of the laws of package meter, opened: lists of meters, spans. Condition: none.
-/
import Derived.Test.YtmmgidchgoligaaPairs
import Derived.Test.YtmmgidchgoligaaFrame
import Derived.Deep.SlicePairs
namespace Go.Proofs.Ytmmgidchgoligaa.FrmW
open Go.ChangeShapes Go.WideShapes Go.ChangeAt Go.RowKit Go.Joins
open PairW CelW
theorem cells_me : Try.prog.cellsOf 45 = 2 := by kernel_rfl
theorem bytes_me : Try.prog.bytesOf 45 = 16 := by kernel_rfl
theorem cells_sp : Try.prog.cellsOf 30 = 2 := by kernel_rfl
section
variable {H : Type} {enc : TypeId × Value → H} {W : World} {r : Reach} {b0 : Nat} {v : Value} {d : DataW H} {p : List MemPlace}
set_option maxRecDepth 100000 in
theorem open_ms (hv : Value.okWide Try.prog W r b0 22 v) (h : DataW.Trod enc Try.prog W 0 (fun _ => true) true 22 v d p) :
    ∃ l, Pts W v l ∧ Len d l.length := by
  obtain ⟨A, len, cap, rfl⟩ := okWide_slice Try.underlying22 hv
  obtain ⟨n, h⟩ := h
  rcases Go.Deep.open_slice_pairs Try.underlying22 Try.underlying45 cells_me rfl rfl cells_int cells_int h with ⟨hc, _⟩ | ⟨a, len', cap', m, k, V0, V1, D0, D1, P0, P1, hc, _, hl, hm, hmm, hx, hall⟩
  · refine ⟨[], ?_, .inl rfl⟩
    have : (Value.slice A len cap) = .slice none 0 0 := by simpa [Value.cells] using hc
    rw [this]
    exact pts_nil W
  · have e : (Value.slice A len cap) = .slice (some a) len' cap' := by simpa [Value.cells] using hc
    rw [e]
    simp only [if_true] at hmm
    subst hmm
    have hint : ∀ i, i < m → ∃ x y, V0 i = .int .i64 x ∧ V1 i = .int .i64 y := fun i hi => by
      obtain ⟨x, h1, _⟩ := trod_i (hall i hi).2.2.1
      obtain ⟨y, h2, _⟩ := trod_i (hall i hi).2.2.2
      simp at h1 h2
      exact ⟨x, y, h1, h2⟩
    refine ⟨(List.range len').map fun i => (match V0 i with | .int _ x => x | _ => 0, match V1 i with | .int _ y => y | _ => 0), ⟨some a, m, by simp, by simpa using hl, hm, fun h0 => ?_⟩, .inr ⟨_, _, congrArg Prod.fst hx, by simp⟩⟩
    simp at h0
    obtain ⟨b, off, spot⟩ := a
    have hspot : spot = none := by simpa [Addr.add] using World.cell?_spot (hall 0 (by omega)).1
    subst hspot
    refine ⟨b, off, rfl, fun i hi => ?_⟩
    simp at hi
    obtain ⟨x, y, e0, e1⟩ := hint i (by omega)
    have hc0 := (hall i (by omega)).1
    have hc1 := (hall i (by omega)).2.1
    rw [e0, Addr.add_lit] at hc0
    rw [e1, Addr.add_lit] at hc1
    have hat : at' ((List.range len').map fun i => ((match V0 i with | .int _ x => x | _ => 0 : Int), (match V1 i with | .int _ y => y | _ => 0 : Int))) i = (x, y) := by
      unfold at'
      rw [List.getD_eq_getElem?_getD, List.getElem?_map, List.getElem?_range hi]
      simp [e0, e1]
    rw [hat]
    exact ⟨hc0, by rw [Nat.add_assoc]; exact hc1⟩
set_option maxRecDepth 100000 in
theorem open_span (hv : Value.okWide Try.prog W r b0 30 v) (h : DataW.Trod enc Try.prog W 0 (fun _ => true) true 30 v d p) : ∃ a b : Int, v = .agg #[.int .i64 a, .int .i64 b] := by
  obtain ⟨cs, rfl, _⟩ := okWide_struct Try.underlying30 hv
  obtain ⟨n, h⟩ := h
  obtain ⟨y0, y1, n, _, hl, h0, h1⟩ := trod_struct2 Try.underlying30 h
  rw [cells_sp] at hl
  obtain ⟨cs⟩ := cs
  match cs, hl with
  | [c0, c1], _ =>
    simp [Value.cells, cells_int] at h0 h1
    obtain ⟨a, e0, _⟩ := trod_i h0
    obtain ⟨b, e1, _⟩ := trod_i h1
    simp at e0 e1
    subst e0
    subst e1
    exact ⟨a, b, rfl⟩
end
end Go.Proofs.Ytmmgidchgoligaa.FrmW
