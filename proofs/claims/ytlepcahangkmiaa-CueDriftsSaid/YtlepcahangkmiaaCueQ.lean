/-
  Arguments of the laws of package cue, opened: lists of cues and of tempos, a small number. Condition: none.
-/
import Derived.Test.YtlepcahangkmiaaPairs
import Derived.Test.YtlepcahangkmiaaFrame
import Derived.Deep.SlicePairs
namespace Go.Proofs.Ytlepcahangkmiaa.FrmW
open Go.ChangeShapes Go.WideShapes Go.ChangeAt Go.RowKit Go.Joins
open PairW CelW
theorem cells_te : Try.prog.cellsOf 45 = 2 := by kernel_rfl
theorem cells_cu : Try.prog.cellsOf 40 = 2 := by kernel_rfl
section
variable {H : Type} {enc : TypeId × Value → H} {W : World} {r : Reach} {b0 : Nat} {v : Value} {d : DataW H} {p : List MemPlace}
set_option maxRecDepth 100000 in
theorem open_tz (hv : Value.okWide Try.prog W r b0 27 v) (h : DataW.Trod enc Try.prog W 0 (fun _ => true) true 27 v d p) :
    ∃ l, Pts W v l ∧ ∀ i, i < l.length → -9223372036854775808 ≤ (at' l i).2 := by
  obtain ⟨A, len, cap, rfl⟩ := okWide_slice Try.underlying27 hv
  obtain ⟨n, h⟩ := h
  rcases Go.Deep.open_slice_pairs Try.underlying27 Try.underlying45 cells_te rfl rfl cells_int cells_int h with ⟨hc, _⟩ | ⟨a, len', cap', m, k, V0, V1, D0, D1, P0, P1, hc, _, hl, hm, hmm, hx, hall⟩
  · refine ⟨[], ?_, fun i hi => absurd hi (Nat.not_lt_zero _)⟩
    have : (Value.slice A len cap) = .slice none 0 0 := by simpa [Value.cells] using hc
    rw [this]
    exact pts_nil W
  · have e : (Value.slice A len cap) = .slice (some a) len' cap' := by simpa [Value.cells] using hc
    rw [e]
    simp only [if_true] at hmm
    subst hmm
    have hint : ∀ i, i < m → ∃ x y, V0 i = .int .i64 x ∧ V1 i = .int .i64 y ∧ -9223372036854775808 ≤ y := fun i hi => by
      obtain ⟨x, h1, _⟩ := trod_i (hall i hi).2.2.1
      obtain ⟨y, h2, h3, _⟩ := trod_i (hall i hi).2.2.2
      simp at h1 h2
      exact ⟨x, y, h1, h2, h3⟩
    refine ⟨(List.range len').map fun i => (match V0 i with | .int _ x => x | _ => 0, match V1 i with | .int _ y => y | _ => 0), ⟨some a, m, by simp, by simpa using hl, hm, fun h0 => ?_⟩, fun i hi => ?_⟩
    case refine_2 =>
      simp at hi
      obtain ⟨x, y, e0, e1, e2⟩ := hint i (by omega)
      have hat : at' ((List.range len').map fun i => ((match V0 i with | .int _ x => x | _ => 0 : Int), (match V1 i with | .int _ y => y | _ => 0 : Int))) i = (x, y) := by
        unfold at'
        rw [List.getD_eq_getElem?_getD, List.getElem?_map, List.getElem?_range hi]
        simp [e0, e1]
      rw [hat]
      exact e2
    simp at h0
    obtain ⟨b, off, spot⟩ := a
    have hspot : spot = none := by simpa [Addr.add] using World.cell?_spot (hall 0 (by omega)).1
    subst hspot
    refine ⟨b, off, rfl, fun i hi => ?_⟩
    simp at hi
    obtain ⟨x, y, e0, e1, _⟩ := hint i (by omega)
    have hc0 := (hall i (by omega)).1
    have hc1 := (hall i (by omega)).2.1
    rw [e0, Addr.add_lit] at hc0
    rw [e1, Addr.add_lit] at hc1
    have hat : at' ((List.range len').map fun i => ((match V0 i with | .int _ x => x | _ => 0 : Int), (match V1 i with | .int _ y => y | _ => 0 : Int))) i = (x, y) := by
      unfold at'
      rw [List.getD_eq_getElem?_getD, List.getElem?_map, List.getElem?_range hi]
      simp [e0, e1]
    rw [hat]
    exact ⟨hc0, by rw [Nat.add_assoc]; exact hc1⟩
set_option maxRecDepth 100000 in
theorem open_cs (hv : Value.okWide Try.prog W r b0 22 v) (h : DataW.Trod enc Try.prog W 0 (fun _ => true) true 22 v d p) :
    ∃ l, Pts W v l ∧ ∀ i, i < l.length → -9223372036854775808 ≤ (at' l i).2 := by
  obtain ⟨A, len, cap, rfl⟩ := okWide_slice Try.underlying22 hv
  obtain ⟨n, h⟩ := h
  rcases Go.Deep.open_slice_pairs Try.underlying22 Try.underlying40 cells_cu rfl rfl cells_int cells_int h with ⟨hc, _⟩ | ⟨a, len', cap', m, k, V0, V1, D0, D1, P0, P1, hc, _, hl, hm, hmm, hx, hall⟩
  · refine ⟨[], ?_, fun i hi => absurd hi (Nat.not_lt_zero _)⟩
    have : (Value.slice A len cap) = .slice none 0 0 := by simpa [Value.cells] using hc
    rw [this]
    exact pts_nil W
  · have e : (Value.slice A len cap) = .slice (some a) len' cap' := by simpa [Value.cells] using hc
    rw [e]
    simp only [if_true] at hmm
    subst hmm
    have hint : ∀ i, i < m → ∃ x y, V0 i = .int .i64 x ∧ V1 i = .int .i64 y ∧ -9223372036854775808 ≤ y := fun i hi => by
      obtain ⟨x, h1, _⟩ := trod_i (hall i hi).2.2.1
      obtain ⟨y, h2, h3, _⟩ := trod_i (hall i hi).2.2.2
      simp at h1 h2
      exact ⟨x, y, h1, h2, h3⟩
    refine ⟨(List.range len').map fun i => (match V0 i with | .int _ x => x | _ => 0, match V1 i with | .int _ y => y | _ => 0), ⟨some a, m, by simp, by simpa using hl, hm, fun h0 => ?_⟩, fun i hi => ?_⟩
    case refine_2 =>
      simp at hi
      obtain ⟨x, y, e0, e1, e2⟩ := hint i (by omega)
      have hat : at' ((List.range len').map fun i => ((match V0 i with | .int _ x => x | _ => 0 : Int), (match V1 i with | .int _ y => y | _ => 0 : Int))) i = (x, y) := by
        unfold at'
        rw [List.getD_eq_getElem?_getD, List.getElem?_map, List.getElem?_range hi]
        simp [e0, e1]
      rw [hat]
      exact e2
    simp at h0
    obtain ⟨b, off, spot⟩ := a
    have hspot : spot = none := by simpa [Addr.add] using World.cell?_spot (hall 0 (by omega)).1
    subst hspot
    refine ⟨b, off, rfl, fun i hi => ?_⟩
    simp at hi
    obtain ⟨x, y, e0, e1, _⟩ := hint i (by omega)
    have hc0 := (hall i (by omega)).1
    have hc1 := (hall i (by omega)).2.1
    rw [e0, Addr.add_lit] at hc0
    rw [e1, Addr.add_lit] at hc1
    have hat : at' ((List.range len').map fun i => ((match V0 i with | .int _ x => x | _ => 0 : Int), (match V1 i with | .int _ y => y | _ => 0 : Int))) i = (x, y) := by
      unfold at'
      rw [List.getD_eq_getElem?_getD, List.getElem?_map, List.getElem?_range hi]
      simp [e0, e1]
    rw [hat]
    exact ⟨hc0, by rw [Nat.add_assoc]; exact hc1⟩
set_option maxRecDepth 100000 in
theorem open_u16 (hv : Value.okWide Try.prog W r b0 41 v) (h : DataW.Trod enc Try.prog W 0 (fun _ => true) true 41 v d p) : ∃ a : Int, v = .int .u16 a ∧ 0 ≤ a ∧ a ≤ 65535 := by
  obtain ⟨a, rfl⟩ := okWide_int Try.underlying41 hv
  obtain ⟨n, h⟩ := h
  obtain ⟨a', h1, _, h2⟩ := DataW.trod_int Try.underlying41 h
  obtain rfl : a = a' := by simpa [Value.cells] using h1
  exact ⟨a, rfl, bounds_u16 h2⟩
end
end Go.Proofs.Ytlepcahangkmiaa.FrmW
