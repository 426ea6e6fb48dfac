/-
  Arguments of the laws of package tempo, opened: lists of tempos, four integers. Condition: none.
-/
import Derived.Test.YtpgeiflbmcjaaaaPairs
import Derived.Test.YtpgeiflbmcjaaaaFrame
import Derived.Deep.SlicePairs
import Derived.Laws.IdiomArrays
namespace Go.Proofs.Ytpgeiflbmcjaaaa.FrmW
open Go.ChangeShapes Go.WideShapes Go.ChangeAt Go.RowKit Go.Joins
open PairW CelW
theorem cells_te : Try.prog.cellsOf 38 = 2 := by kernel_rfl
theorem bytes_te : Try.prog.bytesOf 38 = 16 := by kernel_rfl
section
variable {H : Type} {enc : TypeId × Value → H} {W : World} {r : Reach} {b0 : Nat} {v : Value} {d : DataW H} {p : List MemPlace}
set_option maxRecDepth 100000 in
theorem open_ts (hv : Value.okWide Try.prog W r b0 22 v) (h : DataW.Trod enc Try.prog W 0 (fun _ => true) true 22 v d p) :
    ∃ l, Pts W v l ∧ Len d l.length := by
  obtain ⟨A, len, cap, rfl⟩ := okWide_slice Try.underlying22 hv
  obtain ⟨n, h⟩ := h
  rcases Go.Deep.open_slice_pairs Try.underlying22 Try.underlying38 cells_te rfl rfl cells_int cells_int h with ⟨hc, _⟩ | ⟨a, len', cap', m, k, V0, V1, D0, D1, P0, P1, hc, _, hl, hm, hmm, hx, hall⟩
  · refine ⟨[], ?_, .inl rfl⟩
    have : (Value.slice A len cap) = .slice none 0 0 := by simpa [Value.cells] using hc
    rw [this]
    exact pts_nil W
  · have e : (Value.slice A len cap) = .slice (some a) len' cap' := by simpa [Value.cells] using hc
    rw [e]
    simp only [if_true] at hmm
    subst hmm
    have hint : ∀ i, i < m → ∃ x y, V0 i = .int .i64 x ∧ V1 i = .int .i64 y := fun i hi => by
      obtain ⟨x, h1, _⟩ := trod_i (hall i hi).2.2.1
      obtain ⟨y, h2, _⟩ := trod_i (hall i hi).2.2.2
      simp at h1 h2
      exact ⟨x, y, h1, h2⟩
    refine ⟨(List.range len').map fun i => (match V0 i with | .int _ x => x | _ => 0, match V1 i with | .int _ y => y | _ => 0), ⟨some a, m, by simp, by simpa using hl, hm, fun h0 => ?_⟩, .inr ⟨_, _, congrArg Prod.fst hx, by simp⟩⟩
    simp at h0
    obtain ⟨b, off, spot⟩ := a
    have hspot : spot = none := by simpa [Addr.add] using World.cell?_spot (hall 0 (by omega)).1
    subst hspot
    refine ⟨b, off, rfl, fun i hi => ?_⟩
    simp at hi
    obtain ⟨x, y, e0, e1⟩ := hint i (by omega)
    have hc0 := (hall i (by omega)).1
    have hc1 := (hall i (by omega)).2.1
    rw [e0, Addr.add_lit] at hc0
    rw [e1, Addr.add_lit] at hc1
    have hat : at' ((List.range len').map fun i => ((match V0 i with | .int _ x => x | _ => 0 : Int), (match V1 i with | .int _ y => y | _ => 0 : Int))) i = (x, y) := by
      unfold at'
      rw [List.getD_eq_getElem?_getD, List.getElem?_map, List.getElem?_range hi]
      simp [e0, e1]
    rw [hat]
    exact ⟨hc0, by rw [Nat.add_assoc]; exact hc1⟩
end
theorem cells_a4 : Try.prog.cellsOf 32 = 4 := by kernel_rfl
set_option maxRecDepth 100000 in
theorem open_a4 {H : Type} {enc : TypeId × Value → H} {W : World} {r : Reach} {b0 : Nat} {v : Value} {d : DataW H} {p : List MemPlace} (hv : Value.okWide Try.prog W r b0 32 v) (h : DataW.Trod enc Try.prog W 0 (fun _ => true) true 32 v d p) :
    ∃ a b c e : Int, v = .agg #[.int .i64 a, .int .i64 b, .int .i64 c, .int .i64 e] := by
  simp only [Value.okWide, Try.underlying32] at hv
  obtain ⟨cs, rfl, hs, _⟩ := hv
  obtain ⟨n, h⟩ := h
  obtain ⟨cs⟩ := cs
  have hl : cs.length = 4 := by
    obtain ⟨xs, m, _, _, hl, _, _⟩ := DataW.trod_array Try.underlying32 h
    rw [cells_a4] at hl
    exact hl
  match cs, hl with
  | [c0, c1, c2, c3], _ =>
    obtain ⟨y0, y1, y2, y3, m, _, h0, h1, h2, h3⟩ := trod_array4 Try.underlying32 cells_int h
    obtain ⟨a, e0, _⟩ := trod_i h0
    obtain ⟨b, e1, _⟩ := trod_i h1
    obtain ⟨c, e2, _⟩ := trod_i h2
    obtain ⟨e, e3, _⟩ := trod_i h3
    simp at e0 e1 e2 e3
    subst e0
    subst e1
    subst e2
    subst e3
    exact ⟨a, b, c, e, rfl⟩
end Go.Proofs.Ytpgeiflbmcjaaaa.FrmW
