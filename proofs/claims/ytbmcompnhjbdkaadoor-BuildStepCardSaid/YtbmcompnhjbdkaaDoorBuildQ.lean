/-
  The table of bounds as the rows list it, and the openings of a body and of a byte. Condition: none.
-/
import Derived.Test.YtbmcompnhjbdkaaDoorFrame
import Derived.Test.YtbmcompnhjbdkaaDoorBuildPA
import Derived.Lib.LaidTab
import Derived.Deep.SlicePairs
import Derived.Laws.IdiomArrays
namespace Go.Proofs.YtbmcompnhjbdkaaDoor.BuiW
open Go.ChangeShapes Go.WideShapes Go.ChangeAt Go.RowKit Go.Joins
open PairW BuiP FrmW
/-- Pairs as a row lists them. -/
def pairsData {H : Type} (l : List (Int × Int)) : DataW H := .agg (l.map fun p => .agg [.lit (.int .i64 p.1), .lit (.int .i64 p.2)])
def bnds : List (Int × Int) := [(400, 1500), (200, 1000), (50, 500), (200, 1200), (20, 300), (50, 400), (100, 1200), (0, 200), (0, 200), (20, 300), (100, 1000)]
theorem cells_bd1 : Tryd.prog.cellsOf 47 = 2 := by kernel_rfl
theorem cells_tab : Tryd.prog.cellsOf 48 = 22 := by kernel_rfl
set_option maxRecDepth 100000 in
/-- An array of pairs that reads as the list holds it, cell for cell. -/
theorem cells_of_pairs {H : Type} {enc : TypeId × Value → H} {w : World} {base : Nat} {sp : Nat → Bool} {held : Bool} {fuel : Nat} {cs : List Value} {l : List (Int × Int)} {p : List MemPlace}
    (h : DataW.trod enc Tryd.prog w base sp held fuel 48 cs = some (pairsData l, p)) : ∀ i, i < l.length → cs[i * 2]? = some (.int .i64 (l.getD i (0, 0)).1) ∧ cs[i * 2 + 1]? = some (.int .i64 (l.getD i (0, 0)).2) := by
  cases fuel with
  | zero => simp [DataW.trod] at h
  | succ fuel =>
    simp only [DataW.trod, Tryd.underlying48, cells_bd1] at h
    split at h
    · obtain ⟨xs, hm, hx⟩ := Option.map_eq_some_iff.1 h
      have hxs : xs.map (·.1) = l.map fun p => (DataW.agg [.lit (.int .i64 p.1), .lit (.int .i64 p.2)] : DataW H) := by
        have := congrArg Prod.fst hx
        simpa [pairsData] using this
      have hxl : xs.length = 11 := by simpa using Lib.mapM_length hm
      have hzl : l.length = 11 := by
        have := congrArg List.length hxs
        simp at this
        omega
      intro i hi
      obtain ⟨b, hb, hf⟩ := Lib.mapM_at hm i i (List.getElem?_range (by omega))
      obtain ⟨y0, y1, n, e, hlen, h0, h1⟩ := trod_struct2 Tryd.underlying47 hf
      rw [cells_bd1] at hlen
      simp only [cells_int, List.drop_zero] at h0 h1
      obtain ⟨u, f0, g0, _⟩ := DataW.trod_int Tryd.underlying3 h0
      obtain ⟨v, f1, g1, _⟩ := DataW.trod_int Tryd.underlying3 h1
      have h2 : (xs.map (·.1))[i]? = some (DataW.agg [.lit (.int .i64 u), .lit (.int .i64 v)] : DataW H) := by rw [List.getElem?_map, hb, e, g0, g1]; rfl
      rw [hxs, List.getElem?_map, List.getElem?_eq_getElem hi] at h2
      simp only [Option.map_some, Option.some.injEq, DataW.agg.injEq, List.cons.injEq, DataW.lit.injEq, Lit.int.injEq, true_and, and_true] at h2
      have e1 : (l.getD i (0, 0)) = l[i] := by rw [List.getD_eq_getElem?_getD, List.getElem?_eq_getElem hi]; rfl
      rw [e1, h2.1, h2.2]
      have k0 := congrArg (·[0]?) f0
      have k1 := congrArg (·[0]?) f1
      simp [List.getElem?_drop] at k0 k1
      exact ⟨k0, k1⟩
    · cases h
theorem gTab : Tryd.prog.globalNamed "dancestudio/build.lengthBounds" = some 0 := by kernel_rfl
theorem gTabType : (Tryd.prog.globals[0]?).map (·.type) = some 48 := by kernel_rfl
theorem laid_tab : (Rows.laid_dancestudio_build_lengthBounds : DataW Unit) = pairsData bnds := by kernel_rfl
theorem bnds_at : ∀ k, k < 11 → bnds.getD k (0, 0) = (BuiP.lo k, BuiP.hi k) := by decide
theorem tab_met {W : World} (h : laidMetH Tryd.prog [("dancestudio/build.lengthBounds", Rows.laid_dancestudio_build_lengthBounds)] W) : Tab W := by
  have h' : laidMet Tryd.prog [("dancestudio/build.lengthBounds", Rows.laid_dancestudio_build_lengthBounds)] W := h
  obtain ⟨ps, ⟨g1, t1, c1, fu1, p1, q1, hg1, ht1, hv1, hd1, _, _⟩, _⟩ := h'
  obtain rfl := Option.some.inj (gTab.symm.trans hg1)
  obtain rfl := Option.some.inj (gTabType.symm.trans ht1)
  rw [laid_tab] at hd1
  have hc := cells_of_pairs hd1
  refine ⟨fun k hk => ?_, fun k hk => ?_⟩
  · have := World.var?_cell gTab hv1 (k * 2)
    rw [this, ← Array.getElem?_toList, (hc k hk).1, bnds_at k hk]
  · have := World.var?_cell gTab hv1 (k * 2 + 1)
    rw [this, ← Array.getElem?_toList, (hc k hk).2, bnds_at k hk]
section
variable {H : Type} {enc : TypeId × Value → H} {W : World} {r : Reach} {b0 : Nat} {v : Value} {d : DataW H} {p : List MemPlace}
theorem cells_bd : Tryd.prog.cellsOf 24 = 15 := by kernel_rfl
theorem cells_a4 : Tryd.prog.cellsOf 22 = 4 := by kernel_rfl
set_option maxRecDepth 100000 in
theorem open_bd (hv : Value.okWide Tryd.prog W r b0 24 v) (h : DataW.Trod enc Tryd.prog W 0 (fun _ => true) true 24 v d p) : ∃ b : Bl, v = .agg #[.int .i64 (b 0), .int .i64 (b 1), .int .i64 (b 2), .int .i64 (b 3), .int .i64 (b 4), .int .i64 (b 5), .int .i64 (b 6), .int .i64 (b 7), .int .i64 (b 8), .int .i64 (b 9), .int .i64 (b 10), .int .i64 (b 11), .int .i64 (b 12), .int .i64 (b 13), .int .i64 (b 14)] := by
  obtain ⟨cs, rfl, _⟩ := okWide_struct Tryd.underlying24 hv
  obtain ⟨n, h⟩ := h
  obtain ⟨xs, n, _, _, hl, hlen, hf⟩ := DataW.trod_struct Tryd.underlying24 h
  rw [cells_bd] at hl
  obtain ⟨cs⟩ := cs
  match cs, hl, xs, hlen with
  | [c0, c1, c2, c3, c4, c5, c6, c7, c8, c9, c10, c11, c12, c13, c14], _, [y0, y1, y2, y3, y4, y5, y6, y7, y8, y9, y10, y11], _ =>
    have h0 := hf 0 _ rfl
    have h1 := hf 1 _ rfl
    have h2 := hf 2 _ rfl
    have h3 := hf 3 _ rfl
    have h4 := hf 4 _ rfl
    have h5 := hf 5 _ rfl
    have h6 := hf 6 _ rfl
    have h7 := hf 7 _ rfl
    have h8 := hf 8 _ rfl
    have h9 := hf 9 _ rfl
    have h10 := hf 10 _ rfl
    have h11 := hf 11 _ rfl
    simp [Value.cells, cells_int, cells_a4] at h0 h1 h2 h3 h4 h5 h6 h7 h8 h9 h10 h11
    obtain ⟨a0, e0, _⟩ := trod_i h0
    obtain ⟨a1, e1, _⟩ := trod_i h1
    obtain ⟨a2, e2, _⟩ := trod_i h2
    obtain ⟨a3, e3, _⟩ := trod_i h3
    obtain ⟨a4, e4, _⟩ := trod_i h4
    obtain ⟨a5, e5, _⟩ := trod_i h5
    obtain ⟨a6, e6, _⟩ := trod_i h6
    obtain ⟨a7, e7, _⟩ := trod_i h7
    obtain ⟨a8, e8, _⟩ := trod_i h8
    obtain ⟨a9, e9, _⟩ := trod_i h9
    obtain ⟨a10, e10, _⟩ := trod_i h10
    obtain ⟨z0, z1, z2, z3, m, _, m0, m1, m2, m3⟩ := trod_array4 Tryd.underlying22 cells_int h11
    obtain ⟨a11, e11, _⟩ := trod_i m0
    obtain ⟨a12, e12, _⟩ := trod_i m1
    obtain ⟨a13, e13, _⟩ := trod_i m2
    obtain ⟨a14, e14, _⟩ := trod_i m3
    simp at e0 e1 e2 e3 e4 e5 e6 e7 e8 e9 e10 e11 e12 e13 e14
    subst e0 e1 e2 e3 e4 e5 e6 e7 e8 e9 e10 e11 e12 e13 e14
    exact ⟨fun i => [a0, a1, a2, a3, a4, a5, a6, a7, a8, a9, a10, a11, a12, a13, a14].getD i 0, rfl⟩
set_option maxRecDepth 100000 in
theorem open_by (hv : Value.okWide Tryd.prog W r b0 5 v) (h : DataW.Trod enc Tryd.prog W 0 (fun _ => true) true 5 v d p) : ∃ a : Int, v = .int .u8 a ∧ 0 ≤ a ∧ a ≤ 255 := by
  obtain ⟨a, rfl⟩ := okWide_int Tryd.underlying5 hv
  obtain ⟨n, h⟩ := h
  obtain ⟨a', h1, _, h2⟩ := DataW.trod_int Tryd.underlying5 h
  obtain rfl : a = a' := by simpa [Value.cells] using h1
  have hb := bounds_u8 h2
  exact ⟨a, rfl, hb.1, by omega⟩
end
end Go.Proofs.YtbmcompnhjbdkaaDoor.BuiW
