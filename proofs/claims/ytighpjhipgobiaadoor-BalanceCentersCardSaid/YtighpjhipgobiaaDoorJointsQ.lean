/-
  The listed variables as the rows list them, and the openings of a build, a pose, joints, a vector, a point and a byte. Condition: none.
-/
import Derived.Test.YtighpjhipgobiaaDoorFrame
import Derived.Test.YtighpjhipgobiaaDoorJointsPC
import Derived.Lib.LaidTab
import Derived.Deep.SlicePairs
import Derived.Laws.IdiomArrays
namespace Go.Proofs.YtighpjhipgobiaaDoor.JntQ
open Go.ChangeShapes Go.WideShapes Go.ChangeAt Go.RowKit Go.Joins
open JntW JntP PstP PairW PrtW FrmW
abbrev Bl := Vl
def nmb (v : Option Value) : Int := match v with | some (.int .i64 z) => z | _ => 0
/-- Pairs as a row lists them. -/
def pairsData {H : Type} (l : List (Int × Int)) : DataW H := .agg (l.map fun p => .agg [.lit (.int .i64 p.1), .lit (.int .i64 p.2)])
def bnds : List (Int × Int) := [(400, 1500), (200, 1000), (50, 500), (200, 1200), (20, 300), (50, 400), (100, 1200), (0, 200), (0, 200), (20, 300), (100, 1000)]
theorem cells_bd1 : Tryd.prog.cellsOf 86 = 2 := by kernel_rfl
theorem cells_tab : Tryd.prog.cellsOf 87 = 22 := by kernel_rfl
set_option maxRecDepth 100000 in
/-- An array of pairs that reads as the list holds it, cell for cell. -/
theorem cells_of_pairs {H : Type} {enc : TypeId × Value → H} {w : World} {base : Nat} {sp : Nat → Bool} {held : Bool} {fuel : Nat} {cs : List Value} {l : List (Int × Int)} {p : List MemPlace}
    (h : DataW.trod enc Tryd.prog w base sp held fuel 87 cs = some (pairsData l, p)) : ∀ i, i < l.length → cs[i * 2]? = some (.int .i64 (l.getD i (0, 0)).1) ∧ cs[i * 2 + 1]? = some (.int .i64 (l.getD i (0, 0)).2) := by
  cases fuel with
  | zero => simp [DataW.trod] at h
  | succ fuel =>
    simp only [DataW.trod, Tryd.underlying87, cells_bd1] at h
    split at h
    · obtain ⟨xs, hm, hx⟩ := Option.map_eq_some_iff.1 h
      have hxs : xs.map (·.1) = l.map fun p => (DataW.agg [.lit (.int .i64 p.1), .lit (.int .i64 p.2)] : DataW H) := by
        have := congrArg Prod.fst hx
        simpa [pairsData] using this
      have hxl : xs.length = 11 := by simpa using Lib.mapM_length hm
      have hzl : l.length = 11 := by
        have := congrArg List.length hxs
        simp at this
        omega
      intro i hi
      obtain ⟨b, hb, hf⟩ := Lib.mapM_at hm i i (List.getElem?_range (by omega))
      obtain ⟨y0, y1, n, e, hlen, h0, h1⟩ := trod_struct2 Tryd.underlying86 hf
      rw [cells_bd1] at hlen
      simp only [cells_int, List.drop_zero] at h0 h1
      obtain ⟨u, f0, g0, _⟩ := DataW.trod_int Tryd.underlying3 h0
      obtain ⟨v, f1, g1, _⟩ := DataW.trod_int Tryd.underlying3 h1
      have h2 : (xs.map (·.1))[i]? = some (DataW.agg [.lit (.int .i64 u), .lit (.int .i64 v)] : DataW H) := by rw [List.getElem?_map, hb, e, g0, g1]; rfl
      rw [hxs, List.getElem?_map, List.getElem?_eq_getElem hi] at h2
      simp only [Option.map_some, Option.some.injEq, DataW.agg.injEq, List.cons.injEq, DataW.lit.injEq, Lit.int.injEq, true_and, and_true] at h2
      have e1 : (l.getD i (0, 0)) = l[i] := by rw [List.getD_eq_getElem?_getD, List.getElem?_eq_getElem hi]; rfl
      rw [e1, h2.1, h2.2]
      have k0 := congrArg (·[0]?) f0
      have k1 := congrArg (·[0]?) f1
      simp [List.getElem?_drop] at k0 k1
      exact ⟨k0, k1⟩
    · cases h
theorem gTab : Tryd.prog.globalNamed "dancestudio/build.lengthBounds" = some 0 := by kernel_rfl
theorem gTabType : (Tryd.prog.globals[0]?).map (·.type) = some 87 := by kernel_rfl
theorem laid_tab : (Rows.laid_dancestudio_build_lengthBounds : DataW Unit) = pairsData bnds := by kernel_rfl
theorem bnds_at : ∀ k, k < 11 → bnds.getD k (0, 0) = (BuiP.lo k, BuiP.hi k) := by decide
theorem gSds : Tryd.prog.globalNamed "dancestudio/joints.sides" = some 1 := by kernel_rfl
theorem gSdsType : (Tryd.prog.globals[1]?).map (·.type) = some 96 := by kernel_rfl
theorem laid_sds : (Rows.laid_dancestudio_joints_sides : DataW Unit) = .agg [.agg [.lit (.int .i64 (-1)), .lit (.int .i64 0), .lit (.int .i64 3), .lit (.int .i64 1)], .agg [.lit (.int .i64 1), .lit (.int .i64 1), .lit (.int .i64 4), .lit (.int .i64 2)]] := by kernel_rfl
theorem cells_sd : Tryd.prog.cellsOf 95 = 4 := by kernel_rfl
theorem cells_sd2 : Tryd.prog.cellsOf 96 = 8 := by kernel_rfl
set_option maxRecDepth 100000 in
/-- One side, read as its four numbers. -/
theorem side_cells {H : Type} {enc : TypeId × Value → H} {W : World} {base : Nat} {sp : Nat → Bool} {held : Bool} {fuel : Nat} {cs : List Value} {a b c d : Int} {m : List MemPlace} (h : DataW.trod enc Tryd.prog W base sp held fuel 95 cs = some (.agg [.lit (.int .i64 a), .lit (.int .i64 b), .lit (.int .i64 c), .lit (.int .i64 d)], m)) :
    cs[0]? = some (.int .i64 a) ∧ cs[1]? = some (.int .i64 b) ∧ cs[2]? = some (.int .i64 c) ∧ cs[3]? = some (.int .i64 d) := by
  obtain ⟨xs, n, _, e, _, hlen, hf⟩ := DataW.trod_struct Tryd.underlying95 h
  match xs, hlen with
  | [y0, y1, y2, y3], _ =>
    have h0 := hf 0 _ rfl
    have h1 := hf 1 _ rfl
    have h2 := hf 2 _ rfl
    have h3 := hf 3 _ rfl
    simp [cells_int] at h0 h1 h2 h3
    obtain ⟨u0, f0, z0, _⟩ := DataW.trod_int Tryd.underlying3 h0
    obtain ⟨u1, f1, z1, _⟩ := DataW.trod_int Tryd.underlying3 h1
    obtain ⟨u2, f2, z2, _⟩ := DataW.trod_int Tryd.underlying3 h2
    obtain ⟨u3, f3, z3, _⟩ := DataW.trod_int Tryd.underlying3 h3
    have e1 := congrArg Prod.fst e
    simp only [List.map_cons, List.map_nil, z0, z1, z2, z3, DataW.agg.injEq, List.cons.injEq, DataW.lit.injEq, Lit.int.injEq, true_and, and_true] at e1
    obtain ⟨rfl, rfl, rfl, rfl⟩ := e1
    have k0 := congrArg (·[0]?) f0
    have k1 := congrArg (·[0]?) f1
    have k2 := congrArg (·[0]?) f2
    have k3 := congrArg (·[0]?) f3
    simp [List.getElem?_drop] at k0 k1 k2 k3
    exact ⟨k0, k1, k2, k3⟩
set_option maxRecDepth 100000 in
theorem sides_cells {H : Type} {enc : TypeId × Value → H} {W : World} {base : Nat} {sp : Nat → Bool} {held : Bool} {fuel : Nat} {cs : List Value} {p : List MemPlace} (h : DataW.trod enc Tryd.prog W base sp held fuel 96 cs = some (.agg [.agg [.lit (.int .i64 (-1)), .lit (.int .i64 0), .lit (.int .i64 3), .lit (.int .i64 1)], .agg [.lit (.int .i64 1), .lit (.int .i64 1), .lit (.int .i64 4), .lit (.int .i64 2)]], p)) : ∀ k, k < 8 → cs[k]? = some (.int .i64 (sdF k)) := by
  cases fuel with
  | zero => simp [DataW.trod] at h
  | succ fuel =>
    simp only [DataW.trod, Tryd.underlying96, cells_sd] at h
    split at h
    · obtain ⟨xs, hm, hx⟩ := Option.map_eq_some_iff.1 h
      have hxl : xs.length = 2 := by simpa using Lib.mapM_length hm
      have hxs := congrArg Prod.fst hx
      match xs, hxl with
      | [x0, x1], _ =>
        simp at hxs
        obtain ⟨b0, hb0, hf0⟩ := Lib.mapM_at hm 0 0 (List.getElem?_range (by omega))
        obtain ⟨b1, hb1, hf1⟩ := Lib.mapM_at hm 1 1 (List.getElem?_range (by omega))
        obtain rfl : x0 = b0 := by simpa using hb0
        obtain rfl : x1 = b1 := by simpa using hb1
        obtain ⟨d0, m0⟩ := x0
        obtain ⟨d1, m1⟩ := x1
        simp only at hxs
        obtain ⟨rfl, rfl⟩ := hxs
        obtain ⟨a0, a1, a2, a3⟩ := side_cells hf0
        obtain ⟨c0, c1, c2, c3⟩ := side_cells hf1
        simp [List.getElem?_drop] at a0 a1 a2 a3 c0 c1 c2 c3
        intro k hk
        match k, hk with
        | 0, _ => exact a0
        | 1, _ => exact a1
        | 2, _ => exact a2
        | 3, _ => exact a3
        | 4, _ => exact c0
        | 5, _ => exact c1
        | 6, _ => exact c2
        | 7, _ => exact c3
        | n + 8, h => omega
    · cases h
theorem vars_met {W : World} (h : laidMetH Tryd.prog [("dancestudio/angle.sines", Rows.laid_dancestudio_angle_sines), ("dancestudio/build.lengthBounds", Rows.laid_dancestudio_build_lengthBounds), ("dancestudio/joints.sides", Rows.laid_dancestudio_joints_sides)] W) : AngW.Tab W ∧ BuiW.Tab W ∧ JntW.Sds W := by
  have ht : Lib.TabIs Tryd.prog W "dancestudio/angle.sines" .i64 AngP.tabS := Lib.tabIs_of_head (rest := [("dancestudio/build.lengthBounds", Rows.laid_dancestudio_build_lengthBounds), ("dancestudio/joints.sides", Rows.laid_dancestudio_joints_sides)]) AngW.gTab AngW.gTabType Tryd.underlying121 Tryd.underlying3 AngW.cellsInt AngW.cellsTab h
  refine ⟨⟨fun k hk => ht.cell AngW.gTab k hk⟩, ?_⟩
  have h' : laidMet Tryd.prog [("dancestudio/angle.sines", Rows.laid_dancestudio_angle_sines), ("dancestudio/build.lengthBounds", Rows.laid_dancestudio_build_lengthBounds), ("dancestudio/joints.sides", Rows.laid_dancestudio_joints_sides)] W := h
  obtain ⟨ps, ⟨g1, t1, c1, fu1, p1, q1, hg1, ht1, hv1, hd1, ⟨g2, t2, c2, fu2, p2, q2, hg2, ht2, hv2, hd2, ⟨g3, t3, c3, fu3, p3, q3, hg3, ht3, hv3, hd3, _, _⟩, _⟩, _⟩, _⟩ := h'
  obtain rfl := Option.some.inj (gTab.symm.trans hg2)
  obtain rfl := Option.some.inj (gTabType.symm.trans ht2)
  obtain rfl := Option.some.inj (gSds.symm.trans hg3)
  obtain rfl := Option.some.inj (gSdsType.symm.trans ht3)
  rw [laid_tab] at hd2
  rw [laid_sds] at hd3
  have hc := cells_of_pairs hd2
  have hs := sides_cells hd3
  refine ⟨⟨fun k hk => ?_, fun k hk => ?_⟩, ⟨fun k hk => ?_⟩⟩
  · have := World.var?_cell gTab hv2 (k * 2)
    rw [this, ← Array.getElem?_toList, (hc k hk).1, bnds_at k hk]
  · have := World.var?_cell gTab hv2 (k * 2 + 1)
    rw [this, ← Array.getElem?_toList, (hc k hk).2, bnds_at k hk]
  · have := World.var?_cell gSds hv3 k
    rw [this, ← Array.getElem?_toList, hs k hk]
section
variable {H : Type} {enc : TypeId × Value → H} {W : World} {base : Nat} {sp : Nat → Bool}
theorem int_cell {cs : List Value} {held : Bool} {fuel : Nat} {x : DataW H × List MemPlace} (h : DataW.trod enc Tryd.prog W base sp held fuel 3 cs = some x) : ∃ z, cs[0]? = some (.int .i64 z) := by
  obtain ⟨a, e, _⟩ := trod_i h
  exact ⟨a, by rw [e]; rfl⟩
theorem cells_pt : Tryd.prog.cellsOf 26 = 2 := by kernel_rfl
theorem pt_cells {cs : List Value} {held : Bool} {fuel : Nat} {x : DataW H × List MemPlace} (h : DataW.trod enc Tryd.prog W base sp held fuel 26 cs = some x) : (∃ z, cs[0]? = some (.int .i64 z)) ∧ ∃ z, cs[1]? = some (.int .i64 z) := by
  obtain ⟨y0, y1, n, _, _, h0, h1⟩ := trod_struct2 Tryd.underlying26 h
  simp only [cells_int, List.drop_zero] at h0 h1
  obtain ⟨z0, e0⟩ := int_cell h0
  obtain ⟨z1, e1⟩ := int_cell h1
  exact ⟨⟨z0, by simpa [List.getElem?_take, List.getElem?_drop] using e0⟩, z1, by simpa [List.getElem?_take, List.getElem?_drop] using e1⟩
theorem cells_a6 : Tryd.prog.cellsOf 29 = 18 := by kernel_rfl
theorem cells_a6e : Tryd.prog.cellsOf 28 = 3 := by kernel_rfl
set_option maxRecDepth 100000 in
/-- An array of six structs of three integers. -/
theorem a6_cells {cs : List Value} {held : Bool} {fuel : Nat} {x : DataW H × List MemPlace} (h : DataW.trod enc Tryd.prog W base sp held fuel 29 cs = some x) : ∀ i, i < 18 → ∃ z, cs[i]? = some (.int .i64 z) := by
  cases fuel with
  | zero => simp [DataW.trod] at h
  | succ fuel =>
    simp only [DataW.trod, Tryd.underlying29, cells_a6e] at h
    split at h
    · obtain ⟨xs, hm, _⟩ := Option.map_eq_some_iff.1 h
      intro i hi
      have hxl : xs.length = 6 := by simpa using Lib.mapM_length hm
      obtain ⟨b, _, hf⟩ := Lib.mapM_at hm (i / 3) (i / 3) (List.getElem?_range (by omega))
      obtain ⟨y0, y1, y2, n, _, _, h0, h1, h2⟩ := Deep.trod_struct3 Tryd.underlying28 hf
      simp only [cells_int, List.drop_zero] at h0 h1 h2
      have t : i % 3 = 0 ∨ i % 3 = 1 ∨ i % 3 = 2 := by omega
      rcases t with t | t | t
      · obtain ⟨z, e⟩ := int_cell h0
        exact ⟨z, by simpa [List.getElem?_take, List.getElem?_drop, show i / 3 * 3 = i by omega] using e⟩
      · obtain ⟨z, e⟩ := int_cell h1
        exact ⟨z, by simpa [List.getElem?_take, List.getElem?_drop, show i / 3 * 3 + 1 = i by omega] using e⟩
      · obtain ⟨z, e⟩ := int_cell h2
        exact ⟨z, by simpa [List.getElem?_take, List.getElem?_drop, show i / 3 * 3 + 2 = i by omega] using e⟩
    · cases h
theorem cells_ve : Tryd.prog.cellsOf 56 = 3 := by kernel_rfl
theorem cells_v2 : Tryd.prog.cellsOf 57 = 6 := by kernel_rfl
theorem ve_cells {cs : List Value} {held : Bool} {fuel : Nat} {x : DataW H × List MemPlace} (h : DataW.trod enc Tryd.prog W base sp held fuel 56 cs = some x) : ∀ i, i < 3 → ∃ z, cs[i]? = some (.int .i64 z) := by
  obtain ⟨y0, y1, y2, n, _, _, h0, h1, h2⟩ := Deep.trod_struct3 Tryd.underlying56 h
  simp only [cells_int, List.drop_zero] at h0 h1 h2
  intro i hi
  have t : i = 0 ∨ i = 1 ∨ i = 2 := by omega
  rcases t with rfl | rfl | rfl
  · obtain ⟨z, e⟩ := int_cell h0
    exact ⟨z, by simpa [List.getElem?_take, List.getElem?_drop] using e⟩
  · obtain ⟨z, e⟩ := int_cell h1
    exact ⟨z, by simpa [List.getElem?_take, List.getElem?_drop] using e⟩
  · obtain ⟨z, e⟩ := int_cell h2
    exact ⟨z, by simpa [List.getElem?_take, List.getElem?_drop] using e⟩
set_option maxRecDepth 100000 in
theorem v2_cells {cs : List Value} {held : Bool} {fuel : Nat} {x : DataW H × List MemPlace} (h : DataW.trod enc Tryd.prog W base sp held fuel 57 cs = some x) : ∀ i, i < 6 → ∃ z, cs[i]? = some (.int .i64 z) := by
  cases fuel with
  | zero => simp [DataW.trod] at h
  | succ fuel =>
    simp only [DataW.trod, Tryd.underlying57, cells_ve] at h
    split at h
    · obtain ⟨xs, hm, _⟩ := Option.map_eq_some_iff.1 h
      intro i hi
      obtain ⟨b, _, hf⟩ := Lib.mapM_at hm (i / 3) (i / 3) (List.getElem?_range (by omega))
      obtain ⟨z, e⟩ := ve_cells hf (i % 3) (by omega)
      exact ⟨z, by simpa [List.getElem?_take, List.getElem?_drop, show i % 3 < 3 by omega, show i / 3 * 3 + i % 3 = i by omega] using e⟩
    · cases h
end
section
variable {H : Type} {enc : TypeId × Value → H} {W : World} {r : Reach} {b0 : Nat} {v : Value} {d : DataW H} {p : List MemPlace}
theorem cells_bd : Tryd.prog.cellsOf 24 = 15 := by kernel_rfl
theorem cells_a4 : Tryd.prog.cellsOf 22 = 4 := by kernel_rfl
set_option maxRecDepth 100000 in
theorem open_bd (hv : Value.okWide Tryd.prog W r b0 24 v) (h : DataW.Trod enc Tryd.prog W 0 (fun _ => true) true 24 v d p) : ∃ b : Bl, v = .agg #[.int .i64 (b 0), .int .i64 (b 1), .int .i64 (b 2), .int .i64 (b 3), .int .i64 (b 4), .int .i64 (b 5), .int .i64 (b 6), .int .i64 (b 7), .int .i64 (b 8), .int .i64 (b 9), .int .i64 (b 10), .int .i64 (b 11), .int .i64 (b 12), .int .i64 (b 13), .int .i64 (b 14)] := by
  obtain ⟨cs, rfl, _⟩ := okWide_struct Tryd.underlying24 hv
  obtain ⟨n, h⟩ := h
  obtain ⟨xs, n, _, _, hl, hlen, hf⟩ := DataW.trod_struct Tryd.underlying24 h
  rw [cells_bd] at hl
  obtain ⟨cs⟩ := cs
  match cs, hl, xs, hlen with
  | [c0, c1, c2, c3, c4, c5, c6, c7, c8, c9, c10, c11, c12, c13, c14], _, [y0, y1, y2, y3, y4, y5, y6, y7, y8, y9, y10, y11], _ =>
    have h0 := hf 0 _ rfl
    have h1 := hf 1 _ rfl
    have h2 := hf 2 _ rfl
    have h3 := hf 3 _ rfl
    have h4 := hf 4 _ rfl
    have h5 := hf 5 _ rfl
    have h6 := hf 6 _ rfl
    have h7 := hf 7 _ rfl
    have h8 := hf 8 _ rfl
    have h9 := hf 9 _ rfl
    have h10 := hf 10 _ rfl
    have h11 := hf 11 _ rfl
    simp [Value.cells, cells_int, cells_a4] at h0 h1 h2 h3 h4 h5 h6 h7 h8 h9 h10 h11
    obtain ⟨a0, e0, _⟩ := trod_i h0
    obtain ⟨a1, e1, _⟩ := trod_i h1
    obtain ⟨a2, e2, _⟩ := trod_i h2
    obtain ⟨a3, e3, _⟩ := trod_i h3
    obtain ⟨a4, e4, _⟩ := trod_i h4
    obtain ⟨a5, e5, _⟩ := trod_i h5
    obtain ⟨a6, e6, _⟩ := trod_i h6
    obtain ⟨a7, e7, _⟩ := trod_i h7
    obtain ⟨a8, e8, _⟩ := trod_i h8
    obtain ⟨a9, e9, _⟩ := trod_i h9
    obtain ⟨a10, e10, _⟩ := trod_i h10
    obtain ⟨z0, z1, z2, z3, m, _, m0, m1, m2, m3⟩ := trod_array4 Tryd.underlying22 cells_int h11
    obtain ⟨a11, e11, _⟩ := trod_i m0
    obtain ⟨a12, e12, _⟩ := trod_i m1
    obtain ⟨a13, e13, _⟩ := trod_i m2
    obtain ⟨a14, e14, _⟩ := trod_i m3
    simp at e0 e1 e2 e3 e4 e5 e6 e7 e8 e9 e10 e11 e12 e13 e14
    subst e0 e1 e2 e3 e4 e5 e6 e7 e8 e9 e10 e11 e12 e13 e14
    exact ⟨fun i => [a0, a1, a2, a3, a4, a5, a6, a7, a8, a9, a10, a11, a12, a13, a14].getD i 0, rfl⟩
set_option maxRecDepth 100000 in
theorem open_by (hv : Value.okWide Tryd.prog W r b0 5 v) (h : DataW.Trod enc Tryd.prog W 0 (fun _ => true) true 5 v d p) : ∃ a : Int, v = .int .u8 a ∧ 0 ≤ a ∧ a ≤ 255 := by
  obtain ⟨a, rfl⟩ := okWide_int Tryd.underlying5 hv
  obtain ⟨n, h⟩ := h
  obtain ⟨a', h1, _, h2⟩ := DataW.trod_int Tryd.underlying5 h
  obtain rfl : a = a' := by simpa [Value.cells] using h1
  have hb := bounds_u8 h2
  exact ⟨a, rfl, hb.1, by omega⟩
end
section
variable {H : Type} {enc : TypeId × Value → H} {W : World} {r : Reach} {b0 : Nat} {v : Value} {d : DataW H} {p : List MemPlace}
theorem cells_po : Tryd.prog.cellsOf 31 = 22 := by kernel_rfl
set_option maxRecDepth 100000 in
theorem open_po (hv : Value.okWide Tryd.prog W r b0 31 v) (h : DataW.Trod enc Tryd.prog W 0 (fun _ => true) true 31 v d p) : ∃ f : Vl, v = .agg (cz 22 f) := by
  obtain ⟨cs, rfl, _⟩ := okWide_struct Tryd.underlying31 hv
  obtain ⟨m, h⟩ := h
  obtain ⟨xs, m, _, _, hl, hlen, hf⟩ := DataW.trod_struct Tryd.underlying31 h
  rw [cells_po] at hl
  have hs : cs.size = 22 := by simpa [Value.cells] using hl
  match xs, hlen with
  | [y0, y1, y2, y3], _ =>
    have h0 := hf 0 _ rfl
    have h1 := hf 1 _ rfl
    have h2 := hf 2 _ rfl
    have h3 := hf 3 _ rfl
    simp [Value.cells, cells_int, cells_pt, cells_a6] at h0 h1 h2 h3
    obtain ⟨q0, q1⟩ := pt_cells h0
    have q2 := int_cell h1
    have q3 := int_cell h2
    have qt := a6_cells h3
    refine ⟨fun i => match cs[i]? with | some (.int .i64 z) => z | _ => 0, ?_⟩
    refine congrArg Value.agg (cz_ext hs fun i hi => ?_)
    have hx : ∃ z, cs[i]? = some (.int .i64 z) := by
      by_cases c : i < 4
      · have t : i = 0 ∨ i = 1 ∨ i = 2 ∨ i = 3 := by omega
        rcases t with rfl | rfl | rfl | rfl
        · simpa [List.getElem?_take, List.getElem?_drop] using q0
        · simpa [List.getElem?_take, List.getElem?_drop] using q1
        · simpa [List.getElem?_take, List.getElem?_drop] using q2
        · simpa [List.getElem?_take, List.getElem?_drop] using q3
      · have := qt (i - 4) (by omega)
        simpa [List.getElem?_take, List.getElem?_drop, show i - 4 < 18 by omega, show 4 + (i - 4) = i by omega] using this
    obtain ⟨z, hz⟩ := hx
    simp only [hz]
set_option maxRecDepth 100000 in
theorem open_bz (hv : Value.okWide Tryd.prog W r b0 24 v) (h : DataW.Trod enc Tryd.prog W 0 (fun _ => true) true 24 v d p) : ∃ b : Vl, v = .agg (cz 15 b) := by
  obtain ⟨b, e⟩ := open_bd hv h
  exact ⟨b, e⟩
theorem cells_jo : Tryd.prog.cellsOf 59 = 33 := by kernel_rfl
set_option maxRecDepth 100000 in
set_option maxHeartbeats 2000000 in
theorem open_jo (hv : Value.okWide Tryd.prog W r b0 59 v) (h : DataW.Trod enc Tryd.prog W 0 (fun _ => true) true 59 v d p) : ∃ f : Vl, v = .agg (cz 33 f) := by
  obtain ⟨cs, rfl, _⟩ := okWide_struct Tryd.underlying59 hv
  obtain ⟨m, h⟩ := h
  obtain ⟨xs, m, _, _, hl, hlen, hf⟩ := DataW.trod_struct Tryd.underlying59 h
  rw [cells_jo] at hl
  have hs : cs.size = 33 := by simpa [Value.cells] using hl
  match xs, hlen with
  | [y0, y1, y2, y3, y4, y5, y6], _ =>
    have h0 := hf 0 _ rfl
    have h1 := hf 1 _ rfl
    have h2 := hf 2 _ rfl
    have h3 := hf 3 _ rfl
    have h4 := hf 4 _ rfl
    have h5 := hf 5 _ rfl
    have h6 := hf 6 _ rfl
    simp [Value.cells, cells_ve, cells_v2] at h0 h1 h2 h3 h4 h5 h6
    have q0 := ve_cells h0
    have q1 := ve_cells h1
    have q2 := ve_cells h2
    have q3 := v2_cells h3
    have q4 := v2_cells h4
    have q5 := v2_cells h5
    have q6 := v2_cells h6
    refine ⟨fun i => match cs[i]? with | some (.int .i64 z) => z | _ => 0, ?_⟩
    refine congrArg Value.agg (cz_ext hs fun i hi => ?_)
    have hx : ∃ z, cs[i]? = some (.int .i64 z) := by
      by_cases c0 : i < 3
      · have := q0 i c0
        simpa [List.getElem?_take, List.getElem?_drop, c0] using this
      by_cases c1 : i < 6
      · have := q1 (i - 3) (by omega)
        simpa [List.getElem?_take, List.getElem?_drop, show i - 3 < 3 by omega, show 3 + (i - 3) = i by omega] using this
      by_cases c2 : i < 9
      · have := q2 (i - 6) (by omega)
        simpa [List.getElem?_take, List.getElem?_drop, show i - 6 < 3 by omega, show 6 + (i - 6) = i by omega] using this
      by_cases c3 : i < 15
      · have := q3 (i - 9) (by omega)
        simpa [List.getElem?_take, List.getElem?_drop, show i - 9 < 6 by omega, show 9 + (i - 9) = i by omega] using this
      by_cases c4 : i < 21
      · have := q4 (i - 15) (by omega)
        simpa [List.getElem?_take, List.getElem?_drop, show i - 15 < 6 by omega, show 15 + (i - 15) = i by omega] using this
      by_cases c5 : i < 27
      · have := q5 (i - 21) (by omega)
        simpa [List.getElem?_take, List.getElem?_drop, show i - 21 < 6 by omega, show 21 + (i - 21) = i by omega] using this
      · have := q6 (i - 27) (by omega)
        simpa [List.getElem?_take, List.getElem?_drop, show i - 27 < 6 by omega, show 27 + (i - 27) = i by omega] using this
    obtain ⟨z, hz⟩ := hx
    simp only [hz]
set_option maxRecDepth 100000 in
theorem open_ve (hv : Value.okWide Tryd.prog W r b0 56 v) (h : DataW.Trod enc Tryd.prog W 0 (fun _ => true) true 56 v d p) : ∃ x y z : Int, v = .agg #[.int .i64 x, .int .i64 y, .int .i64 z] := by
  obtain ⟨cs, rfl, _⟩ := okWide_struct Tryd.underlying56 hv
  obtain ⟨m, h⟩ := h
  obtain ⟨xs, m', _, _, hl, _, _⟩ := DataW.trod_struct Tryd.underlying56 h
  rw [cells_ve] at hl
  have hs : cs.size = 3 := by simpa [Value.cells] using hl
  have q := ve_cells h
  refine ⟨nmb cs[0]?, nmb cs[1]?, nmb cs[2]?, ?_⟩
  refine congrArg Value.agg ((cz_ext (f := fun i => nmb cs[i]?) hs fun i hi => ?_).trans rfl)
  obtain ⟨z, e⟩ := q i hi
  have e' : cs[i]? = some (.int .i64 z) := by simpa [Value.cells] using e
  rw [e']; rfl
set_option maxRecDepth 100000 in
theorem open_pt (hv : Value.okWide Tryd.prog W r b0 26 v) (h : DataW.Trod enc Tryd.prog W 0 (fun _ => true) true 26 v d p) : ∃ x y : Int, v = .agg #[.int .i64 x, .int .i64 y] := by
  obtain ⟨cs, rfl, _⟩ := okWide_struct Tryd.underlying26 hv
  obtain ⟨m, h⟩ := h
  obtain ⟨xs, m', _, _, hl, _, _⟩ := DataW.trod_struct Tryd.underlying26 h
  rw [cells_pt] at hl
  have hs : cs.size = 2 := by simpa [Value.cells] using hl
  obtain ⟨q0, q1⟩ := pt_cells h
  refine ⟨nmb cs[0]?, nmb cs[1]?, ?_⟩
  refine congrArg Value.agg ((cz_ext (f := fun i => nmb cs[i]?) hs fun i hi => ?_).trans rfl)
  have t : i = 0 ∨ i = 1 := by omega
  rcases t with rfl | rfl
  · obtain ⟨z, e⟩ := q0
    have e' : cs[0]? = some (.int .i64 z) := by simpa [Value.cells] using e
    rw [e']; rfl
  · obtain ⟨z, e⟩ := q1
    have e' : cs[1]? = some (.int .i64 z) := by simpa [Value.cells] using e
    rw [e']; rfl
end
end Go.Proofs.YtighpjhipgobiaaDoor.JntQ
