/-
  The listed variables as the rows list them, and the openings of a start and of a pose. Condition: none.
-/
import Derived.Test.YtneobaininejaaaDoorFrame
import Derived.Test.YtneobaininejaaaDoorPosturePB
import Derived.Lib.LaidTab
import Derived.Deep.SlicePairs
namespace Go.Proofs.YtneobaininejaaaDoor.PstQ
open Go.ChangeShapes Go.WideShapes Go.ChangeAt Go.RowKit Go.Joins
open PstW PairW PrtW PstP FrmW
theorem gDn : Tryd.prog.globalNamed "dancestudio/posture.straightDown" = some 0 := by kernel_rfl
theorem gDnType : (Tryd.prog.globals[0]?).map (·.type) = some 25 := by kernel_rfl
theorem laid_dn : (Rows.laid_dancestudio_posture_straightDown : DataW Unit) = .agg [.lit (.int .i64 0), .lit (.int .i64 (-1)), .lit (.int .i64 0)] := by kernel_rfl
theorem vars_met {W : World} (h : laidMetH Tryd.prog [("dancestudio/angle.sines", Rows.laid_dancestudio_angle_sines), ("dancestudio/posture.straightDown", Rows.laid_dancestudio_posture_straightDown)] W) : AngW.Tab W ∧ Dn W := by
  have ht : Lib.TabIs Tryd.prog W "dancestudio/angle.sines" .i64 AngP.tabS := Lib.tabIs_of_head (rest := [("dancestudio/posture.straightDown", Rows.laid_dancestudio_posture_straightDown)]) AngW.gTab AngW.gTabType Tryd.underlying75 Tryd.underlying3 AngW.cellsInt AngW.cellsTab h
  refine ⟨⟨fun k hk => ht.cell AngW.gTab k hk⟩, ?_⟩
  have h' : laidMet Tryd.prog [("dancestudio/angle.sines", Rows.laid_dancestudio_angle_sines), ("dancestudio/posture.straightDown", Rows.laid_dancestudio_posture_straightDown)] W := h
  obtain ⟨ps, ⟨g1, t1, c1, fu1, p1, q1, hg1, ht1, hv1, hd1, ⟨g2, t2, c2, fu2, p2, q2, hg2, ht2, hv2, hd2, _, _⟩, _⟩, _⟩ := h'
  obtain rfl := Option.some.inj (gDn.symm.trans hg2)
  obtain rfl := Option.some.inj (gDnType.symm.trans ht2)
  rw [laid_dn] at hd2
  obtain ⟨y0, y1, y2, n, e, _, h0, h1, h2⟩ := Deep.trod_struct3 Tryd.underlying25 hd2
  simp only [cells_int, List.drop_zero] at h0 h1 h2
  obtain ⟨u0, f0, z0, _⟩ := DataW.trod_int Tryd.underlying3 h0
  obtain ⟨u1, f1, z1, _⟩ := DataW.trod_int Tryd.underlying3 h1
  obtain ⟨u2, f2, z2, _⟩ := DataW.trod_int Tryd.underlying3 h2
  have e1 := congrArg Prod.fst e
  rw [z0, z1, z2] at e1
  simp only [DataW.agg.injEq, List.cons.injEq, DataW.lit.injEq, Lit.int.injEq, true_and, and_true] at e1
  obtain ⟨r0, r1, r2⟩ := e1
  rw [← r0] at f0
  rw [← r1] at f1
  rw [← r2] at f2
  have k0 := congrArg (·[0]?) f0
  have k1 := congrArg (·[0]?) f1
  have k2 := congrArg (·[0]?) f2
  simp [List.getElem?_drop] at k0 k1 k2
  refine ⟨?_, ?_, ?_⟩
  · rw [World.var?_cell gDn hv2 0, ← Array.getElem?_toList]; simpa using k0
  · rw [World.var?_cell gDn hv2 1, ← Array.getElem?_toList]; simpa using k1
  · rw [World.var?_cell gDn hv2 2, ← Array.getElem?_toList]; simpa using k2
section
variable {H : Type} {enc : TypeId × Value → H} {W : World} {base : Nat} {sp : Nat → Bool}
theorem int_cell {cs : List Value} {held : Bool} {fuel : Nat} {x : DataW H × List MemPlace} (h : DataW.trod enc Tryd.prog W base sp held fuel 3 cs = some x) : ∃ z, cs[0]? = some (.int .i64 z) := by
  obtain ⟨a, e, _⟩ := trod_i h
  exact ⟨a, by rw [e]; rfl⟩
theorem cells_pt : Tryd.prog.cellsOf 23 = 2 := by kernel_rfl
theorem pt_cells {cs : List Value} {held : Bool} {fuel : Nat} {x : DataW H × List MemPlace} (h : DataW.trod enc Tryd.prog W base sp held fuel 23 cs = some x) : (∃ z, cs[0]? = some (.int .i64 z)) ∧ ∃ z, cs[1]? = some (.int .i64 z) := by
  obtain ⟨y0, y1, n, _, _, h0, h1⟩ := trod_struct2 Tryd.underlying23 h
  simp only [cells_int, List.drop_zero] at h0 h1
  obtain ⟨z0, e0⟩ := int_cell h0
  obtain ⟨z1, e1⟩ := int_cell h1
  exact ⟨⟨z0, by simpa [List.getElem?_take, List.getElem?_drop] using e0⟩, z1, by simpa [List.getElem?_take, List.getElem?_drop] using e1⟩
theorem cells_t6 : Tryd.prog.cellsOf 26 = 18 := by kernel_rfl
theorem cells_t6e : Tryd.prog.cellsOf 25 = 3 := by kernel_rfl
set_option maxRecDepth 100000 in
/-- An array of six structs of three integers. -/
theorem t6_cells {cs : List Value} {held : Bool} {fuel : Nat} {x : DataW H × List MemPlace} (h : DataW.trod enc Tryd.prog W base sp held fuel 26 cs = some x) : ∀ i, i < 18 → ∃ z, cs[i]? = some (.int .i64 z) := by
  cases fuel with
  | zero => simp [DataW.trod] at h
  | succ fuel =>
    simp only [DataW.trod, Tryd.underlying26, cells_t6e] at h
    split at h
    · obtain ⟨xs, hm, _⟩ := Option.map_eq_some_iff.1 h
      intro i hi
      have hxl : xs.length = 6 := by simpa using Lib.mapM_length hm
      obtain ⟨b, _, hf⟩ := Lib.mapM_at hm (i / 3) (i / 3) (List.getElem?_range (by omega))
      obtain ⟨y0, y1, y2, n, _, _, h0, h1, h2⟩ := Deep.trod_struct3 Tryd.underlying25 hf
      simp only [cells_int, List.drop_zero] at h0 h1 h2
      have t : i % 3 = 0 ∨ i % 3 = 1 ∨ i % 3 = 2 := by omega
      rcases t with t | t | t
      · obtain ⟨z, e⟩ := int_cell h0
        exact ⟨z, by simpa [List.getElem?_take, List.getElem?_drop, show i / 3 * 3 = i by omega] using e⟩
      · obtain ⟨z, e⟩ := int_cell h1
        exact ⟨z, by simpa [List.getElem?_take, List.getElem?_drop, show i / 3 * 3 + 1 = i by omega] using e⟩
      · obtain ⟨z, e⟩ := int_cell h2
        exact ⟨z, by simpa [List.getElem?_take, List.getElem?_drop, show i / 3 * 3 + 2 = i by omega] using e⟩
    · cases h
theorem cells_a6 : Tryd.prog.cellsOf 31 = 18 := by kernel_rfl
theorem cells_a6e : Tryd.prog.cellsOf 30 = 3 := by kernel_rfl
set_option maxRecDepth 100000 in
/-- An array of six structs of three integers. -/
theorem a6_cells {cs : List Value} {held : Bool} {fuel : Nat} {x : DataW H × List MemPlace} (h : DataW.trod enc Tryd.prog W base sp held fuel 31 cs = some x) : ∀ i, i < 18 → ∃ z, cs[i]? = some (.int .i64 z) := by
  cases fuel with
  | zero => simp [DataW.trod] at h
  | succ fuel =>
    simp only [DataW.trod, Tryd.underlying31, cells_a6e] at h
    split at h
    · obtain ⟨xs, hm, _⟩ := Option.map_eq_some_iff.1 h
      intro i hi
      have hxl : xs.length = 6 := by simpa using Lib.mapM_length hm
      obtain ⟨b, _, hf⟩ := Lib.mapM_at hm (i / 3) (i / 3) (List.getElem?_range (by omega))
      obtain ⟨y0, y1, y2, n, _, _, h0, h1, h2⟩ := Deep.trod_struct3 Tryd.underlying30 hf
      simp only [cells_int, List.drop_zero] at h0 h1 h2
      have t : i % 3 = 0 ∨ i % 3 = 1 ∨ i % 3 = 2 := by omega
      rcases t with t | t | t
      · obtain ⟨z, e⟩ := int_cell h0
        exact ⟨z, by simpa [List.getElem?_take, List.getElem?_drop, show i / 3 * 3 = i by omega] using e⟩
      · obtain ⟨z, e⟩ := int_cell h1
        exact ⟨z, by simpa [List.getElem?_take, List.getElem?_drop, show i / 3 * 3 + 1 = i by omega] using e⟩
      · obtain ⟨z, e⟩ := int_cell h2
        exact ⟨z, by simpa [List.getElem?_take, List.getElem?_drop, show i / 3 * 3 + 2 = i by omega] using e⟩
    · cases h
end
section
variable {H : Type} {enc : TypeId × Value → H} {W : World} {r : Reach} {b0 : Nat} {v : Value} {d : DataW H} {p : List MemPlace}
theorem cells_st : Tryd.prog.cellsOf 28 = 23 := by kernel_rfl
theorem cells_po : Tryd.prog.cellsOf 33 = 22 := by kernel_rfl
set_option maxRecDepth 100000 in
theorem open_st (hv : Value.okWide Tryd.prog W r b0 28 v) (h : DataW.Trod enc Tryd.prog W 0 (fun _ => true) true 28 v d p) : ∃ f : Vl, v = .agg (cz 23 f) := by
  obtain ⟨cs, rfl, _⟩ := okWide_struct Tryd.underlying28 hv
  obtain ⟨m, h⟩ := h
  obtain ⟨xs, m, _, _, hl, hlen, hf⟩ := DataW.trod_struct Tryd.underlying28 h
  rw [cells_st] at hl
  have hs : cs.size = 23 := by simpa [Value.cells] using hl
  match xs, hlen with
  | [y0, y1, y2, y3, y4], _ =>
    have h0 := hf 0 _ rfl
    have h1 := hf 1 _ rfl
    have h2 := hf 2 _ rfl
    have h3 := hf 3 _ rfl
    have h4 := hf 4 _ rfl
    simp [Value.cells, cells_int, cells_pt, cells_t6] at h0 h1 h2 h3 h4
    obtain ⟨q0, q1⟩ := pt_cells h0
    have q2 := int_cell h1
    have q3 := int_cell h2
    have q4 := int_cell h3
    have qt := t6_cells h4
    refine ⟨fun i => match cs[i]? with | some (.int .i64 z) => z | _ => 0, ?_⟩
    refine congrArg Value.agg (cz_ext hs fun i hi => ?_)
    have hx : ∃ z, cs[i]? = some (.int .i64 z) := by
      by_cases c : i < 5
      · have t : i = 0 ∨ i = 1 ∨ i = 2 ∨ i = 3 ∨ i = 4 := by omega
        rcases t with rfl | rfl | rfl | rfl | rfl
        · simpa [List.getElem?_take, List.getElem?_drop] using q0
        · simpa [List.getElem?_take, List.getElem?_drop] using q1
        · simpa [List.getElem?_take, List.getElem?_drop] using q2
        · simpa [List.getElem?_take, List.getElem?_drop] using q3
        · simpa [List.getElem?_take, List.getElem?_drop] using q4
      · have := qt (i - 5) (by omega)
        simpa [List.getElem?_take, List.getElem?_drop, show i - 5 < 18 by omega, show 5 + (i - 5) = i by omega] using this
    obtain ⟨z, hz⟩ := hx
    simp only [hz]
set_option maxRecDepth 100000 in
theorem open_po (hv : Value.okWide Tryd.prog W r b0 33 v) (h : DataW.Trod enc Tryd.prog W 0 (fun _ => true) true 33 v d p) : ∃ f : Vl, v = .agg (cz 22 f) := by
  obtain ⟨cs, rfl, _⟩ := okWide_struct Tryd.underlying33 hv
  obtain ⟨m, h⟩ := h
  obtain ⟨xs, m, _, _, hl, hlen, hf⟩ := DataW.trod_struct Tryd.underlying33 h
  rw [cells_po] at hl
  have hs : cs.size = 22 := by simpa [Value.cells] using hl
  match xs, hlen with
  | [y0, y1, y2, y3], _ =>
    have h0 := hf 0 _ rfl
    have h1 := hf 1 _ rfl
    have h2 := hf 2 _ rfl
    have h3 := hf 3 _ rfl
    simp [Value.cells, cells_int, cells_pt, cells_a6] at h0 h1 h2 h3
    obtain ⟨q0, q1⟩ := pt_cells h0
    have q2 := int_cell h1
    have q3 := int_cell h2
    have qt := a6_cells h3
    refine ⟨fun i => match cs[i]? with | some (.int .i64 z) => z | _ => 0, ?_⟩
    refine congrArg Value.agg (cz_ext hs fun i hi => ?_)
    have hx : ∃ z, cs[i]? = some (.int .i64 z) := by
      by_cases c : i < 4
      · have t : i = 0 ∨ i = 1 ∨ i = 2 ∨ i = 3 := by omega
        rcases t with rfl | rfl | rfl | rfl
        · simpa [List.getElem?_take, List.getElem?_drop] using q0
        · simpa [List.getElem?_take, List.getElem?_drop] using q1
        · simpa [List.getElem?_take, List.getElem?_drop] using q2
        · simpa [List.getElem?_take, List.getElem?_drop] using q3
      · have := qt (i - 4) (by omega)
        simpa [List.getElem?_take, List.getElem?_drop, show i - 4 < 18 by omega, show 4 + (i - 4) = i by omega] using this
    obtain ⟨z, hz⟩ := hx
    simp only [hz]
end
end Go.Proofs.YtneobaininejaaaDoor.PstQ
