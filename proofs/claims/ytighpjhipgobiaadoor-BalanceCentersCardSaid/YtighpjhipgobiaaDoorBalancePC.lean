/-
  Walks of the program of package balance: center. Condition: the table of bounds lies in memory.
-/
import Derived.Test.YtighpjhipgobiaaDoorBalancePB
import Derived.Test.YtighpjhipgobiaaDoorRegMore
namespace Go.Proofs.YtighpjhipgobiaaDoor.BalW
open Go.ChangeShapes Go.WideShapes Go.ChangeAt Go.RowKit
open PairW AimP AimW BlkW PrtW PstP PstW JntP JntW RegD BalP
/-- A new block of one cell, stored into. -/
theorem set_alloc1 (w : World) (v v' : Value) (T : TypeId) : (w.alloc (.cells #[v] T)).setCell ⟨w.heap.size, 0, none⟩ v' = w.alloc (.cells #[v'] T) := by
  rw [setCell_eq_setRow _ _ 0 #[v] T (0, 0) v' (heap_new w _), World.setRow_alloc_new]
  rfl
theorem infoV : (Tryd.prog.info? 56).map (·.size) = some 3 := by kernel_rfl
theorem results_cc {fn : Func} {p q : Tmp} {t u : TypeId} (h : fn.results = #[.cell p t, .cell q u]) (tmps : Array Value) (P : Program) (w : World) :
    (results fn tmps).run P w = ((asAddr (tmps.getD p undef)).run P w).andThen fun a w₁ => ((loadVar t a).run P w₁).andThen fun v w₂ => ((asAddr (tmps.getD q undef)).run P w₂).andThen fun b w₃ => ((loadVar u b).run P w₃).andThen fun x w₄ => .ok (.tuple #[v, x]) w₄ := by
  simp only [results, h]
  simp [Sem.run_bind, Result.andThen]
theorem two_results {P : Program} {fn : Func} {p q : Tmp} {T : TypeId} {d : TypeDesc} (h : fn.results = #[.cell p T, .cell q T]) {tmps : Array Value} {w : World} {B C : Nat} {cs ds : Array Value} {Tb Tc : TypeId} (hp : tmps.getD p undef = .pointer (some ⟨B, 0, none⟩)) (hq : tmps.getD q undef = .pointer (some ⟨C, 0, none⟩)) (hb : Blk w B cs Tb) (hc : Blk w C ds Tc)
    (hu : P.underlying T = some d) (hd : (match d with | .struct _ | .array _ _ => true | _ => false) = true) (h1 : (P.info? T).map (·.size) = some cs.size) (h2 : (P.info? T).map (·.size) = some ds.size) :
    (results fn tmps).run P w = .ok (.tuple #[.agg cs, .agg ds]) w := by
  rw [results_cc h, hp, hq]
  simp [asAddr, Result.andThen, run_loadVar_row w B Tb T cs (0, 0) _ hb hu hd h1, run_loadVar_row w C Tc T ds (0, 0) _ hc hu hd h2]
/-- What the centre wants of a body and of its joints. -/
structure Cen (b j : Vl) (m x y : Int) : Prop where
  chk : BuiP.chk b = 0
  bd : ∀ i, i < 33 → -40000 ≤ j i ∧ j i ≤ 40000
  mas : BuiP.masV b = m
  mbd : 2 ≤ 2 * m ∧ 2 * m ≤ 2400000
  x : NumP.roundV (wsm b j 0) (2 * m) = x ∧ NumP.roundE (wsm b j 0) (2 * m) = 0
  y : NumP.roundV (wsm b j 1) (2 * m) = y ∧ NumP.roundE (wsm b j 1) (2 * m) = 0
theorem cen_ok {b p : Vl} {s : Int} (h : joE b p s = 0) : Cen b (joV b p s) (BuiP.masV b) (ce b (joV b p s) 0) (ce b (joV b p s) 1) :=
  ⟨(jo_yes h).1, jo_bd h, rfl, (sm_bd h (c := 0) (by omega)).1, ce_round h (by omega), ce_round h (by omega)⟩
set_option maxRecDepth 100000 in
set_option maxHeartbeats 2000000 in
theorem bcen_at (b j : Vl) (m x y : Int) (w : World) (HBT : Hid (BuiW.Tab w)) (HC : Hid (Cen b j m x y)) :
    Calls Tryd.prog 20 #[.agg (cz 15 b), .agg (cz 33 j)] w fun r w' => r = .returned (.agg #[.int .i64 x, .int .i64 y]) ∧ Own w w' := by
  have HM := Lib.hid (show BuiP.masV b = m ∧ BuiP.chk b = 0 from ⟨HC.out.mas, HC.out.chk⟩)
  have HX := Lib.hid HC.out.x
  have HY := Lib.hid HC.out.y
  have hmm : -1000000000 ≤ m ∧ m ≤ 1000000000 := by have := HC.out.mbd; omega
  go_enter Tryd.func20, Tryd.ntmps20
  go_upto_region 1 with (fail)
  obtain ⟨W0, B, J, R, hW, hR, hJ, hB, hb1, hj1, hr1, g0, -, -, hR0, -⟩ := three_new w (cz 15 b) 24 (cz 33 j) 59 (#[.int .i64 0, .int .i64 0]) 26
  rw [hW, hR, hJ, hB]
  have HB := Lib.hid hb1
  have HJ := Lib.hid hj1
  have HR := Lib.hid hr1
  clear hW hR hJ hB hb1 hj1 hr1
  go_upto_region 2 with (first | ((with_reducible show wpList _ _ _ (⟨_, .load 24 (.tmp 2), _, _, _, none⟩ :: _) _ _); refine wpList_load_row rfl 24 (.tmp 2) rfl B rfl 24 _ (0, 0) _ HB.out.raw Tryd.underlying24 rfl infoB ?_) | (go_at_call 48; with_reducible refine (bmass_at b m 0 _ (Lib.hid (HBT.out.own g0)) HM).mono ?_; rintro r w1 ⟨rfl, hg⟩; replace g0 := g0.trans hg; replace HB := Lib.hid (HB.out.own hg); replace HJ := Lib.hid (HJ.out.own hg); replace HR := Lib.hid (HR.out.own hg); clear hg))
  obtain ⟨w2, D, hW, hBq, hb, hg, Dg⟩ := blk_new w1 (#[.int .i64 m]) 3
  rw [hW, hBq]
  have HDB := Lib.hid hb
  replace g0 := g0.trans hg
  replace HB := Lib.hid (HB.out.own hg)
  replace HJ := Lib.hid (HJ.out.own hg)
  replace HR := Lib.hid (HR.out.own hg)
  clear hW hBq hb hg
  have HD := Lib.hid (HDB.out.cell 0)
  clear Dg HDB
  go_upto_region 3 with (first | ((with_reducible show wpList _ _ _ (⟨_, .load 24 (.tmp 2), _, _, _, none⟩ :: _) _ _); refine wpList_load_row rfl 24 (.tmp 2) rfl B rfl 24 _ (0, 0) _ HB.out.raw Tryd.underlying24 rfl infoB ?_) | ((with_reducible show wpList _ _ _ (⟨_, .load 59 (.tmp 3), _, _, _, none⟩ :: _) _ _); refine wpList_load_row rfl 59 (.tmp 3) rfl J rfl 59 _ (0, 0) _ HJ.out.raw Tryd.underlying59 rfl infoJ ?_) | (go_at_call 49; refine (bparts_at b j _).mono ?_; rintro r w3 ⟨g, cp, rfl, _hg0, hcells, hg⟩; replace g0 := g0.trans hg; replace HD := Lib.hid (hg.cell HD.out); replace HR := Lib.hid (HR.out.own hg); have HG := Lib.hid hcells; clear hg hcells _hg0 HB HJ))
  obtain ⟨w4, S, hW, hSq, hs1, hg, Sg⟩ := blk_new w3 #[.slice (some ⟨g, 0, none⟩) 6 cp] 98
  rw [hW, hSq]
  replace g0 := g0.trans hg
  replace HD := Lib.hid (hg.cell HD.out)
  replace HG := Lib.hid (fun i hi => hg.cell (HG.out i hi))
  replace HR := Lib.hid (HR.out.own hg)
  have HS := Lib.hid (hs1.cell 0)
  clear hW hSq hs1 hg Sg
  go_wp2_with (first | (go_at_call 50; with_reducible refine (bmean0_at b j m x S D g cp _ HC.out.chk HC.out.bd hmm HS.out HD.out HG.out HX).mono ?_; rintro r w9 ⟨rfl, hg⟩; replace g0 := g0.trans hg; replace HS := Lib.hid (hg.cell HS.out); replace HD := Lib.hid (hg.cell HD.out); replace HG := Lib.hid (fun i hi => hg.cell (HG.out i hi)); replace HR := Lib.hid (HR.out.own hg); clear hg) | (go_at_call 50; with_reducible refine (bmean1_at b j m y S D g cp _ HC.out.chk HC.out.bd hmm HS.out HD.out HG.out HY).mono ?_; rintro r w9 ⟨rfl, hg⟩; replace g0 := g0.trans hg; replace HS := Lib.hid (hg.cell HS.out); replace HD := Lib.hid (hg.cell HD.out); replace HG := Lib.hid (fun i hi => hg.cell (HG.out i hi)); replace HR := Lib.hid (HR.out.own hg); clear hg) | ((with_reducible show wpList _ _ _ (⟨_, .store 26 (.tmp 4) (.tmp 22), _, _, _, none⟩ :: _) _ _); refine wpList_store_row rfl 26 (.tmp 4) (.tmp 22) rfl R #[.int .i64 x, .int .i64 y] rfl rfl 26 _ HR.out.raw infoPt rfl (by simp [Value.oneCell']) ?_))
  have hp := HR.out.row #[.int .i64 x, .int .i64 y]
  exact bodyPost_ret (blk_result rfl rfl hp Tryd.underlying26 rfl infoPt) rfl ⟨rfl, own_setRow g0 hR0 _⟩
/-- Both supporting feet. -/
structure Bas (j : Vl) (s lx ly lz rx ry rz : Int) : Prop where
  one : s = 1 → (j 27 = lx ∧ j 28 = ly ∧ j 29 = lz) ∧ j 27 = rx ∧ j 28 = ry ∧ j 29 = rz
  two : s = 2 → (j 30 = lx ∧ j 31 = ly ∧ j 32 = lz) ∧ j 30 = rx ∧ j 31 = ry ∧ j 32 = rz
  both : s ≠ 1 → s ≠ 2 → (j 27 = lx ∧ j 28 = ly ∧ j 29 = lz) ∧ j 30 = rx ∧ j 31 = ry ∧ j 32 = rz
theorem bas_ok (j : Vl) (s : Int) : Bas j s (baL j s 0) (baL j s 1) (baL j s 2) (baR j s 0) (baR j s 1) (baR j s 2) := by
  unfold baL baR
  refine ⟨fun h => ?_, fun h => ?_, fun h1 h2 => ?_⟩
  · subst h; exact ⟨⟨rfl, rfl, rfl⟩, rfl, rfl, rfl⟩
  · subst h; exact ⟨⟨rfl, rfl, rfl⟩, rfl, rfl, rfl⟩
  · rw [if_neg h1, if_neg h2, if_neg h1, if_neg h2, if_neg h1, if_neg h2]; exact ⟨⟨rfl, rfl, rfl⟩, rfl, rfl, rfl⟩
/-- What stands beside the results' cells. -/
def BX (w : World) (U Y : Nat) (us ys : Array Value) : World → Prop := fun w1 => Own w w1 ∧ Blk w1 U us 56 ∧ Blk w1 Y ys 56
theorem bx_stg {w : World} {U Y R1 R2 : Nat} {us ys cs ds : Array Value} (h1 : w.heap.size ≤ R1) (h2 : w.heap.size ≤ R2) (hne : R1 ≠ R2) (hf : R1 ≠ U ∧ R1 ≠ Y ∧ R2 ≠ U ∧ R2 ≠ Y) : RegD.Stg2 (BX w U Y us ys) R1 R2 cs ds :=
  ⟨hne, fun h g => ⟨h.1.trans g, h.2.1.own g, h.2.2.own g⟩, fun h => ⟨own_setRow h.1 h1 _, h.2.1.rowfar (Ne.symm hf.1) _, h.2.2.rowfar (Ne.symm hf.2.1) _⟩, fun h => ⟨own_setRow h.1 h2 _, h.2.1.rowfar (Ne.symm hf.2.2.1) _, h.2.2.rowfar (Ne.symm hf.2.2.2) _⟩⟩
theorem two_far {w w' : World} {R1 R2 U Y : Nat} {cs ds : Array Value} {T1 T2 : TypeId} (h1 : Blk w R1 cs T1) (h2 : Blk w R2 ds T2) (hU : w.heap.size ≤ U ∧ w.heap.size ≤ Y) (_ : Own w w') : R1 ≠ U ∧ R1 ≠ Y ∧ R2 ≠ U ∧ R2 ≠ Y := by
  have := h1.lt
  have := h2.lt
  omega
set_option maxRecDepth 100000 in
set_option maxHeartbeats 2000000 in
theorem bbase_at (j : Vl) (s lx ly lz rx ry rz : Int) (w : World) (H : Hid (Bas j s lx ly lz rx ry rz)) :
    Calls Tryd.prog 64 #[.agg (cz 33 j), .int .i64 s] w fun r w' => r = .returned (.tuple #[.agg #[.int .i64 lx, .int .i64 ly, .int .i64 lz], .agg #[.int .i64 rx, .int .i64 ry, .int .i64 rz]]) ∧ Own w w' := by
  by_cases h1 : s = 1
  · subst h1
    obtain ⟨⟨rfl, rfl, rfl⟩, rfl, rfl, rfl⟩ := H.out.one rfl
    clear H
    go_enter Tryd.func64, Tryd.ntmps64
    go_upto_region 1 with (fail)
    obtain ⟨W0, J, R1, R2, hW, hR2, hR1, hJ, hj1, hr1, hr2, g0, -, hR10, hR20, -, -, hne⟩ := three_new w (cz 33 j) 59 (#[.int .i64 0, .int .i64 0, .int .i64 0]) 56 (#[.int .i64 0, .int .i64 0, .int .i64 0]) 56
    rw [hW, hR2, hR1, hJ]
    have HJ := Lib.hid hj1
    have HR1 := Lib.hid hr1
    have HR2 := Lib.hid hr2
    have HNE := Lib.hid hne
    clear hW hR2 hR1 hJ hj1 hr1 hr2 hne
    refine RegD.region_duty2 [8, 9, 10, 11, 12, 13, 6, 7] 6 6 8 7 7 9 (RegI.upd (RegI.upd (RegI.upd (RegI.upd (RegI.upd (RegI.upd (fun _ => undef) 8 (.pointer (some ⟨J, 27, none⟩))) 9 (.pointer (some ⟨J, 27, none⟩))) 10 (.agg #[.int .i64 (j 27), .int .i64 (j 28), .int .i64 (j 29)])) 11 (.pointer (some ⟨J, 27, none⟩))) 12 (.pointer (some ⟨J, 30, none⟩))) 13 (.agg #[.int .i64 (j 30), .int .i64 (j 31), .int .i64 (j 32)])) (#[.int .i64 0, .int .i64 0, .int .i64 0]) (#[.int .i64 (j 27), .int .i64 (j 28), .int .i64 (j 29)]) 56 (#[.int .i64 0, .int .i64 0, .int .i64 0]) (#[.int .i64 (j 30), .int .i64 (j 31), .int .i64 (j 32)]) 56 (by kernel_rfl) (by kernel_rfl) (by decide) (by intro d hd; simp at hd; simp; omega) ?_
    simp only [RegD.FF, RegI.FX, RegI.upd, List.foldl_cons, List.foldl_nil, List.mem_cons, List.not_mem_nil, if_true, if_false, Nat.reduceEqDiff, or_false, or_true]
    simp only [List.setIfInBounds_toArray, List.set_cons_succ, List.set_cons_zero]
    refine And.intro ?hs1 ?he1
    case hs1 =>
      refine And.intro ?s1_0 (And.intro ?s1_1 (And.intro ?s1_2 (And.intro ?s1_3 (And.intro ?s1_4 (And.intro ?s1_5 (And.intro ?s1_6 (And.intro ?s1_7 (And.intro ?s1_8 (And.intro ?s1_9 (trivial))))))))))
      case s1_0 =>
        refine RegD.step2_det (by decide) (by simp) (fun u w1 hO => ?_)
        go_wp2
        exact ⟨rfl, rfl, rfl, Own.refl _⟩
      case s1_1 =>
        refine RegD.step2_det (by decide) (by simp) (fun u w1 hO => ?_)
        go_wp2
        exact ⟨rfl, rfl, rfl, Own.refl _⟩
      case s1_2 =>
        refine RegD.step2_det (by decide) (by simp) (fun u w1 hO => ?_)
        have HB9 := Lib.hid (HJ.out.own hO)
        go_wp2_with ((with_reducible show wpList _ _ _ (⟨_, .load 56 (.tmp 9), _, _, _, none⟩ :: _) _ _); refine wpList_load_part rfl 56 (.tmp 9) rfl J (27) rfl 3 HB9.out (by omega) (#[.int .i64 (j 27), .int .i64 (j 28), .int .i64 (j 29)]) rfl _ Tryd.underlying56 rfl infoV ?_)
        exact ⟨rfl, rfl, rfl, Own.refl _⟩
      case s1_3 =>
        refine RegD.step2_det (by decide) (by simp) (fun u w1 hO => ?_)
        go_wp2
        exact ⟨rfl, rfl, rfl, Own.refl _⟩
      case s1_4 =>
        refine RegD.step2_det (by decide) (by simp) (fun u w1 hO => ?_)
        go_wp2
        exact ⟨rfl, rfl, rfl, Own.refl _⟩
      case s1_5 =>
        refine RegD.step2_det (by decide) (by simp) (fun u w1 hO => ?_)
        have HB9 := Lib.hid (HJ.out.own hO)
        go_wp2_with ((with_reducible show wpList _ _ _ (⟨_, .load 56 (.tmp 12), _, _, _, none⟩ :: _) _ _); refine wpList_load_part rfl 56 (.tmp 12) rfl J (30) rfl 3 HB9.out (by omega) (#[.int .i64 (j 30), .int .i64 (j 31), .int .i64 (j 32)]) rfl _ Tryd.underlying56 rfl infoV ?_)
        exact ⟨rfl, rfl, rfl, Own.refl _⟩
      case s1_6 =>
        refine RegD.step2_a1 rfl (fun u w1 hO => ?_)
        go_wp2
        exact ⟨rfl, rfl, rfl, rfl⟩
      case s1_7 =>
        refine RegD.step2_a2 (by decide) rfl (fun u w1 hO => ?_)
        go_wp2
        exact ⟨rfl, rfl, rfl, rfl⟩
      case s1_8 =>
        refine RegD.step2_s1 (by decide) rfl (by kernel_rfl) (fun u w1 N hO hu hN => ?_)
        have HN := Lib.hid hN
        simp only [hu]
        clear hN
        go_wp2_with ((with_reducible show wpList _ _ _ (⟨_, .store 56 (.tmp 6) (.tmp 10), _, _, _, none⟩ :: _) _ _); refine wpList_store_row rfl 56 (.tmp 6) (.tmp 10) rfl N #[.int .i64 (j 27), .int .i64 (j 28), .int .i64 (j 29)] rfl rfl 56 _ HN.out.raw infoV rfl (by simp [Value.oneCell']) ?_)
        exact ⟨rfl, rfl, rfl⟩
      case s1_9 =>
        refine RegD.step2_s2 (by decide) rfl (by kernel_rfl) (fun u w1 N hO hu hN => ?_)
        have HN := Lib.hid hN
        simp only [hu]
        clear hN
        go_wp2_with ((with_reducible show wpList _ _ _ (⟨_, .store 56 (.tmp 7) (.tmp 13), _, _, _, none⟩ :: _) _ _); refine wpList_store_row rfl 56 (.tmp 7) (.tmp 13) rfl N #[.int .i64 (j 30), .int .i64 (j 31), .int .i64 (j 32)] rfl rfl 56 _ HN.out.raw infoV rfl (by simp [Value.oneCell']) ?_)
        exact ⟨rfl, rfl, rfl⟩
    intro u w2 U Y hO hu1 hu2 _hne9 hB9 hb1 hb2
    simp only [hu1, hu2]
    have HU := Lib.hid hb1
    have HY := Lib.hid hb2
    have HRU := Lib.hid (two_far HR1.out HR2.out hB9 hO)
    replace g0 := g0.trans hO
    replace HR1 := Lib.hid (HR1.out.own hO)
    replace HR2 := Lib.hid (HR2.out.own hO)
    clear hO hu1 hu2 _hne9 hB9 hb1 hb2 HJ
    go_upto_region 5 with (fail)
    refine RegD.region_dutyR [19, 20] 2 3 (RegI.upd (RegI.upd (fun _ => undef) 19 (.agg #[.int .i64 (j 27), .int .i64 (j 28), .int .i64 (j 29)])) 20 (.agg #[.int .i64 (j 27), .int .i64 (j 28), .int .i64 (j 29)])) (BX w U Y #[.int .i64 (j 27), .int .i64 (j 28), .int .i64 (j 29)] #[.int .i64 (j 30), .int .i64 (j 31), .int .i64 (j 32)]) R1 R2 (#[.int .i64 0, .int .i64 0, .int .i64 0]) (#[.int .i64 (j 27), .int .i64 (j 28), .int .i64 (j 29)]) (#[.int .i64 0, .int .i64 0, .int .i64 0]) (#[.int .i64 (j 27), .int .i64 (j 28), .int .i64 (j 29)]) 56 56 (by kernel_rfl) (by kernel_rfl) (by decide) (by intro d hd; simp at hd; simp; omega) (bx_stg hR10 hR20 HNE.out HRU.out) (⟨g0, HU.out, HY.out⟩) (HR1.out) (HR2.out) ?_
    simp only [RegD.FF, RegI.FX, RegI.upd, List.foldl_cons, List.foldl_nil, List.not_mem_nil, if_true, if_false, Nat.reduceEqDiff]
    simp only [List.setIfInBounds_toArray, List.set_cons_succ, List.set_cons_zero]
    refine And.intro ?hs2 ?he2
    case hs2 =>
      refine And.intro ?s2_0 (And.intro ?s2_1 (And.intro ?s2_2 (And.intro ?s2_3 (trivial))))
      case s2_0 =>
        refine RegD.stepR_det (by decide) (by decide) (fun u w1 hX => ?_)
        have HB9 := Lib.hid (hX.2.1)
        clear hX
        go_wp2_with ((with_reducible show wpList _ _ _ (⟨_, .load 56 (.tmp 6), _, _, _, none⟩ :: _) _ _); refine wpList_load_row rfl 56 (.tmp 6) rfl U rfl 56 _ (0, 0) _ HB9.out.raw Tryd.underlying56 rfl infoV ?_)
        exact ⟨rfl, rfl, rfl, Own.refl _⟩
      case s2_1 =>
        refine RegD.stepR_det (by decide) (by decide) (fun u w1 hX => ?_)
        have HB9 := Lib.hid (hX.2.1)
        clear hX
        go_wp2_with ((with_reducible show wpList _ _ _ (⟨_, .load 56 (.tmp 6), _, _, _, none⟩ :: _) _ _); refine wpList_load_row rfl 56 (.tmp 6) rfl U rfl 56 _ (0, 0) _ HB9.out.raw Tryd.underlying56 rfl infoV ?_)
        exact ⟨rfl, rfl, rfl, Own.refl _⟩
      case s2_2 =>
        refine RegD.stepR_1 rfl (fun u w1 hX hN => ?_)
        have HN := Lib.hid hN
        clear hN
        go_wp2_with ((with_reducible show wpList _ _ _ (⟨_, .store 56 (.tmp 4) (.tmp 19), _, _, _, none⟩ :: _) _ _); refine wpList_store_row rfl 56 (.tmp 4) (.tmp 19) rfl R1 #[.int .i64 (j 27), .int .i64 (j 28), .int .i64 (j 29)] rfl rfl 56 _ HN.out.raw infoV rfl (by simp [Value.oneCell']) ?_)
        exact ⟨rfl, rfl, rfl⟩
      case s2_3 =>
        refine RegD.stepR_2 (by decide) rfl (fun u w1 hX hN => ?_)
        have HN := Lib.hid hN
        clear hN
        go_wp2_with ((with_reducible show wpList _ _ _ (⟨_, .store 56 (.tmp 5) (.tmp 20), _, _, _, none⟩ :: _) _ _); refine wpList_store_row rfl 56 (.tmp 5) (.tmp 20) rfl R2 #[.int .i64 (j 27), .int .i64 (j 28), .int .i64 (j 29)] rfl rfl 56 _ HN.out.raw infoV rfl (by simp [Value.oneCell']) ?_)
        exact ⟨rfl, rfl, rfl⟩
    intro u w3 hX hr1 hr2
    have g9 := hX.1
    clear hX HU HY HR1 HR2
    go_wp2
    exact bodyPost_ret (two_results rfl rfl rfl hr1 hr2 Tryd.underlying56 rfl infoV infoV) rfl ⟨rfl, g9⟩
  · by_cases h2 : s = 2
    · subst h2
      clear h1
      obtain ⟨⟨rfl, rfl, rfl⟩, rfl, rfl, rfl⟩ := H.out.two rfl
      clear H
      go_enter Tryd.func64, Tryd.ntmps64
      go_upto_region 1 with (fail)
      obtain ⟨W0, J, R1, R2, hW, hR2, hR1, hJ, hj1, hr1, hr2, g0, -, hR10, hR20, -, -, hne⟩ := three_new w (cz 33 j) 59 (#[.int .i64 0, .int .i64 0, .int .i64 0]) 56 (#[.int .i64 0, .int .i64 0, .int .i64 0]) 56
      rw [hW, hR2, hR1, hJ]
      have HJ := Lib.hid hj1
      have HR1 := Lib.hid hr1
      have HR2 := Lib.hid hr2
      have HNE := Lib.hid hne
      clear hW hR2 hR1 hJ hj1 hr1 hr2 hne
      refine RegD.region_duty2 [8, 9, 10, 11, 12, 13, 6, 7] 6 6 8 7 7 9 (RegI.upd (RegI.upd (RegI.upd (RegI.upd (RegI.upd (RegI.upd (fun _ => undef) 8 (.pointer (some ⟨J, 27, none⟩))) 9 (.pointer (some ⟨J, 27, none⟩))) 10 (.agg #[.int .i64 (j 27), .int .i64 (j 28), .int .i64 (j 29)])) 11 (.pointer (some ⟨J, 27, none⟩))) 12 (.pointer (some ⟨J, 30, none⟩))) 13 (.agg #[.int .i64 (j 30), .int .i64 (j 31), .int .i64 (j 32)])) (#[.int .i64 0, .int .i64 0, .int .i64 0]) (#[.int .i64 (j 27), .int .i64 (j 28), .int .i64 (j 29)]) 56 (#[.int .i64 0, .int .i64 0, .int .i64 0]) (#[.int .i64 (j 30), .int .i64 (j 31), .int .i64 (j 32)]) 56 (by kernel_rfl) (by kernel_rfl) (by decide) (by intro d hd; simp at hd; simp; omega) ?_
      simp only [RegD.FF, RegI.FX, RegI.upd, List.foldl_cons, List.foldl_nil, List.mem_cons, List.not_mem_nil, if_true, if_false, Nat.reduceEqDiff, or_false, or_true]
      simp only [List.setIfInBounds_toArray, List.set_cons_succ, List.set_cons_zero]
      refine And.intro ?hs3 ?he3
      case hs3 =>
        refine And.intro ?s3_0 (And.intro ?s3_1 (And.intro ?s3_2 (And.intro ?s3_3 (And.intro ?s3_4 (And.intro ?s3_5 (And.intro ?s3_6 (And.intro ?s3_7 (And.intro ?s3_8 (And.intro ?s3_9 (trivial))))))))))
        case s3_0 =>
          refine RegD.step2_det (by decide) (by simp) (fun u w1 hO => ?_)
          go_wp2
          exact ⟨rfl, rfl, rfl, Own.refl _⟩
        case s3_1 =>
          refine RegD.step2_det (by decide) (by simp) (fun u w1 hO => ?_)
          go_wp2
          exact ⟨rfl, rfl, rfl, Own.refl _⟩
        case s3_2 =>
          refine RegD.step2_det (by decide) (by simp) (fun u w1 hO => ?_)
          have HB9 := Lib.hid (HJ.out.own hO)
          go_wp2_with ((with_reducible show wpList _ _ _ (⟨_, .load 56 (.tmp 9), _, _, _, none⟩ :: _) _ _); refine wpList_load_part rfl 56 (.tmp 9) rfl J (27) rfl 3 HB9.out (by omega) (#[.int .i64 (j 27), .int .i64 (j 28), .int .i64 (j 29)]) rfl _ Tryd.underlying56 rfl infoV ?_)
          exact ⟨rfl, rfl, rfl, Own.refl _⟩
        case s3_3 =>
          refine RegD.step2_det (by decide) (by simp) (fun u w1 hO => ?_)
          go_wp2
          exact ⟨rfl, rfl, rfl, Own.refl _⟩
        case s3_4 =>
          refine RegD.step2_det (by decide) (by simp) (fun u w1 hO => ?_)
          go_wp2
          exact ⟨rfl, rfl, rfl, Own.refl _⟩
        case s3_5 =>
          refine RegD.step2_det (by decide) (by simp) (fun u w1 hO => ?_)
          have HB9 := Lib.hid (HJ.out.own hO)
          go_wp2_with ((with_reducible show wpList _ _ _ (⟨_, .load 56 (.tmp 12), _, _, _, none⟩ :: _) _ _); refine wpList_load_part rfl 56 (.tmp 12) rfl J (30) rfl 3 HB9.out (by omega) (#[.int .i64 (j 30), .int .i64 (j 31), .int .i64 (j 32)]) rfl _ Tryd.underlying56 rfl infoV ?_)
          exact ⟨rfl, rfl, rfl, Own.refl _⟩
        case s3_6 =>
          refine RegD.step2_a1 rfl (fun u w1 hO => ?_)
          go_wp2
          exact ⟨rfl, rfl, rfl, rfl⟩
        case s3_7 =>
          refine RegD.step2_a2 (by decide) rfl (fun u w1 hO => ?_)
          go_wp2
          exact ⟨rfl, rfl, rfl, rfl⟩
        case s3_8 =>
          refine RegD.step2_s1 (by decide) rfl (by kernel_rfl) (fun u w1 N hO hu hN => ?_)
          have HN := Lib.hid hN
          simp only [hu]
          clear hN
          go_wp2_with ((with_reducible show wpList _ _ _ (⟨_, .store 56 (.tmp 6) (.tmp 10), _, _, _, none⟩ :: _) _ _); refine wpList_store_row rfl 56 (.tmp 6) (.tmp 10) rfl N #[.int .i64 (j 27), .int .i64 (j 28), .int .i64 (j 29)] rfl rfl 56 _ HN.out.raw infoV rfl (by simp [Value.oneCell']) ?_)
          exact ⟨rfl, rfl, rfl⟩
        case s3_9 =>
          refine RegD.step2_s2 (by decide) rfl (by kernel_rfl) (fun u w1 N hO hu hN => ?_)
          have HN := Lib.hid hN
          simp only [hu]
          clear hN
          go_wp2_with ((with_reducible show wpList _ _ _ (⟨_, .store 56 (.tmp 7) (.tmp 13), _, _, _, none⟩ :: _) _ _); refine wpList_store_row rfl 56 (.tmp 7) (.tmp 13) rfl N #[.int .i64 (j 30), .int .i64 (j 31), .int .i64 (j 32)] rfl rfl 56 _ HN.out.raw infoV rfl (by simp [Value.oneCell']) ?_)
          exact ⟨rfl, rfl, rfl⟩
      intro u w2 U Y hO hu1 hu2 _hne9 hB9 hb1 hb2
      simp only [hu1, hu2]
      have HU := Lib.hid hb1
      have HY := Lib.hid hb2
      have HRU := Lib.hid (two_far HR1.out HR2.out hB9 hO)
      replace g0 := g0.trans hO
      replace HR1 := Lib.hid (HR1.out.own hO)
      replace HR2 := Lib.hid (HR2.out.own hO)
      clear hO hu1 hu2 _hne9 hB9 hb1 hb2 HJ
      go_upto_region 7 with (fail)
      refine RegD.region_dutyR [23, 24] 2 3 (RegI.upd (RegI.upd (fun _ => undef) 23 (.agg #[.int .i64 (j 30), .int .i64 (j 31), .int .i64 (j 32)])) 24 (.agg #[.int .i64 (j 30), .int .i64 (j 31), .int .i64 (j 32)])) (BX w U Y #[.int .i64 (j 27), .int .i64 (j 28), .int .i64 (j 29)] #[.int .i64 (j 30), .int .i64 (j 31), .int .i64 (j 32)]) R1 R2 (#[.int .i64 0, .int .i64 0, .int .i64 0]) (#[.int .i64 (j 30), .int .i64 (j 31), .int .i64 (j 32)]) (#[.int .i64 0, .int .i64 0, .int .i64 0]) (#[.int .i64 (j 30), .int .i64 (j 31), .int .i64 (j 32)]) 56 56 (by kernel_rfl) (by kernel_rfl) (by decide) (by intro d hd; simp at hd; simp; omega) (bx_stg hR10 hR20 HNE.out HRU.out) (⟨g0, HU.out, HY.out⟩) (HR1.out) (HR2.out) ?_
      simp only [RegD.FF, RegI.FX, RegI.upd, List.foldl_cons, List.foldl_nil, List.not_mem_nil, if_true, if_false, Nat.reduceEqDiff]
      simp only [List.setIfInBounds_toArray, List.set_cons_succ, List.set_cons_zero]
      refine And.intro ?hs4 ?he4
      case hs4 =>
        refine And.intro ?s4_0 (And.intro ?s4_1 (And.intro ?s4_2 (And.intro ?s4_3 (trivial))))
        case s4_0 =>
          refine RegD.stepR_det (by decide) (by decide) (fun u w1 hX => ?_)
          have HB9 := Lib.hid (hX.2.2)
          clear hX
          go_wp2_with ((with_reducible show wpList _ _ _ (⟨_, .load 56 (.tmp 7), _, _, _, none⟩ :: _) _ _); refine wpList_load_row rfl 56 (.tmp 7) rfl Y rfl 56 _ (0, 0) _ HB9.out.raw Tryd.underlying56 rfl infoV ?_)
          exact ⟨rfl, rfl, rfl, Own.refl _⟩
        case s4_1 =>
          refine RegD.stepR_det (by decide) (by decide) (fun u w1 hX => ?_)
          have HB9 := Lib.hid (hX.2.2)
          clear hX
          go_wp2_with ((with_reducible show wpList _ _ _ (⟨_, .load 56 (.tmp 7), _, _, _, none⟩ :: _) _ _); refine wpList_load_row rfl 56 (.tmp 7) rfl Y rfl 56 _ (0, 0) _ HB9.out.raw Tryd.underlying56 rfl infoV ?_)
          exact ⟨rfl, rfl, rfl, Own.refl _⟩
        case s4_2 =>
          refine RegD.stepR_1 rfl (fun u w1 hX hN => ?_)
          have HN := Lib.hid hN
          clear hN
          go_wp2_with ((with_reducible show wpList _ _ _ (⟨_, .store 56 (.tmp 4) (.tmp 23), _, _, _, none⟩ :: _) _ _); refine wpList_store_row rfl 56 (.tmp 4) (.tmp 23) rfl R1 #[.int .i64 (j 30), .int .i64 (j 31), .int .i64 (j 32)] rfl rfl 56 _ HN.out.raw infoV rfl (by simp [Value.oneCell']) ?_)
          exact ⟨rfl, rfl, rfl⟩
        case s4_3 =>
          refine RegD.stepR_2 (by decide) rfl (fun u w1 hX hN => ?_)
          have HN := Lib.hid hN
          clear hN
          go_wp2_with ((with_reducible show wpList _ _ _ (⟨_, .store 56 (.tmp 5) (.tmp 24), _, _, _, none⟩ :: _) _ _); refine wpList_store_row rfl 56 (.tmp 5) (.tmp 24) rfl R2 #[.int .i64 (j 30), .int .i64 (j 31), .int .i64 (j 32)] rfl rfl 56 _ HN.out.raw infoV rfl (by simp [Value.oneCell']) ?_)
          exact ⟨rfl, rfl, rfl⟩
      intro u w3 hX hr1 hr2
      have g9 := hX.1
      clear hX HU HY HR1 HR2
      go_wp2
      exact bodyPost_ret (two_results rfl rfl rfl hr1 hr2 Tryd.underlying56 rfl infoV infoV) rfl ⟨rfl, g9⟩
    · obtain ⟨⟨rfl, rfl, rfl⟩, rfl, rfl, rfl⟩ := H.out.both h1 h2
      clear H
      have d1 : decide (s = 1) = false := decide_eq_false h1
      have d2 : decide (s = 2) = false := decide_eq_false h2
      have d3 : (s == 1) = false := beq_eq_false_iff_ne.2 h1
      have d4 : (s == 2) = false := beq_eq_false_iff_ne.2 h2
      clear h1 h2
      go_enter Tryd.func64, Tryd.ntmps64
      go_upto_region 1 with (fail)
      obtain ⟨W0, J, R1, R2, hW, hR2, hR1, hJ, hj1, hr1, hr2, g0, -, hR10, hR20, -, -, hne⟩ := three_new w (cz 33 j) 59 (#[.int .i64 0, .int .i64 0, .int .i64 0]) 56 (#[.int .i64 0, .int .i64 0, .int .i64 0]) 56
      rw [hW, hR2, hR1, hJ]
      have HJ := Lib.hid hj1
      have HR1 := Lib.hid hr1
      have HR2 := Lib.hid hr2
      have HNE := Lib.hid hne
      clear hW hR2 hR1 hJ hj1 hr1 hr2 hne
      refine RegD.region_duty2 [8, 9, 10, 11, 12, 13, 6, 7] 6 6 8 7 7 9 (RegI.upd (RegI.upd (RegI.upd (RegI.upd (RegI.upd (RegI.upd (fun _ => undef) 8 (.pointer (some ⟨J, 27, none⟩))) 9 (.pointer (some ⟨J, 27, none⟩))) 10 (.agg #[.int .i64 (j 27), .int .i64 (j 28), .int .i64 (j 29)])) 11 (.pointer (some ⟨J, 27, none⟩))) 12 (.pointer (some ⟨J, 30, none⟩))) 13 (.agg #[.int .i64 (j 30), .int .i64 (j 31), .int .i64 (j 32)])) (#[.int .i64 0, .int .i64 0, .int .i64 0]) (#[.int .i64 (j 27), .int .i64 (j 28), .int .i64 (j 29)]) 56 (#[.int .i64 0, .int .i64 0, .int .i64 0]) (#[.int .i64 (j 30), .int .i64 (j 31), .int .i64 (j 32)]) 56 (by kernel_rfl) (by kernel_rfl) (by decide) (by intro d hd; simp at hd; simp; omega) ?_
      simp only [RegD.FF, RegI.FX, RegI.upd, List.foldl_cons, List.foldl_nil, List.mem_cons, List.not_mem_nil, if_true, if_false, Nat.reduceEqDiff, or_false, or_true]
      simp only [List.setIfInBounds_toArray, List.set_cons_succ, List.set_cons_zero]
      refine And.intro ?hs5 ?he5
      case hs5 =>
        refine And.intro ?s5_0 (And.intro ?s5_1 (And.intro ?s5_2 (And.intro ?s5_3 (And.intro ?s5_4 (And.intro ?s5_5 (And.intro ?s5_6 (And.intro ?s5_7 (And.intro ?s5_8 (And.intro ?s5_9 (trivial))))))))))
        case s5_0 =>
          refine RegD.step2_det (by decide) (by simp) (fun u w1 hO => ?_)
          go_wp2
          exact ⟨rfl, rfl, rfl, Own.refl _⟩
        case s5_1 =>
          refine RegD.step2_det (by decide) (by simp) (fun u w1 hO => ?_)
          go_wp2
          exact ⟨rfl, rfl, rfl, Own.refl _⟩
        case s5_2 =>
          refine RegD.step2_det (by decide) (by simp) (fun u w1 hO => ?_)
          have HB9 := Lib.hid (HJ.out.own hO)
          go_wp2_with ((with_reducible show wpList _ _ _ (⟨_, .load 56 (.tmp 9), _, _, _, none⟩ :: _) _ _); refine wpList_load_part rfl 56 (.tmp 9) rfl J (27) rfl 3 HB9.out (by omega) (#[.int .i64 (j 27), .int .i64 (j 28), .int .i64 (j 29)]) rfl _ Tryd.underlying56 rfl infoV ?_)
          exact ⟨rfl, rfl, rfl, Own.refl _⟩
        case s5_3 =>
          refine RegD.step2_det (by decide) (by simp) (fun u w1 hO => ?_)
          go_wp2
          exact ⟨rfl, rfl, rfl, Own.refl _⟩
        case s5_4 =>
          refine RegD.step2_det (by decide) (by simp) (fun u w1 hO => ?_)
          go_wp2
          exact ⟨rfl, rfl, rfl, Own.refl _⟩
        case s5_5 =>
          refine RegD.step2_det (by decide) (by simp) (fun u w1 hO => ?_)
          have HB9 := Lib.hid (HJ.out.own hO)
          go_wp2_with ((with_reducible show wpList _ _ _ (⟨_, .load 56 (.tmp 12), _, _, _, none⟩ :: _) _ _); refine wpList_load_part rfl 56 (.tmp 12) rfl J (30) rfl 3 HB9.out (by omega) (#[.int .i64 (j 30), .int .i64 (j 31), .int .i64 (j 32)]) rfl _ Tryd.underlying56 rfl infoV ?_)
          exact ⟨rfl, rfl, rfl, Own.refl _⟩
        case s5_6 =>
          refine RegD.step2_a1 rfl (fun u w1 hO => ?_)
          go_wp2
          exact ⟨rfl, rfl, rfl, rfl⟩
        case s5_7 =>
          refine RegD.step2_a2 (by decide) rfl (fun u w1 hO => ?_)
          go_wp2
          exact ⟨rfl, rfl, rfl, rfl⟩
        case s5_8 =>
          refine RegD.step2_s1 (by decide) rfl (by kernel_rfl) (fun u w1 N hO hu hN => ?_)
          have HN := Lib.hid hN
          simp only [hu]
          clear hN
          go_wp2_with ((with_reducible show wpList _ _ _ (⟨_, .store 56 (.tmp 6) (.tmp 10), _, _, _, none⟩ :: _) _ _); refine wpList_store_row rfl 56 (.tmp 6) (.tmp 10) rfl N #[.int .i64 (j 27), .int .i64 (j 28), .int .i64 (j 29)] rfl rfl 56 _ HN.out.raw infoV rfl (by simp [Value.oneCell']) ?_)
          exact ⟨rfl, rfl, rfl⟩
        case s5_9 =>
          refine RegD.step2_s2 (by decide) rfl (by kernel_rfl) (fun u w1 N hO hu hN => ?_)
          have HN := Lib.hid hN
          simp only [hu]
          clear hN
          go_wp2_with ((with_reducible show wpList _ _ _ (⟨_, .store 56 (.tmp 7) (.tmp 13), _, _, _, none⟩ :: _) _ _); refine wpList_store_row rfl 56 (.tmp 7) (.tmp 13) rfl N #[.int .i64 (j 30), .int .i64 (j 31), .int .i64 (j 32)] rfl rfl 56 _ HN.out.raw infoV rfl (by simp [Value.oneCell']) ?_)
          exact ⟨rfl, rfl, rfl⟩
      intro u w2 U Y hO hu1 hu2 _hne9 hB9 hb1 hb2
      simp only [hu1, hu2]
      have HU := Lib.hid hb1
      have HY := Lib.hid hb2
      have HRU := Lib.hid (two_far HR1.out HR2.out hB9 hO)
      replace g0 := g0.trans hO
      replace HR1 := Lib.hid (HR1.out.own hO)
      replace HR2 := Lib.hid (HR2.out.own hO)
      clear hO hu1 hu2 _hne9 hB9 hb1 hb2 HJ
      go_upto_region 3 with (fail)
      refine RegD.region_dutyR [15, 16] 2 3 (RegI.upd (RegI.upd (fun _ => undef) 15 (.agg #[.int .i64 (j 27), .int .i64 (j 28), .int .i64 (j 29)])) 16 (.agg #[.int .i64 (j 30), .int .i64 (j 31), .int .i64 (j 32)])) (BX w U Y #[.int .i64 (j 27), .int .i64 (j 28), .int .i64 (j 29)] #[.int .i64 (j 30), .int .i64 (j 31), .int .i64 (j 32)]) R1 R2 (#[.int .i64 0, .int .i64 0, .int .i64 0]) (#[.int .i64 (j 27), .int .i64 (j 28), .int .i64 (j 29)]) (#[.int .i64 0, .int .i64 0, .int .i64 0]) (#[.int .i64 (j 30), .int .i64 (j 31), .int .i64 (j 32)]) 56 56 (by kernel_rfl) (by kernel_rfl) (by decide) (by intro d hd; simp at hd; simp; omega) (bx_stg hR10 hR20 HNE.out HRU.out) (⟨g0, HU.out, HY.out⟩) (HR1.out) (HR2.out) ?_
      simp only [RegD.FF, RegI.FX, RegI.upd, List.foldl_cons, List.foldl_nil, List.not_mem_nil, if_true, if_false, Nat.reduceEqDiff]
      simp only [List.setIfInBounds_toArray, List.set_cons_succ, List.set_cons_zero]
      refine And.intro ?hs6 ?he6
      case hs6 =>
        refine And.intro ?s6_0 (And.intro ?s6_1 (And.intro ?s6_2 (And.intro ?s6_3 (trivial))))
        case s6_0 =>
          refine RegD.stepR_det (by decide) (by decide) (fun u w1 hX => ?_)
          have HB9 := Lib.hid (hX.2.1)
          clear hX
          go_wp2_with ((with_reducible show wpList _ _ _ (⟨_, .load 56 (.tmp 6), _, _, _, none⟩ :: _) _ _); refine wpList_load_row rfl 56 (.tmp 6) rfl U rfl 56 _ (0, 0) _ HB9.out.raw Tryd.underlying56 rfl infoV ?_)
          exact ⟨rfl, rfl, rfl, Own.refl _⟩
        case s6_1 =>
          refine RegD.stepR_det (by decide) (by decide) (fun u w1 hX => ?_)
          have HB9 := Lib.hid (hX.2.2)
          clear hX
          go_wp2_with ((with_reducible show wpList _ _ _ (⟨_, .load 56 (.tmp 7), _, _, _, none⟩ :: _) _ _); refine wpList_load_row rfl 56 (.tmp 7) rfl Y rfl 56 _ (0, 0) _ HB9.out.raw Tryd.underlying56 rfl infoV ?_)
          exact ⟨rfl, rfl, rfl, Own.refl _⟩
        case s6_2 =>
          refine RegD.stepR_1 rfl (fun u w1 hX hN => ?_)
          have HN := Lib.hid hN
          clear hN
          go_wp2_with ((with_reducible show wpList _ _ _ (⟨_, .store 56 (.tmp 4) (.tmp 15), _, _, _, none⟩ :: _) _ _); refine wpList_store_row rfl 56 (.tmp 4) (.tmp 15) rfl R1 #[.int .i64 (j 27), .int .i64 (j 28), .int .i64 (j 29)] rfl rfl 56 _ HN.out.raw infoV rfl (by simp [Value.oneCell']) ?_)
          exact ⟨rfl, rfl, rfl⟩
        case s6_3 =>
          refine RegD.stepR_2 (by decide) rfl (fun u w1 hX hN => ?_)
          have HN := Lib.hid hN
          clear hN
          go_wp2_with ((with_reducible show wpList _ _ _ (⟨_, .store 56 (.tmp 5) (.tmp 16), _, _, _, none⟩ :: _) _ _); refine wpList_store_row rfl 56 (.tmp 5) (.tmp 16) rfl R2 #[.int .i64 (j 30), .int .i64 (j 31), .int .i64 (j 32)] rfl rfl 56 _ HN.out.raw infoV rfl (by simp [Value.oneCell']) ?_)
          exact ⟨rfl, rfl, rfl⟩
      intro u w3 hX hr1 hr2
      have g9 := hX.1
      clear hX HU HY HR1 HR2
      go_wp2
      exact bodyPost_ret (two_results rfl rfl rfl hr1 hr2 Tryd.underlying56 rfl infoV infoV) rfl ⟨rfl, g9⟩
end Go.Proofs.YtighpjhipgobiaaDoor.BalW
