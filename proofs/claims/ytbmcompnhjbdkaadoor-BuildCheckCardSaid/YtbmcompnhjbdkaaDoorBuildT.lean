/-
  Walks of the laws of package build: body, awake. Condition: the table of bounds lies in memory (Tab).
-/
import Derived.Test.YtbmcompnhjbdkaaDoorBuildEq
import Derived.Deep.WholeRow
namespace Go.Proofs.YtbmcompnhjbdkaaDoor.BuiW
open Go.ChangeShapes Go.WideShapes Go.ChangeAt Go.RowKit
open PairW BuiP
theorem bx_new (w : World) (b : Bl) : ∃ W B, w.alloc (.cells #[.int .i64 (b 0), .int .i64 (b 1), .int .i64 (b 2), .int .i64 (b 3), .int .i64 (b 4), .int .i64 (b 5), .int .i64 (b 6), .int .i64 (b 7), .int .i64 (b 8), .int .i64 (b 9), .int .i64 (b 10), .int .i64 (b 11), .int .i64 (b 12), .int .i64 (b 13), .int .i64 (b 14)] 24) = W ∧ w.heap.size = B ∧ Bx W B b ∧ Own w W ∧ w.heap.size ≤ B := ⟨_, _, rfl, rfl, Bx.new w b, (Own.refl w).alloc _, Nat.le_refl _⟩
theorem pt_made (w : World) (x y : Value) : ∃ W B, w.alloc (.cells #[x, y] 29) = W ∧ w.heap.size = B ∧ Blk W B #[x, y] 29 ∧ Own w W := ⟨_, _, rfl, rfl, Blk.new w _ _, (Own.refl w).alloc _⟩
/-- The cells of a point. -/
theorem Blk.two {w : World} {B : Nat} {x y : Value} {T : TypeId} (h : Blk w B #[x, y] T) : w.cell? ⟨B, 0, none⟩ = some x ∧ w.cell? ⟨B, 1, none⟩ = some y := ⟨h.cell 0, h.cell 1⟩
/-- A body that lies in memory, as the one result. -/
theorem bd_result {fn : Func} {p : Tmp} (h : fn.results = #[.cell p 24]) {tmps : Array Value} {w : World} {B : Nat} {cs : Array Value} (hp : tmps.getD p undef = .pointer (some ⟨B, 0, none⟩)) (hb : Blk w B cs 24) (hs : cs.size = 15) :
    (results fn tmps).run Tryd.prog w = .ok (.agg cs) w := by
  rw [results_cell1 h, hp]
  simp [asAddr, Result.andThen, run_loadVar_row w B 24 24 cs (0, 0) _ hb Tryd.underlying24 rfl (by rw [hs]; exact infoB)]
def bdl : List Int := [900, 500, 150, 700, 100, 180, 600, 80, 60, 100, 300, 30000, 5000, 3000, 10000]
/-- The body of the chapter's examples. -/
def bdy : Bl := fun i => bdl.getD i 0
set_option maxRecDepth 100000 in
theorem body_at (w : World) :
    Calls Tryd.prog 22 #[] w fun e w' => e = .returned (.agg #[.int .i64 900, .int .i64 500, .int .i64 150, .int .i64 700, .int .i64 100, .int .i64 180, .int .i64 600, .int .i64 80, .int .i64 60, .int .i64 100, .int .i64 300, .int .i64 30000, .int .i64 5000, .int .i64 3000, .int .i64 10000]) ∧ Own w w' := by
  go_enter Tryd.func22, Tryd.ntmps22
  go_wp2_with (refine wpList_store_row rfl 24 (.tmp 0) (.tmp 2) rfl w.heap.size #[.int .i64 900, .int .i64 500, .int .i64 150, .int .i64 700, .int .i64 100, .int .i64 180, .int .i64 600, .int .i64 80, .int .i64 60, .int .i64 100, .int .i64 300, .int .i64 30000, .int .i64 5000, .int .i64 3000, .int .i64 10000] rfl rfl 24 _ (heap_new _ _) infoB rfl (by simp [Value.oneCell']) ?_; rw [World.setRow_alloc_new])
  exact bodyPost_ret (bd_result rfl rfl (Blk.new w _ _) rfl) rfl ⟨rfl, (Own.refl w).alloc _⟩
def bad : Bl := fun i => if i = 0 then 1501 else bdy i
theorem ok_bdy : Okb bdy := by decide +kernel
theorem bad_bdy : chk bad = 23 := by decide +kernel
theorem st1_bdy : stpX bdy 1 = 424 ∧ stpY bdy 1 = 424 ∧ stpE bdy 1 = 0 := by decide +kernel
theorem st4_bdy : stpX bdy 4 = 0 ∧ stpY bdy 4 = -600 ∧ stpE bdy 4 = 0 := by decide +kernel
theorem ms_bdy : masV bdy = 61000 ∧ chk bdy = 0 := by decide +kernel
/-- The body of the chapter's examples, halved. -/
def hlf : Bl := scV bdy 501
theorem hlf_e : scE bdy 501 = 0 := by decide +kernel
theorem hlf_v : hlf 0 = 451 ∧ hlf 1 = 250 ∧ hlf 2 = 75 ∧ hlf 3 = 351 ∧ hlf 4 = 50 ∧ hlf 5 = 90 ∧ hlf 6 = 301 ∧ hlf 7 = 40 ∧ hlf 8 = 30 ∧ hlf 9 = 50 ∧ hlf 10 = 150 ∧ hlf 11 = 30000 ∧ hlf 12 = 5000 ∧ hlf 13 = 3000 ∧ hlf 14 = 10000 := by decide +kernel
/-- The body of nothing. -/
def nul : Bl := fun _ => 0
theorem big_bdy : scV bdy 2000 = nul ∧ scE bdy 2000 = 23 := by
  have := sc_no ok_bdy (p := 2000) (by omega) (by decide +kernel)
  exact ⟨this.2, this.1⟩
theorem few_bdy : scV bdy 499 = nul ∧ scE bdy 499 = 1 := by
  have := sc_range ok_bdy (p := 499) (by omega)
  exact ⟨this.2, this.1⟩
set_option maxRecDepth 100000 in
set_option maxHeartbeats 4000000 in
theorem awake_at (w : World) (HT : Hid (Tab w)) :
    Calls Tryd.prog 12 #[] w fun e w' => e = .returned (.bool true) ∧ Own w w' := by
  have HC := Lib.hid ms_bdy.2
  have HS1 := Lib.hid st1_bdy
  have HS4 := Lib.hid st4_bdy
  have HM := Lib.hid ms_bdy
  have HH := Lib.hid (show scV bdy 501 = hlf ∧ scE bdy 501 = 0 from ⟨rfl, hlf_e⟩)
  have HBG := Lib.hid big_bdy
  have HFW := Lib.hid few_bdy
  have HBD := Lib.hid bad_bdy
  have HV := Lib.hid hlf_v
  go_enter Tryd.func12, Tryd.ntmps12
  go_upto_region 2 with (first | (go_at_call 22; with_reducible refine (body_at _).mono ?_; rintro e w1 ⟨rfl, g0⟩) | (refine wpList_store_row rfl 24 (.tmp 1) (.tmp 14) rfl _ #[.int .i64 900, .int .i64 500, .int .i64 150, .int .i64 700, .int .i64 100, .int .i64 180, .int .i64 600, .int .i64 80, .int .i64 60, .int .i64 100, .int .i64 300, .int .i64 30000, .int .i64 5000, .int .i64 3000, .int .i64 10000] rfl rfl 24 _ (heap_new _ _) infoB rfl (by simp [Value.oneCell']) ?_; rw [World.setRow_alloc_new]))
  obtain ⟨W0, B, hW, hBq, hb, hg, hB⟩ := bx_new w1 bdy
  change w1.alloc (.cells #[.int .i64 900, .int .i64 500, .int .i64 150, .int .i64 700, .int .i64 100, .int .i64 180, .int .i64 600, .int .i64 80, .int .i64 60, .int .i64 100, .int .i64 300, .int .i64 30000, .int .i64 5000, .int .i64 3000, .int .i64 10000] 24) = W0 at hW
  rw [hW, hBq]
  have HB := Lib.hid hb
  have hB0 : w.heap.size ≤ B := Nat.le_trans g0.size hB
  replace g0 : Own w W0 := g0.trans hg
  clear hW hBq hb hg hB
  go_upto_region 4 with (first | (refine wpList_load_row rfl 24 (.tmp 1) rfl B rfl 24 _ (0, 0) _ HB.out.raw Tryd.underlying24 rfl infoB ?_) | (go_at_call 11; with_reducible refine (pcheck_at bdy 0 _ (Lib.hid (HT.out.own g0)) HC).mono ?_; rintro e w2 ⟨rfl, hg⟩; replace g0 : Own w w2 := g0.trans hg; replace HB := Lib.hid (HB.out.own hg); clear hg))
  go_upto_region 5 with (first | (refine wpList_load_row rfl 24 (.tmp 1) rfl B rfl 24 _ (0, 0) _ HB.out.raw Tryd.underlying24 rfl infoB ?_) | (go_at_call 13; with_reducible refine (pstep_at bdy 1 424 424 0 _ (Lib.hid (HT.out.own g0)) HS1).mono ?_; rintro e w3 ⟨rfl, hg⟩; replace g0 : Own w w3 := g0.trans hg; replace HB := Lib.hid (HB.out.own hg); clear hg))
  obtain ⟨W3, P, hW, hBq, hb, hg⟩ := pt_made w3 (.int .i64 424) (.int .i64 424)
  rw [hW, hBq]
  have HP := Lib.hid hb
  replace g0 : Own w W3 := g0.trans hg
  replace HB := Lib.hid (HB.out.own hg)
  clear hW hBq hb hg
  go_upto_region 6 with (first | (refine wpList_load_row rfl 24 (.tmp 1) rfl B rfl 24 _ (0, 0) _ HB.out.raw Tryd.underlying24 rfl infoB ?_) | (go_at_call 13; with_reducible refine (pstep_at bdy 4 0 (-600) 0 _ (Lib.hid (HT.out.own g0)) HS4).mono ?_; rintro e w4 ⟨rfl, hg⟩; replace g0 : Own w w4 := g0.trans hg; replace HB := Lib.hid (HB.out.own hg); replace HP := Lib.hid (HP.out.own hg); clear hg))
  obtain ⟨W4, Q, hW, hBq, hb, hg⟩ := pt_made w4 (.int .i64 0) (.int .i64 (-600))
  rw [hW, hBq]
  have HQ := Lib.hid hb
  replace g0 : Own w W4 := g0.trans hg
  replace HB := Lib.hid (HB.out.own hg)
  replace HP := Lib.hid (HP.out.own hg)
  clear hW hBq hb hg
  go_upto_region 7 with (first | (refine wpList_load_row rfl 24 (.tmp 1) rfl B rfl 24 _ (0, 0) _ HB.out.raw Tryd.underlying24 rfl infoB ?_) | (go_at_call 14; with_reducible refine (pmass_at bdy 61000 0 _ (Lib.hid (HT.out.own g0)) HM).mono ?_; rintro e w5 ⟨rfl, hg⟩; replace g0 : Own w w5 := g0.trans hg; replace HB := Lib.hid (HB.out.own hg); replace HP := Lib.hid (HP.out.own hg); replace HQ := Lib.hid (HQ.out.own hg); clear hg))
  go_upto_region 8 with (first | (refine wpList_load_row rfl 24 (.tmp 1) rfl B rfl 24 _ (0, 0) _ HB.out.raw Tryd.underlying24 rfl infoB ?_) | (go_at_call 15; with_reducible refine (pscaled_at bdy hlf 501 0 _ (Lib.hid (HT.out.own g0)) HH).mono ?_; rintro e w6 ⟨rfl, hg⟩; replace g0 : Own w w6 := g0.trans hg; replace HB := Lib.hid (HB.out.own hg); replace HP := Lib.hid (HP.out.own hg); replace HQ := Lib.hid (HQ.out.own hg); clear hg) | (refine wpList_store_row rfl 24 (.tmp 8) (.tmp 36) rfl _ #[.int .i64 (hlf 0), .int .i64 (hlf 1), .int .i64 (hlf 2), .int .i64 (hlf 3), .int .i64 (hlf 4), .int .i64 (hlf 5), .int .i64 (hlf 6), .int .i64 (hlf 7), .int .i64 (hlf 8), .int .i64 (hlf 9), .int .i64 (hlf 10), .int .i64 (hlf 11), .int .i64 (hlf 12), .int .i64 (hlf 13), .int .i64 (hlf 14)] rfl rfl 24 _ (heap_new _ _) infoB rfl (all_cs hlf) ?_; rw [World.setRow_alloc_new]))
  obtain ⟨W6, C, hW, hBq, hb, hg, -⟩ := bx_new w6 hlf
  rw [hW, hBq]
  have HF := Lib.hid hb
  replace g0 : Own w W6 := g0.trans hg
  replace HB := Lib.hid (HB.out.own hg)
  replace HP := Lib.hid (HP.out.own hg)
  replace HQ := Lib.hid (HQ.out.own hg)
  clear hW hBq hb hg
  obtain ⟨p0, p1⟩ := HP.out.two
  obtain ⟨q0, q1⟩ := HQ.out.two
  go_upto_region 10 with (fail)
  obtain ⟨v0, v1, v2, v3, v4, v5, v6, v7, v8, v9, v10, v11, v12, v13, v14⟩ := HV.out
  go_upto_region 12 with (first | (refine wpList_load_row rfl 24 (.tmp 8) rfl C rfl 24 _ (0, 0) _ HF.out.raw Tryd.underlying24 rfl infoB ?_))
  clear p0 p1 q0 q1 HP HQ HF HV v0 v1 v2 v3 v4 v5 v6 v7 v8 v9 v10 v11 v12 v13 v14
  go_upto_region 13 with (first | (refine wpList_load_row rfl 24 (.tmp 1) rfl B rfl 24 _ (0, 0) _ HB.out.raw Tryd.underlying24 rfl infoB ?_) | (go_at_call 15; with_reducible refine (pscaled_at bdy nul 2000 23 _ (Lib.hid (HT.out.own g0)) HBG).mono ?_; rintro e w7 ⟨rfl, hg⟩; replace g0 : Own w w7 := g0.trans hg; replace HB := Lib.hid (HB.out.own hg); clear hg) | (refine wpList_store_row rfl 24 (.tmp 10) (.tmp 73) rfl _ #[.int .i64 (nul 0), .int .i64 (nul 1), .int .i64 (nul 2), .int .i64 (nul 3), .int .i64 (nul 4), .int .i64 (nul 5), .int .i64 (nul 6), .int .i64 (nul 7), .int .i64 (nul 8), .int .i64 (nul 9), .int .i64 (nul 10), .int .i64 (nul 11), .int .i64 (nul 12), .int .i64 (nul 13), .int .i64 (nul 14)] rfl rfl 24 _ (heap_new _ _) infoB rfl (all_cs nul) ?_; rw [World.setRow_alloc_new]))
  obtain ⟨W7, C7, hW, hBq, hb, hg, -⟩ := bx_new w7 nul
  rw [hW, hBq]
  have H7 := Lib.hid hb
  replace g0 : Own w W7 := g0.trans hg
  replace HB := Lib.hid (HB.out.own hg)
  clear hW hBq hb hg
  go_upto_region 14 with (first | (refine wpList_load_row rfl 24 (.tmp 1) rfl B rfl 24 _ (0, 0) _ HB.out.raw Tryd.underlying24 rfl infoB ?_) | (go_at_call 15; with_reducible refine (pscaled_at bdy nul 499 1 _ (Lib.hid (HT.out.own g0)) HFW).mono ?_; rintro e w8 ⟨rfl, hg⟩; replace g0 : Own w w8 := g0.trans hg; replace HB := Lib.hid (HB.out.own hg); clear hg) | (refine wpList_store_row rfl 24 (.tmp 12) (.tmp 78) rfl _ #[.int .i64 (nul 0), .int .i64 (nul 1), .int .i64 (nul 2), .int .i64 (nul 3), .int .i64 (nul 4), .int .i64 (nul 5), .int .i64 (nul 6), .int .i64 (nul 7), .int .i64 (nul 8), .int .i64 (nul 9), .int .i64 (nul 10), .int .i64 (nul 11), .int .i64 (nul 12), .int .i64 (nul 13), .int .i64 (nul 14)] rfl rfl 24 _ (heap_new _ _) infoB rfl (all_cs nul) ?_; rw [World.setRow_alloc_new]))
  obtain ⟨W8, C8, hW, hBq, hb, hg, -⟩ := bx_new w8 nul
  rw [hW, hBq]
  have H8 := Lib.hid hb
  replace g0 : Own w W8 := g0.trans hg
  replace HB := Lib.hid (HB.out.own hg)
  clear hW hBq hb hg
  have b0 : W8.cell? ⟨B, 0, none⟩ = some (.int .i64 900) := HB.out.at (by omega)
  have f0 := HB.out.frozen 0
  go_upto_region 15 with (fail)
  have hb : Bx (W8.setCell ⟨B, 0, none⟩ (.int .i64 1501)) B bad := HB.out.set (by omega) 1501
  replace g0 := g0.setCell (p := ⟨B, 0, none⟩) hB0 (.int .i64 1501)
  clear b0 f0 HB
  have HB := Lib.hid hb
  clear hb
  generalize W8.setCell ⟨B, 0, none⟩ (.int .i64 1501) = W9 at *
  obtain ⟨k0, k1, k2, k3, k4, k5, k6, k7, k8, k9, k10, k11, k12, k13, k14⟩ := HB.out.cells
  go_wp2_with (go_at_call 11; with_reducible refine (pcheck_at bad 23 _ (Lib.hid (HT.out.own g0)) HBD).mono ?_; rintro e w9 ⟨rfl, hg⟩; replace g0 : Own w w9 := g0.trans hg; replace HB := Lib.hid (HB.out.own hg); clear hg)
  go_ret
  exact ⟨rfl, g0⟩
end Go.Proofs.YtbmcompnhjbdkaaDoor.BuiW
