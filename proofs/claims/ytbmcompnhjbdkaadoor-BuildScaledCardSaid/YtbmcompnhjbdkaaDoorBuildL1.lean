/-
  Walks of the laws of package build: BuildCheck, BuildStep, BuildMass, BuildScaled. Condition: the table of bounds lies in memory (Tab).
-/
import Derived.Test.YtbmcompnhjbdkaaDoorBuildT
namespace Go.Proofs.YtbmcompnhjbdkaaDoor.BuiW
open Go.ChangeShapes Go.WideShapes Go.ChangeAt Go.RowKit
open PairW BuiP
theorem Bx.zero {w : World} {B : Nat} (h : Bx w B nul) : w.cell? ⟨B, 0, none⟩ = some (.int .i64 0) ∧ w.cell? ⟨B, 1, none⟩ = some (.int .i64 0) ∧ w.cell? ⟨B, 2, none⟩ = some (.int .i64 0) ∧ w.cell? ⟨B, 3, none⟩ = some (.int .i64 0) ∧ w.cell? ⟨B, 4, none⟩ = some (.int .i64 0) ∧ w.cell? ⟨B, 5, none⟩ = some (.int .i64 0) ∧ w.cell? ⟨B, 6, none⟩ = some (.int .i64 0) ∧ w.cell? ⟨B, 7, none⟩ = some (.int .i64 0) ∧ w.cell? ⟨B, 8, none⟩ = some (.int .i64 0) ∧ w.cell? ⟨B, 9, none⟩ = some (.int .i64 0) ∧ w.cell? ⟨B, 10, none⟩ = some (.int .i64 0) ∧ w.cell? ⟨B, 11, none⟩ = some (.int .i64 0) ∧ w.cell? ⟨B, 12, none⟩ = some (.int .i64 0) ∧ w.cell? ⟨B, 13, none⟩ = some (.int .i64 0) ∧ w.cell? ⟨B, 14, none⟩ = some (.int .i64 0) := h.cells
set_option maxRecDepth 100000 in
set_option maxHeartbeats 4000000 in
theorem BuildCheck_walk (b : Bl) (n : Int) (w : World) (HT : Hid (Tab w)) :
    Calls Tryd.prog 3 #[.agg #[.int .i64 (b 0), .int .i64 (b 1), .int .i64 (b 2), .int .i64 (b 3), .int .i64 (b 4), .int .i64 (b 5), .int .i64 (b 6), .int .i64 (b 7), .int .i64 (b 8), .int .i64 (b 9), .int .i64 (b 10), .int .i64 (b 11), .int .i64 (b 12), .int .i64 (b 13), .int .i64 (b 14)], .int .i64 n] w fun e w' => e = .returned (.bool true) ∧ Own w w' := by
  by_cases ho : Okb b
  · have HC := Lib.hid (chk_yes ho)
    clear ho
    go_enter Tryd.func3, Tryd.ntmps3
    go_upto_region 1 with (fail)
    obtain ⟨W0, B, hW, hBq, hb, g0, hB⟩ := bx_new w b
    rw [hW, hBq]
    have HB := Lib.hid hb
    clear hW hBq hb
    go_wp2_with (first | (refine wpList_load_row rfl 24 (.tmp 2) rfl B rfl 24 _ (0, 0) _ HB.out.raw Tryd.underlying24 rfl infoB ?_) | (go_at_call 10; with_reducible refine (rcheck_at b 0 _ HC).mono ?_; rintro e w2 ⟨rfl, hg⟩; replace g0 : Own w w2 := g0.trans hg; replace HB := Lib.hid (HB.out.own hg); clear hg) | (go_at_call 11; with_reducible refine (pcheck_at b 0 _ (Lib.hid (HT.out.own g0)) HC).mono ?_; rintro e w3 ⟨rfl, hg⟩; replace g0 : Own w w3 := g0.trans hg; replace HB := Lib.hid (HB.out.own hg); clear hg) | (go_at_call 12; with_reducible refine (awake_at _ (Lib.hid (HT.out.own g0))).mono ?_; rintro e w99 ⟨rfl, hg⟩; replace g0 : Own w w99 := g0.trans hg; clear hg))
    go_ret
    exact ⟨by first | rfl | (exact ret_bool (by simp)), g0⟩
  · have HC := Lib.hid (chk_no ho)
    have HS := Lib.hid (show stpX b n = 0 ∧ stpY b n = 0 ∧ stpE b n = 23 from ⟨(stp_bad ho).2.1, (stp_bad ho).2.2, by rw [(stp_bad ho).1, chk_no ho]⟩)
    have HM := Lib.hid (show masV b = 0 ∧ chk b = 23 from ⟨if_neg ho, chk_no ho⟩)
    have HZ := Lib.hid (show scV b n = nul ∧ scE b n = 23 from ⟨(sc_bad ho).2, by rw [(sc_bad ho).1, chk_no ho]⟩)
    clear ho
    go_enter Tryd.func3, Tryd.ntmps3
    go_upto_region 1 with (fail)
    obtain ⟨W0, B, hW, hBq, hb, g0, hB⟩ := bx_new w b
    rw [hW, hBq]
    have HB := Lib.hid hb
    clear hW hBq hb
    go_upto_region 7 with (first | (refine wpList_load_row rfl 24 (.tmp 2) rfl B rfl 24 _ (0, 0) _ HB.out.raw Tryd.underlying24 rfl infoB ?_) | (go_at_call 10; with_reducible refine (rcheck_at b 23 _ HC).mono ?_; rintro e w2 ⟨rfl, hg⟩; replace g0 : Own w w2 := g0.trans hg; replace HB := Lib.hid (HB.out.own hg); clear hg) | (go_at_call 11; with_reducible refine (pcheck_at b 23 _ (Lib.hid (HT.out.own g0)) HC).mono ?_; rintro e w3 ⟨rfl, hg⟩; replace g0 : Own w w3 := g0.trans hg; replace HB := Lib.hid (HB.out.own hg); clear hg) | (go_at_call 13; with_reducible refine (pstep_at b n 0 0 23 _ (Lib.hid (HT.out.own g0)) HS).mono ?_; rintro e w4 ⟨rfl, hg⟩; replace g0 : Own w w4 := g0.trans hg; replace HB := Lib.hid (HB.out.own hg); clear hg))
    obtain ⟨W4, P, hW, hBq, hb, hg⟩ := pt_made w4 (.int .i64 0) (.int .i64 0)
    rw [hW, hBq]
    have HP := Lib.hid hb
    replace g0 : Own w W4 := g0.trans hg
    replace HB := Lib.hid (HB.out.own hg)
    clear hW hBq hb hg
    go_upto_region 9 with (first | (refine wpList_load_row rfl 24 (.tmp 2) rfl B rfl 24 _ (0, 0) _ HB.out.raw Tryd.underlying24 rfl infoB ?_) | (go_at_call 14; with_reducible refine (pmass_at b 0 23 _ (Lib.hid (HT.out.own g0)) HM).mono ?_; rintro e w5 ⟨rfl, hg⟩; replace g0 : Own w w5 := g0.trans hg; replace HB := Lib.hid (HB.out.own hg); replace HP := Lib.hid (HP.out.own hg); clear hg) | (go_at_call 15; with_reducible refine (pscaled_at b nul n 23 _ (Lib.hid (HT.out.own g0)) HZ).mono ?_; rintro e w6 ⟨rfl, hg⟩; replace g0 : Own w w6 := g0.trans hg; replace HB := Lib.hid (HB.out.own hg); replace HP := Lib.hid (HP.out.own hg); clear hg) | (refine wpList_store_row rfl 24 (.tmp 10) (.tmp 36) rfl _ #[.int .i64 (nul 0), .int .i64 (nul 1), .int .i64 (nul 2), .int .i64 (nul 3), .int .i64 (nul 4), .int .i64 (nul 5), .int .i64 (nul 6), .int .i64 (nul 7), .int .i64 (nul 8), .int .i64 (nul 9), .int .i64 (nul 10), .int .i64 (nul 11), .int .i64 (nul 12), .int .i64 (nul 13), .int .i64 (nul 14)] rfl rfl 24 _ (heap_new _ _) infoB rfl (all_cs nul) ?_; rw [World.setRow_alloc_new]))
    obtain ⟨W6, C, hW, hBq, hb, hg, -⟩ := bx_new w6 nul
    rw [hW, hBq]
    have HF := Lib.hid hb
    replace g0 : Own w W6 := g0.trans hg
    replace HB := Lib.hid (HB.out.own hg)
    replace HP := Lib.hid (HP.out.own hg)
    clear hW hBq hb hg
    obtain ⟨p0, p1⟩ := HP.out.two
    obtain ⟨k0, k1, k2, k3, k4, k5, k6, k7, k8, k9, k10, k11, k12, k13, k14⟩ := HF.out.zero
    clear HB HP HF
    go_wp2_with (go_at_call 12; with_reducible refine (awake_at _ (Lib.hid (HT.out.own g0))).mono ?_; rintro e w99 ⟨rfl, hg⟩; replace g0 : Own w w99 := g0.trans hg; clear hg)
    go_ret
    exact ⟨by first | rfl | (exact ret_bool (by simp)), g0⟩
set_option maxRecDepth 100000 in
set_option maxHeartbeats 4000000 in
theorem BuildStep_walk (b : Bl) (k : Int) (w : World) (HT : Hid (Tab w)) :
    Calls Tryd.prog 4 #[.agg #[.int .i64 (b 0), .int .i64 (b 1), .int .i64 (b 2), .int .i64 (b 3), .int .i64 (b 4), .int .i64 (b 5), .int .i64 (b 6), .int .i64 (b 7), .int .i64 (b 8), .int .i64 (b 9), .int .i64 (b 10), .int .i64 (b 11), .int .i64 (b 12), .int .i64 (b 13), .int .i64 (b 14)], .int .i64 k] w fun e w' => e = .returned (.bool true) ∧ Own w w' := by
  obtain ⟨x, hx⟩ : ∃ x, stpX b k = x := ⟨_, rfl⟩
  obtain ⟨y, hy⟩ : ∃ y, stpY b k = y := ⟨_, rfl⟩
  obtain ⟨c, hc⟩ : ∃ c, stpE b k = c := ⟨_, rfl⟩
  have HS := Lib.hid (And.intro hx (And.intro hy hc))
  clear hx hy hc
  go_enter Tryd.func4, Tryd.ntmps4
  go_upto_region 1 with (fail)
  obtain ⟨W0, B, hW, hBq, hb, g0, hB⟩ := bx_new w b
  rw [hW, hBq]
  have HB := Lib.hid hb
  clear hW hBq hb
  go_upto_region 2 with (first | (refine wpList_load_row rfl 24 (.tmp 2) rfl B rfl 24 _ (0, 0) _ HB.out.raw Tryd.underlying24 rfl infoB ?_) | (go_at_call 13; with_reducible refine (pstep_at b k x y c _ (Lib.hid (HT.out.own g0)) HS).mono ?_; rintro e w4 ⟨rfl, hg⟩; replace g0 : Own w w4 := g0.trans hg; replace HB := Lib.hid (HB.out.own hg); clear hg))
  obtain ⟨W4, P, hW, hBq, hb, hg⟩ := pt_made w4 (.int .i64 x) (.int .i64 y)
  rw [hW, hBq]
  have HP := Lib.hid hb
  replace g0 : Own w W4 := g0.trans hg
  replace HB := Lib.hid (HB.out.own hg)
  clear hW hBq hb hg
  go_upto_region 3 with (first | (refine wpList_load_row rfl 24 (.tmp 2) rfl B rfl 24 _ (0, 0) _ HB.out.raw Tryd.underlying24 rfl infoB ?_) | (go_at_call 16; with_reducible refine (rstep_at b k x y c _ HS).mono ?_; rintro e w5 ⟨rfl, hg⟩; replace g0 : Own w w5 := g0.trans hg; replace HB := Lib.hid (HB.out.own hg); replace HP := Lib.hid (HP.out.own hg); clear hg))
  obtain ⟨W5, Q, hW, hBq, hb, hg⟩ := pt_made w5 (.int .i64 x) (.int .i64 y)
  rw [hW, hBq]
  have HQ := Lib.hid hb
  replace g0 : Own w W5 := g0.trans hg
  replace HP := Lib.hid (HP.out.own hg)
  clear hW hBq hb hg
  obtain ⟨p0, p1⟩ := HP.out.two
  obtain ⟨q0, q1⟩ := HQ.out.two
  clear HB HP HQ HS
  go_wp2_with (go_at_call 12; with_reducible refine (awake_at _ (Lib.hid (HT.out.own g0))).mono ?_; rintro e w99 ⟨rfl, hg⟩; replace g0 : Own w w99 := g0.trans hg; clear hg)
  go_ret
  exact ⟨by first | rfl | (exact ret_bool (by simp)), g0⟩
set_option maxRecDepth 100000 in
set_option maxHeartbeats 4000000 in
theorem BuildMass_walk (b : Bl) (w : World) (HT : Hid (Tab w)) :
    Calls Tryd.prog 5 #[.agg #[.int .i64 (b 0), .int .i64 (b 1), .int .i64 (b 2), .int .i64 (b 3), .int .i64 (b 4), .int .i64 (b 5), .int .i64 (b 6), .int .i64 (b 7), .int .i64 (b 8), .int .i64 (b 9), .int .i64 (b 10), .int .i64 (b 11), .int .i64 (b 12), .int .i64 (b 13), .int .i64 (b 14)]] w fun e w' => e = .returned (.bool true) ∧ Own w w' := by
  obtain ⟨v, hv⟩ : ∃ x, masV b = x := ⟨_, rfl⟩
  obtain ⟨c, hc⟩ : ∃ c, chk b = c := ⟨_, rfl⟩
  have HM := Lib.hid (And.intro hv hc)
  clear hv hc
  go_enter Tryd.func5, Tryd.ntmps5
  go_upto_region 1 with (fail)
  obtain ⟨W0, B, hW, hBq, hb, g0, hB⟩ := bx_new w b
  rw [hW, hBq]
  have HB := Lib.hid hb
  clear hW hBq hb
  go_wp2_with (first | (refine wpList_load_row rfl 24 (.tmp 1) rfl B rfl 24 _ (0, 0) _ HB.out.raw Tryd.underlying24 rfl infoB ?_) | (go_at_call 14; with_reducible refine (pmass_at b v c _ (Lib.hid (HT.out.own g0)) HM).mono ?_; rintro e w4 ⟨rfl, hg⟩; replace g0 : Own w w4 := g0.trans hg; replace HB := Lib.hid (HB.out.own hg); clear hg) | (go_at_call 17; with_reducible refine (rmass_at b v c _ HM).mono ?_; rintro e w5 ⟨rfl, hg⟩; replace g0 : Own w w5 := g0.trans hg; replace HB := Lib.hid (HB.out.own hg); clear hg) | (go_at_call 12; with_reducible refine (awake_at _ (Lib.hid (HT.out.own g0))).mono ?_; rintro e w99 ⟨rfl, hg⟩; replace g0 : Own w w99 := g0.trans hg; clear hg))
  go_ret
  exact ⟨by first | rfl | (exact ret_bool (by simp)), g0⟩
set_option maxRecDepth 100000 in
set_option maxHeartbeats 4000000 in
theorem BuildScaled_walk (b : Bl) (p : Int) (w : World) (HT : Hid (Tab w)) :
    Calls Tryd.prog 6 #[.agg #[.int .i64 (b 0), .int .i64 (b 1), .int .i64 (b 2), .int .i64 (b 3), .int .i64 (b 4), .int .i64 (b 5), .int .i64 (b 6), .int .i64 (b 7), .int .i64 (b 8), .int .i64 (b 9), .int .i64 (b 10), .int .i64 (b 11), .int .i64 (b 12), .int .i64 (b 13), .int .i64 (b 14)], .int .i64 p] w fun e w' => e = .returned (.bool true) ∧ Own w w' := by
  obtain ⟨s, hs⟩ : ∃ x : Bl, scV b p = x := ⟨_, rfl⟩
  obtain ⟨c, hc⟩ : ∃ c, scE b p = c := ⟨_, rfl⟩
  have HS := Lib.hid (And.intro hs hc)
  clear hs hc
  go_enter Tryd.func6, Tryd.ntmps6
  go_upto_region 1 with (fail)
  obtain ⟨W0, B, hW, hBq, hb, g0, hB⟩ := bx_new w b
  rw [hW, hBq]
  have HB := Lib.hid hb
  clear hW hBq hb
  go_upto_region 2 with (first | (refine wpList_load_row rfl 24 (.tmp 2) rfl B rfl 24 _ (0, 0) _ HB.out.raw Tryd.underlying24 rfl infoB ?_) | (go_at_call 15; with_reducible refine (pscaled_at b s p c _ (Lib.hid (HT.out.own g0)) HS).mono ?_; rintro e w4 ⟨rfl, hg⟩; replace g0 : Own w w4 := g0.trans hg; replace HB := Lib.hid (HB.out.own hg); clear hg) | (refine wpList_store_row rfl 24 (.tmp 5) (.tmp 13) rfl _ #[.int .i64 (s 0), .int .i64 (s 1), .int .i64 (s 2), .int .i64 (s 3), .int .i64 (s 4), .int .i64 (s 5), .int .i64 (s 6), .int .i64 (s 7), .int .i64 (s 8), .int .i64 (s 9), .int .i64 (s 10), .int .i64 (s 11), .int .i64 (s 12), .int .i64 (s 13), .int .i64 (s 14)] rfl rfl 24 _ (heap_new _ _) infoB rfl (all_cs s) ?_; rw [World.setRow_alloc_new]))
  obtain ⟨W4, C, hW, hBq, hb, hg, -⟩ := bx_new w4 s
  rw [hW, hBq]
  have HP := Lib.hid hb
  replace g0 : Own w W4 := g0.trans hg
  replace HB := Lib.hid (HB.out.own hg)
  clear hW hBq hb hg
  go_upto_region 3 with (first | (refine wpList_load_row rfl 24 (.tmp 2) rfl B rfl 24 _ (0, 0) _ HB.out.raw Tryd.underlying24 rfl infoB ?_) | (go_at_call 18; with_reducible refine (rscale_at b s p c _ HS).mono ?_; rintro e w5 ⟨rfl, hg⟩; replace g0 : Own w w5 := g0.trans hg; replace HB := Lib.hid (HB.out.own hg); replace HP := Lib.hid (HP.out.own hg); clear hg) | (refine wpList_store_row rfl 24 (.tmp 7) (.tmp 19) rfl _ #[.int .i64 (s 0), .int .i64 (s 1), .int .i64 (s 2), .int .i64 (s 3), .int .i64 (s 4), .int .i64 (s 5), .int .i64 (s 6), .int .i64 (s 7), .int .i64 (s 8), .int .i64 (s 9), .int .i64 (s 10), .int .i64 (s 11), .int .i64 (s 12), .int .i64 (s 13), .int .i64 (s 14)] rfl rfl 24 _ (heap_new _ _) infoB rfl (all_cs s) ?_; rw [World.setRow_alloc_new]))
  obtain ⟨W5, D, hW, hBq, hb, hg, -⟩ := bx_new w5 s
  rw [hW, hBq]
  have HQ := Lib.hid hb
  replace g0 : Own w W5 := g0.trans hg
  replace HP := Lib.hid (HP.out.own hg)
  clear hW hBq hb hg
  clear HB HS
  go_wp2_with (first | (refine wpList_load_row rfl 24 (.tmp 5) rfl C rfl 24 _ (0, 0) _ HP.out.raw Tryd.underlying24 rfl infoB ?_) | (refine wpList_load_row rfl 24 (.tmp 7) rfl D rfl 24 _ (0, 0) _ HQ.out.raw Tryd.underlying24 rfl infoB ?_) | (go_at_call 12; with_reducible refine (awake_at _ (Lib.hid (HT.out.own g0))).mono ?_; rintro e w99 ⟨rfl, hg⟩; replace g0 : Own w w99 := g0.trans hg; clear hg))
  go_ret
  exact ⟨by first | rfl | (exact ret_bool (by simp)), g0⟩
end Go.Proofs.YtbmcompnhjbdkaaDoor.BuiW
