/-
  Walks of the laws of package posture: PostureBack, PostureMoves. Condition: the target straight down and the table of sines lie in memory (Dn, Tab).
-/
import Derived.Test.YtneobaininejaaaDoorPostureT
namespace Go.Proofs.YtneobaininejaaaDoor.PstL
open Go.ChangeShapes Go.WideShapes Go.ChangeAt Go.RowKit
open PstW PstQ PairW AimP AimW BlkW PrtW PstP
set_option maxRecDepth 100000 in
set_option maxHeartbeats 40000000 in
theorem PostureBack_walk (s : Vl) (n : Int) (w : World) (HD : Hid (Dn w)) (HT : Hid (AngW.Tab w)) :
    Calls Tryd.prog 7 #[.agg (cz 23 s), .int .i64 n] w fun r w' => r = .returned (.bool true) ∧ Own w w' := by
  by_cases h : stE s = 0
  · obtain ⟨p, hp⟩ : ∃ x, poV s = x := ⟨_, rfl⟩
    obtain ⟨m, hm⟩ : ∃ x, miV s = x := ⟨_, rfl⟩
    obtain ⟨r, hr⟩ : ∃ x, roV s n = x := ⟨_, rfl⟩
    obtain ⟨t, ht⟩ : ∃ x, n.tmod 4 = x := ⟨_, rfl⟩
    have em := Int.mul_tdiv_add_tmod n 4
    have el := Int.tmod_lt_of_pos n (show (0 : Int) < 4 by decide)
    have ew := Int.lt_tmod_of_pos n (show (0 : Int) < 4 by decide)
    have HPO := Lib.hid (show cz 22 (poV s) = cz 22 p ∧ stE s = 0 from ⟨by rw [hp], h⟩)
    have HCK := Lib.hid h
    have HVA := Lib.hid (show vaE p = 0 by rw [← hp]; exact va_po h)
    have HNT := Lib.hid (show cz 23 (ntV p (s 4)) = cz 23 s ∧ ntE p (s 4) = 0 by rw [← hp]; exact ⟨cz_congr (nt_po h).2, (nt_po h).1⟩)
    have HMI := Lib.hid (show cz 23 (miV s) = cz 23 m ∧ stE s = 0 from ⟨by rw [hm], h⟩)
    have HMC := Lib.hid (show stE m = 0 by rw [← hm]; exact mi_ok h)
    have HRO := Lib.hid (show cz 23 (roV s n) = cz 23 r ∧ stE s = 0 from ⟨by rw [hr], h⟩)
    have HRC := Lib.hid (show stE r = 0 by rw [← hr]; exact ro_ok h n)
    have HMM := Lib.hid (show cz 23 (miV m) = cz 23 s ∧ stE m = 0 from ⟨by rw [← hm]; exact cz_congr (mi_mi h), HMC.out⟩)
    have HRR := Lib.hid (show cz 23 (roV r (-t)) = cz 23 s ∧ stE r = 0 from ⟨by rw [← hr]; exact cz_congr (ro_back h n (-t) (by omega)), HRC.out⟩)
    have HTT := Lib.hid ht
    rw [ht] at el ew
    clear hp hm hr ht em h
    go_enter Tryd.func7, Tryd.ntmps7
    go_upto_region 1 with (fail)
    obtain ⟨W0, B, hW, hBq, hb, g0, -⟩ := blk_new w (cz 23 s) 28
    rw [hW, hBq]
    have HB := Lib.hid hb
    clear hW hBq hb
    go_upto_region 2 with (first | ((with_reducible show wpList _ _ _ (⟨_, .load 28 (.tmp 2), _, _, _, none⟩ :: _) _ _); refine wpList_load_row rfl 28 (.tmp 2) rfl B rfl 28 _ (0, 0) _ HB.out.raw Tryd.underlying28 rfl infoS ?_) | (go_at_call 11; with_reducible refine (qpose_at s p 0 _ (Lib.hid (HD.out.own g0)) HPO).mono ?_; rintro r w1 ⟨rfl, hg⟩; replace g0 := g0.trans hg; replace HB := Lib.hid (HB.out.own hg); clear hg) | ((with_reducible show wpList _ _ _ (⟨_, .store 33 (.tmp 5) (.tmp 16), _, _, _, none⟩ :: _) _ _); refine wpList_store_row rfl 33 (.tmp 5) (.tmp 16) rfl _ (cz 22 (p)) rfl rfl 33 _ (heap_new _ _) infoP rfl (cz_one _ _) ?_; rw [World.setRow_alloc_new]))
    obtain ⟨w2, B5, hW, hBq, hb, hg, B5g⟩ := blk_new w1 (cz 22 p) 33
    rw [hW, hBq]
    have H5 := Lib.hid hb
    replace g0 := g0.trans hg
    replace HB := Lib.hid (HB.out.own hg)
    clear hW hBq hb hg
    clear B5g
    go_upto_region 6 with (first | ((with_reducible show wpList _ _ _ (⟨_, .load 28 (.tmp 2), _, _, _, none⟩ :: _) _ _); refine wpList_load_row rfl 28 (.tmp 2) rfl B rfl 28 _ (0, 0) _ HB.out.raw Tryd.underlying28 rfl infoS ?_) | ((with_reducible show wpList _ _ _ (⟨_, .load 28 (.tmp 2), _, _, _, some _⟩ :: _) _ _); refine wpList_load_row_g rfl 28 (.tmp 2) rfl B rfl 28 _ (0, 0) _ HB.out.raw Tryd.underlying28 rfl infoS ?_) | ((with_reducible show wpList _ _ _ (⟨_, .load 33 (.tmp 5), _, _, _, none⟩ :: _) _ _); refine wpList_load_row rfl 33 (.tmp 5) rfl B5 rfl 33 _ (0, 0) _ H5.out.raw Tryd.underlying33 rfl infoP ?_) | ((with_reducible show wpList _ _ _ (⟨_, .load 33 (.tmp 5), _, _, _, some _⟩ :: _) _ _); refine wpList_load_row_g rfl 33 (.tmp 5) rfl B5 rfl 33 _ (0, 0) _ H5.out.raw Tryd.underlying33 rfl infoP ?_) | (go_at_call 13; with_reducible refine (pcheck_at s 0 _ (Lib.hid (HD.out.own g0)) HCK).mono ?_; rintro r w6s ⟨rfl, hg⟩; replace g0 := g0.trans hg; replace HB := Lib.hid (HB.out.own hg); replace H5 := Lib.hid (H5.out.own hg); clear hg) | (go_at_call 18; with_reducible refine (qvalid_at p 0 _ HVA).mono ?_; rintro r w7 ⟨rfl, hg⟩; replace g0 := g0.trans hg; replace HB := Lib.hid (HB.out.own hg); replace H5 := Lib.hid (H5.out.own hg); clear hg))
    have k4 : w7.cell? ⟨B, 4, none⟩ = some (.int .i64 (s 4)) := blk_num HB.out (by omega)
    go_upto_region 7 with (first | ((with_reducible show wpList _ _ _ (⟨_, .load 33 (.tmp 5), _, _, _, none⟩ :: _) _ _); refine wpList_load_row rfl 33 (.tmp 5) rfl B5 rfl 33 _ (0, 0) _ H5.out.raw Tryd.underlying33 rfl infoP ?_) | (go_at_call 16; with_reducible refine (qnot_at p s (s 4) 0 _ (Lib.hid (HD.out.own g0)) HNT).mono ?_; rintro r w3 ⟨rfl, hg⟩; replace g0 := g0.trans hg; replace HB := Lib.hid (HB.out.own hg); replace H5 := Lib.hid (H5.out.own hg); clear hg) | ((with_reducible show wpList _ _ _ (⟨_, .store 28 (.tmp 7) (.tmp 45), _, _, _, none⟩ :: _) _ _); refine wpList_store_row rfl 28 (.tmp 7) (.tmp 45) rfl _ (cz 23 (s)) rfl rfl 28 _ (heap_new _ _) infoS rfl (cz_one _ _) ?_; rw [World.setRow_alloc_new]))
    obtain ⟨w4, B7, hW, hBq, hb, hg, B7g⟩ := blk_new w3 (cz 23 s) 28
    rw [hW, hBq]
    have H7 := Lib.hid hb
    replace g0 := g0.trans hg
    replace HB := Lib.hid (HB.out.own hg)
    replace H5 := Lib.hid (H5.out.own hg)
    clear hW hBq hb hg
    clear B7g
    go_upto_region 9 with (first | ((with_reducible show wpList _ _ _ (⟨_, .load 28 (.tmp 7), _, _, _, none⟩ :: _) _ _); refine wpList_load_row rfl 28 (.tmp 7) rfl B7 rfl 28 _ (0, 0) _ H7.out.raw Tryd.underlying28 rfl infoS ?_) | ((with_reducible show wpList _ _ _ (⟨_, .load 28 (.tmp 7), _, _, _, some _⟩ :: _) _ _); refine wpList_load_row_g rfl 28 (.tmp 7) rfl B7 rfl 28 _ (0, 0) _ H7.out.raw Tryd.underlying28 rfl infoS ?_) | ((with_reducible show wpList _ _ _ (⟨_, .load 28 (.tmp 2), _, _, _, none⟩ :: _) _ _); refine wpList_load_row rfl 28 (.tmp 2) rfl B rfl 28 _ (0, 0) _ HB.out.raw Tryd.underlying28 rfl infoS ?_) | ((with_reducible show wpList _ _ _ (⟨_, .load 28 (.tmp 2), _, _, _, some _⟩ :: _) _ _); refine wpList_load_row_g rfl 28 (.tmp 2) rfl B rfl 28 _ (0, 0) _ HB.out.raw Tryd.underlying28 rfl infoS ?_))
    go_upto_region 10 with (first | ((with_reducible show wpList _ _ _ (⟨_, .load 28 (.tmp 2), _, _, _, none⟩ :: _) _ _); refine wpList_load_row rfl 28 (.tmp 2) rfl B rfl 28 _ (0, 0) _ HB.out.raw Tryd.underlying28 rfl infoS ?_) | (go_at_call 20; with_reducible refine (qmirror_at s m 0 _ (Lib.hid (HD.out.own g0)) HMI).mono ?_; rintro r w5 ⟨rfl, hg⟩; replace g0 := g0.trans hg; replace HB := Lib.hid (HB.out.own hg); replace H5 := Lib.hid (H5.out.own hg); replace H7 := Lib.hid (H7.out.own hg); clear hg) | ((with_reducible show wpList _ _ _ (⟨_, .store 28 (.tmp 8) (.tmp 57), _, _, _, none⟩ :: _) _ _); refine wpList_store_row rfl 28 (.tmp 8) (.tmp 57) rfl _ (cz 23 (m)) rfl rfl 28 _ (heap_new _ _) infoS rfl (cz_one _ _) ?_; rw [World.setRow_alloc_new]))
    obtain ⟨w6, B8, hW, hBq, hb, hg, B8g⟩ := blk_new w5 (cz 23 m) 28
    rw [hW, hBq]
    have H8 := Lib.hid hb
    replace g0 := g0.trans hg
    replace HB := Lib.hid (HB.out.own hg)
    replace H5 := Lib.hid (H5.out.own hg)
    replace H7 := Lib.hid (H7.out.own hg)
    clear hW hBq hb hg
    clear B8g
    go_upto_region 11 with (first | ((with_reducible show wpList _ _ _ (⟨_, .load 28 (.tmp 2), _, _, _, none⟩ :: _) _ _); refine wpList_load_row rfl 28 (.tmp 2) rfl B rfl 28 _ (0, 0) _ HB.out.raw Tryd.underlying28 rfl infoS ?_) | (go_at_call 24; with_reducible refine (qrotate_at s r n 0 _ (Lib.hid (HD.out.own g0)) (Lib.hid (AimW.tab_own HT.out g0)) HRO).mono ?_; rintro r w7 ⟨rfl, hg⟩; replace g0 := g0.trans hg; replace HB := Lib.hid (HB.out.own hg); replace H5 := Lib.hid (H5.out.own hg); replace H7 := Lib.hid (H7.out.own hg); replace H8 := Lib.hid (H8.out.own hg); clear hg) | ((with_reducible show wpList _ _ _ (⟨_, .store 28 (.tmp 9) (.tmp 63), _, _, _, none⟩ :: _) _ _); refine wpList_store_row rfl 28 (.tmp 9) (.tmp 63) rfl _ (cz 23 (r)) rfl rfl 28 _ (heap_new _ _) infoS rfl (cz_one _ _) ?_; rw [World.setRow_alloc_new]))
    obtain ⟨w8, B9, hW, hBq, hb, hg, B9g⟩ := blk_new w7 (cz 23 r) 28
    rw [hW, hBq]
    have H9 := Lib.hid hb
    replace g0 := g0.trans hg
    replace HB := Lib.hid (HB.out.own hg)
    replace H5 := Lib.hid (H5.out.own hg)
    replace H7 := Lib.hid (H7.out.own hg)
    replace H8 := Lib.hid (H8.out.own hg)
    clear hW hBq hb hg
    clear B9g
    go_upto_region 13 with (first | ((with_reducible show wpList _ _ _ (⟨_, .load 28 (.tmp 8), _, _, _, none⟩ :: _) _ _); refine wpList_load_row rfl 28 (.tmp 8) rfl B8 rfl 28 _ (0, 0) _ H8.out.raw Tryd.underlying28 rfl infoS ?_) | ((with_reducible show wpList _ _ _ (⟨_, .load 28 (.tmp 8), _, _, _, some _⟩ :: _) _ _); refine wpList_load_row_g rfl 28 (.tmp 8) rfl B8 rfl 28 _ (0, 0) _ H8.out.raw Tryd.underlying28 rfl infoS ?_) | ((with_reducible show wpList _ _ _ (⟨_, .load 28 (.tmp 9), _, _, _, none⟩ :: _) _ _); refine wpList_load_row rfl 28 (.tmp 9) rfl B9 rfl 28 _ (0, 0) _ H9.out.raw Tryd.underlying28 rfl infoS ?_) | ((with_reducible show wpList _ _ _ (⟨_, .load 28 (.tmp 9), _, _, _, some _⟩ :: _) _ _); refine wpList_load_row_g rfl 28 (.tmp 9) rfl B9 rfl 28 _ (0, 0) _ H9.out.raw Tryd.underlying28 rfl infoS ?_) | (go_at_call 13; with_reducible refine (pcheck_at m 0 _ (Lib.hid (HD.out.own g0)) HMC).mono ?_; rintro r w6m ⟨rfl, hg⟩; replace g0 := g0.trans hg; replace HB := Lib.hid (HB.out.own hg); replace H5 := Lib.hid (H5.out.own hg); replace H7 := Lib.hid (H7.out.own hg); replace H8 := Lib.hid (H8.out.own hg); replace H9 := Lib.hid (H9.out.own hg); clear hg) | (go_at_call 13; with_reducible refine (pcheck_at r 0 _ (Lib.hid (HD.out.own g0)) HRC).mono ?_; rintro r w6r ⟨rfl, hg⟩; replace g0 := g0.trans hg; replace HB := Lib.hid (HB.out.own hg); replace H5 := Lib.hid (H5.out.own hg); replace H7 := Lib.hid (H7.out.own hg); replace H8 := Lib.hid (H8.out.own hg); replace H9 := Lib.hid (H9.out.own hg); clear hg))
    go_upto_region 14 with (first | ((with_reducible show wpList _ _ _ (⟨_, .load 28 (.tmp 8), _, _, _, none⟩ :: _) _ _); refine wpList_load_row rfl 28 (.tmp 8) rfl B8 rfl 28 _ (0, 0) _ H8.out.raw Tryd.underlying28 rfl infoS ?_) | (go_at_call 20; with_reducible refine (qmirror_at m s 0 _ (Lib.hid (HD.out.own g0)) HMM).mono ?_; rintro r w9 ⟨rfl, hg⟩; replace g0 := g0.trans hg; replace HB := Lib.hid (HB.out.own hg); replace H5 := Lib.hid (H5.out.own hg); replace H7 := Lib.hid (H7.out.own hg); replace H8 := Lib.hid (H8.out.own hg); replace H9 := Lib.hid (H9.out.own hg); clear hg) | ((with_reducible show wpList _ _ _ (⟨_, .store 28 (.tmp 11) (.tmp 84), _, _, _, none⟩ :: _) _ _); refine wpList_store_row rfl 28 (.tmp 11) (.tmp 84) rfl _ (cz 23 (s)) rfl rfl 28 _ (heap_new _ _) infoS rfl (cz_one _ _) ?_; rw [World.setRow_alloc_new]))
    obtain ⟨w10, B11, hW, hBq, hb, hg, B11g⟩ := blk_new w9 (cz 23 s) 28
    rw [hW, hBq]
    have H11 := Lib.hid hb
    replace g0 := g0.trans hg
    replace HB := Lib.hid (HB.out.own hg)
    replace H5 := Lib.hid (H5.out.own hg)
    replace H7 := Lib.hid (H7.out.own hg)
    replace H8 := Lib.hid (H8.out.own hg)
    replace H9 := Lib.hid (H9.out.own hg)
    clear hW hBq hb hg
    clear B11g
    have et := HTT.out
    go_upto_region 15 with (first | ((with_reducible show wpList _ _ _ (⟨_, .load 28 (.tmp 9), _, _, _, none⟩ :: _) _ _); refine wpList_load_row rfl 28 (.tmp 9) rfl B9 rfl 28 _ (0, 0) _ H9.out.raw Tryd.underlying28 rfl infoS ?_) | (go_at_call 24; with_reducible refine (qrotate_at r s (-t) 0 _ (Lib.hid (HD.out.own g0)) (Lib.hid (AimW.tab_own HT.out g0)) HRR).mono ?_; rintro r w11 ⟨rfl, hg⟩; replace g0 := g0.trans hg; replace HB := Lib.hid (HB.out.own hg); replace H5 := Lib.hid (H5.out.own hg); replace H7 := Lib.hid (H7.out.own hg); replace H8 := Lib.hid (H8.out.own hg); replace H9 := Lib.hid (H9.out.own hg); replace H11 := Lib.hid (H11.out.own hg); clear hg) | ((with_reducible show wpList _ _ _ (⟨_, .store 28 (.tmp 12) (.tmp 92), _, _, _, none⟩ :: _) _ _); refine wpList_store_row rfl 28 (.tmp 12) (.tmp 92) rfl _ (cz 23 (s)) rfl rfl 28 _ (heap_new _ _) infoS rfl (cz_one _ _) ?_; rw [World.setRow_alloc_new]))
    obtain ⟨w12, B12, hW, hBq, hb, hg, B12g⟩ := blk_new w11 (cz 23 s) 28
    rw [hW, hBq]
    have H12 := Lib.hid hb
    replace g0 := g0.trans hg
    replace HB := Lib.hid (HB.out.own hg)
    replace H5 := Lib.hid (H5.out.own hg)
    replace H7 := Lib.hid (H7.out.own hg)
    replace H8 := Lib.hid (H8.out.own hg)
    replace H9 := Lib.hid (H9.out.own hg)
    replace H11 := Lib.hid (H11.out.own hg)
    clear hW hBq hb hg
    clear B12g
    clear et
    go_wp2_with (first | ((with_reducible show wpList _ _ _ (⟨_, .load 28 (.tmp 11), _, _, _, none⟩ :: _) _ _); refine wpList_load_row rfl 28 (.tmp 11) rfl B11 rfl 28 _ (0, 0) _ H11.out.raw Tryd.underlying28 rfl infoS ?_) | ((with_reducible show wpList _ _ _ (⟨_, .load 28 (.tmp 11), _, _, _, some _⟩ :: _) _ _); refine wpList_load_row_g rfl 28 (.tmp 11) rfl B11 rfl 28 _ (0, 0) _ H11.out.raw Tryd.underlying28 rfl infoS ?_) | ((with_reducible show wpList _ _ _ (⟨_, .load 28 (.tmp 2), _, _, _, none⟩ :: _) _ _); refine wpList_load_row rfl 28 (.tmp 2) rfl B rfl 28 _ (0, 0) _ HB.out.raw Tryd.underlying28 rfl infoS ?_) | ((with_reducible show wpList _ _ _ (⟨_, .load 28 (.tmp 2), _, _, _, some _⟩ :: _) _ _); refine wpList_load_row_g rfl 28 (.tmp 2) rfl B rfl 28 _ (0, 0) _ HB.out.raw Tryd.underlying28 rfl infoS ?_) | ((with_reducible show wpList _ _ _ (⟨_, .load 28 (.tmp 12), _, _, _, none⟩ :: _) _ _); refine wpList_load_row rfl 28 (.tmp 12) rfl B12 rfl 28 _ (0, 0) _ H12.out.raw Tryd.underlying28 rfl infoS ?_) | ((with_reducible show wpList _ _ _ (⟨_, .load 28 (.tmp 12), _, _, _, some _⟩ :: _) _ _); refine wpList_load_row_g rfl 28 (.tmp 12) rfl B12 rfl 28 _ (0, 0) _ H12.out.raw Tryd.underlying28 rfl infoS ?_) | (go_at_call 15; with_reducible refine (awake_at _ (Lib.hid (HD.out.own g0)) (Lib.hid (AimW.tab_own HT.out g0))).mono ?_; rintro r w99 ⟨rfl, hg⟩; replace g0 := g0.trans hg; clear hg))
    go_ret
    exact ⟨by first | rfl | (exact ret_bool (by simp)), g0⟩
  · obtain ⟨c, hc⟩ : ∃ c, stE s = c := ⟨_, rfl⟩
    have HPO := Lib.hid (show cz 22 (poV s) = cz 22 nul ∧ stE s = c from ⟨by rw [poV_no h], hc⟩)
    rw [hc] at h
    have kc : (c != 0) = true := bne_iff_ne.2 h
    have HC := Lib.hid hc
    clear h hc
    go_enter Tryd.func7, Tryd.ntmps7
    go_upto_region 1 with (fail)
    obtain ⟨W0, B, hW, hBq, hb, g0, -⟩ := blk_new w (cz 23 s) 28
    rw [hW, hBq]
    have HB := Lib.hid hb
    clear hW hBq hb
    go_upto_region 2 with (first | ((with_reducible show wpList _ _ _ (⟨_, .load 28 (.tmp 2), _, _, _, none⟩ :: _) _ _); refine wpList_load_row rfl 28 (.tmp 2) rfl B rfl 28 _ (0, 0) _ HB.out.raw Tryd.underlying28 rfl infoS ?_) | (go_at_call 11; with_reducible refine (qpose_at s nul c _ (Lib.hid (HD.out.own g0)) HPO).mono ?_; rintro r w1 ⟨rfl, hg⟩; replace g0 := g0.trans hg; replace HB := Lib.hid (HB.out.own hg); clear hg) | ((with_reducible show wpList _ _ _ (⟨_, .store 33 (.tmp 5) (.tmp 16), _, _, _, none⟩ :: _) _ _); refine wpList_store_row rfl 33 (.tmp 5) (.tmp 16) rfl _ (cz 22 (nul)) rfl rfl 33 _ (heap_new _ _) infoP rfl (cz_one _ _) ?_; rw [World.setRow_alloc_new]))
    obtain ⟨w2, B5, hW, hBq, hb, hg, B5g⟩ := blk_new w1 (cz 22 nul) 33
    rw [hW, hBq]
    have H5 := Lib.hid hb
    replace g0 := g0.trans hg
    replace HB := Lib.hid (HB.out.own hg)
    clear hW hBq hb hg
    clear B5g
    go_wp2_with (first | ((with_reducible show wpList _ _ _ (⟨_, .load 33 (.tmp 5), _, _, _, none⟩ :: _) _ _); refine wpList_load_row rfl 33 (.tmp 5) rfl B5 rfl 33 _ (0, 0) _ H5.out.raw Tryd.underlying33 rfl infoP ?_) | ((with_reducible show wpList _ _ _ (⟨_, .load 33 (.tmp 5), _, _, _, some _⟩ :: _) _ _); refine wpList_load_row_g rfl 33 (.tmp 5) rfl B5 rfl 33 _ (0, 0) _ H5.out.raw Tryd.underlying33 rfl infoP ?_) | ((with_reducible show wpList _ _ _ (⟨_, .load 28 (.tmp 2), _, _, _, none⟩ :: _) _ _); refine wpList_load_row rfl 28 (.tmp 2) rfl B rfl 28 _ (0, 0) _ HB.out.raw Tryd.underlying28 rfl infoS ?_) | ((with_reducible show wpList _ _ _ (⟨_, .load 28 (.tmp 2), _, _, _, some _⟩ :: _) _ _); refine wpList_load_row_g rfl 28 (.tmp 2) rfl B rfl 28 _ (0, 0) _ HB.out.raw Tryd.underlying28 rfl infoS ?_) | (go_at_call 13; with_reducible refine (pcheck_at s c _ (Lib.hid (HD.out.own g0)) HC).mono ?_; rintro r w7 ⟨rfl, hg⟩; replace g0 := g0.trans hg; replace HB := Lib.hid (HB.out.own hg); replace H5 := Lib.hid (H5.out.own hg); clear hg) | (go_at_call 15; with_reducible refine (awake_at _ (Lib.hid (HD.out.own g0)) (Lib.hid (AimW.tab_own HT.out g0))).mono ?_; rintro r w99 ⟨rfl, hg⟩; replace g0 := g0.trans hg; clear hg))
    go_ret
    exact ⟨by first | rfl | (exact ret_bool (by simp)), g0⟩
set_option maxRecDepth 100000 in
set_option maxHeartbeats 40000000 in
theorem PostureMoves_walk (s : Vl) (n : Int) (w : World) (HD : Hid (Dn w)) (HT : Hid (AngW.Tab w)) :
    Calls Tryd.prog 8 #[.agg (cz 23 s), .int .i64 n] w fun r w' => r = .returned (.bool true) ∧ Own w w' := by
  by_cases h : stE s = 0
  · obtain ⟨p, hp⟩ : ∃ x, poV s = x := ⟨_, rfl⟩
    obtain ⟨m, hm⟩ : ∃ x, miV s = x := ⟨_, rfl⟩
    obtain ⟨r, hr⟩ : ∃ x, roV s n = x := ⟨_, rfl⟩
    obtain ⟨a, ha⟩ : ∃ x, poV m = x := ⟨_, rfl⟩
    obtain ⟨c, hc⟩ : ∃ x, poV r = x := ⟨_, rfl⟩
    have HPO := Lib.hid (show cz 22 (poV s) = cz 22 p ∧ stE s = 0 from ⟨by rw [hp], h⟩)
    have HMI := Lib.hid (show cz 23 (miV s) = cz 23 m ∧ stE s = 0 from ⟨by rw [hm], h⟩)
    have HPM := Lib.hid (show cz 22 (poV m) = cz 22 a ∧ stE m = 0 from ⟨by rw [ha], by rw [← hm]; exact mi_ok h⟩)
    have HVA := Lib.hid (show vaE p = 0 by rw [← hp]; exact va_po h)
    have HMP := Lib.hid (show cz 22 (mpV p) = cz 22 a ∧ vaE p = 0 from ⟨by rw [← ha, ← hm, ← hp]; exact (cz_congr (po_mi h)).symm, HVA.out⟩)
    have HRO := Lib.hid (show cz 23 (roV s n) = cz 23 r ∧ stE s = 0 from ⟨by rw [hr], h⟩)
    have HPR := Lib.hid (show cz 22 (poV r) = cz 22 c ∧ stE r = 0 from ⟨by rw [hc], by rw [← hr]; exact ro_ok h n⟩)
    have HRP := Lib.hid (show cz 22 (rpV p n) = cz 22 c ∧ vaE p = 0 from ⟨by rw [← hc, ← hr, ← hp]; exact (cz_congr (po_ro h n)).symm, HVA.out⟩)
    clear hp hm hr ha hc h
    go_enter Tryd.func8, Tryd.ntmps8
    go_upto_region 1 with (fail)
    obtain ⟨W0, B, hW, hBq, hb, g0, -⟩ := blk_new w (cz 23 s) 28
    rw [hW, hBq]
    have HB := Lib.hid hb
    clear hW hBq hb
    go_upto_region 2 with (first | ((with_reducible show wpList _ _ _ (⟨_, .load 28 (.tmp 2), _, _, _, none⟩ :: _) _ _); refine wpList_load_row rfl 28 (.tmp 2) rfl B rfl 28 _ (0, 0) _ HB.out.raw Tryd.underlying28 rfl infoS ?_) | (go_at_call 11; with_reducible refine (qpose_at s p 0 _ (Lib.hid (HD.out.own g0)) HPO).mono ?_; rintro r w1 ⟨rfl, hg⟩; replace g0 := g0.trans hg; replace HB := Lib.hid (HB.out.own hg); clear hg) | ((with_reducible show wpList _ _ _ (⟨_, .store 33 (.tmp 5) (.tmp 18), _, _, _, none⟩ :: _) _ _); refine wpList_store_row rfl 33 (.tmp 5) (.tmp 18) rfl _ (cz 22 (p)) rfl rfl 33 _ (heap_new _ _) infoP rfl (cz_one _ _) ?_; rw [World.setRow_alloc_new]))
    obtain ⟨w2, B5, hW, hBq, hb, hg, B5g⟩ := blk_new w1 (cz 22 p) 33
    rw [hW, hBq]
    have H5 := Lib.hid hb
    replace g0 := g0.trans hg
    replace HB := Lib.hid (HB.out.own hg)
    clear hW hBq hb hg
    clear B5g
    go_upto_region 5 with (first | ((with_reducible show wpList _ _ _ (⟨_, .load 28 (.tmp 2), _, _, _, none⟩ :: _) _ _); refine wpList_load_row rfl 28 (.tmp 2) rfl B rfl 28 _ (0, 0) _ HB.out.raw Tryd.underlying28 rfl infoS ?_) | (go_at_call 20; with_reducible refine (qmirror_at s m 0 _ (Lib.hid (HD.out.own g0)) HMI).mono ?_; rintro r w3 ⟨rfl, hg⟩; replace g0 := g0.trans hg; replace HB := Lib.hid (HB.out.own hg); replace H5 := Lib.hid (H5.out.own hg); clear hg) | ((with_reducible show wpList _ _ _ (⟨_, .store 28 (.tmp 7) (.tmp 26), _, _, _, none⟩ :: _) _ _); refine wpList_store_row rfl 28 (.tmp 7) (.tmp 26) rfl _ (cz 23 (m)) rfl rfl 28 _ (heap_new _ _) infoS rfl (cz_one _ _) ?_; rw [World.setRow_alloc_new]))
    obtain ⟨w4, B7, hW, hBq, hb, hg, B7g⟩ := blk_new w3 (cz 23 m) 28
    rw [hW, hBq]
    have H7 := Lib.hid hb
    replace g0 := g0.trans hg
    replace HB := Lib.hid (HB.out.own hg)
    replace H5 := Lib.hid (H5.out.own hg)
    clear hW hBq hb hg
    clear B7g
    go_upto_region 6 with (first | ((with_reducible show wpList _ _ _ (⟨_, .load 28 (.tmp 7), _, _, _, none⟩ :: _) _ _); refine wpList_load_row rfl 28 (.tmp 7) rfl B7 rfl 28 _ (0, 0) _ H7.out.raw Tryd.underlying28 rfl infoS ?_) | (go_at_call 11; with_reducible refine (qpose_at m a 0 _ (Lib.hid (HD.out.own g0)) HPM).mono ?_; rintro r w5 ⟨rfl, hg⟩; replace g0 := g0.trans hg; replace HB := Lib.hid (HB.out.own hg); replace H5 := Lib.hid (H5.out.own hg); replace H7 := Lib.hid (H7.out.own hg); clear hg) | ((with_reducible show wpList _ _ _ (⟨_, .store 33 (.tmp 8) (.tmp 31), _, _, _, none⟩ :: _) _ _); refine wpList_store_row rfl 33 (.tmp 8) (.tmp 31) rfl _ (cz 22 (a)) rfl rfl 33 _ (heap_new _ _) infoP rfl (cz_one _ _) ?_; rw [World.setRow_alloc_new]))
    obtain ⟨w6, B8, hW, hBq, hb, hg, B8g⟩ := blk_new w5 (cz 22 a) 33
    rw [hW, hBq]
    have H8 := Lib.hid hb
    replace g0 := g0.trans hg
    replace HB := Lib.hid (HB.out.own hg)
    replace H5 := Lib.hid (H5.out.own hg)
    replace H7 := Lib.hid (H7.out.own hg)
    clear hW hBq hb hg
    clear B8g
    go_upto_region 7 with (first | ((with_reducible show wpList _ _ _ (⟨_, .load 33 (.tmp 5), _, _, _, none⟩ :: _) _ _); refine wpList_load_row rfl 33 (.tmp 5) rfl B5 rfl 33 _ (0, 0) _ H5.out.raw Tryd.underlying33 rfl infoP ?_) | (go_at_call 22; with_reducible refine (qmirp_at p a 0 _ HMP).mono ?_; rintro r w7 ⟨rfl, hg⟩; replace g0 := g0.trans hg; replace HB := Lib.hid (HB.out.own hg); replace H5 := Lib.hid (H5.out.own hg); replace H7 := Lib.hid (H7.out.own hg); replace H8 := Lib.hid (H8.out.own hg); clear hg) | ((with_reducible show wpList _ _ _ (⟨_, .store 33 (.tmp 10) (.tmp 36), _, _, _, none⟩ :: _) _ _); refine wpList_store_row rfl 33 (.tmp 10) (.tmp 36) rfl _ (cz 22 (a)) rfl rfl 33 _ (heap_new _ _) infoP rfl (cz_one _ _) ?_; rw [World.setRow_alloc_new]))
    obtain ⟨w8, B10, hW, hBq, hb, hg, B10g⟩ := blk_new w7 (cz 22 a) 33
    rw [hW, hBq]
    have H10 := Lib.hid hb
    replace g0 := g0.trans hg
    replace HB := Lib.hid (HB.out.own hg)
    replace H5 := Lib.hid (H5.out.own hg)
    replace H7 := Lib.hid (H7.out.own hg)
    replace H8 := Lib.hid (H8.out.own hg)
    clear hW hBq hb hg
    clear B10g
    go_upto_region 9 with (first | ((with_reducible show wpList _ _ _ (⟨_, .load 33 (.tmp 8), _, _, _, none⟩ :: _) _ _); refine wpList_load_row rfl 33 (.tmp 8) rfl B8 rfl 33 _ (0, 0) _ H8.out.raw Tryd.underlying33 rfl infoP ?_) | ((with_reducible show wpList _ _ _ (⟨_, .load 33 (.tmp 8), _, _, _, some _⟩ :: _) _ _); refine wpList_load_row_g rfl 33 (.tmp 8) rfl B8 rfl 33 _ (0, 0) _ H8.out.raw Tryd.underlying33 rfl infoP ?_) | ((with_reducible show wpList _ _ _ (⟨_, .load 33 (.tmp 10), _, _, _, none⟩ :: _) _ _); refine wpList_load_row rfl 33 (.tmp 10) rfl B10 rfl 33 _ (0, 0) _ H10.out.raw Tryd.underlying33 rfl infoP ?_) | ((with_reducible show wpList _ _ _ (⟨_, .load 33 (.tmp 10), _, _, _, some _⟩ :: _) _ _); refine wpList_load_row_g rfl 33 (.tmp 10) rfl B10 rfl 33 _ (0, 0) _ H10.out.raw Tryd.underlying33 rfl infoP ?_))
    go_upto_region 10 with (first | ((with_reducible show wpList _ _ _ (⟨_, .load 28 (.tmp 2), _, _, _, none⟩ :: _) _ _); refine wpList_load_row rfl 28 (.tmp 2) rfl B rfl 28 _ (0, 0) _ HB.out.raw Tryd.underlying28 rfl infoS ?_) | (go_at_call 24; with_reducible refine (qrotate_at s r n 0 _ (Lib.hid (HD.out.own g0)) (Lib.hid (AimW.tab_own HT.out g0)) HRO).mono ?_; rintro r w9 ⟨rfl, hg⟩; replace g0 := g0.trans hg; replace HB := Lib.hid (HB.out.own hg); replace H5 := Lib.hid (H5.out.own hg); replace H7 := Lib.hid (H7.out.own hg); replace H8 := Lib.hid (H8.out.own hg); replace H10 := Lib.hid (H10.out.own hg); clear hg) | ((with_reducible show wpList _ _ _ (⟨_, .store 28 (.tmp 12) (.tmp 57), _, _, _, none⟩ :: _) _ _); refine wpList_store_row rfl 28 (.tmp 12) (.tmp 57) rfl _ (cz 23 (r)) rfl rfl 28 _ (heap_new _ _) infoS rfl (cz_one _ _) ?_; rw [World.setRow_alloc_new]))
    obtain ⟨w10, B12, hW, hBq, hb, hg, B12g⟩ := blk_new w9 (cz 23 r) 28
    rw [hW, hBq]
    have H12 := Lib.hid hb
    replace g0 := g0.trans hg
    replace HB := Lib.hid (HB.out.own hg)
    replace H5 := Lib.hid (H5.out.own hg)
    replace H7 := Lib.hid (H7.out.own hg)
    replace H8 := Lib.hid (H8.out.own hg)
    replace H10 := Lib.hid (H10.out.own hg)
    clear hW hBq hb hg
    clear B12g
    go_upto_region 11 with (first | ((with_reducible show wpList _ _ _ (⟨_, .load 28 (.tmp 12), _, _, _, none⟩ :: _) _ _); refine wpList_load_row rfl 28 (.tmp 12) rfl B12 rfl 28 _ (0, 0) _ H12.out.raw Tryd.underlying28 rfl infoS ?_) | (go_at_call 11; with_reducible refine (qpose_at r c 0 _ (Lib.hid (HD.out.own g0)) HPR).mono ?_; rintro r w11 ⟨rfl, hg⟩; replace g0 := g0.trans hg; replace HB := Lib.hid (HB.out.own hg); replace H5 := Lib.hid (H5.out.own hg); replace H7 := Lib.hid (H7.out.own hg); replace H8 := Lib.hid (H8.out.own hg); replace H10 := Lib.hid (H10.out.own hg); replace H12 := Lib.hid (H12.out.own hg); clear hg) | ((with_reducible show wpList _ _ _ (⟨_, .store 33 (.tmp 13) (.tmp 62), _, _, _, none⟩ :: _) _ _); refine wpList_store_row rfl 33 (.tmp 13) (.tmp 62) rfl _ (cz 22 (c)) rfl rfl 33 _ (heap_new _ _) infoP rfl (cz_one _ _) ?_; rw [World.setRow_alloc_new]))
    obtain ⟨w12, B13, hW, hBq, hb, hg, B13g⟩ := blk_new w11 (cz 22 c) 33
    rw [hW, hBq]
    have H13 := Lib.hid hb
    replace g0 := g0.trans hg
    replace HB := Lib.hid (HB.out.own hg)
    replace H5 := Lib.hid (H5.out.own hg)
    replace H7 := Lib.hid (H7.out.own hg)
    replace H8 := Lib.hid (H8.out.own hg)
    replace H10 := Lib.hid (H10.out.own hg)
    replace H12 := Lib.hid (H12.out.own hg)
    clear hW hBq hb hg
    clear B13g
    go_upto_region 12 with (first | ((with_reducible show wpList _ _ _ (⟨_, .load 33 (.tmp 5), _, _, _, none⟩ :: _) _ _); refine wpList_load_row rfl 33 (.tmp 5) rfl B5 rfl 33 _ (0, 0) _ H5.out.raw Tryd.underlying33 rfl infoP ?_) | (go_at_call 26; with_reducible refine (qrotp_at p c n 0 _ (Lib.hid (AimW.tab_own HT.out g0)) HRP).mono ?_; rintro r w13 ⟨rfl, hg⟩; replace g0 := g0.trans hg; replace HB := Lib.hid (HB.out.own hg); replace H5 := Lib.hid (H5.out.own hg); replace H7 := Lib.hid (H7.out.own hg); replace H8 := Lib.hid (H8.out.own hg); replace H10 := Lib.hid (H10.out.own hg); replace H12 := Lib.hid (H12.out.own hg); replace H13 := Lib.hid (H13.out.own hg); clear hg) | ((with_reducible show wpList _ _ _ (⟨_, .store 33 (.tmp 14) (.tmp 68), _, _, _, none⟩ :: _) _ _); refine wpList_store_row rfl 33 (.tmp 14) (.tmp 68) rfl _ (cz 22 (c)) rfl rfl 33 _ (heap_new _ _) infoP rfl (cz_one _ _) ?_; rw [World.setRow_alloc_new]))
    obtain ⟨w14, B14, hW, hBq, hb, hg, B14g⟩ := blk_new w13 (cz 22 c) 33
    rw [hW, hBq]
    have H14 := Lib.hid hb
    replace g0 := g0.trans hg
    replace HB := Lib.hid (HB.out.own hg)
    replace H5 := Lib.hid (H5.out.own hg)
    replace H7 := Lib.hid (H7.out.own hg)
    replace H8 := Lib.hid (H8.out.own hg)
    replace H10 := Lib.hid (H10.out.own hg)
    replace H12 := Lib.hid (H12.out.own hg)
    replace H13 := Lib.hid (H13.out.own hg)
    clear hW hBq hb hg
    clear B14g
    go_wp2_with (first | ((with_reducible show wpList _ _ _ (⟨_, .load 33 (.tmp 13), _, _, _, none⟩ :: _) _ _); refine wpList_load_row rfl 33 (.tmp 13) rfl B13 rfl 33 _ (0, 0) _ H13.out.raw Tryd.underlying33 rfl infoP ?_) | ((with_reducible show wpList _ _ _ (⟨_, .load 33 (.tmp 13), _, _, _, some _⟩ :: _) _ _); refine wpList_load_row_g rfl 33 (.tmp 13) rfl B13 rfl 33 _ (0, 0) _ H13.out.raw Tryd.underlying33 rfl infoP ?_) | ((with_reducible show wpList _ _ _ (⟨_, .load 33 (.tmp 14), _, _, _, none⟩ :: _) _ _); refine wpList_load_row rfl 33 (.tmp 14) rfl B14 rfl 33 _ (0, 0) _ H14.out.raw Tryd.underlying33 rfl infoP ?_) | ((with_reducible show wpList _ _ _ (⟨_, .load 33 (.tmp 14), _, _, _, some _⟩ :: _) _ _); refine wpList_load_row_g rfl 33 (.tmp 14) rfl B14 rfl 33 _ (0, 0) _ H14.out.raw Tryd.underlying33 rfl infoP ?_) | (go_at_call 15; with_reducible refine (awake_at _ (Lib.hid (HD.out.own g0)) (Lib.hid (AimW.tab_own HT.out g0))).mono ?_; rintro r w99 ⟨rfl, hg⟩; replace g0 := g0.trans hg; clear hg))
    go_ret
    exact ⟨by first | rfl | (exact ret_bool (by simp)), g0⟩
  · obtain ⟨c, hc⟩ : ∃ c, stE s = c := ⟨_, rfl⟩
    have HPO := Lib.hid (show cz 22 (poV s) = cz 22 nul ∧ stE s = c from ⟨by rw [poV_no h], hc⟩)
    rw [hc] at h
    have kc : (c != 0) = true := bne_iff_ne.2 h
    clear h hc
    go_enter Tryd.func8, Tryd.ntmps8
    go_upto_region 1 with (fail)
    obtain ⟨W0, B, hW, hBq, hb, g0, -⟩ := blk_new w (cz 23 s) 28
    rw [hW, hBq]
    have HB := Lib.hid hb
    clear hW hBq hb
    go_upto_region 2 with (first | ((with_reducible show wpList _ _ _ (⟨_, .load 28 (.tmp 2), _, _, _, none⟩ :: _) _ _); refine wpList_load_row rfl 28 (.tmp 2) rfl B rfl 28 _ (0, 0) _ HB.out.raw Tryd.underlying28 rfl infoS ?_) | (go_at_call 11; with_reducible refine (qpose_at s nul c _ (Lib.hid (HD.out.own g0)) HPO).mono ?_; rintro r w1 ⟨rfl, hg⟩; replace g0 := g0.trans hg; replace HB := Lib.hid (HB.out.own hg); clear hg) | ((with_reducible show wpList _ _ _ (⟨_, .store 33 (.tmp 5) (.tmp 18), _, _, _, none⟩ :: _) _ _); refine wpList_store_row rfl 33 (.tmp 5) (.tmp 18) rfl _ (cz 22 (nul)) rfl rfl 33 _ (heap_new _ _) infoP rfl (cz_one _ _) ?_; rw [World.setRow_alloc_new]))
    obtain ⟨w2, B5, hW, hBq, hb, hg, B5g⟩ := blk_new w1 (cz 22 nul) 33
    rw [hW, hBq]
    have H5 := Lib.hid hb
    replace g0 := g0.trans hg
    replace HB := Lib.hid (HB.out.own hg)
    clear hW hBq hb hg
    clear B5g
    go_wp2_with (go_at_call 15; with_reducible refine (awake_at _ (Lib.hid (HD.out.own g0)) (Lib.hid (AimW.tab_own HT.out g0))).mono ?_; rintro r w99 ⟨rfl, hg⟩; replace g0 := g0.trans hg; clear hg)
    go_ret
    exact ⟨by first | rfl | (exact ret_bool (by simp)), g0⟩
end Go.Proofs.YtneobaininejaaaDoor.PstL
