/-
  Walks of the laws of package posture: PosturePoses, PostureNotated. Condition: the target straight down and the table of sines lie in memory (Dn, Tab).
-/
import Derived.Test.YtneobaininejaaaDoorPostureT
namespace Go.Proofs.YtneobaininejaaaDoor.PstL
open Go.ChangeShapes Go.WideShapes Go.ChangeAt Go.RowKit
open PstW PstQ PairW AimP AimW BlkW PrtW PstP
set_option maxRecDepth 100000 in
set_option maxHeartbeats 40000000 in
theorem PosturePoses_walk (p : Vl) (a b : Int) (w : World) (HD : Hid (Dn w)) (HT : Hid (AngW.Tab w)) :
    Calls Tryd.prog 9 #[.agg (cz 22 p), .int .i64 a, .int .i64 b] w fun r w' => r = .returned (.bool true) ∧ Own w w' := by
  by_cases h : vaE p = 0
  · obtain ⟨m, hm⟩ : ∃ x, mpV p = x := ⟨_, rfl⟩
    obtain ⟨r, hr⟩ : ∃ x, rpV p a = x := ⟨_, rfl⟩
    obtain ⟨ta, hta⟩ : ∃ x, a.tmod 4 = x := ⟨_, rfl⟩
    have emta := Int.mul_tdiv_add_tmod a 4
    have elta := Int.tmod_lt_of_pos a (show (0 : Int) < 4 by decide)
    have ewta := Int.lt_tmod_of_pos a (show (0 : Int) < 4 by decide)
    rw [hta] at emta elta ewta
    obtain ⟨tb, htb⟩ : ∃ x, b.tmod 4 = x := ⟨_, rfl⟩
    have emtb := Int.mul_tdiv_add_tmod b 4
    have eltb := Int.tmod_lt_of_pos b (show (0 : Int) < 4 by decide)
    have ewtb := Int.lt_tmod_of_pos b (show (0 : Int) < 4 by decide)
    rw [htb] at emtb eltb ewtb
    obtain ⟨y, hy⟩ : ∃ x, rpV p (ta + tb) = x := ⟨_, rfl⟩
    obtain ⟨v, hv⟩ : ∃ x, mpV r = x := ⟨_, rfl⟩
    have HVA := Lib.hid h
    have HMP := Lib.hid (show cz 22 (mpV p) = cz 22 m ∧ vaE p = 0 from ⟨by rw [hm], h⟩)
    have HRP := Lib.hid (show cz 22 (rpV p a) = cz 22 r ∧ vaE p = 0 from ⟨by rw [hr], h⟩)
    have HMC := Lib.hid (show vaE m = 0 by rw [← hm]; exact mp_ok h)
    have HRC := Lib.hid (show vaE r = 0 by rw [← hr]; exact rp_ok h a)
    have HMM := Lib.hid (show cz 22 (mpV m) = cz 22 p ∧ vaE m = 0 from ⟨by rw [← hm]; exact cz_congr (mp_mp h), HMC.out⟩)
    have HX := Lib.hid (show cz 22 (rpV r b) = cz 22 y ∧ vaE r = 0 from ⟨by rw [← hr, ← hy]; exact cz_congr (rp_rp h a b (ta + tb) (by omega)), HRC.out⟩)
    have HY := Lib.hid (show cz 22 (rpV p (ta + tb)) = cz 22 y ∧ vaE p = 0 from ⟨by rw [hy], h⟩)
    have HMR := Lib.hid (show cz 22 (mpV r) = cz 22 v ∧ vaE r = 0 from ⟨by rw [hv], HRC.out⟩)
    have HRM := Lib.hid (show cz 22 (rpV m (-ta)) = cz 22 v ∧ vaE m = 0 from ⟨by rw [← hv, ← hr, ← hm]; exact (cz_congr (mp_rp h a (-ta) (by omega))).symm, HMC.out⟩)
    have HTA := Lib.hid hta
    have HTB := Lib.hid htb
    clear hm hr hy hv hta htb emta emtb h
    go_enter Tryd.func9, Tryd.ntmps9
    go_upto_region 1 with (fail)
    obtain ⟨W0, B, hW, hBq, hb, g0, -⟩ := blk_new w (cz 22 p) 33
    rw [hW, hBq]
    have HB := Lib.hid hb
    clear hW hBq hb
    go_upto_region 2 with (first | ((with_reducible show wpList _ _ _ (⟨_, .load 33 (.tmp 3), _, _, _, none⟩ :: _) _ _); refine wpList_load_row rfl 33 (.tmp 3) rfl B rfl 33 _ (0, 0) _ HB.out.raw Tryd.underlying33 rfl infoP ?_) | (go_at_call 22; with_reducible refine (qmirp_at p m 0 _ HMP).mono ?_; rintro r w1 ⟨rfl, hg⟩; replace g0 := g0.trans hg; replace HB := Lib.hid (HB.out.own hg); clear hg) | ((with_reducible show wpList _ _ _ (⟨_, .store 33 (.tmp 7) (.tmp 21), _, _, _, none⟩ :: _) _ _); refine wpList_store_row rfl 33 (.tmp 7) (.tmp 21) rfl _ (cz 22 (m)) rfl rfl 33 _ (heap_new _ _) infoP rfl (cz_one _ _) ?_; rw [World.setRow_alloc_new]))
    obtain ⟨w2, B7, hW, hBq, hb, hg, B7g⟩ := blk_new w1 (cz 22 m) 33
    rw [hW, hBq]
    have H7 := Lib.hid hb
    replace g0 := g0.trans hg
    replace HB := Lib.hid (HB.out.own hg)
    clear hW hBq hb hg
    clear B7g
    go_upto_region 3 with (first | ((with_reducible show wpList _ _ _ (⟨_, .load 33 (.tmp 3), _, _, _, none⟩ :: _) _ _); refine wpList_load_row rfl 33 (.tmp 3) rfl B rfl 33 _ (0, 0) _ HB.out.raw Tryd.underlying33 rfl infoP ?_) | (go_at_call 26; with_reducible refine (qrotp_at p r a 0 _ (Lib.hid (AimW.tab_own HT.out g0)) HRP).mono ?_; rintro r w3 ⟨rfl, hg⟩; replace g0 := g0.trans hg; replace HB := Lib.hid (HB.out.own hg); replace H7 := Lib.hid (H7.out.own hg); clear hg) | ((with_reducible show wpList _ _ _ (⟨_, .store 33 (.tmp 9) (.tmp 27), _, _, _, none⟩ :: _) _ _); refine wpList_store_row rfl 33 (.tmp 9) (.tmp 27) rfl _ (cz 22 (r)) rfl rfl 33 _ (heap_new _ _) infoP rfl (cz_one _ _) ?_; rw [World.setRow_alloc_new]))
    obtain ⟨w4, B9, hW, hBq, hb, hg, B9g⟩ := blk_new w3 (cz 22 r) 33
    rw [hW, hBq]
    have H9 := Lib.hid hb
    replace g0 := g0.trans hg
    replace HB := Lib.hid (HB.out.own hg)
    replace H7 := Lib.hid (H7.out.own hg)
    clear hW hBq hb hg
    clear B9g
    go_upto_region 8 with (first | ((with_reducible show wpList _ _ _ (⟨_, .load 33 (.tmp 3), _, _, _, none⟩ :: _) _ _); refine wpList_load_row rfl 33 (.tmp 3) rfl B rfl 33 _ (0, 0) _ HB.out.raw Tryd.underlying33 rfl infoP ?_) | ((with_reducible show wpList _ _ _ (⟨_, .load 33 (.tmp 3), _, _, _, some _⟩ :: _) _ _); refine wpList_load_row_g rfl 33 (.tmp 3) rfl B rfl 33 _ (0, 0) _ HB.out.raw Tryd.underlying33 rfl infoP ?_) | ((with_reducible show wpList _ _ _ (⟨_, .load 33 (.tmp 7), _, _, _, none⟩ :: _) _ _); refine wpList_load_row rfl 33 (.tmp 7) rfl B7 rfl 33 _ (0, 0) _ H7.out.raw Tryd.underlying33 rfl infoP ?_) | ((with_reducible show wpList _ _ _ (⟨_, .load 33 (.tmp 7), _, _, _, some _⟩ :: _) _ _); refine wpList_load_row_g rfl 33 (.tmp 7) rfl B7 rfl 33 _ (0, 0) _ H7.out.raw Tryd.underlying33 rfl infoP ?_) | ((with_reducible show wpList _ _ _ (⟨_, .load 33 (.tmp 9), _, _, _, none⟩ :: _) _ _); refine wpList_load_row rfl 33 (.tmp 9) rfl B9 rfl 33 _ (0, 0) _ H9.out.raw Tryd.underlying33 rfl infoP ?_) | ((with_reducible show wpList _ _ _ (⟨_, .load 33 (.tmp 9), _, _, _, some _⟩ :: _) _ _); refine wpList_load_row_g rfl 33 (.tmp 9) rfl B9 rfl 33 _ (0, 0) _ H9.out.raw Tryd.underlying33 rfl infoP ?_) | (go_at_call 18; with_reducible refine (qvalid_at p 0 _ HVA).mono ?_; rintro r w6p ⟨rfl, hg⟩; replace g0 := g0.trans hg; replace HB := Lib.hid (HB.out.own hg); replace H7 := Lib.hid (H7.out.own hg); replace H9 := Lib.hid (H9.out.own hg); clear hg) | (go_at_call 18; with_reducible refine (qvalid_at m 0 _ HMC).mono ?_; rintro r w6m ⟨rfl, hg⟩; replace g0 := g0.trans hg; replace HB := Lib.hid (HB.out.own hg); replace H7 := Lib.hid (H7.out.own hg); replace H9 := Lib.hid (H9.out.own hg); clear hg) | (go_at_call 18; with_reducible refine (qvalid_at r 0 _ HRC).mono ?_; rintro r w6r ⟨rfl, hg⟩; replace g0 := g0.trans hg; replace HB := Lib.hid (HB.out.own hg); replace H7 := Lib.hid (H7.out.own hg); replace H9 := Lib.hid (H9.out.own hg); clear hg))
    go_upto_region 9 with (first | ((with_reducible show wpList _ _ _ (⟨_, .load 33 (.tmp 7), _, _, _, none⟩ :: _) _ _); refine wpList_load_row rfl 33 (.tmp 7) rfl B7 rfl 33 _ (0, 0) _ H7.out.raw Tryd.underlying33 rfl infoP ?_) | (go_at_call 22; with_reducible refine (qmirp_at m p 0 _ HMM).mono ?_; rintro r w5 ⟨rfl, hg⟩; replace g0 := g0.trans hg; replace HB := Lib.hid (HB.out.own hg); replace H7 := Lib.hid (H7.out.own hg); replace H9 := Lib.hid (H9.out.own hg); clear hg) | ((with_reducible show wpList _ _ _ (⟨_, .store 33 (.tmp 12) (.tmp 73), _, _, _, none⟩ :: _) _ _); refine wpList_store_row rfl 33 (.tmp 12) (.tmp 73) rfl _ (cz 22 (p)) rfl rfl 33 _ (heap_new _ _) infoP rfl (cz_one _ _) ?_; rw [World.setRow_alloc_new]))
    obtain ⟨w6, B12, hW, hBq, hb, hg, B12g⟩ := blk_new w5 (cz 22 p) 33
    rw [hW, hBq]
    have H12 := Lib.hid hb
    replace g0 := g0.trans hg
    replace HB := Lib.hid (HB.out.own hg)
    replace H7 := Lib.hid (H7.out.own hg)
    replace H9 := Lib.hid (H9.out.own hg)
    clear hW hBq hb hg
    clear B12g
    go_upto_region 10 with (first | ((with_reducible show wpList _ _ _ (⟨_, .load 33 (.tmp 9), _, _, _, none⟩ :: _) _ _); refine wpList_load_row rfl 33 (.tmp 9) rfl B9 rfl 33 _ (0, 0) _ H9.out.raw Tryd.underlying33 rfl infoP ?_) | (go_at_call 26; with_reducible refine (qrotp_at r y b 0 _ (Lib.hid (AimW.tab_own HT.out g0)) HX).mono ?_; rintro r w7 ⟨rfl, hg⟩; replace g0 := g0.trans hg; replace HB := Lib.hid (HB.out.own hg); replace H7 := Lib.hid (H7.out.own hg); replace H9 := Lib.hid (H9.out.own hg); replace H12 := Lib.hid (H12.out.own hg); clear hg) | ((with_reducible show wpList _ _ _ (⟨_, .store 33 (.tmp 13) (.tmp 79), _, _, _, none⟩ :: _) _ _); refine wpList_store_row rfl 33 (.tmp 13) (.tmp 79) rfl _ (cz 22 (y)) rfl rfl 33 _ (heap_new _ _) infoP rfl (cz_one _ _) ?_; rw [World.setRow_alloc_new]))
    obtain ⟨w8, B13, hW, hBq, hb, hg, B13g⟩ := blk_new w7 (cz 22 y) 33
    rw [hW, hBq]
    have H13 := Lib.hid hb
    replace g0 := g0.trans hg
    replace HB := Lib.hid (HB.out.own hg)
    replace H7 := Lib.hid (H7.out.own hg)
    replace H9 := Lib.hid (H9.out.own hg)
    replace H12 := Lib.hid (H12.out.own hg)
    clear hW hBq hb hg
    clear B13g
    have eta := HTA.out
    have etb := HTB.out
    go_upto_region 11 with (first | ((with_reducible show wpList _ _ _ (⟨_, .load 33 (.tmp 3), _, _, _, none⟩ :: _) _ _); refine wpList_load_row rfl 33 (.tmp 3) rfl B rfl 33 _ (0, 0) _ HB.out.raw Tryd.underlying33 rfl infoP ?_) | (go_at_call 26; with_reducible refine (qrotp_at p y (ta + tb) 0 _ (Lib.hid (AimW.tab_own HT.out g0)) HY).mono ?_; rintro r w9 ⟨rfl, hg⟩; replace g0 := g0.trans hg; replace HB := Lib.hid (HB.out.own hg); replace H7 := Lib.hid (H7.out.own hg); replace H9 := Lib.hid (H9.out.own hg); replace H12 := Lib.hid (H12.out.own hg); replace H13 := Lib.hid (H13.out.own hg); clear hg) | ((with_reducible show wpList _ _ _ (⟨_, .store 33 (.tmp 14) (.tmp 89), _, _, _, none⟩ :: _) _ _); refine wpList_store_row rfl 33 (.tmp 14) (.tmp 89) rfl _ (cz 22 (y)) rfl rfl 33 _ (heap_new _ _) infoP rfl (cz_one _ _) ?_; rw [World.setRow_alloc_new]))
    obtain ⟨w10, B14, hW, hBq, hb, hg, B14g⟩ := blk_new w9 (cz 22 y) 33
    rw [hW, hBq]
    have H14 := Lib.hid hb
    replace g0 := g0.trans hg
    replace HB := Lib.hid (HB.out.own hg)
    replace H7 := Lib.hid (H7.out.own hg)
    replace H9 := Lib.hid (H9.out.own hg)
    replace H12 := Lib.hid (H12.out.own hg)
    replace H13 := Lib.hid (H13.out.own hg)
    clear hW hBq hb hg
    clear B14g
    clear eta etb
    go_upto_region 13 with (first | ((with_reducible show wpList _ _ _ (⟨_, .load 33 (.tmp 12), _, _, _, none⟩ :: _) _ _); refine wpList_load_row rfl 33 (.tmp 12) rfl B12 rfl 33 _ (0, 0) _ H12.out.raw Tryd.underlying33 rfl infoP ?_) | ((with_reducible show wpList _ _ _ (⟨_, .load 33 (.tmp 12), _, _, _, some _⟩ :: _) _ _); refine wpList_load_row_g rfl 33 (.tmp 12) rfl B12 rfl 33 _ (0, 0) _ H12.out.raw Tryd.underlying33 rfl infoP ?_) | ((with_reducible show wpList _ _ _ (⟨_, .load 33 (.tmp 3), _, _, _, none⟩ :: _) _ _); refine wpList_load_row rfl 33 (.tmp 3) rfl B rfl 33 _ (0, 0) _ HB.out.raw Tryd.underlying33 rfl infoP ?_) | ((with_reducible show wpList _ _ _ (⟨_, .load 33 (.tmp 3), _, _, _, some _⟩ :: _) _ _); refine wpList_load_row_g rfl 33 (.tmp 3) rfl B rfl 33 _ (0, 0) _ HB.out.raw Tryd.underlying33 rfl infoP ?_) | ((with_reducible show wpList _ _ _ (⟨_, .load 33 (.tmp 13), _, _, _, none⟩ :: _) _ _); refine wpList_load_row rfl 33 (.tmp 13) rfl B13 rfl 33 _ (0, 0) _ H13.out.raw Tryd.underlying33 rfl infoP ?_) | ((with_reducible show wpList _ _ _ (⟨_, .load 33 (.tmp 13), _, _, _, some _⟩ :: _) _ _); refine wpList_load_row_g rfl 33 (.tmp 13) rfl B13 rfl 33 _ (0, 0) _ H13.out.raw Tryd.underlying33 rfl infoP ?_) | ((with_reducible show wpList _ _ _ (⟨_, .load 33 (.tmp 14), _, _, _, none⟩ :: _) _ _); refine wpList_load_row rfl 33 (.tmp 14) rfl B14 rfl 33 _ (0, 0) _ H14.out.raw Tryd.underlying33 rfl infoP ?_) | ((with_reducible show wpList _ _ _ (⟨_, .load 33 (.tmp 14), _, _, _, some _⟩ :: _) _ _); refine wpList_load_row_g rfl 33 (.tmp 14) rfl B14 rfl 33 _ (0, 0) _ H14.out.raw Tryd.underlying33 rfl infoP ?_))
    go_upto_region 14 with (first | ((with_reducible show wpList _ _ _ (⟨_, .load 33 (.tmp 9), _, _, _, none⟩ :: _) _ _); refine wpList_load_row rfl 33 (.tmp 9) rfl B9 rfl 33 _ (0, 0) _ H9.out.raw Tryd.underlying33 rfl infoP ?_) | (go_at_call 22; with_reducible refine (qmirp_at r v 0 _ HMR).mono ?_; rintro r w11 ⟨rfl, hg⟩; replace g0 := g0.trans hg; replace HB := Lib.hid (HB.out.own hg); replace H7 := Lib.hid (H7.out.own hg); replace H9 := Lib.hid (H9.out.own hg); replace H12 := Lib.hid (H12.out.own hg); replace H13 := Lib.hid (H13.out.own hg); replace H14 := Lib.hid (H14.out.own hg); clear hg) | ((with_reducible show wpList _ _ _ (⟨_, .store 33 (.tmp 16) (.tmp 114), _, _, _, none⟩ :: _) _ _); refine wpList_store_row rfl 33 (.tmp 16) (.tmp 114) rfl _ (cz 22 (v)) rfl rfl 33 _ (heap_new _ _) infoP rfl (cz_one _ _) ?_; rw [World.setRow_alloc_new]))
    obtain ⟨w12, B16, hW, hBq, hb, hg, B16g⟩ := blk_new w11 (cz 22 v) 33
    rw [hW, hBq]
    have H16 := Lib.hid hb
    replace g0 := g0.trans hg
    replace HB := Lib.hid (HB.out.own hg)
    replace H7 := Lib.hid (H7.out.own hg)
    replace H9 := Lib.hid (H9.out.own hg)
    replace H12 := Lib.hid (H12.out.own hg)
    replace H13 := Lib.hid (H13.out.own hg)
    replace H14 := Lib.hid (H14.out.own hg)
    clear hW hBq hb hg
    clear B16g
    have eta := HTA.out
    go_upto_region 15 with (first | ((with_reducible show wpList _ _ _ (⟨_, .load 33 (.tmp 7), _, _, _, none⟩ :: _) _ _); refine wpList_load_row rfl 33 (.tmp 7) rfl B7 rfl 33 _ (0, 0) _ H7.out.raw Tryd.underlying33 rfl infoP ?_) | (go_at_call 26; with_reducible refine (qrotp_at m v (-ta) 0 _ (Lib.hid (AimW.tab_own HT.out g0)) HRM).mono ?_; rintro r w13 ⟨rfl, hg⟩; replace g0 := g0.trans hg; replace HB := Lib.hid (HB.out.own hg); replace H7 := Lib.hid (H7.out.own hg); replace H9 := Lib.hid (H9.out.own hg); replace H12 := Lib.hid (H12.out.own hg); replace H13 := Lib.hid (H13.out.own hg); replace H14 := Lib.hid (H14.out.own hg); replace H16 := Lib.hid (H16.out.own hg); clear hg) | ((with_reducible show wpList _ _ _ (⟨_, .store 33 (.tmp 17) (.tmp 122), _, _, _, none⟩ :: _) _ _); refine wpList_store_row rfl 33 (.tmp 17) (.tmp 122) rfl _ (cz 22 (v)) rfl rfl 33 _ (heap_new _ _) infoP rfl (cz_one _ _) ?_; rw [World.setRow_alloc_new]))
    obtain ⟨w14, B17, hW, hBq, hb, hg, B17g⟩ := blk_new w13 (cz 22 v) 33
    rw [hW, hBq]
    have H17 := Lib.hid hb
    replace g0 := g0.trans hg
    replace HB := Lib.hid (HB.out.own hg)
    replace H7 := Lib.hid (H7.out.own hg)
    replace H9 := Lib.hid (H9.out.own hg)
    replace H12 := Lib.hid (H12.out.own hg)
    replace H13 := Lib.hid (H13.out.own hg)
    replace H14 := Lib.hid (H14.out.own hg)
    replace H16 := Lib.hid (H16.out.own hg)
    clear hW hBq hb hg
    clear B17g
    clear eta
    go_wp2_with (first | ((with_reducible show wpList _ _ _ (⟨_, .load 33 (.tmp 16), _, _, _, none⟩ :: _) _ _); refine wpList_load_row rfl 33 (.tmp 16) rfl B16 rfl 33 _ (0, 0) _ H16.out.raw Tryd.underlying33 rfl infoP ?_) | ((with_reducible show wpList _ _ _ (⟨_, .load 33 (.tmp 16), _, _, _, some _⟩ :: _) _ _); refine wpList_load_row_g rfl 33 (.tmp 16) rfl B16 rfl 33 _ (0, 0) _ H16.out.raw Tryd.underlying33 rfl infoP ?_) | ((with_reducible show wpList _ _ _ (⟨_, .load 33 (.tmp 17), _, _, _, none⟩ :: _) _ _); refine wpList_load_row rfl 33 (.tmp 17) rfl B17 rfl 33 _ (0, 0) _ H17.out.raw Tryd.underlying33 rfl infoP ?_) | ((with_reducible show wpList _ _ _ (⟨_, .load 33 (.tmp 17), _, _, _, some _⟩ :: _) _ _); refine wpList_load_row_g rfl 33 (.tmp 17) rfl B17 rfl 33 _ (0, 0) _ H17.out.raw Tryd.underlying33 rfl infoP ?_) | (go_at_call 15; with_reducible refine (awake_at _ (Lib.hid (HD.out.own g0)) (Lib.hid (AimW.tab_own HT.out g0))).mono ?_; rintro r w99 ⟨rfl, hg⟩; replace g0 := g0.trans hg; clear hg))
    go_ret
    exact ⟨by first | rfl | (exact ret_bool (by simp)), g0⟩
  · obtain ⟨c, hc⟩ : ∃ c, vaE p = c := ⟨_, rfl⟩
    have HMP := Lib.hid (show cz 22 (mpV p) = cz 22 nul ∧ vaE p = c from ⟨by rw [mpV_no h], hc⟩)
    have HRP := Lib.hid (show cz 22 (rpV p a) = cz 22 nul ∧ vaE p = c from ⟨by rw [rpV_no h], hc⟩)
    rw [hc] at h
    have kc : (c != 0) = true := bne_iff_ne.2 h
    have HC := Lib.hid hc
    clear h hc
    go_enter Tryd.func9, Tryd.ntmps9
    go_upto_region 1 with (fail)
    obtain ⟨W0, B, hW, hBq, hb, g0, -⟩ := blk_new w (cz 22 p) 33
    rw [hW, hBq]
    have HB := Lib.hid hb
    clear hW hBq hb
    go_upto_region 2 with (first | ((with_reducible show wpList _ _ _ (⟨_, .load 33 (.tmp 3), _, _, _, none⟩ :: _) _ _); refine wpList_load_row rfl 33 (.tmp 3) rfl B rfl 33 _ (0, 0) _ HB.out.raw Tryd.underlying33 rfl infoP ?_) | (go_at_call 22; with_reducible refine (qmirp_at p nul c _ HMP).mono ?_; rintro r w1 ⟨rfl, hg⟩; replace g0 := g0.trans hg; replace HB := Lib.hid (HB.out.own hg); clear hg) | ((with_reducible show wpList _ _ _ (⟨_, .store 33 (.tmp 7) (.tmp 21), _, _, _, none⟩ :: _) _ _); refine wpList_store_row rfl 33 (.tmp 7) (.tmp 21) rfl _ (cz 22 (nul)) rfl rfl 33 _ (heap_new _ _) infoP rfl (cz_one _ _) ?_; rw [World.setRow_alloc_new]))
    obtain ⟨w2, B7, hW, hBq, hb, hg, B7g⟩ := blk_new w1 (cz 22 nul) 33
    rw [hW, hBq]
    have H7 := Lib.hid hb
    replace g0 := g0.trans hg
    replace HB := Lib.hid (HB.out.own hg)
    clear hW hBq hb hg
    clear B7g
    go_upto_region 3 with (first | ((with_reducible show wpList _ _ _ (⟨_, .load 33 (.tmp 3), _, _, _, none⟩ :: _) _ _); refine wpList_load_row rfl 33 (.tmp 3) rfl B rfl 33 _ (0, 0) _ HB.out.raw Tryd.underlying33 rfl infoP ?_) | (go_at_call 26; with_reducible refine (qrotp_at p nul a c _ (Lib.hid (AimW.tab_own HT.out g0)) HRP).mono ?_; rintro r w3 ⟨rfl, hg⟩; replace g0 := g0.trans hg; replace HB := Lib.hid (HB.out.own hg); replace H7 := Lib.hid (H7.out.own hg); clear hg) | ((with_reducible show wpList _ _ _ (⟨_, .store 33 (.tmp 9) (.tmp 27), _, _, _, none⟩ :: _) _ _); refine wpList_store_row rfl 33 (.tmp 9) (.tmp 27) rfl _ (cz 22 (nul)) rfl rfl 33 _ (heap_new _ _) infoP rfl (cz_one _ _) ?_; rw [World.setRow_alloc_new]))
    obtain ⟨w4, B9, hW, hBq, hb, hg, B9g⟩ := blk_new w3 (cz 22 nul) 33
    rw [hW, hBq]
    have H9 := Lib.hid hb
    replace g0 := g0.trans hg
    replace HB := Lib.hid (HB.out.own hg)
    replace H7 := Lib.hid (H7.out.own hg)
    clear hW hBq hb hg
    clear B9g
    go_wp2_with (first | ((with_reducible show wpList _ _ _ (⟨_, .load 33 (.tmp 3), _, _, _, none⟩ :: _) _ _); refine wpList_load_row rfl 33 (.tmp 3) rfl B rfl 33 _ (0, 0) _ HB.out.raw Tryd.underlying33 rfl infoP ?_) | ((with_reducible show wpList _ _ _ (⟨_, .load 33 (.tmp 3), _, _, _, some _⟩ :: _) _ _); refine wpList_load_row_g rfl 33 (.tmp 3) rfl B rfl 33 _ (0, 0) _ HB.out.raw Tryd.underlying33 rfl infoP ?_) | ((with_reducible show wpList _ _ _ (⟨_, .load 33 (.tmp 7), _, _, _, none⟩ :: _) _ _); refine wpList_load_row rfl 33 (.tmp 7) rfl B7 rfl 33 _ (0, 0) _ H7.out.raw Tryd.underlying33 rfl infoP ?_) | ((with_reducible show wpList _ _ _ (⟨_, .load 33 (.tmp 7), _, _, _, some _⟩ :: _) _ _); refine wpList_load_row_g rfl 33 (.tmp 7) rfl B7 rfl 33 _ (0, 0) _ H7.out.raw Tryd.underlying33 rfl infoP ?_) | ((with_reducible show wpList _ _ _ (⟨_, .load 33 (.tmp 9), _, _, _, none⟩ :: _) _ _); refine wpList_load_row rfl 33 (.tmp 9) rfl B9 rfl 33 _ (0, 0) _ H9.out.raw Tryd.underlying33 rfl infoP ?_) | ((with_reducible show wpList _ _ _ (⟨_, .load 33 (.tmp 9), _, _, _, some _⟩ :: _) _ _); refine wpList_load_row_g rfl 33 (.tmp 9) rfl B9 rfl 33 _ (0, 0) _ H9.out.raw Tryd.underlying33 rfl infoP ?_) | (go_at_call 18; with_reducible refine (qvalid_at p c _ HC).mono ?_; rintro r w7 ⟨rfl, hg⟩; replace g0 := g0.trans hg; replace HB := Lib.hid (HB.out.own hg); replace H7 := Lib.hid (H7.out.own hg); replace H9 := Lib.hid (H9.out.own hg); clear hg) | (go_at_call 15; with_reducible refine (awake_at _ (Lib.hid (HD.out.own g0)) (Lib.hid (AimW.tab_own HT.out g0))).mono ?_; rintro r w99 ⟨rfl, hg⟩; replace g0 := g0.trans hg; clear hg))
    go_ret
    exact ⟨by first | rfl | (exact ret_bool (by simp)), g0⟩
set_option maxRecDepth 100000 in
set_option maxHeartbeats 40000000 in
theorem PostureNotated_walk (p : Vl) (u : Int) (w : World) (HD : Hid (Dn w)) (HT : Hid (AngW.Tab w)) :
    Calls Tryd.prog 10 #[.agg (cz 22 p), .int .i64 u] w fun r w' => r = .returned (.bool true) ∧ Own w w' := by
  by_cases h : ntE p u = 0
  · obtain ⟨s, hs⟩ : ∃ x, ntV p u = x := ⟨_, rfl⟩
    obtain ⟨h1, h2, h3⟩ := po_nt h
    have HNT := Lib.hid (show cz 23 (ntV p u) = cz 23 s ∧ ntE p u = 0 from ⟨by rw [hs], h⟩)
    rw [hs] at h1 h2 h3
    have HPO := Lib.hid (show cz 22 (poV s) = cz 22 p ∧ stE s = 0 from ⟨cz_congr h2, h1⟩)
    have HCK := Lib.hid h1
    have HSU := Lib.hid h3
    clear hs h1 h2 h3 h
    go_enter Tryd.func10, Tryd.ntmps10
    go_upto_region 1 with (fail)
    obtain ⟨W0, B, hW, hBq, hb, g0, -⟩ := blk_new w (cz 22 p) 33
    rw [hW, hBq]
    have HB := Lib.hid hb
    clear hW hBq hb
    go_upto_region 2 with (first | ((with_reducible show wpList _ _ _ (⟨_, .load 33 (.tmp 2), _, _, _, none⟩ :: _) _ _); refine wpList_load_row rfl 33 (.tmp 2) rfl B rfl 33 _ (0, 0) _ HB.out.raw Tryd.underlying33 rfl infoP ?_) | (go_at_call 16; with_reducible refine (qnot_at p s u 0 _ (Lib.hid (HD.out.own g0)) HNT).mono ?_; rintro r w1 ⟨rfl, hg⟩; replace g0 := g0.trans hg; replace HB := Lib.hid (HB.out.own hg); clear hg) | ((with_reducible show wpList _ _ _ (⟨_, .store 28 (.tmp 5) (.tmp 12), _, _, _, none⟩ :: _) _ _); refine wpList_store_row rfl 28 (.tmp 5) (.tmp 12) rfl _ (cz 23 (s)) rfl rfl 28 _ (heap_new _ _) infoS rfl (cz_one _ _) ?_; rw [World.setRow_alloc_new]))
    obtain ⟨w2, B5, hW, hBq, hb, hg, B5g⟩ := blk_new w1 (cz 23 s) 28
    rw [hW, hBq]
    have H5 := Lib.hid hb
    replace g0 := g0.trans hg
    replace HB := Lib.hid (HB.out.own hg)
    clear hW hBq hb hg
    clear B5g
    go_upto_region 5 with (first | ((with_reducible show wpList _ _ _ (⟨_, .load 28 (.tmp 5), _, _, _, none⟩ :: _) _ _); refine wpList_load_row rfl 28 (.tmp 5) rfl B5 rfl 28 _ (0, 0) _ H5.out.raw Tryd.underlying28 rfl infoS ?_) | (go_at_call 11; with_reducible refine (qpose_at s p 0 _ (Lib.hid (HD.out.own g0)) HPO).mono ?_; rintro r w3 ⟨rfl, hg⟩; replace g0 := g0.trans hg; replace HB := Lib.hid (HB.out.own hg); replace H5 := Lib.hid (H5.out.own hg); clear hg) | ((with_reducible show wpList _ _ _ (⟨_, .store 33 (.tmp 7) (.tmp 25), _, _, _, none⟩ :: _) _ _); refine wpList_store_row rfl 33 (.tmp 7) (.tmp 25) rfl _ (cz 22 (p)) rfl rfl 33 _ (heap_new _ _) infoP rfl (cz_one _ _) ?_; rw [World.setRow_alloc_new]))
    obtain ⟨w4, B7, hW, hBq, hb, hg, B7g⟩ := blk_new w3 (cz 22 p) 33
    rw [hW, hBq]
    have H7 := Lib.hid hb
    replace g0 := g0.trans hg
    replace HB := Lib.hid (HB.out.own hg)
    replace H5 := Lib.hid (H5.out.own hg)
    clear hW hBq hb hg
    clear B7g
    have k4 : w4.cell? ⟨B5, 4, none⟩ = some (.int .i64 u) := by rw [blk_num H5.out (i := 4) (by omega), HSU.out]
    go_wp2_with (first | ((with_reducible show wpList _ _ _ (⟨_, .load 33 (.tmp 7), _, _, _, none⟩ :: _) _ _); refine wpList_load_row rfl 33 (.tmp 7) rfl B7 rfl 33 _ (0, 0) _ H7.out.raw Tryd.underlying33 rfl infoP ?_) | ((with_reducible show wpList _ _ _ (⟨_, .load 33 (.tmp 7), _, _, _, some _⟩ :: _) _ _); refine wpList_load_row_g rfl 33 (.tmp 7) rfl B7 rfl 33 _ (0, 0) _ H7.out.raw Tryd.underlying33 rfl infoP ?_) | ((with_reducible show wpList _ _ _ (⟨_, .load 33 (.tmp 2), _, _, _, none⟩ :: _) _ _); refine wpList_load_row rfl 33 (.tmp 2) rfl B rfl 33 _ (0, 0) _ HB.out.raw Tryd.underlying33 rfl infoP ?_) | ((with_reducible show wpList _ _ _ (⟨_, .load 33 (.tmp 2), _, _, _, some _⟩ :: _) _ _); refine wpList_load_row_g rfl 33 (.tmp 2) rfl B rfl 33 _ (0, 0) _ HB.out.raw Tryd.underlying33 rfl infoP ?_) | ((with_reducible show wpList _ _ _ (⟨_, .load 28 (.tmp 5), _, _, _, none⟩ :: _) _ _); refine wpList_load_row rfl 28 (.tmp 5) rfl B5 rfl 28 _ (0, 0) _ H5.out.raw Tryd.underlying28 rfl infoS ?_) | ((with_reducible show wpList _ _ _ (⟨_, .load 28 (.tmp 5), _, _, _, some _⟩ :: _) _ _); refine wpList_load_row_g rfl 28 (.tmp 5) rfl B5 rfl 28 _ (0, 0) _ H5.out.raw Tryd.underlying28 rfl infoS ?_) | (go_at_call 13; with_reducible refine (pcheck_at s 0 _ (Lib.hid (HD.out.own g0)) HCK).mono ?_; rintro r w8 ⟨rfl, hg⟩; replace g0 := g0.trans hg; replace HB := Lib.hid (HB.out.own hg); replace H5 := Lib.hid (H5.out.own hg); replace H7 := Lib.hid (H7.out.own hg); clear hg) | (go_at_call 15; with_reducible refine (awake_at _ (Lib.hid (HD.out.own g0)) (Lib.hid (AimW.tab_own HT.out g0))).mono ?_; rintro r w99 ⟨rfl, hg⟩; replace g0 := g0.trans hg; clear hg))
    go_ret
    exact ⟨by first | rfl | (exact ret_bool (by simp)), g0⟩
  · obtain ⟨c, hc⟩ : ∃ c, ntE p u = c := ⟨_, rfl⟩
    have HNT := Lib.hid (show cz 23 (ntV p u) = cz 23 nul ∧ ntE p u = c from ⟨by rw [ntV_no h], hc⟩)
    rw [hc] at h
    have kc : (c != 0) = true := bne_iff_ne.2 h
    clear h hc
    go_enter Tryd.func10, Tryd.ntmps10
    go_upto_region 1 with (fail)
    obtain ⟨W0, B, hW, hBq, hb, g0, -⟩ := blk_new w (cz 22 p) 33
    rw [hW, hBq]
    have HB := Lib.hid hb
    clear hW hBq hb
    go_upto_region 2 with (first | ((with_reducible show wpList _ _ _ (⟨_, .load 33 (.tmp 2), _, _, _, none⟩ :: _) _ _); refine wpList_load_row rfl 33 (.tmp 2) rfl B rfl 33 _ (0, 0) _ HB.out.raw Tryd.underlying33 rfl infoP ?_) | (go_at_call 16; with_reducible refine (qnot_at p nul u c _ (Lib.hid (HD.out.own g0)) HNT).mono ?_; rintro r w1 ⟨rfl, hg⟩; replace g0 := g0.trans hg; replace HB := Lib.hid (HB.out.own hg); clear hg) | ((with_reducible show wpList _ _ _ (⟨_, .store 28 (.tmp 5) (.tmp 12), _, _, _, none⟩ :: _) _ _); refine wpList_store_row rfl 28 (.tmp 5) (.tmp 12) rfl _ (cz 23 (nul)) rfl rfl 28 _ (heap_new _ _) infoS rfl (cz_one _ _) ?_; rw [World.setRow_alloc_new]))
    obtain ⟨w2, B5, hW, hBq, hb, hg, B5g⟩ := blk_new w1 (cz 23 nul) 28
    rw [hW, hBq]
    have H5 := Lib.hid hb
    replace g0 := g0.trans hg
    replace HB := Lib.hid (HB.out.own hg)
    clear hW hBq hb hg
    clear B5g
    go_wp2_with (first | ((with_reducible show wpList _ _ _ (⟨_, .load 28 (.tmp 5), _, _, _, none⟩ :: _) _ _); refine wpList_load_row rfl 28 (.tmp 5) rfl B5 rfl 28 _ (0, 0) _ H5.out.raw Tryd.underlying28 rfl infoS ?_) | ((with_reducible show wpList _ _ _ (⟨_, .load 28 (.tmp 5), _, _, _, some _⟩ :: _) _ _); refine wpList_load_row_g rfl 28 (.tmp 5) rfl B5 rfl 28 _ (0, 0) _ H5.out.raw Tryd.underlying28 rfl infoS ?_) | (go_at_call 15; with_reducible refine (awake_at _ (Lib.hid (HD.out.own g0)) (Lib.hid (AimW.tab_own HT.out g0))).mono ?_; rintro r w99 ⟨rfl, hg⟩; replace g0 := g0.trans hg; clear hg))
    go_ret
    exact ⟨by first | rfl | (exact ret_bool (by simp)), g0⟩
end Go.Proofs.YtneobaininejaaaDoor.PstL
