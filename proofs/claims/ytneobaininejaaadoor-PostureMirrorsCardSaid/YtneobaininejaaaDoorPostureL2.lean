/-
  Walks of the laws of package posture: PostureMirrors, PostureRotates. Condition: the target straight down and the table of sines lie in memory (Dn, Tab).
-/
import Derived.Test.YtneobaininejaaaDoorPostureT
import Derived.Test.YtneobaininejaaaDoorPostureE
import Derived.Test.YtneobaininejaaaDoorPostureF
namespace Go.Proofs.YtneobaininejaaaDoor.PstL
open Go.ChangeShapes Go.WideShapes Go.ChangeAt Go.RowKit
open PstW PstQ PairW AimP AimW BlkW PrtW PstP
set_option maxRecDepth 100000 in
set_option maxHeartbeats 40000000 in
theorem PostureMirrors_walk (s p : Vl) (w : World) (HD : Hid (Dn w)) (HT : Hid (AngW.Tab w)) :
    Calls Tryd.prog 5 #[.agg (cz 23 s), .agg (cz 22 p)] w fun r w' => r = .returned (.bool true) ∧ Own w w' := by
  obtain ⟨a, ha⟩ : ∃ x, miV s = x := ⟨_, rfl⟩
  obtain ⟨e, he⟩ : ∃ x, stE s = x := ⟨_, rfl⟩
  obtain ⟨b, hb⟩ : ∃ x, mpV p = x := ⟨_, rfl⟩
  obtain ⟨f, hf⟩ : ∃ x, vaE p = x := ⟨_, rfl⟩
  have H1 := Lib.hid (show cz 23 (miV s) = cz 23 a ∧ stE s = e from ⟨by rw [ha], he⟩)
  have H2 := Lib.hid (show cz 22 (mpV p) = cz 22 b ∧ vaE p = f from ⟨by rw [hb], hf⟩)
  clear ha he hb hf
  go_enter Tryd.func5, Tryd.ntmps5
  go_upto_region 1 with (fail)
  obtain ⟨W0, B, C, hW, hC, hBq, hb, hc, g0, -, -, -⟩ := two_new w (cz 23 s) 28 (cz 22 p) 33
  rw [hW, hC, hBq]
  have HB := Lib.hid hb
  have HC := Lib.hid hc
  clear hW hC hBq hb hc
  go_upto_region 2 with (first | ((with_reducible show wpList _ _ _ (⟨_, .load 28 (.tmp 2), _, _, _, none⟩ :: _) _ _); refine wpList_load_row rfl 28 (.tmp 2) rfl B rfl 28 _ (0, 0) _ HB.out.raw Tryd.underlying28 rfl infoS ?_) | (go_at_call 20; with_reducible refine (qmirror_at s a e _ (Lib.hid (HD.out.own g0)) H1).mono ?_; rintro r w1 ⟨rfl, hg⟩; replace g0 := g0.trans hg; replace HB := Lib.hid (HB.out.own hg); replace HC := Lib.hid (HC.out.own hg); clear hg) | ((with_reducible show wpList _ _ _ (⟨_, .store 28 (.tmp 5) (.tmp 16), _, _, _, none⟩ :: _) _ _); refine wpList_store_row rfl 28 (.tmp 5) (.tmp 16) rfl _ (cz 23 (a)) rfl rfl 28 _ (heap_new _ _) infoS rfl (cz_one _ _) ?_; rw [World.setRow_alloc_new]))
  obtain ⟨w2, B5, hW, hBq, hb, hg, B5g⟩ := blk_new w1 (cz 23 a) 28
  rw [hW, hBq]
  have H5 := Lib.hid hb
  replace g0 := g0.trans hg
  replace HB := Lib.hid (HB.out.own hg)
  replace HC := Lib.hid (HC.out.own hg)
  clear hW hBq hb hg
  clear B5g
  go_upto_region 3 with (first | ((with_reducible show wpList _ _ _ (⟨_, .load 28 (.tmp 2), _, _, _, none⟩ :: _) _ _); refine wpList_load_row rfl 28 (.tmp 2) rfl B rfl 28 _ (0, 0) _ HB.out.raw Tryd.underlying28 rfl infoS ?_) | (go_at_call 21; with_reducible refine (rmirror_at s a e _ H1).mono ?_; rintro r w3 ⟨rfl, hg⟩; replace g0 := g0.trans hg; replace HB := Lib.hid (HB.out.own hg); replace HC := Lib.hid (HC.out.own hg); replace H5 := Lib.hid (H5.out.own hg); clear hg) | ((with_reducible show wpList _ _ _ (⟨_, .store 28 (.tmp 7) (.tmp 21), _, _, _, none⟩ :: _) _ _); refine wpList_store_row rfl 28 (.tmp 7) (.tmp 21) rfl _ (cz 23 (a)) rfl rfl 28 _ (heap_new _ _) infoS rfl (cz_one _ _) ?_; rw [World.setRow_alloc_new]))
  obtain ⟨w4, B7, hW, hBq, hb, hg, B7g⟩ := blk_new w3 (cz 23 a) 28
  rw [hW, hBq]
  have H7 := Lib.hid hb
  replace g0 := g0.trans hg
  replace HB := Lib.hid (HB.out.own hg)
  replace HC := Lib.hid (HC.out.own hg)
  replace H5 := Lib.hid (H5.out.own hg)
  clear hW hBq hb hg
  clear B7g
  go_upto_region 4 with (first | ((with_reducible show wpList _ _ _ (⟨_, .load 33 (.tmp 3), _, _, _, none⟩ :: _) _ _); refine wpList_load_row rfl 33 (.tmp 3) rfl C rfl 33 _ (0, 0) _ HC.out.raw Tryd.underlying33 rfl infoP ?_) | (go_at_call 22; with_reducible refine (qmirp_at p b f _ H2).mono ?_; rintro r w5 ⟨rfl, hg⟩; replace g0 := g0.trans hg; replace HB := Lib.hid (HB.out.own hg); replace HC := Lib.hid (HC.out.own hg); replace H5 := Lib.hid (H5.out.own hg); replace H7 := Lib.hid (H7.out.own hg); clear hg) | ((with_reducible show wpList _ _ _ (⟨_, .store 33 (.tmp 9) (.tmp 26), _, _, _, none⟩ :: _) _ _); refine wpList_store_row rfl 33 (.tmp 9) (.tmp 26) rfl _ (cz 22 (b)) rfl rfl 33 _ (heap_new _ _) infoP rfl (cz_one _ _) ?_; rw [World.setRow_alloc_new]))
  obtain ⟨w6, B9, hW, hBq, hb, hg, B9g⟩ := blk_new w5 (cz 22 b) 33
  rw [hW, hBq]
  have H9 := Lib.hid hb
  replace g0 := g0.trans hg
  replace HB := Lib.hid (HB.out.own hg)
  replace HC := Lib.hid (HC.out.own hg)
  replace H5 := Lib.hid (H5.out.own hg)
  replace H7 := Lib.hid (H7.out.own hg)
  clear hW hBq hb hg
  clear B9g
  go_upto_region 5 with (first | ((with_reducible show wpList _ _ _ (⟨_, .load 33 (.tmp 3), _, _, _, none⟩ :: _) _ _); refine wpList_load_row rfl 33 (.tmp 3) rfl C rfl 33 _ (0, 0) _ HC.out.raw Tryd.underlying33 rfl infoP ?_) | (go_at_call 23; with_reducible refine (rmirp_at p b f _ H2).mono ?_; rintro r w7 ⟨rfl, hg⟩; replace g0 := g0.trans hg; replace HB := Lib.hid (HB.out.own hg); replace HC := Lib.hid (HC.out.own hg); replace H5 := Lib.hid (H5.out.own hg); replace H7 := Lib.hid (H7.out.own hg); replace H9 := Lib.hid (H9.out.own hg); clear hg) | ((with_reducible show wpList _ _ _ (⟨_, .store 33 (.tmp 11) (.tmp 31), _, _, _, none⟩ :: _) _ _); refine wpList_store_row rfl 33 (.tmp 11) (.tmp 31) rfl _ (cz 22 (b)) rfl rfl 33 _ (heap_new _ _) infoP rfl (cz_one _ _) ?_; rw [World.setRow_alloc_new]))
  obtain ⟨w8, B11, hW, hBq, hb, hg, B11g⟩ := blk_new w7 (cz 22 b) 33
  rw [hW, hBq]
  have H11 := Lib.hid hb
  replace g0 := g0.trans hg
  replace HB := Lib.hid (HB.out.own hg)
  replace HC := Lib.hid (HC.out.own hg)
  replace H5 := Lib.hid (H5.out.own hg)
  replace H7 := Lib.hid (H7.out.own hg)
  replace H9 := Lib.hid (H9.out.own hg)
  clear hW hBq hb hg
  clear B11g
  go_wp2_with (first | ((with_reducible show wpList _ _ _ (⟨_, .load 28 (.tmp 5), _, _, _, none⟩ :: _) _ _); refine wpList_load_row rfl 28 (.tmp 5) rfl B5 rfl 28 _ (0, 0) _ H5.out.raw Tryd.underlying28 rfl infoS ?_) | ((with_reducible show wpList _ _ _ (⟨_, .load 28 (.tmp 5), _, _, _, some _⟩ :: _) _ _); refine wpList_load_row_g rfl 28 (.tmp 5) rfl B5 rfl 28 _ (0, 0) _ H5.out.raw Tryd.underlying28 rfl infoS ?_) | ((with_reducible show wpList _ _ _ (⟨_, .load 28 (.tmp 7), _, _, _, none⟩ :: _) _ _); refine wpList_load_row rfl 28 (.tmp 7) rfl B7 rfl 28 _ (0, 0) _ H7.out.raw Tryd.underlying28 rfl infoS ?_) | ((with_reducible show wpList _ _ _ (⟨_, .load 28 (.tmp 7), _, _, _, some _⟩ :: _) _ _); refine wpList_load_row_g rfl 28 (.tmp 7) rfl B7 rfl 28 _ (0, 0) _ H7.out.raw Tryd.underlying28 rfl infoS ?_) | ((with_reducible show wpList _ _ _ (⟨_, .load 33 (.tmp 9), _, _, _, none⟩ :: _) _ _); refine wpList_load_row rfl 33 (.tmp 9) rfl B9 rfl 33 _ (0, 0) _ H9.out.raw Tryd.underlying33 rfl infoP ?_) | ((with_reducible show wpList _ _ _ (⟨_, .load 33 (.tmp 9), _, _, _, some _⟩ :: _) _ _); refine wpList_load_row_g rfl 33 (.tmp 9) rfl B9 rfl 33 _ (0, 0) _ H9.out.raw Tryd.underlying33 rfl infoP ?_) | ((with_reducible show wpList _ _ _ (⟨_, .load 33 (.tmp 11), _, _, _, none⟩ :: _) _ _); refine wpList_load_row rfl 33 (.tmp 11) rfl B11 rfl 33 _ (0, 0) _ H11.out.raw Tryd.underlying33 rfl infoP ?_) | ((with_reducible show wpList _ _ _ (⟨_, .load 33 (.tmp 11), _, _, _, some _⟩ :: _) _ _); refine wpList_load_row_g rfl 33 (.tmp 11) rfl B11 rfl 33 _ (0, 0) _ H11.out.raw Tryd.underlying33 rfl infoP ?_) | (go_at_call 15; with_reducible refine (awake_at _ (Lib.hid (HD.out.own g0)) (Lib.hid (AimW.tab_own HT.out g0))).mono ?_; rintro r w99 ⟨rfl, hg⟩; replace g0 := g0.trans hg; clear hg))
  go_ret
  exact ⟨by first | rfl | (exact ret_bool (by simp)), g0⟩
set_option maxRecDepth 100000 in
set_option maxHeartbeats 40000000 in
theorem PostureRotates_walk (s p : Vl) (n : Int) (w : World) (HD : Hid (Dn w)) (HT : Hid (AngW.Tab w)) :
    Calls Tryd.prog 6 #[.agg (cz 23 s), .agg (cz 22 p), .int .i64 n] w fun r w' => r = .returned (.bool true) ∧ Own w w' := by
  obtain ⟨a, ha⟩ : ∃ x, roV s n = x := ⟨_, rfl⟩
  obtain ⟨e, he⟩ : ∃ x, stE s = x := ⟨_, rfl⟩
  obtain ⟨b, hb⟩ : ∃ x, rpV p n = x := ⟨_, rfl⟩
  obtain ⟨f, hf⟩ : ∃ x, vaE p = x := ⟨_, rfl⟩
  have H1 := Lib.hid (show cz 23 (roV s n) = cz 23 a ∧ stE s = e from ⟨by rw [ha], he⟩)
  have H2 := Lib.hid (show cz 22 (rpV p n) = cz 22 b ∧ vaE p = f from ⟨by rw [hb], hf⟩)
  clear ha he hb hf
  go_enter Tryd.func6, Tryd.ntmps6
  go_upto_region 1 with (fail)
  obtain ⟨W0, B, C, hW, hC, hBq, hb, hc, g0, -, -, -⟩ := two_new w (cz 23 s) 28 (cz 22 p) 33
  rw [hW, hC, hBq]
  have HB := Lib.hid hb
  have HC := Lib.hid hc
  clear hW hC hBq hb hc
  go_upto_region 2 with (first | ((with_reducible show wpList _ _ _ (⟨_, .load 28 (.tmp 3), _, _, _, none⟩ :: _) _ _); refine wpList_load_row rfl 28 (.tmp 3) rfl B rfl 28 _ (0, 0) _ HB.out.raw Tryd.underlying28 rfl infoS ?_) | (go_at_call 24; with_reducible refine (qrotate_at s a n e _ (Lib.hid (HD.out.own g0)) (Lib.hid (AimW.tab_own HT.out g0)) H1).mono ?_; rintro r w1 ⟨rfl, hg⟩; replace g0 := g0.trans hg; replace HB := Lib.hid (HB.out.own hg); replace HC := Lib.hid (HC.out.own hg); clear hg) | ((with_reducible show wpList _ _ _ (⟨_, .store 28 (.tmp 7) (.tmp 19), _, _, _, none⟩ :: _) _ _); refine wpList_store_row rfl 28 (.tmp 7) (.tmp 19) rfl _ (cz 23 (a)) rfl rfl 28 _ (heap_new _ _) infoS rfl (cz_one _ _) ?_; rw [World.setRow_alloc_new]))
  obtain ⟨w2, B5, hW, hBq, hb, hg, B5g⟩ := blk_new w1 (cz 23 a) 28
  rw [hW, hBq]
  have H5 := Lib.hid hb
  replace g0 := g0.trans hg
  replace HB := Lib.hid (HB.out.own hg)
  replace HC := Lib.hid (HC.out.own hg)
  clear hW hBq hb hg
  clear B5g
  go_upto_region 3 with (first | ((with_reducible show wpList _ _ _ (⟨_, .load 28 (.tmp 3), _, _, _, none⟩ :: _) _ _); refine wpList_load_row rfl 28 (.tmp 3) rfl B rfl 28 _ (0, 0) _ HB.out.raw Tryd.underlying28 rfl infoS ?_) | (go_at_call 25; with_reducible refine (rrotate_at s a n e _ H1).mono ?_; rintro r w3 ⟨rfl, hg⟩; replace g0 := g0.trans hg; replace HB := Lib.hid (HB.out.own hg); replace HC := Lib.hid (HC.out.own hg); replace H5 := Lib.hid (H5.out.own hg); clear hg) | ((with_reducible show wpList _ _ _ (⟨_, .store 28 (.tmp 9) (.tmp 25), _, _, _, none⟩ :: _) _ _); refine wpList_store_row rfl 28 (.tmp 9) (.tmp 25) rfl _ (cz 23 (a)) rfl rfl 28 _ (heap_new _ _) infoS rfl (cz_one _ _) ?_; rw [World.setRow_alloc_new]))
  obtain ⟨w4, B7, hW, hBq, hb, hg, B7g⟩ := blk_new w3 (cz 23 a) 28
  rw [hW, hBq]
  have H7 := Lib.hid hb
  replace g0 := g0.trans hg
  replace HB := Lib.hid (HB.out.own hg)
  replace HC := Lib.hid (HC.out.own hg)
  replace H5 := Lib.hid (H5.out.own hg)
  clear hW hBq hb hg
  clear B7g
  go_upto_region 4 with (first | ((with_reducible show wpList _ _ _ (⟨_, .load 33 (.tmp 4), _, _, _, none⟩ :: _) _ _); refine wpList_load_row rfl 33 (.tmp 4) rfl C rfl 33 _ (0, 0) _ HC.out.raw Tryd.underlying33 rfl infoP ?_) | (go_at_call 26; with_reducible refine (qrotp_at p b n f _ (Lib.hid (AimW.tab_own HT.out g0)) H2).mono ?_; rintro r w5 ⟨rfl, hg⟩; replace g0 := g0.trans hg; replace HB := Lib.hid (HB.out.own hg); replace HC := Lib.hid (HC.out.own hg); replace H5 := Lib.hid (H5.out.own hg); replace H7 := Lib.hid (H7.out.own hg); clear hg) | ((with_reducible show wpList _ _ _ (⟨_, .store 33 (.tmp 11) (.tmp 31), _, _, _, none⟩ :: _) _ _); refine wpList_store_row rfl 33 (.tmp 11) (.tmp 31) rfl _ (cz 22 (b)) rfl rfl 33 _ (heap_new _ _) infoP rfl (cz_one _ _) ?_; rw [World.setRow_alloc_new]))
  obtain ⟨w6, B9, hW, hBq, hb, hg, B9g⟩ := blk_new w5 (cz 22 b) 33
  rw [hW, hBq]
  have H9 := Lib.hid hb
  replace g0 := g0.trans hg
  replace HB := Lib.hid (HB.out.own hg)
  replace HC := Lib.hid (HC.out.own hg)
  replace H5 := Lib.hid (H5.out.own hg)
  replace H7 := Lib.hid (H7.out.own hg)
  clear hW hBq hb hg
  clear B9g
  go_upto_region 5 with (first | ((with_reducible show wpList _ _ _ (⟨_, .load 33 (.tmp 4), _, _, _, none⟩ :: _) _ _); refine wpList_load_row rfl 33 (.tmp 4) rfl C rfl 33 _ (0, 0) _ HC.out.raw Tryd.underlying33 rfl infoP ?_) | (go_at_call 27; with_reducible refine (rrotp_at p b n f _ H2).mono ?_; rintro r w7 ⟨rfl, hg⟩; replace g0 := g0.trans hg; replace HB := Lib.hid (HB.out.own hg); replace HC := Lib.hid (HC.out.own hg); replace H5 := Lib.hid (H5.out.own hg); replace H7 := Lib.hid (H7.out.own hg); replace H9 := Lib.hid (H9.out.own hg); clear hg) | ((with_reducible show wpList _ _ _ (⟨_, .store 33 (.tmp 13) (.tmp 37), _, _, _, none⟩ :: _) _ _); refine wpList_store_row rfl 33 (.tmp 13) (.tmp 37) rfl _ (cz 22 (b)) rfl rfl 33 _ (heap_new _ _) infoP rfl (cz_one _ _) ?_; rw [World.setRow_alloc_new]))
  obtain ⟨w8, B11, hW, hBq, hb, hg, B11g⟩ := blk_new w7 (cz 22 b) 33
  rw [hW, hBq]
  have H11 := Lib.hid hb
  replace g0 := g0.trans hg
  replace HB := Lib.hid (HB.out.own hg)
  replace HC := Lib.hid (HC.out.own hg)
  replace H5 := Lib.hid (H5.out.own hg)
  replace H7 := Lib.hid (H7.out.own hg)
  replace H9 := Lib.hid (H9.out.own hg)
  clear hW hBq hb hg
  clear B11g
  go_wp2_with (first | ((with_reducible show wpList _ _ _ (⟨_, .load 28 (.tmp 7), _, _, _, none⟩ :: _) _ _); refine wpList_load_row rfl 28 (.tmp 7) rfl B5 rfl 28 _ (0, 0) _ H5.out.raw Tryd.underlying28 rfl infoS ?_) | ((with_reducible show wpList _ _ _ (⟨_, .load 28 (.tmp 7), _, _, _, some _⟩ :: _) _ _); refine wpList_load_row_g rfl 28 (.tmp 7) rfl B5 rfl 28 _ (0, 0) _ H5.out.raw Tryd.underlying28 rfl infoS ?_) | ((with_reducible show wpList _ _ _ (⟨_, .load 28 (.tmp 9), _, _, _, none⟩ :: _) _ _); refine wpList_load_row rfl 28 (.tmp 9) rfl B7 rfl 28 _ (0, 0) _ H7.out.raw Tryd.underlying28 rfl infoS ?_) | ((with_reducible show wpList _ _ _ (⟨_, .load 28 (.tmp 9), _, _, _, some _⟩ :: _) _ _); refine wpList_load_row_g rfl 28 (.tmp 9) rfl B7 rfl 28 _ (0, 0) _ H7.out.raw Tryd.underlying28 rfl infoS ?_) | ((with_reducible show wpList _ _ _ (⟨_, .load 33 (.tmp 11), _, _, _, none⟩ :: _) _ _); refine wpList_load_row rfl 33 (.tmp 11) rfl B9 rfl 33 _ (0, 0) _ H9.out.raw Tryd.underlying33 rfl infoP ?_) | ((with_reducible show wpList _ _ _ (⟨_, .load 33 (.tmp 11), _, _, _, some _⟩ :: _) _ _); refine wpList_load_row_g rfl 33 (.tmp 11) rfl B9 rfl 33 _ (0, 0) _ H9.out.raw Tryd.underlying33 rfl infoP ?_) | ((with_reducible show wpList _ _ _ (⟨_, .load 33 (.tmp 13), _, _, _, none⟩ :: _) _ _); refine wpList_load_row rfl 33 (.tmp 13) rfl B11 rfl 33 _ (0, 0) _ H11.out.raw Tryd.underlying33 rfl infoP ?_) | ((with_reducible show wpList _ _ _ (⟨_, .load 33 (.tmp 13), _, _, _, some _⟩ :: _) _ _); refine wpList_load_row_g rfl 33 (.tmp 13) rfl B11 rfl 33 _ (0, 0) _ H11.out.raw Tryd.underlying33 rfl infoP ?_) | (go_at_call 15; with_reducible refine (awake_at _ (Lib.hid (HD.out.own g0)) (Lib.hid (AimW.tab_own HT.out g0))).mono ?_; rintro r w99 ⟨rfl, hg⟩; replace g0 := g0.trans hg; clear hg))
  go_ret
  exact ⟨by first | rfl | (exact ret_bool (by simp)), g0⟩
end Go.Proofs.YtneobaininejaaaDoor.PstL
