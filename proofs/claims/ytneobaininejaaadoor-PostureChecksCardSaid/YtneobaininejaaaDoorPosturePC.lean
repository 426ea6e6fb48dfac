/-
  Walks of the program of package posture: Pose, Valid. Condition: Pose wants the target straight down in memory (Dn).
-/
import Derived.Test.YtneobaininejaaaDoorPosturePB
namespace Go.Proofs.YtneobaininejaaaDoor.PstW
open Go.ChangeShapes Go.WideShapes Go.ChangeAt Go.RowKit
open PairW AimP AimW BlkW PrtW PstP
theorem bld_pose (x y f l : Int) (g : Vl) : Tryd.prog.built 33 [(0, .agg #[.int .i64 x, .int .i64 y]), (1, .int .i64 f), (2, .int .i64 l), (3, .agg (cz 18 g))] = some (cz 22 (ps4 x y f l g)) := by kernel_rfl
set_option maxRecDepth 100000 in
set_option maxHeartbeats 2000000 in
theorem qpose_any (s : Vl) (w : World) (HD : Hid (Dn w)) :
    Calls Tryd.prog 11 #[.agg (cz 23 s)] w fun r w' => r = .returned (.tuple #[.agg (cz 22 (poV s)), .int .i64 (stE s)]) ∧ Own w w' := by
  by_cases h : stE s = 0
  · obtain ⟨⟨-, -, b2, b3, -⟩, hf, -⟩ := st_yes h
    have HA := Lib.hid (fe_ok hf)
    have HC := Lib.hid h
    have HV := Lib.hid (show cz 22 (ps4 (s 0) (s 1) (32 * s 2) (8 * s 3) (amV s)) = cz 22 (poV s) by rw [poV_yes h]; unfold poS amV; rw [if_pos HA.out])
    have HBL := Lib.hid (bld_pose (s 0) (s 1) (32 * s 2) (8 * s 3) (amV s))
    rw [h]
    clear hf h
    go_enter Tryd.func11, Tryd.ntmps11
    go_upto_region 1 with (fail)
    obtain ⟨W0, B, P, hW, hP, hB, hb, hp, g0, -, hP0, hne⟩ := two_new w (cz 23 s) 28 (cz 22 nul) 33
    rw [← cz22_nul] at hW
    rw [hW, hP, hB]
    have HB := Lib.hid hb
    have HP := Lib.hid hp
    have HNE := Lib.hid hne
    clear hW hP hB hb hp hne

    go_upto_region 4 with (first | ((with_reducible show wpList _ _ _ (⟨_, .load 28 (.tmp 1), _, _, _, none⟩ :: _) _ _); refine wpList_load_row rfl 28 (.tmp 1) rfl B rfl 28 _ (0, 0) _ HB.out.raw Tryd.underlying28 rfl infoS ?_) | (go_at_call 13; with_reducible refine (pcheck_at s 0 _ (Lib.hid (HD.out.own g0)) HC).mono ?_; rintro r w1 ⟨rfl, hg⟩; replace g0 := g0.trans hg; replace HB := Lib.hid (HB.out.own hg); replace HP := Lib.hid (HP.out.own hg); clear hg))
    go_upto_region 5 with (first | ((with_reducible show wpList _ _ _ (⟨_, .load 26 (.tmp 14), _, _, _, none⟩ :: _) _ _); refine wpList_load_part rfl 26 (.tmp 14) rfl B (5) rfl 18 HB.out (by omega) (cz 18 (fun j => s (5 + j))) rfl _ Tryd.underlying26 rfl infoT6 ?_) | (go_at_call 28; with_reducible refine (paims_at s 0 _ HA).mono ?_; rintro r w2 ⟨rfl, hg⟩; replace g0 := g0.trans hg; replace HB := Lib.hid (HB.out.own hg); replace HP := Lib.hid (HP.out.own hg); clear hg) | ((with_reducible show wpList _ _ _ (⟨_, .store 31 (.tmp 5) (.tmp 17), _, _, _, none⟩ :: _) _ _); refine wpList_store_row rfl 31 (.tmp 5) (.tmp 17) rfl _ (cz 18 (amV s)) rfl rfl 31 _ (heap_new _ _) infoA6 rfl (cz_one _ _) ?_; rw [World.setRow_alloc_new]))
    obtain ⟨w3, C, hW, hBq, hb, hg, Cg⟩ := blk_new w2 (cz 18 (amV s)) 31
    rw [hW, hBq]
    have HC5 := Lib.hid hb
    replace g0 := g0.trans hg
    replace HB := Lib.hid (HB.out.own hg)
    replace HP := Lib.hid (HP.out.own hg)
    clear hW hBq hb hg
    have k2 := blk_num HB.out (i := 2) (by omega)
    have k3 := blk_num HB.out (i := 3) (by omega)
    go_wp2_with (first | ((with_reducible show wpList _ _ _ (⟨_, .load 23 (.tmp 19), _, _, _, none⟩ :: _) _ _); refine wpList_load_part rfl 23 (.tmp 19) rfl B (0) rfl 2 HB.out (by omega) (#[.int .i64 (s 0), .int .i64 (s 1)]) rfl _ Tryd.underlying23 rfl infoPt ?_) | ((with_reducible show wpList _ _ _ (⟨_, .load 31 (.tmp 5), _, _, _, none⟩ :: _) _ _); refine wpList_load_row rfl 31 (.tmp 5) rfl C rfl 31 _ (0, 0) _ HC5.out.raw Tryd.underlying31 rfl infoA6 ?_) | ((with_reducible show wpList _ _ _ (⟨_, .build 33 _, _, _, _, _⟩ :: _) _ _); refine wpList_build_as rfl 33 [(0, .tmp 20), (1, .tmp 23), (2, .tmp 26), (3, .tmp 27)] rfl [(0, .agg #[.int .i64 (s 0), .int .i64 (s 1)]), (1, .int .i64 (32 * s 2)), (2, .int .i64 (8 * s 3)), (3, .agg (cz 18 (amV s)))] rfl (cz 22 (ps4 (s 0) (s 1) (32 * s 2) (8 * s 3) (amV s))) (HBL.out) ?_) | ((with_reducible show wpList _ _ _ (⟨_, .store 33 (.tmp 2) (.tmp 28), _, _, _, none⟩ :: _) _ _); refine wpList_store_row rfl 33 (.tmp 2) (.tmp 28) rfl P (cz 22 (ps4 (s 0) (s 1) (32 * s 2) (8 * s 3) (amV s))) rfl rfl 33 _ HP.out.raw infoP rfl (cz_one _ _) ?_))
    have hp := HP.out.row (cz 22 (ps4 (s 0) (s 1) (32 * s 2) (8 * s 3) (amV s)))
    rw [← HV.out]
    exact bodyPost_ret (blk_results rfl rfl rfl hp Tryd.underlying33 rfl infoP) rfl ⟨rfl, own_setRow g0 hP0 _⟩
  · obtain ⟨c, hc⟩ : ∃ c, stE s = c := ⟨_, rfl⟩
    rw [poV_no h, hc]
    rw [hc] at h
    have kc : (c != 0) = true := bne_iff_ne.2 h
    have HC := Lib.hid hc
    clear h hc
    go_enter Tryd.func11, Tryd.ntmps11
    go_upto_region 1 with (fail)
    obtain ⟨W0, B, P, hW, hP, hB, hb, hp, g0, -, hP0, hne⟩ := two_new w (cz 23 s) 28 (cz 22 nul) 33
    rw [← cz22_nul] at hW
    rw [hW, hP, hB]
    have HB := Lib.hid hb
    have HP := Lib.hid hp
    have HNE := Lib.hid hne
    clear hW hP hB hb hp hne

    go_wp2_with (first | ((with_reducible show wpList _ _ _ (⟨_, .load 28 (.tmp 1), _, _, _, none⟩ :: _) _ _); refine wpList_load_row rfl 28 (.tmp 1) rfl B rfl 28 _ (0, 0) _ HB.out.raw Tryd.underlying28 rfl infoS ?_) | (go_at_call 13; with_reducible refine (pcheck_at s c _ (Lib.hid (HD.out.own g0)) HC).mono ?_; rintro r w1 ⟨rfl, hg⟩; replace g0 := g0.trans hg; replace HB := Lib.hid (HB.out.own hg); replace HP := Lib.hid (HP.out.own hg); clear hg) | ((with_reducible show wpList _ _ _ (⟨_, .store 33 (.tmp 2) (.tmp 11), _, _, _, none⟩ :: _) _ _); refine wpList_store_row rfl 33 (.tmp 2) (.tmp 11) rfl P (cz 22 (nul)) rfl rfl 33 _ HP.out.raw infoP rfl (cz_one _ _) ?_))
    have hp := HP.out.row (cz 22 nul)
    exact bodyPost_ret (blk_results rfl rfl rfl hp Tryd.underlying33 rfl infoP) rfl ⟨rfl, own_setRow g0 hP0 _⟩
theorem qpose_at (s p : Vl) (c : Int) (w : World) (HD : Hid (Dn w)) (H : Hid (cz 22 (poV s) = cz 22 p ∧ stE s = c)) :
    Calls Tryd.prog 11 #[.agg (cz 23 s)] w fun r w' => r = .returned (.tuple #[.agg (cz 22 p), .int .i64 c]) ∧ Own w w' := by
  rw [← H.out.1, ← H.out.2]
  exact qpose_any s w HD
set_option maxRecDepth 100000 in
set_option maxHeartbeats 2000000 in
theorem qvalid_any (p : Vl) (w : World) :
    Calls Tryd.prog 18 #[.agg (cz 22 p)] w fun r w' => r = .returned (.int .i64 (vaE p)) ∧ Own w w' := by
  by_cases hp : (-32768 ≤ p 0 ∧ p 0 ≤ 32768) ∧ -32768 ≤ p 1 ∧ p 1 ≤ 32768
  · have HP := Lib.hid (pl_yes hp.1 hp.2)
    by_cases he : 0 ≤ p 2 ∧ p 2 ≤ 255
    · have HE := Lib.hid ((an_iff (p 2)).2 he)
      by_cases hl : -8 ≤ p 3 ∧ p 3 ≤ 8
      · have HL := Lib.hid ((lf_iff (p 3)).2 hl)
        have hv : vaE p = fe (pE p) := if_pos (show paR p from ⟨hp.1, hp.2, he, hl⟩)
        rw [hv]
        clear hp he hl hv
        have HX := Lib.hid (fun (k : Nat) (h : k < 6) => idxA p h)
        go_enter Tryd.func18, Tryd.ntmps18
        go_upto_region 1 with (fail)
        obtain ⟨W0, B, hW, hBq, hb, g0, -⟩ := blk_new w (cz 22 p) 33
        rw [hW, hBq]
        have HB := Lib.hid hb
        have k2 := blk_num hb (i := 2) (by omega)
        have k3 := blk_num hb (i := 3) (by omega)
        clear hW hBq hb

        go_upto_region 3 with (first | ((with_reducible show wpList _ _ _ (⟨_, .load 23 (.tmp 6), _, _, _, none⟩ :: _) _ _); refine wpList_load_part rfl 23 (.tmp 6) rfl B (0) rfl 2 HB.out (by omega) (#[.int .i64 (p 0), .int .i64 (p 1)]) rfl _ Tryd.underlying23 rfl infoPt ?_) | (go_at_call 30; with_reducible refine (ppl_at _ _ true _ HP).mono ?_; rintro r w1 ⟨rfl, hg⟩; replace g0 := g0.trans hg; replace HB := Lib.hid (HB.out.own hg); replace k2 := hg.cell k2; replace k3 := hg.cell k3; clear hg) | (go_at_call 42; with_reducible refine (pan_at _ true _ HE).mono ?_; rintro r w1 ⟨rfl, rfl⟩) | (go_at_call 43; with_reducible refine (plf_at _ true _ HL).mono ?_; rintro r w1 ⟨rfl, rfl⟩))
        clear k2 k3 HP HE HL
        go_wp2_with ((with_reducible show wpList _ _ _ (⟨_, .load 31 (.tmp 22), _, _, _, none⟩ :: _) _ _); refine wpList_load_part rfl 31 (.tmp 22) rfl B (3 + 1) rfl 18 HB.out (by omega) (cz 18 (fun j => p (4 + j))) rfl _ Tryd.underlying31 rfl infoA6 ?_)
        generalize cz 18 (fun j => p (4 + j)) = TT at *
        clear HB
        go_loopw [3, 4, 5, 24] (fun _ _ _ vi wr => ∃ k : Nat, vi = .int .i64 (k : Int) ∧ k ≤ 6 ∧ (∀ i, i < k → pE p i = 0) ∧ Own w wr) (fun _ _ _ vi _ => 6 - (intOf vi).toNat)
        case atStart => exact ⟨0, rfl, by omega, fun i hi => absurd hi (by omega), g0⟩
        case round =>
          clear g0
          obtain ⟨k, rfl, hk, hz, g0⟩ := hrel
          have HZ := Lib.hid hz
          clear hz
          by_cases hlt : k < 6
          · have ix := HX.out k hlt
            obtain ⟨c, hc⟩ : ∃ x, pE p k = x := ⟨_, rfl⟩
            have HO := Lib.hid hc
            have HOF := Lib.hid (show chk k (p (4 + k * 3)) (p (4 + k * 3 + 1)) (p (4 + k * 3 + 2)) = c from hc)
            clear hc
            have hkn : (k : Int) < 6 := by omega
            generalize p (4 + k * 3) = z0 at ix HOF
            generalize p (4 + k * 3 + 1) = e0 at ix HOF
            generalize p (4 + k * 3 + 2) = b0 at ix HOF
            go_upto_region 6 with (fail)
            obtain ⟨w1, E, hW, hBq, hb, hg, Eg⟩ := blk_new wr (#[.int .i64 z0, .int .i64 e0, .int .i64 b0]) 30
            rw [hW, hBq]
            have HE := Lib.hid hb
            replace g0 := g0.trans hg
            clear hW hBq hb hg
            by_cases c0 : c = 0
            · subst c0
              go_wp2_with (first | ((with_reducible show wpList _ _ _ (⟨_, .load 30 (.tmp 4), _, _, _, none⟩ :: _) _ _); refine wpList_load_row rfl 30 (.tmp 4) rfl E rfl 30 _ (0, 0) _ HE.out.raw Tryd.underlying30 rfl infoA ?_) | (go_at_call 44; with_reducible refine (AimW.pcheck_at k z0 e0 b0 0 _ HOF).mono ?_; rintro r w2 ⟨rfl, hg⟩; replace g0 := g0.trans hg; clear hg))
              go_roundw
              case rel =>
                refine ⟨k + 1, by go_num, hlt, fun i hi => ?_, g0⟩
                by_cases e : i = k
                · rw [e]; exact HO.out
                · exact HZ.out i (by omega)
              case measure => simp [intOf]; omega
            · have kc : (c != 0) = true := bne_iff_ne.2 c0
              have HV := Lib.hid (show c = fe (pE p) by rw [fe_at HZ.out (by rw [HO.out]; exact c0) hlt]; exact HO.out.symm)
              clear HO HZ HX c0
              go_wp2_with (first | ((with_reducible show wpList _ _ _ (⟨_, .load 30 (.tmp 4), _, _, _, none⟩ :: _) _ _); refine wpList_load_row rfl 30 (.tmp 4) rfl E rfl 30 _ (0, 0) _ HE.out.raw Tryd.underlying30 rfl infoA ?_) | (go_at_call 44; with_reducible refine (AimW.pcheck_at k z0 e0 b0 c _ HOF).mono ?_; rintro r w2 ⟨rfl, hg⟩; replace g0 := g0.trans hg; clear hg))
              go_ret
              exact ⟨ret_int HV.out, g0⟩
          · obtain rfl : k = 6 := by omega
            have HV := Lib.hid (show 0 = fe (pE p) from (fe_ok HZ.out).symm)
            clear HZ HX
            go_wp2
            go_ret
            exact ⟨ret_int HV.out, g0⟩
      · have HL := Lib.hid ((lf_no (p 3)).2 (by omega))
        have hv : vaE p = 1 := if_neg (fun x : paR p => hl x.2.2.2)
        rw [hv]
        clear hp he hl hv
        go_enter Tryd.func18, Tryd.ntmps18
        go_upto_region 1 with (fail)
        obtain ⟨W0, B, hW, hBq, hb, g0, -⟩ := blk_new w (cz 22 p) 33
        rw [hW, hBq]
        have HB := Lib.hid hb
        have k2 := blk_num hb (i := 2) (by omega)
        have k3 := blk_num hb (i := 3) (by omega)
        clear hW hBq hb
        go_wp2_with (first | ((with_reducible show wpList _ _ _ (⟨_, .load 23 (.tmp 6), _, _, _, none⟩ :: _) _ _); refine wpList_load_part rfl 23 (.tmp 6) rfl B (0) rfl 2 HB.out (by omega) (#[.int .i64 (p 0), .int .i64 (p 1)]) rfl _ Tryd.underlying23 rfl infoPt ?_) | (go_at_call 30; with_reducible refine (ppl_at _ _ true _ HP).mono ?_; rintro r w1 ⟨rfl, hg⟩; replace g0 := g0.trans hg; replace HB := Lib.hid (HB.out.own hg); replace k2 := hg.cell k2; replace k3 := hg.cell k3; clear hg) | (go_at_call 42; with_reducible refine (pan_at _ true _ HE).mono ?_; rintro r w1 ⟨rfl, rfl⟩) | (go_at_call 43; with_reducible refine (plf_at _ false _ HL).mono ?_; rintro r w1 ⟨rfl, rfl⟩))
        go_ret
        exact ⟨rfl, g0⟩

    · have HE := Lib.hid ((an_no (p 2)).2 (by omega))
      have hv : vaE p = 1 := if_neg (fun x : paR p => he x.2.2.1)
      rw [hv]
      clear hp he hv
      go_enter Tryd.func18, Tryd.ntmps18
      go_upto_region 1 with (fail)
      obtain ⟨W0, B, hW, hBq, hb, g0, -⟩ := blk_new w (cz 22 p) 33
      rw [hW, hBq]
      have HB := Lib.hid hb
      have k2 := blk_num hb (i := 2) (by omega)
      have k3 := blk_num hb (i := 3) (by omega)
      clear hW hBq hb
      go_wp2_with (first | ((with_reducible show wpList _ _ _ (⟨_, .load 23 (.tmp 6), _, _, _, none⟩ :: _) _ _); refine wpList_load_part rfl 23 (.tmp 6) rfl B (0) rfl 2 HB.out (by omega) (#[.int .i64 (p 0), .int .i64 (p 1)]) rfl _ Tryd.underlying23 rfl infoPt ?_) | (go_at_call 30; with_reducible refine (ppl_at _ _ true _ HP).mono ?_; rintro r w1 ⟨rfl, hg⟩; replace g0 := g0.trans hg; replace HB := Lib.hid (HB.out.own hg); replace k2 := hg.cell k2; replace k3 := hg.cell k3; clear hg) | (go_at_call 42; with_reducible refine (pan_at _ false _ HE).mono ?_; rintro r w1 ⟨rfl, rfl⟩))
      go_ret
      exact ⟨rfl, g0⟩

  · have HP := Lib.hid (pl_no hp)
    have hv : vaE p = 1 := if_neg (fun x : paR p => hp ⟨x.1, x.2.1⟩)
    rw [hv]
    clear hp hv
    go_enter Tryd.func18, Tryd.ntmps18
    go_upto_region 1 with (fail)
    obtain ⟨W0, B, hW, hBq, hb, g0, -⟩ := blk_new w (cz 22 p) 33
    rw [hW, hBq]
    have HB := Lib.hid hb
    have k2 := blk_num hb (i := 2) (by omega)
    have k3 := blk_num hb (i := 3) (by omega)
    clear hW hBq hb
    go_wp2_with (first | ((with_reducible show wpList _ _ _ (⟨_, .load 23 (.tmp 6), _, _, _, none⟩ :: _) _ _); refine wpList_load_part rfl 23 (.tmp 6) rfl B (0) rfl 2 HB.out (by omega) (#[.int .i64 (p 0), .int .i64 (p 1)]) rfl _ Tryd.underlying23 rfl infoPt ?_) | (go_at_call 30; with_reducible refine (ppl_at _ _ false _ HP).mono ?_; rintro r w1 ⟨rfl, hg⟩; replace g0 := g0.trans hg; replace HB := Lib.hid (HB.out.own hg); replace k2 := hg.cell k2; replace k3 := hg.cell k3; clear hg))
    go_ret
    exact ⟨rfl, g0⟩

theorem qvalid_at (p : Vl) (c : Int) (w : World) (H : Hid (vaE p = c)) :
    Calls Tryd.prog 18 #[.agg (cz 22 p)] w fun r w' => r = .returned (.int .i64 c) ∧ Own w w' := by
  rw [← H.out]
  exact qvalid_any p w
end Go.Proofs.YtneobaininejaaaDoor.PstW
