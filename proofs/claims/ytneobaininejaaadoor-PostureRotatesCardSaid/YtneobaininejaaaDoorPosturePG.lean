/-
  Walks of the program of package posture: MirrorPose. Condition: none.
-/
import Derived.Test.YtneobaininejaaaDoorPosturePF
namespace Go.Proofs.YtneobaininejaaaDoor.PstW
open Go.ChangeShapes Go.WideShapes Go.ChangeAt Go.RowKit
open PairW AimP AimW BlkW PrtW PstP
theorem bld_pose3 (x y f l : Int) : Tryd.prog.built 33 [(0, .agg #[.int .i64 x, .int .i64 y]), (1, .int .i64 f), (2, .int .i64 l)] = some (cz 22 (ps4 x y f l nul)) := by kernel_rfl
set_option maxRecDepth 100000 in
set_option maxHeartbeats 2000000 in
theorem qmirp_any (p : Vl) (w : World) :
    Calls Tryd.prog 22 #[.agg (cz 22 p)] w fun r w' => r = .returned (.tuple #[.agg (cz 22 (mpV p)), .int .i64 (vaE p)]) ∧ Own w w' := by
  by_cases h : vaE p = 0
  · obtain ⟨⟨b0, b1, b2, b3⟩, hz⟩ := va_yes h
    have HC := Lib.hid h
    obtain ⟨f2, hu⟩ : ∃ x, (-p 2) % 256 = x := ⟨_, rfl⟩
    have HU := Lib.hid hu
    have HZ := Lib.hid hz
    have HVE := Lib.hid (show mpV p = mpS p from mpV_yes h)
    have HX := Lib.hid (fun (k : Nat) (h : k < 6) => idxA p h)
    rw [h]
    clear h hu hz
    go_enter Tryd.func22, Tryd.ntmps22
    go_upto_region 1 with (fail)
    obtain ⟨W0, B, P, hW, hP, hB, hb, hp, g0, -, hP0, hne⟩ := two_new w (cz 22 p) 33 (cz 22 nul) 33
    rw [← cz22_nul] at hW
    rw [hW, hP, hB]
    have HB := Lib.hid hb
    have HP := Lib.hid hp
    have HNE := Lib.hid hne
    clear hW hP hB hb hp hne

    go_upto_region 4 with (first | ((with_reducible show wpList _ _ _ (⟨_, .load 33 (.tmp 1), _, _, _, none⟩ :: _) _ _); refine wpList_load_row rfl 33 (.tmp 1) rfl B rfl 33 _ (0, 0) _ HB.out.raw Tryd.underlying33 rfl infoP ?_) | (go_at_call 18; with_reducible refine (qvalid_at p 0 _ HC).mono ?_; rintro r w1 ⟨rfl, hg⟩; replace g0 := g0.trans hg; replace HB := Lib.hid (HB.out.own hg); replace HP := Lib.hid (HP.out.own hg); clear hg))
    refine RegD.region_new [16, 17, 18, 19, 20, 21, 22, 23, 24, 5] 5 9 10 (RegI.upd (RegI.upd (RegI.upd (RegI.upd (RegI.upd (RegI.upd (RegI.upd (RegI.upd (RegI.upd (fun _ => undef) 16 (.pointer (some ⟨B, 0, none⟩))) 17 (.agg #[.int .i64 (p 0), .int .i64 (p 1)])) 18 (.agg #[.int .i64 (-p 0), .int .i64 (p 1)])) 19 (.pointer (some ⟨B, 2, none⟩))) 20 (.int .i64 (p 2))) 21 (.int .i64 f2)) 22 (.pointer (some ⟨B, 3, none⟩))) 23 (.int .i64 (p 3))) 24 (.agg (cz 22 (ps4 (-p 0) (p 1) f2 (p 3) nul)))) (cz 22 nul) (cz 22 (ps4 (-p 0) (p 1) f2 (p 3) nul)) 33 (by kernel_rfl) (by kernel_rfl) (by decide) (by intro d hd; simp at hd; simp; omega) ?hs ?he
    case hs =>
      refine And.intro ?s0 (And.intro ?s1 (And.intro ?s2 (And.intro ?s3 (And.intro ?s4 (And.intro ?s5 (And.intro ?s6 (And.intro ?s7 (And.intro ?s8 (And.intro ?s9 (And.intro ?s10 (trivial)))))))))))
      case s0 =>
        refine RegD.det_new (by decide) (by decide) (by simp) (fun u w1 hO => ?_)
        simp only [RegD.FF, RegI.FX, RegI.upd, List.foldl_cons, List.foldl_nil, List.mem_cons, List.not_mem_nil, if_true, if_false, Nat.reduceEqDiff, or_false]
        simp only [List.setIfInBounds_toArray, List.set_cons_succ, List.set_cons_zero]
        go_wp2
        exact ⟨rfl, rfl, rfl, Own.refl _⟩
      case s1 =>
        refine RegD.det_new (by decide) (by decide) (by simp) (fun u w1 hO => ?_)
        have HB9 := Lib.hid (HB.out.own hO)
        simp only [RegD.FF, RegI.FX, RegI.upd, List.foldl_cons, List.foldl_nil, List.mem_cons, List.not_mem_nil, if_true, if_false, Nat.reduceEqDiff, or_false]
        simp only [List.setIfInBounds_toArray, List.set_cons_succ, List.set_cons_zero]
        go_wp2_with ((with_reducible show wpList _ _ _ (⟨_, .load 23 (.tmp 16), _, _, _, none⟩ :: _) _ _); refine wpList_load_part rfl 23 (.tmp 16) rfl B (0) rfl 2 HB9.out (by omega) (#[.int .i64 (p 0), .int .i64 (p 1)]) rfl _ Tryd.underlying23 rfl infoPt ?_)
        exact ⟨rfl, rfl, rfl, Own.refl _⟩
      case s2 =>
        refine RegD.det_new (by decide) (by decide) (by simp) (fun u w1 hO => ?_)
        simp only [RegD.FF, RegI.FX, RegI.upd, List.foldl_cons, List.foldl_nil, List.mem_cons, List.not_mem_nil, if_true, if_false, Nat.reduceEqDiff, or_false]
        simp only [List.setIfInBounds_toArray, List.set_cons_succ, List.set_cons_zero]
        go_wp2_with (go_at_call 46; with_reducible refine (qmp_at (p 0) (p 1) _ b0).mono ?_; rintro r w2 ⟨rfl, hg⟩)
        exact ⟨rfl, rfl, rfl, hg⟩
      case s3 =>
        refine RegD.det_new (by decide) (by decide) (by simp) (fun u w1 hO => ?_)
        simp only [RegD.FF, RegI.FX, RegI.upd, List.foldl_cons, List.foldl_nil, List.mem_cons, List.not_mem_nil, if_true, if_false, Nat.reduceEqDiff, or_false]
        simp only [List.setIfInBounds_toArray, List.set_cons_succ, List.set_cons_zero]
        go_wp2
        exact ⟨rfl, rfl, rfl, Own.refl _⟩
      case s4 =>
        refine RegD.det_new (by decide) (by decide) (by simp) (fun u w1 hO => ?_)
        have k := blk_num (HB.out.own hO) (i := 2) (by omega)
        simp only [RegD.FF, RegI.FX, RegI.upd, List.foldl_cons, List.foldl_nil, List.mem_cons, List.not_mem_nil, if_true, if_false, Nat.reduceEqDiff, or_false]
        simp only [List.setIfInBounds_toArray, List.set_cons_succ, List.set_cons_zero]
        go_wp2
        exact ⟨rfl, rfl, rfl, Own.refl _⟩
      case s5 =>
        refine RegD.det_new (by decide) (by decide) (by simp) (fun u w1 hO => ?_)
        simp only [RegD.FF, RegI.FX, RegI.upd, List.foldl_cons, List.foldl_nil, List.mem_cons, List.not_mem_nil, if_true, if_false, Nat.reduceEqDiff, or_false]
        simp only [List.setIfInBounds_toArray, List.set_cons_succ, List.set_cons_zero]
        go_wp2_with (go_at_call 53; with_reducible refine (AngW.mir_at (p 2) f2 _ HU).mono ?_; rintro r w1 ⟨rfl, rfl⟩)
        exact ⟨rfl, rfl, rfl, Own.refl _⟩
      case s6 =>
        refine RegD.det_new (by decide) (by decide) (by simp) (fun u w1 hO => ?_)
        simp only [RegD.FF, RegI.FX, RegI.upd, List.foldl_cons, List.foldl_nil, List.mem_cons, List.not_mem_nil, if_true, if_false, Nat.reduceEqDiff, or_false]
        simp only [List.setIfInBounds_toArray, List.set_cons_succ, List.set_cons_zero]
        go_wp2
        exact ⟨rfl, rfl, rfl, Own.refl _⟩
      case s7 =>
        refine RegD.det_new (by decide) (by decide) (by simp) (fun u w1 hO => ?_)
        have k := blk_num (HB.out.own hO) (i := 3) (by omega)
        simp only [RegD.FF, RegI.FX, RegI.upd, List.foldl_cons, List.foldl_nil, List.mem_cons, List.not_mem_nil, if_true, if_false, Nat.reduceEqDiff, or_false]
        simp only [List.setIfInBounds_toArray, List.set_cons_succ, List.set_cons_zero]
        go_wp2
        exact ⟨rfl, rfl, rfl, Own.refl _⟩
      case s8 =>
        refine RegD.det_new (by decide) (by decide) (by simp) (fun u w1 hO => ?_)
        simp only [RegD.FF, RegI.FX, RegI.upd, List.foldl_cons, List.foldl_nil, List.mem_cons, List.not_mem_nil, if_true, if_false, Nat.reduceEqDiff, or_false]
        simp only [List.setIfInBounds_toArray, List.set_cons_succ, List.set_cons_zero]
        go_wp2_with ((with_reducible show wpList _ _ _ (⟨_, .build 33 _, _, _, _, _⟩ :: _) _ _); refine wpList_build_as rfl 33 [(0, .tmp 18), (1, .tmp 21), (2, .tmp 23)] rfl [(0, .agg #[.int .i64 (-p 0), .int .i64 (p 1)]), (1, .int .i64 f2), (2, .int .i64 (p 3))] rfl (cz 22 (ps4 (-p 0) (p 1) f2 (p 3) nul)) (bld_pose3 _ _ _ _) ?_)
        exact ⟨rfl, rfl, rfl, Own.refl _⟩
      case s9 =>
        refine RegD.alloc_new (by decide) rfl (fun u w1 hO => ?_)
        simp only [RegD.FF, RegI.FX, RegI.upd, List.foldl_cons, List.foldl_nil, List.mem_cons, List.not_mem_nil, if_true, if_false, Nat.reduceEqDiff, or_false]
        simp only [List.setIfInBounds_toArray, List.set_cons_succ, List.set_cons_zero]
        go_wp2
        exact ⟨rfl, rfl, rfl, rfl⟩
      case s10 =>
        refine RegD.store_new (by decide) rfl (by kernel_rfl) (fun u w1 N hO hu hN => ?_)
        have HN := Lib.hid hN
        simp only [RegD.FF, RegI.FX, RegI.upd, List.foldl_cons, List.foldl_nil, List.mem_cons, List.not_mem_nil, if_true, if_false, Nat.reduceEqDiff, or_false, hu]
        simp only [List.setIfInBounds_toArray, List.set_cons_succ, List.set_cons_zero]
        clear hN
        go_wp2_with ((with_reducible show wpList _ _ _ (⟨_, .store 33 (.tmp 5) (.tmp 24), _, _, _, none⟩ :: _) _ _); refine wpList_store_row rfl 33 (.tmp 5) (.tmp 24) rfl N (cz 22 (ps4 (-p 0) (p 1) f2 (p 3) nul)) rfl rfl 33 _ HN.out.raw infoP rfl (cz_one _ _) ?_)
        exact ⟨rfl, rfl, rfl⟩
    case he =>
      intro u w2 N g1 hu hn hN
      have hPN := Lib.hid (Nat.ne_of_lt (Nat.lt_of_lt_of_le HP.out.lt hn))
      have hN0 : w.heap.size ≤ N := Nat.le_trans g0.size hn
      replace g0 := g0.trans g1
      replace HB := Lib.hid (HB.out.own g1)
      replace HP := Lib.hid (HP.out.own g1)
      have HN := Lib.hid hN
      simp only [RegD.FF, RegI.FX, RegI.upd, List.foldl_cons, List.foldl_nil, List.mem_cons, List.not_mem_nil, if_true, if_false, Nat.reduceEqDiff, or_false, hu]
      simp only [List.setIfInBounds_toArray, List.set_cons_succ, List.set_cons_zero]
      clear g1 hn hN hu

      go_wp2_with ((with_reducible show wpList _ _ _ (⟨_, .load 31 (.tmp 25), _, _, _, none⟩ :: _) _ _); refine wpList_load_part rfl 31 (.tmp 25) rfl B (4) rfl 18 HB.out (by omega) (cz 18 (fun j => p (4 + j))) rfl _ Tryd.underlying31 rfl infoA6 ?_)
      generalize cz 18 (fun j => p (4 + j)) = TT at *
      clear HB
      go_loopw [6, 7, 8, 9, 27] (fun _ _ _ _ vi wr => ∃ k : Nat, vi = .int .i64 (k : Int) ∧ k ≤ 6 ∧ Own w wr ∧ Blk wr P (cz 22 nul) 33 ∧ ∃ f, Blk wr N (cz 22 f) 33 ∧ (∀ j, j < 4 → f j = mpS p j) ∧ ∀ i, i < k → f (4 + swN i * 3) = mpZ p (swN i) ∧ f (4 + swN i * 3 + 1) = mpL p (swN i) ∧ f (4 + swN i * 3 + 2) = mpB p (swN i)) (fun _ _ _ _ vi _ => 6 - (intOf vi).toNat)
      case atStart =>
        refine ⟨0, rfl, by omega, g0, HP.out, _, HN.out, fun j hj => ?_, fun i hi => absurd hi (by omega)⟩
        rw [← HU.out]
        have t : j = 0 ∨ j = 1 ∨ j = 2 ∨ j = 3 := by omega
        rcases t with rfl | rfl | rfl | rfl <;> rfl
      case round =>
        clear HP HN g0
        obtain ⟨k, rfl, hk, g0, hp, f, hn, hf, hF⟩ := hrel
        have HP := Lib.hid hp
        have HN := Lib.hid hn
        have HF := Lib.hid (And.intro hf hF)
        clear hp hn hf hF
        by_cases hlt : k < 6
        · have ix := HX.out k hlt
          obtain ⟨m, hm⟩ : ∃ m, swN k = m := ⟨_, rfl⟩
          have bm : m < 6 := by rw [← hm]; exact swN_lt hlt
          have HM := Lib.hid hm
          have HSW := Lib.hid (show swp (k : Int) = (m : Int) ∧ swE (k : Int) = 0 from ⟨by rw [swp_nat hlt, hm], if_pos (by omega)⟩)
          have hc := HZ.out k hlt
          obtain ⟨y1, y2, y3⟩ := mir_yes hc
          obtain ⟨d1, hd1⟩ : ∃ x, mpZ p m = x := ⟨_, rfl⟩
          have HMD := Lib.hid (show mirZ k (p (4 + k * 3)) (p (4 + k * 3 + 1)) (p (4 + k * 3 + 2)) = d1 ∧ mirL k (p (4 + k * 3)) (p (4 + k * 3 + 1)) (p (4 + k * 3 + 2)) = p (4 + k * 3 + 1) ∧ mirB k (p (4 + k * 3)) (p (4 + k * 3 + 1)) (p (4 + k * 3 + 2)) = p (4 + k * 3 + 2) ∧ chk k (p (4 + k * 3)) (p (4 + k * 3 + 1)) (p (4 + k * 3 + 2)) = 0 from ⟨by rw [y1, ← hd1]; unfold mpZ; rw [← hm, swN_swN hlt], y2, y3, hc⟩)
          have HMB := Lib.hid (show p (4 + k * 3 + 1) = mpL p m ∧ p (4 + k * 3 + 2) = mpB p m from ⟨by unfold mpL; rw [← hm, swN_swN hlt], by unfold mpB; rw [← hm, swN_swN hlt]⟩)
          have HD1 := Lib.hid hd1
          have hkn : (k : Int) < 6 := by omega
          have hmn : (m : Int) < 6 := by omega
          clear hm hd1 hc y1 y2 y3
          generalize p (4 + k * 3) = d0 at ix HMD
          generalize p (4 + k * 3 + 1) = v0 at ix HMB HMD
          generalize p (4 + k * 3 + 2) = b0' at ix HMB HMD
          go_upto_region 8 with (fail)
          obtain ⟨w3, G, hW, hBq, hb, hg, Gg⟩ := blk_new wr (#[.int .i64 d0, .int .i64 v0, .int .i64 b0']) 30
          rw [hW, hBq]
          have HG := Lib.hid hb
          replace g0 := g0.trans hg
          replace HP := Lib.hid (HP.out.own hg)
          replace HN := Lib.hid (HN.out.own hg)
          clear hW hBq hb hg
          go_upto_region 10 with (first | (go_at_call 48; with_reducible refine (pswap_at k m 0 _ HSW).mono ?_; rintro r w1 ⟨rfl, rfl⟩) | ((with_reducible show wpList _ _ _ (⟨_, .load 30 (.tmp 7), _, _, _, none⟩ :: _) _ _); refine wpList_load_row rfl 30 (.tmp 7) rfl G rfl 30 _ (0, 0) _ HG.out.raw Tryd.underlying30 rfl infoA ?_) | (go_at_call 54; with_reducible refine (pmir_at k d0 v0 b0' d1 v0 b0' 0 _ HMD).mono ?_; rintro r w4 ⟨rfl, hg⟩; replace g0 := g0.trans hg; replace HP := Lib.hid (HP.out.own hg); replace HN := Lib.hid (HN.out.own hg); clear hg) | ((with_reducible show wpList _ _ _ (⟨_, .store 30 (.tmp 44) (.tmp 41), _, _, _, none⟩ :: _) _ _); refine wpList_store_part rfl 30 (.tmp 44) (.tmp 41) rfl N (4 + m * 3) 3 (l3 d1 v0 b0') rfl (#[.int .i64 d1, .int .i64 v0, .int .i64 b0']) rfl rfl HN.out (by omega) infoA ?_))
          have hn := HN.out.row (cz 22 (put f (4 + m * 3) 3 (l3 d1 v0 b0')))
          have hp := HP.out.rowfar hPN.out (cz 22 (put f (4 + m * 3) 3 (l3 d1 v0 b0')))
          replace g0 := own_setRow g0 hN0 (cz 22 (put f (4 + m * 3) 3 (l3 d1 v0 b0')))
          clear HP HN HG Gg
          generalize w4.setRow N (cz 22 (put f (4 + m * 3) 3 (l3 d1 v0 b0'))) = w5 at *
          have HR := Lib.hid (And.intro hp hn)
          clear hp hn
          go_wp2
          go_roundw
          case rel =>
            refine ⟨k + 1, by go_num, hlt, g0, HR.out.1, _, HR.out.2, fun j hj => ?_, fun i hi => ?_⟩
            · rw [put_out _ _ (by omega)]; exact HF.out.1 j hj
            · by_cases e : i = k
              · have hm := HM.out
                rw [e, hm]
                have q0 := put_in f (k := 4 + m * 3) (m := 3) (j := 0) (l3 d1 v0 b0') (by omega)
                have q1 := put_in f (k := 4 + m * 3) (m := 3) (j := 1) (l3 d1 v0 b0') (by omega)
                have q2 := put_in f (k := 4 + m * 3) (m := 3) (j := 2) (l3 d1 v0 b0') (by omega)
                exact ⟨q0.trans HD1.out.symm, q1.trans HMB.out.1, q2.trans HMB.out.2⟩
              · have hi6 : i < 6 := by omega
                have hne : swN i ≠ m := fun x => e (swN_inj hi6 hlt (x.trans HM.out.symm))
                obtain ⟨q0, q1, q2⟩ := HF.out.2 i (by omega)
                rw [put_out _ _ (by omega), put_out _ _ (by omega), put_out _ _ (by omega)]
                exact ⟨q0, q1, q2⟩
          case measure => simp [intOf]; omega
        · obtain rfl : k = 6 := by omega
          have HV := Lib.hid (show cz 22 f = cz 22 (mpV p) by
            rw [HVE.out]
            refine cz_congr fun i hi => ?_
            obtain ⟨h1, h2⟩ := HF.out
            by_cases e : i < 4
            · exact h1 i e
            · obtain ⟨j, rfl⟩ : ∃ j, i = 4 + j := ⟨i - 4, by omega⟩
              have hk6 : j / 3 < 6 := by omega
              have hs := swN_swN hk6
              obtain ⟨q0, q1, q2⟩ := h2 (swN (j / 3)) (swN_lt hk6)
              rw [hs] at q0 q1 q2
              obtain ⟨z0, z1, z2⟩ := mp_cells p (j / 3)
              have t : j = j / 3 * 3 ∨ j = j / 3 * 3 + 1 ∨ j = j / 3 * 3 + 2 := by omega
              rcases t with t | t | t
              · rw [t]; exact q0.trans z0.symm
              · rw [t, ← Nat.add_assoc]; exact q1.trans z1.symm
              · rw [t, ← Nat.add_assoc]; exact q2.trans z2.symm)
          clear HF HZ HX HVE
          go_wp2_with (first | ((with_reducible show wpList _ _ _ (⟨_, .load 33 (.tmp 5), _, _, _, none⟩ :: _) _ _); refine wpList_load_row rfl 33 (.tmp 5) rfl N rfl 33 _ (0, 0) _ HN.out.raw Tryd.underlying33 rfl infoP ?_) | ((with_reducible show wpList _ _ _ (⟨_, .store 33 (.tmp 2) (.tmp 46), _, _, _, none⟩ :: _) _ _); refine wpList_store_row rfl 33 (.tmp 2) (.tmp 46) rfl P (cz 22 (f)) rfl rfl 33 _ HP.out.raw infoP rfl (cz_one _ _) ?_))
          have hp := HP.out.row (cz 22 f)
          rw [← HV.out]
          exact bodyPost_ret (blk_results rfl rfl rfl hp Tryd.underlying33 rfl infoP) rfl ⟨rfl, own_setRow g0 hP0 _⟩
  · obtain ⟨c, hc⟩ : ∃ c, vaE p = c := ⟨_, rfl⟩
    rw [mpV_no h, hc]
    rw [hc] at h
    have kc : (c != 0) = true := bne_iff_ne.2 h
    have HC := Lib.hid hc
    clear h hc
    go_enter Tryd.func22, Tryd.ntmps22
    go_upto_region 1 with (fail)
    obtain ⟨W0, B, P, hW, hP, hB, hb, hp, g0, -, hP0, hne⟩ := two_new w (cz 22 p) 33 (cz 22 nul) 33
    rw [← cz22_nul] at hW
    rw [hW, hP, hB]
    have HB := Lib.hid hb
    have HP := Lib.hid hp
    have HNE := Lib.hid hne
    clear hW hP hB hb hp hne

    go_wp2_with (first | ((with_reducible show wpList _ _ _ (⟨_, .load 33 (.tmp 1), _, _, _, none⟩ :: _) _ _); refine wpList_load_row rfl 33 (.tmp 1) rfl B rfl 33 _ (0, 0) _ HB.out.raw Tryd.underlying33 rfl infoP ?_) | (go_at_call 18; with_reducible refine (qvalid_at p c _ HC).mono ?_; rintro r w1 ⟨rfl, hg⟩; replace g0 := g0.trans hg; replace HB := Lib.hid (HB.out.own hg); replace HP := Lib.hid (HP.out.own hg); clear hg) | ((with_reducible show wpList _ _ _ (⟨_, .store 33 (.tmp 2) (.tmp 14), _, _, _, none⟩ :: _) _ _); refine wpList_store_row rfl 33 (.tmp 2) (.tmp 14) rfl P (cz 22 (nul)) rfl rfl 33 _ HP.out.raw infoP rfl (cz_one _ _) ?_))
    have hp := HP.out.row (cz 22 nul)
    exact bodyPost_ret (blk_results rfl rfl rfl hp Tryd.underlying33 rfl infoP) rfl ⟨rfl, own_setRow g0 hP0 _⟩
theorem qmirp_at (p m : Vl) (c : Int) (w : World) (H : Hid (cz 22 (mpV p) = cz 22 m ∧ vaE p = c)) :
    Calls Tryd.prog 22 #[.agg (cz 22 p)] w fun r w' => r = .returned (.tuple #[.agg (cz 22 m), .int .i64 c]) ∧ Own w w' := by
  rw [← H.out.1, ← H.out.2]
  exact qmirp_any p w
end Go.Proofs.YtneobaininejaaaDoor.PstW
