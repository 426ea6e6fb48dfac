/-
  Walks of the specification of layer posture: MirrorPose. Condition: none.
-/
import Derived.Test.YtneobaininejaaaDoorPostureD
import Derived.Test.YtneobaininejaaaDoorRegBase
namespace Go.Proofs.YtneobaininejaaaDoor.PstW
open Go.ChangeShapes Go.WideShapes Go.ChangeAt Go.RowKit
open PairW AimP AimW BlkW PrtW PstP
set_option maxRecDepth 100000 in
set_option maxHeartbeats 2000000 in
theorem rmirp_any (p : Vl) (w : World) :
    Calls Tryd.prog 23 #[.agg (cz 22 p)] w fun r w' => r = .returned (.tuple #[.agg (cz 22 (mpV p)), .int .i64 (vaE p)]) ∧ Own w w' := by
  by_cases h : vaE p = 0
  · obtain ⟨⟨b0, b1, b2, b3⟩, hz⟩ := va_yes h
    have HC := Lib.hid h
    obtain ⟨f2, hu⟩ : ∃ x, (-p 2) % 256 = x := ⟨_, rfl⟩
    have HU := Lib.hid hu
    have HZ := Lib.hid hz
    have HVE := Lib.hid (show mpV p = mpS p from mpV_yes h)
    rw [h]
    clear h hu hz
    go_enter Tryd.func23, Tryd.ntmps23
    go_upto_region 1 with (fail)
    obtain ⟨W0, B, P, hW, hP, hB, hb, hp, g0, -, hP0, hne⟩ := two_new w (cz 22 p) 33 (cz 22 nul) 33
    rw [← cz22_nul] at hW
    rw [hW, hP, hB]
    have HB := Lib.hid hb
    have HP := Lib.hid hp
    have HNE := Lib.hid hne
    clear hW hP hB hb hp hne

    go_upto_region 4 with (first | ((with_reducible show wpList _ _ _ (⟨_, .load 33 (.tmp 1), _, _, _, none⟩ :: _) _ _); refine wpList_load_row rfl 33 (.tmp 1) rfl B rfl 33 _ (0, 0) _ HB.out.raw Tryd.underlying33 rfl infoP ?_) | (go_at_call 19; with_reducible refine (rvalid_at p 0 _ HC).mono ?_; rintro r w1 ⟨rfl, hg⟩; replace g0 := g0.trans hg; replace HB := Lib.hid (HB.out.own hg); replace HP := Lib.hid (HP.out.own hg); clear hg))
    refine RegD.region_new [17, 18, 19, 20, 21, 22, 23, 24, 25, 26, 27, 28, 29, 30, 5] 5 14 15 (RegI.upd (RegI.upd (RegI.upd (RegI.upd (RegI.upd (RegI.upd (RegI.upd (RegI.upd (RegI.upd (RegI.upd (RegI.upd (RegI.upd (RegI.upd (RegI.upd (fun _ => undef) 17 (.pointer (some ⟨B, 0, none⟩))) 18 (.pointer (some ⟨B, 0, none⟩))) 19 (.int .i64 (p 0))) 20 (.int .i64 (-p 0))) 21 (.pointer (some ⟨B, 0, none⟩))) 22 (.pointer (some ⟨B, 1, none⟩))) 23 (.int .i64 (p 1))) 24 (.agg #[.int .i64 (-p 0), .int .i64 (p 1)])) 25 (.pointer (some ⟨B, 2, none⟩))) 26 (.int .i64 (p 2))) 27 (.int .i64 f2)) 28 (.pointer (some ⟨B, 3, none⟩))) 29 (.int .i64 (p 3))) 30 (.agg (cz 22 (ps4 (-p 0) (p 1) f2 (p 3) nul)))) (cz 22 nul) (cz 22 (ps4 (-p 0) (p 1) f2 (p 3) nul)) 33 (by kernel_rfl) (by kernel_rfl) (by decide) (by intro d hd; simp at hd; simp; omega) ?hs ?he
    case hs =>
      refine And.intro ?s0 (And.intro ?s1 (And.intro ?s2 (And.intro ?s3 (And.intro ?s4 (And.intro ?s5 (And.intro ?s6 (And.intro ?s7 (And.intro ?s8 (And.intro ?s9 (And.intro ?s10 (And.intro ?s11 (And.intro ?s12 (And.intro ?s13 (And.intro ?s14 (And.intro ?s15 (trivial))))))))))))))))
      case s0 =>
        refine RegD.det_new (by decide) (by decide) (by simp) (fun u w1 hO => ?_)
        simp only [RegD.FF, RegI.FX, RegI.upd, List.foldl_cons, List.foldl_nil, List.mem_cons, List.not_mem_nil, if_true, if_false, Nat.reduceEqDiff, or_false]
        simp only [List.setIfInBounds_toArray, List.set_cons_succ, List.set_cons_zero]
        go_wp2
        exact ⟨rfl, rfl, rfl, Own.refl _⟩
      case s1 =>
        refine RegD.det_new (by decide) (by decide) (by simp) (fun u w1 hO => ?_)
        simp only [RegD.FF, RegI.FX, RegI.upd, List.foldl_cons, List.foldl_nil, List.mem_cons, List.not_mem_nil, if_true, if_false, Nat.reduceEqDiff, or_false]
        simp only [List.setIfInBounds_toArray, List.set_cons_succ, List.set_cons_zero]
        go_wp2
        exact ⟨rfl, rfl, rfl, Own.refl _⟩
      case s2 =>
        refine RegD.det_new (by decide) (by decide) (by simp) (fun u w1 hO => ?_)
        have k := blk_num (HB.out.own hO) (i := 0) (by omega)
        simp only [RegD.FF, RegI.FX, RegI.upd, List.foldl_cons, List.foldl_nil, List.mem_cons, List.not_mem_nil, if_true, if_false, Nat.reduceEqDiff, or_false]
        simp only [List.setIfInBounds_toArray, List.set_cons_succ, List.set_cons_zero]
        go_wp2
        exact ⟨rfl, rfl, rfl, Own.refl _⟩
      case s3 =>
        refine RegD.det_new (by decide) (by decide) (by simp) (fun u w1 hO => ?_)
        simp only [RegD.FF, RegI.FX, RegI.upd, List.foldl_cons, List.foldl_nil, List.mem_cons, List.not_mem_nil, if_true, if_false, Nat.reduceEqDiff, or_false]
        simp only [List.setIfInBounds_toArray, List.set_cons_succ, List.set_cons_zero]
        go_wp2
        exact ⟨rfl, rfl, rfl, Own.refl _⟩
      case s4 =>
        refine RegD.det_new (by decide) (by decide) (by simp) (fun u w1 hO => ?_)
        simp only [RegD.FF, RegI.FX, RegI.upd, List.foldl_cons, List.foldl_nil, List.mem_cons, List.not_mem_nil, if_true, if_false, Nat.reduceEqDiff, or_false]
        simp only [List.setIfInBounds_toArray, List.set_cons_succ, List.set_cons_zero]
        go_wp2
        exact ⟨rfl, rfl, rfl, Own.refl _⟩
      case s5 =>
        refine RegD.det_new (by decide) (by decide) (by simp) (fun u w1 hO => ?_)
        simp only [RegD.FF, RegI.FX, RegI.upd, List.foldl_cons, List.foldl_nil, List.mem_cons, List.not_mem_nil, if_true, if_false, Nat.reduceEqDiff, or_false]
        simp only [List.setIfInBounds_toArray, List.set_cons_succ, List.set_cons_zero]
        go_wp2
        exact ⟨rfl, rfl, rfl, Own.refl _⟩
      case s6 =>
        refine RegD.det_new (by decide) (by decide) (by simp) (fun u w1 hO => ?_)
        have k := blk_num (HB.out.own hO) (i := 1) (by omega)
        simp only [RegD.FF, RegI.FX, RegI.upd, List.foldl_cons, List.foldl_nil, List.mem_cons, List.not_mem_nil, if_true, if_false, Nat.reduceEqDiff, or_false]
        simp only [List.setIfInBounds_toArray, List.set_cons_succ, List.set_cons_zero]
        go_wp2
        exact ⟨rfl, rfl, rfl, Own.refl _⟩
      case s7 =>
        refine RegD.det_new (by decide) (by decide) (by simp) (fun u w1 hO => ?_)
        simp only [RegD.FF, RegI.FX, RegI.upd, List.foldl_cons, List.foldl_nil, List.mem_cons, List.not_mem_nil, if_true, if_false, Nat.reduceEqDiff, or_false]
        simp only [List.setIfInBounds_toArray, List.set_cons_succ, List.set_cons_zero]
        go_wp2
        exact ⟨rfl, rfl, rfl, Own.refl _⟩
      case s8 =>
        refine RegD.det_new (by decide) (by decide) (by simp) (fun u w1 hO => ?_)
        simp only [RegD.FF, RegI.FX, RegI.upd, List.foldl_cons, List.foldl_nil, List.mem_cons, List.not_mem_nil, if_true, if_false, Nat.reduceEqDiff, or_false]
        simp only [List.setIfInBounds_toArray, List.set_cons_succ, List.set_cons_zero]
        go_wp2
        exact ⟨rfl, rfl, rfl, Own.refl _⟩
      case s9 =>
        refine RegD.det_new (by decide) (by decide) (by simp) (fun u w1 hO => ?_)
        have k := blk_num (HB.out.own hO) (i := 2) (by omega)
        simp only [RegD.FF, RegI.FX, RegI.upd, List.foldl_cons, List.foldl_nil, List.mem_cons, List.not_mem_nil, if_true, if_false, Nat.reduceEqDiff, or_false]
        simp only [List.setIfInBounds_toArray, List.set_cons_succ, List.set_cons_zero]
        go_wp2
        exact ⟨rfl, rfl, rfl, Own.refl _⟩
      case s10 =>
        refine RegD.det_new (by decide) (by decide) (by simp) (fun u w1 hO => ?_)
        simp only [RegD.FF, RegI.FX, RegI.upd, List.foldl_cons, List.foldl_nil, List.mem_cons, List.not_mem_nil, if_true, if_false, Nat.reduceEqDiff, or_false]
        simp only [List.setIfInBounds_toArray, List.set_cons_succ, List.set_cons_zero]
        go_wp2_with (go_at_call 55; with_reducible refine (AimW.rmr_at (p 2) f2 _ HU).mono ?_; rintro r w1 ⟨rfl, rfl⟩)
        exact ⟨rfl, rfl, rfl, Own.refl _⟩
      case s11 =>
        refine RegD.det_new (by decide) (by decide) (by simp) (fun u w1 hO => ?_)
        simp only [RegD.FF, RegI.FX, RegI.upd, List.foldl_cons, List.foldl_nil, List.mem_cons, List.not_mem_nil, if_true, if_false, Nat.reduceEqDiff, or_false]
        simp only [List.setIfInBounds_toArray, List.set_cons_succ, List.set_cons_zero]
        go_wp2
        exact ⟨rfl, rfl, rfl, Own.refl _⟩
      case s12 =>
        refine RegD.det_new (by decide) (by decide) (by simp) (fun u w1 hO => ?_)
        have k := blk_num (HB.out.own hO) (i := 3) (by omega)
        simp only [RegD.FF, RegI.FX, RegI.upd, List.foldl_cons, List.foldl_nil, List.mem_cons, List.not_mem_nil, if_true, if_false, Nat.reduceEqDiff, or_false]
        simp only [List.setIfInBounds_toArray, List.set_cons_succ, List.set_cons_zero]
        go_wp2
        exact ⟨rfl, rfl, rfl, Own.refl _⟩
      case s13 =>
        refine RegD.det_new (by decide) (by decide) (by simp) (fun u w1 hO => ?_)
        simp only [RegD.FF, RegI.FX, RegI.upd, List.foldl_cons, List.foldl_nil, List.mem_cons, List.not_mem_nil, if_true, if_false, Nat.reduceEqDiff, or_false]
        simp only [List.setIfInBounds_toArray, List.set_cons_succ, List.set_cons_zero]
        go_wp2_with ((with_reducible show wpList _ _ _ (⟨_, .build 33 _, _, _, _, _⟩ :: _) _ _); refine wpList_build_as rfl 33 [(0, .tmp 24), (1, .tmp 27), (2, .tmp 29)] rfl [(0, .agg #[.int .i64 (-p 0), .int .i64 (p 1)]), (1, .int .i64 f2), (2, .int .i64 (p 3))] rfl (cz 22 (ps4 (-p 0) (p 1) f2 (p 3) nul)) (bld_pose3r _ _ _ _) ?_)
        exact ⟨rfl, rfl, rfl, Own.refl _⟩
      case s14 =>
        refine RegD.alloc_new (by decide) rfl (fun u w1 hO => ?_)
        simp only [RegD.FF, RegI.FX, RegI.upd, List.foldl_cons, List.foldl_nil, List.mem_cons, List.not_mem_nil, if_true, if_false, Nat.reduceEqDiff, or_false]
        simp only [List.setIfInBounds_toArray, List.set_cons_succ, List.set_cons_zero]
        go_wp2
        exact ⟨rfl, rfl, rfl, rfl⟩
      case s15 =>
        refine RegD.store_new (by decide) rfl (by kernel_rfl) (fun u w1 N hO hu hN => ?_)
        have HN := Lib.hid hN
        simp only [RegD.FF, RegI.FX, RegI.upd, List.foldl_cons, List.foldl_nil, List.mem_cons, List.not_mem_nil, if_true, if_false, Nat.reduceEqDiff, or_false, hu]
        simp only [List.setIfInBounds_toArray, List.set_cons_succ, List.set_cons_zero]
        clear hN
        go_wp2_with ((with_reducible show wpList _ _ _ (⟨_, .store 33 (.tmp 5) (.tmp 30), _, _, _, none⟩ :: _) _ _); refine wpList_store_row rfl 33 (.tmp 5) (.tmp 30) rfl N (cz 22 (ps4 (-p 0) (p 1) f2 (p 3) nul)) rfl rfl 33 _ HN.out.raw infoP rfl (cz_one _ _) ?_)
        exact ⟨rfl, rfl, rfl⟩
    case he =>
      have hBN := HB.out.lt
      intro u w2 N g1 hu hn hN
      replace hBN := Lib.hid (Nat.ne_of_lt (Nat.lt_of_lt_of_le hBN hn))
      have hPN := Lib.hid (Nat.ne_of_lt (Nat.lt_of_lt_of_le HP.out.lt hn))
      have hN0 : w.heap.size ≤ N := Nat.le_trans g0.size hn
      replace g0 := g0.trans g1
      replace HB := Lib.hid (HB.out.own g1)
      replace HP := Lib.hid (HP.out.own g1)
      have HN := Lib.hid hN
      simp only [RegD.FF, RegI.FX, RegI.upd, List.foldl_cons, List.foldl_nil, List.mem_cons, List.not_mem_nil, if_true, if_false, Nat.reduceEqDiff, or_false, hu]
      simp only [List.setIfInBounds_toArray, List.set_cons_succ, List.set_cons_zero]
      clear g1 hn hN hu

      go_wp2
      go_loopw [6, 7, 8, 9, 10] (fun vi _ _ _ _ wr => ∃ k : Nat, vi = .int .i64 (k : Int) ∧ k ≤ 6 ∧ Own w wr ∧ Blk wr B (cz 22 p) 33 ∧ Blk wr P (cz 22 nul) 33 ∧ ∃ f, Blk wr N (cz 22 f) 33 ∧ ∀ j, j < 4 + k * 3 → f j = mpS p j) (fun vi _ _ _ _ _ => 6 - (intOf vi).toNat)
      case atStart =>
        refine ⟨0, rfl, by omega, g0, HB.out, HP.out, _, HN.out, fun j hj => ?_⟩
        rw [← HU.out]
        have t : j = 0 ∨ j = 1 ∨ j = 2 ∨ j = 3 := by omega
        rcases t with rfl | rfl | rfl | rfl <;> rfl
      case round =>
        clear HP HN HB g0
        obtain ⟨k, rfl, hk, g0, hb, hp, f, hn, hf⟩ := hrel
        have HB := Lib.hid hb
        have HP := Lib.hid hp
        have HN := Lib.hid hn
        have HF := Lib.hid hf
        clear hb hp hn hf
        by_cases hlt : k < 6
        · obtain ⟨m, hm⟩ : ∃ m, swN k = m := ⟨_, rfl⟩
          have bm : m < 6 := by rw [← hm]; exact swN_lt hlt
          have HSW := Lib.hid (show swp (k : Int) = (m : Int) ∧ swE (k : Int) = 0 from ⟨by rw [swp_nat hlt, hm], if_pos (by omega)⟩)
          have hc := HZ.out m bm
          obtain ⟨y1, y2, y3⟩ := mir_yes hc
          obtain ⟨d1, hd1⟩ : ∃ x, mpZ p k = x := ⟨_, rfl⟩
          obtain ⟨v1, hv1⟩ : ∃ x, p (4 + m * 3 + 1) = x := ⟨_, rfl⟩
          obtain ⟨b1', hb1⟩ : ∃ x, p (4 + m * 3 + 2) = x := ⟨_, rfl⟩
          have HMD := Lib.hid (show mirZ m (p (4 + m * 3)) (p (4 + m * 3 + 1)) (p (4 + m * 3 + 2)) = d1 ∧ mirL m (p (4 + m * 3)) (p (4 + m * 3 + 1)) (p (4 + m * 3 + 2)) = v1 ∧ mirB m (p (4 + m * 3)) (p (4 + m * 3 + 1)) (p (4 + m * 3 + 2)) = b1' ∧ chk m (p (4 + m * 3)) (p (4 + m * 3 + 1)) (p (4 + m * 3 + 2)) = 0 from ⟨by rw [y1, ← hd1, ← hm]; rfl, y2.trans hv1, y3.trans hb1, hc⟩)
          have HO := Lib.hid (show mpZ p k = d1 ∧ mpL p k = v1 ∧ mpB p k = b1' from ⟨hd1, by rw [← hv1, ← hm]; rfl, by rw [← hb1, ← hm]; rfl⟩)
          have hkn : (k : Int) < 6 := by omega
          have hmn : (m : Int) < 6 := by omega
          clear hm hd1 hv1 hb1 hc y1 y2 y3
          go_upto_region 10 with (first | (go_at_call 51; with_reducible refine (rswap_at k m 0 _ HSW).mono ?_; rintro r w1 ⟨rfl, rfl⟩) | ((with_reducible show wpList _ _ _ (⟨_, .load 30 (.tmp 44), _, _, _, none⟩ :: _) _ _); refine wpList_load_part rfl 30 (.tmp 44) rfl B (4 + m * 3) rfl 3 HB.out (by omega) (#[.int .i64 (p (4 + m * 3)), .int .i64 (p (4 + m * 3 + 1)), .int .i64 (p (4 + m * 3 + 2))]) rfl _ Tryd.underlying30 rfl infoA ?_) | (go_at_call 56; with_reducible refine (rmir_at m _ _ _ d1 v1 b1' 0 _ HMD).mono ?_; rintro r w3 ⟨rfl, hg⟩; replace g0 := g0.trans hg; replace HB := Lib.hid (HB.out.own hg); replace HP := Lib.hid (HP.out.own hg); replace HN := Lib.hid (HN.out.own hg); clear hg) | ((with_reducible show wpList _ _ _ (⟨_, .store 30 (.tmp 9) (.tmp 47), _, _, _, none⟩ :: _) _ _); refine wpList_store_row rfl 30 (.tmp 9) (.tmp 47) rfl _ #[.int .i64 d1, .int .i64 v1, .int .i64 b1'] rfl rfl 30 _ (heap_new _ _) infoA rfl (by simp [Value.oneCell']) ?_; rw [World.setRow_alloc_new]))
          clear HMD HSW
          obtain ⟨w4, G, hW, hBq, hb, hg, Gg⟩ := blk_new w3 (#[.int .i64 d1, .int .i64 v1, .int .i64 b1']) 30
          rw [hW, hBq]
          have HG := Lib.hid hb
          replace g0 := g0.trans hg
          replace HB := Lib.hid (HB.out.own hg)
          replace HP := Lib.hid (HP.out.own hg)
          replace HN := Lib.hid (HN.out.own hg)
          clear hW hBq hb hg
          go_upto_region 7 with (first | ((with_reducible show wpList _ _ _ (⟨_, .load 30 (.tmp 9), _, _, _, none⟩ :: _) _ _); refine wpList_load_row rfl 30 (.tmp 9) rfl G rfl 30 _ (0, 0) _ HG.out.raw Tryd.underlying30 rfl infoA ?_) | ((with_reducible show wpList _ _ _ (⟨_, .store 30 (.tmp 52) (.tmp 50), _, _, _, none⟩ :: _) _ _); refine wpList_store_part rfl 30 (.tmp 52) (.tmp 50) rfl N (4 + k * 3) 3 (l3 d1 v1 b1') rfl (#[.int .i64 d1, .int .i64 v1, .int .i64 b1']) rfl rfl HN.out (by omega) infoA ?_))
          have hn := HN.out.row (cz 22 (put f (4 + k * 3) 3 (l3 d1 v1 b1')))
          have hp := HP.out.rowfar hPN.out (cz 22 (put f (4 + k * 3) 3 (l3 d1 v1 b1')))
          have hb := HB.out.rowfar hBN.out (cz 22 (put f (4 + k * 3) 3 (l3 d1 v1 b1')))
          replace g0 := own_setRow g0 hN0 (cz 22 (put f (4 + k * 3) 3 (l3 d1 v1 b1')))
          clear HP HN HB HG Gg
          generalize w4.setRow N (cz 22 (put f (4 + k * 3) 3 (l3 d1 v1 b1'))) = w5 at *
          have HR := Lib.hid (And.intro hb (And.intro hp hn))
          clear hp hn hb
          go_wp2
          go_roundw
          case rel =>
            refine ⟨k + 1, by go_num, hlt, g0, HR.out.1, HR.out.2.1, _, HR.out.2.2, fun j hj => ?_⟩
            obtain ⟨o1, o2, o3⟩ := HO.out
            obtain ⟨n1, n2, n3⟩ := mp_cells p k
            exact put_next (g := mpS p) HF.out (n1.trans o1) (n2.trans o2) (n3.trans o3) j (by omega)
          case measure => simp [intOf]; omega
        · obtain rfl : k = 6 := by omega
          have HV := Lib.hid (show cz 22 f = cz 22 (mpV p) by rw [HVE.out]; exact cz_congr HF.out)
          clear HF HVE HZ
          go_wp2_with (first | ((with_reducible show wpList _ _ _ (⟨_, .load 33 (.tmp 5), _, _, _, none⟩ :: _) _ _); refine wpList_load_row rfl 33 (.tmp 5) rfl N rfl 33 _ (0, 0) _ HN.out.raw Tryd.underlying33 rfl infoP ?_) | ((with_reducible show wpList _ _ _ (⟨_, .store 33 (.tmp 2) (.tmp 53), _, _, _, none⟩ :: _) _ _); refine wpList_store_row rfl 33 (.tmp 2) (.tmp 53) rfl P (cz 22 (f)) rfl rfl 33 _ HP.out.raw infoP rfl (cz_one _ _) ?_))
          have hp := HP.out.row (cz 22 f)
          rw [← HV.out]
          exact bodyPost_ret (blk_results rfl rfl rfl hp Tryd.underlying33 rfl infoP) rfl ⟨rfl, own_setRow g0 hP0 _⟩
  · obtain ⟨c, hc⟩ : ∃ c, vaE p = c := ⟨_, rfl⟩
    rw [mpV_no h, hc]
    rw [hc] at h
    have kc : (c != 0) = true := bne_iff_ne.2 h
    have HC := Lib.hid hc
    clear h hc
    go_enter Tryd.func23, Tryd.ntmps23
    go_upto_region 1 with (fail)
    obtain ⟨W0, B, P, hW, hP, hB, hb, hp, g0, -, hP0, hne⟩ := two_new w (cz 22 p) 33 (cz 22 nul) 33
    rw [← cz22_nul] at hW
    rw [hW, hP, hB]
    have HB := Lib.hid hb
    have HP := Lib.hid hp
    have HNE := Lib.hid hne
    clear hW hP hB hb hp hne

    go_wp2_with (first | ((with_reducible show wpList _ _ _ (⟨_, .load 33 (.tmp 1), _, _, _, none⟩ :: _) _ _); refine wpList_load_row rfl 33 (.tmp 1) rfl B rfl 33 _ (0, 0) _ HB.out.raw Tryd.underlying33 rfl infoP ?_) | (go_at_call 19; with_reducible refine (rvalid_at p c _ HC).mono ?_; rintro r w1 ⟨rfl, hg⟩; replace g0 := g0.trans hg; replace HB := Lib.hid (HB.out.own hg); replace HP := Lib.hid (HP.out.own hg); clear hg) | ((with_reducible show wpList _ _ _ (⟨_, .store 33 (.tmp 2) (.tmp 15), _, _, _, none⟩ :: _) _ _); refine wpList_store_row rfl 33 (.tmp 2) (.tmp 15) rfl P (cz 22 (nul)) rfl rfl 33 _ HP.out.raw infoP rfl (cz_one _ _) ?_))
    have hp := HP.out.row (cz 22 nul)
    exact bodyPost_ret (blk_results rfl rfl rfl hp Tryd.underlying33 rfl infoP) rfl ⟨rfl, own_setRow g0 hP0 _⟩
theorem rmirp_at (p m : Vl) (c : Int) (w : World) (H : Hid (cz 22 (mpV p) = cz 22 m ∧ vaE p = c)) :
    Calls Tryd.prog 23 #[.agg (cz 22 p)] w fun r w' => r = .returned (.tuple #[.agg (cz 22 m), .int .i64 c]) ∧ Own w w' := by
  rw [← H.out.1, ← H.out.2]
  exact rmirp_any p w
end Go.Proofs.YtneobaininejaaaDoor.PstW
