/-
  Walks of the laws of package balance: BalanceMirror. Condition: the table of sines, the table of bounds and the numbers of both sides lie in memory.
-/
import Derived.Test.YtighpjhipgobiaaDoorBalanceT
namespace Go.Proofs.YtighpjhipgobiaaDoor.BalL
open Go.ChangeShapes Go.WideShapes Go.ChangeAt Go.RowKit
open BalW PairW AimP AimW BlkW PrtW PstP PstW JntP JntW BalP
set_option maxRecDepth 100000 in
set_option maxHeartbeats 40000000 in
theorem swapped_at (s z : Int) (w : World) (H : Hid (JntP.xs s = z ∧ 0 ≤ s ∧ s ≤ 3)) :
    Calls Tryd.prog 13 #[.int .i64 s] w fun r w' => r = .returned (.int .i64 z) ∧ w = w' := by
  obtain ⟨hz, h0, h3⟩ := H.out
  clear H
  have t : s = 0 ∨ s = 1 ∨ s = 2 ∨ s = 3 := by omega
  clear h0 h3
  rcases t with rfl | rfl | rfl | rfl
  · obtain rfl : (0 : Int) = z := by rw [← hz]; rfl
    clear hz
    go_enter Tryd.func13, Tryd.ntmps13
    go_wp2
    go_ret
    exact ⟨ret_int (by decide +kernel), rfl⟩
  · obtain rfl : (2 : Int) = z := by rw [← hz]; rfl
    clear hz
    go_enter Tryd.func13, Tryd.ntmps13
    go_wp2
    go_ret
    exact ⟨ret_int (by decide +kernel), rfl⟩
  · obtain rfl : (1 : Int) = z := by rw [← hz]; rfl
    clear hz
    go_enter Tryd.func13, Tryd.ntmps13
    go_wp2
    go_ret
    exact ⟨ret_int (by decide +kernel), rfl⟩
  · obtain rfl : (3 : Int) = z := by rw [← hz]; rfl
    clear hz
    go_enter Tryd.func13, Tryd.ntmps13
    go_wp2
    go_ret
    exact ⟨ret_int (by decide +kernel), rfl⟩
set_option maxRecDepth 100000 in
set_option maxHeartbeats 40000000 in
theorem BalanceMirror_walk (b p : Vl) (s : Int) (w : World) (HT : Hid (AngW.Tab w)) (HBT : Hid (BuiW.Tab w)) (HS : Hid (Sds w)) :
    Calls Tryd.prog 4 #[.agg (cz 15 b), .agg (cz 22 p), .int .i64 s] w fun r w' => r = .returned (.bool true) ∧ PairW.Own w w' := by
  by_cases h : joE b p s = 0
  · obtain ⟨hm1, ⟨hm2, hm3⟩, hm4, hm5, hm6⟩ := ba_mir h
    obtain ⟨hq1, ⟨hq2, hq3⟩, hq4, hq5, hq6⟩ := ba_q h
    obtain ⟨hchk, hv, hs3⟩ := jo_yes h
    have hce := ce_rel h
    rw [← ceV_yes h, ← ceV_yes h] at hce
    obtain ⟨hpp0, hpp1, -, -⟩ := (va_yes hv).1
    obtain ⟨x, hx⟩ : ∃ x, ceV b p s 0 = x := ⟨_, rfl⟩
    obtain ⟨y, hy⟩ : ∃ x, ceV b p s 1 = x := ⟨_, rfl⟩
    obtain ⟨t, ht⟩ : ∃ x, stV b p s = x := ⟨_, rfl⟩
    obtain ⟨n, hn⟩ : ∃ x, mgV b p s = x := ⟨_, rfl⟩
    obtain ⟨e, he⟩ : ∃ x, mgE b p s = x := ⟨_, rfl⟩
    rw [hx] at hm2 hq3 hce
    rw [hy] at hm3 hq2 hce
    rw [ht] at hm4 hq4
    rw [he] at hm5 hq5
    rw [hn] at hm6 hq6
    obtain ⟨nx, hnx⟩ : ∃ v, -x = v := ⟨_, rfl⟩
    have i1 : IntKind.i64.wrap (-x) = nx := (IntWalk.i64_in _ (by omega)).trans hnx
    rw [hnx] at hm2 hq3
    obtain ⟨z, hz⟩ : ∃ v, JntP.xs s = v := ⟨_, rfl⟩
    have HSW := Lib.hid (show JntP.xs s = z ∧ 0 ≤ s ∧ s ≤ 3 from ⟨hz, hs3⟩)
    rw [hz] at hm1 hm2 hm3 hm4 hm5 hm6
    obtain ⟨m, hm⟩ : ∃ f, mpV p = f := ⟨_, rfl⟩
    obtain ⟨q, hq⟩ : ∃ f, rpV p 1 = f := ⟨_, rfl⟩
    have HM := Lib.hid (show cz 22 (mpV p) = cz 22 m ∧ vaE p = 0 from ⟨by rw [hm], hv⟩)
    have HQ := Lib.hid (show cz 22 (rpV p 1) = cz 22 q ∧ vaE p = 0 from ⟨by rw [hq], hv⟩)
    rw [hm] at hm1 hm2 hm3 hm4 hm5 hm6
    rw [hq] at hq1 hq2 hq3 hq4 hq5 hq6
    have HC1 := Lib.hid (show ceV b p s 0 = x ∧ ceV b p s 1 = y ∧ joE b p s = 0 from ⟨hx, hy, h⟩)
    have HC2 := Lib.hid (show ceV b m z 0 = nx ∧ ceV b m z 1 = y ∧ joE b m z = 0 from ⟨hm2, hm3, hm1⟩)
    have HC3 := Lib.hid (show ceV b q s 0 = y ∧ ceV b q s 1 = nx ∧ joE b q s = 0 from ⟨hq2, hq3, hq1⟩)
    have HS1 := Lib.hid (show stV b p s = t ∧ joE b p s = 0 from ⟨ht, h⟩)
    have HS2 := Lib.hid (show stV b m z = t ∧ joE b m z = 0 from ⟨hm4, hm1⟩)
    have HS3 := Lib.hid (show stV b q s = t ∧ joE b q s = 0 from ⟨hq4, hq1⟩)
    have HG1 := Lib.hid (show mgV b p s = n ∧ mgE b p s = e from ⟨hn, he⟩)
    have HG2 := Lib.hid (show mgV b m z = n ∧ mgE b m z = e from ⟨hm6, hm5⟩)
    have HG3 := Lib.hid (show mgV b q s = n ∧ mgE b q s = e from ⟨hq6, hq5⟩)
    clear hm1 hm2 hm3 hm4 hm5 hm6 hq1 hq2 hq3 hq4 hq5 hq6 hchk hv hs3 hce hpp0 hpp1 hx hy ht hn he hnx hz hm hq h
    go_enter Tryd.func4, Tryd.ntmps4
    go_upto_region 1 with (fail)
    obtain ⟨W0, B, P, hW, hC, hBq, hb, hc, g0, -, -, -⟩ := two_new w (cz 15 b) 24 (cz 22 p) 31
    rw [hW, hC, hBq]
    have HB := Lib.hid hb
    have HP := Lib.hid hc
    clear hW hC hBq hb hc
    go_upto_region 4 with (first | ((with_reducible show wpList _ _ _ (⟨_, .load 24 (.tmp 3), _, _, _, none⟩ :: _) _ _); refine wpList_load_row rfl 24 (.tmp 3) rfl B rfl 24 _ (0, 0) _ HB.out.raw Tryd.underlying24 rfl infoB ?_) | ((with_reducible show wpList _ _ _ (⟨_, .load 31 (.tmp 4), _, _, _, none⟩ :: _) _ _); refine wpList_load_row rfl 31 (.tmp 4) rfl P rfl 31 _ (0, 0) _ HP.out.raw Tryd.underlying31 rfl infoP ?_) | (go_at_call 8; with_reducible refine (bCen_at b p s x y 0 _ (Lib.hid (tab_own HT.out g0)) (Lib.hid (HBT.out.own g0)) (Lib.hid (HS.out.own g0)) HC1).mono ?_; rintro r w1 ⟨rfl, hg⟩; replace g0 := g0.trans hg; replace HB := Lib.hid (HB.out.own hg); replace HP := Lib.hid (HP.out.own hg); clear hg) | ((with_reducible show wpList _ _ _ (⟨_, .store 26 (.tmp 7) (.tmp 26), _, _, _, none⟩ :: _) _ _); refine wpList_store_row rfl 26 (.tmp 7) (.tmp 26) rfl _ #[.int .i64 x, .int .i64 y] rfl rfl 26 _ (heap_new _ _) PstW.infoPt rfl (by simp [Value.oneCell']) ?_; rw [World.setRow_alloc_new]))
    obtain ⟨w2, B7, hW, hBq, hb, hg, B7g⟩ := blk_new w1 (#[.int .i64 x, .int .i64 y]) 26
    rw [hW, hBq]
    have H7 := Lib.hid hb
    replace g0 := g0.trans hg
    replace HB := Lib.hid (HB.out.own hg)
    replace HP := Lib.hid (HP.out.own hg)
    clear hW hBq hb hg
    clear B7g
    go_upto_region 5 with (first | ((with_reducible show wpList _ _ _ (⟨_, .load 24 (.tmp 3), _, _, _, none⟩ :: _) _ _); refine wpList_load_row rfl 24 (.tmp 3) rfl B rfl 24 _ (0, 0) _ HB.out.raw Tryd.underlying24 rfl infoB ?_) | ((with_reducible show wpList _ _ _ (⟨_, .load 31 (.tmp 4), _, _, _, none⟩ :: _) _ _); refine wpList_load_row rfl 31 (.tmp 4) rfl P rfl 31 _ (0, 0) _ HP.out.raw Tryd.underlying31 rfl infoP ?_) | (go_at_call 11; with_reducible refine (qmirp_at p m 0 _ HM).mono ?_; rintro r w3 ⟨rfl, hg⟩; replace g0 := g0.trans hg; replace HB := Lib.hid (HB.out.own hg); replace HP := Lib.hid (HP.out.own hg); replace H7 := Lib.hid (H7.out.own hg); clear hg) | ((with_reducible show wpList _ _ _ (⟨_, .store 31 (.tmp 9) (.tmp 39), _, _, _, none⟩ :: _) _ _); refine wpList_store_row rfl 31 (.tmp 9) (.tmp 39) rfl _ (cz 22 (m)) rfl rfl 31 _ (heap_new _ _) infoP rfl (cz_one _ _) ?_; rw [World.setRow_alloc_new]))
    obtain ⟨w4, B9, hW, hBq, hb, hg, B9g⟩ := blk_new w3 (cz 22 m) 31
    rw [hW, hBq]
    have H9 := Lib.hid hb
    replace g0 := g0.trans hg
    replace HB := Lib.hid (HB.out.own hg)
    replace HP := Lib.hid (HP.out.own hg)
    replace H7 := Lib.hid (H7.out.own hg)
    clear hW hBq hb hg
    clear B9g
    go_upto_region 8 with (first | ((with_reducible show wpList _ _ _ (⟨_, .load 24 (.tmp 3), _, _, _, none⟩ :: _) _ _); refine wpList_load_row rfl 24 (.tmp 3) rfl B rfl 24 _ (0, 0) _ HB.out.raw Tryd.underlying24 rfl infoB ?_) | ((with_reducible show wpList _ _ _ (⟨_, .load 31 (.tmp 4), _, _, _, none⟩ :: _) _ _); refine wpList_load_row rfl 31 (.tmp 4) rfl P rfl 31 _ (0, 0) _ HP.out.raw Tryd.underlying31 rfl infoP ?_) | (go_at_call 12; with_reducible refine (qrotp_at p q 1 0 _ (Lib.hid (tab_own HT.out g0)) HQ).mono ?_; rintro r w5 ⟨rfl, hg⟩; replace g0 := g0.trans hg; replace HB := Lib.hid (HB.out.own hg); replace HP := Lib.hid (HP.out.own hg); replace H7 := Lib.hid (H7.out.own hg); replace H9 := Lib.hid (H9.out.own hg); clear hg) | ((with_reducible show wpList _ _ _ (⟨_, .store 31 (.tmp 11) (.tmp 44), _, _, _, none⟩ :: _) _ _); refine wpList_store_row rfl 31 (.tmp 11) (.tmp 44) rfl _ (cz 22 (q)) rfl rfl 31 _ (heap_new _ _) infoP rfl (cz_one _ _) ?_; rw [World.setRow_alloc_new]))
    obtain ⟨w6, B11, hW, hBq, hb, hg, B11g⟩ := blk_new w5 (cz 22 q) 31
    rw [hW, hBq]
    have H11 := Lib.hid hb
    replace g0 := g0.trans hg
    replace HB := Lib.hid (HB.out.own hg)
    replace HP := Lib.hid (HP.out.own hg)
    replace H7 := Lib.hid (H7.out.own hg)
    replace H9 := Lib.hid (H9.out.own hg)
    clear hW hBq hb hg
    clear B11g
    refine RegD.region_dutyN [53, 54, 55, 56, 57, 52, 58, 59, 13, 8] 13 8 9 (RegI.upd (RegI.upd (RegI.upd (RegI.upd (RegI.upd (RegI.upd (RegI.upd (RegI.upd (RegI.upd (fun _ => undef) 53 (.agg (cz 15 b))) 54 (.agg (cz 22 m))) 55 (.int .i64 s)) 56 (.int .i64 z)) 57 (.tuple #[.agg #[.int .i64 nx, .int .i64 y], .int .i64 0])) 52 (.tuple #[.agg #[.int .i64 nx, .int .i64 y], .int .i64 0])) 58 (.agg #[.int .i64 nx, .int .i64 y])) 59 (.int .i64 0)) 8 (.int .i64 0)) (#[.int .i64 0, .int .i64 0]) (#[.int .i64 nx, .int .i64 y]) 26 (by kernel_rfl) (by kernel_rfl) (by decide) (by intro d hd; simp at hd; simp; omega) ?_
    simp only [RegD.FF, RegI.FX, RegI.upd, List.foldl_cons, List.foldl_nil, List.mem_cons, List.not_mem_nil, if_true, if_false, Nat.reduceEqDiff, or_false]
    simp only [List.setIfInBounds_toArray, List.set_cons_succ, List.set_cons_zero]
    refine And.intro ?hs1 ?he1
    case hs1 =>
      refine And.intro ?s1_0 (And.intro ?s1_1 (And.intro ?s1_2 (And.intro ?s1_3 (And.intro ?s1_4 (And.intro ?s1_5 (And.intro ?s1_6 (And.intro ?s1_7 (And.intro ?s1_8 (And.intro ?s1_9 (And.intro ?s1_10 (trivial)))))))))))
      case s1_0 =>
        refine RegD.stepN_det (by decide) (by decide) (by simp) (fun u w1 hO => ?_)
        have HB9 := Lib.hid (HB.out.own hO)
        go_wp2_with ((with_reducible show wpList _ _ _ (⟨_, .load 24 (.tmp 3), _, _, _, none⟩ :: _) _ _); refine wpList_load_row rfl 24 (.tmp 3) rfl B rfl 24 _ (0, 0) _ HB9.out.raw Tryd.underlying24 rfl infoB ?_)
        exact ⟨rfl, rfl, rfl, PairW.Own.refl _⟩
      case s1_1 =>
        refine RegD.stepN_det (by decide) (by decide) (by simp) (fun u w1 hO => ?_)
        have HB9 := Lib.hid (H9.out.own hO)
        go_wp2_with ((with_reducible show wpList _ _ _ (⟨_, .load 31 (.tmp 9), _, _, _, none⟩ :: _) _ _); refine wpList_load_row rfl 31 (.tmp 9) rfl B9 rfl 31 _ (0, 0) _ HB9.out.raw Tryd.underlying31 rfl infoP ?_)
        exact ⟨rfl, rfl, rfl, PairW.Own.refl _⟩
      case s1_2 =>
        refine RegD.stepN_det (by decide) (by decide) (by simp) (fun u w1 hO => ?_)
        go_wp2
        exact ⟨rfl, rfl, rfl, PairW.Own.refl _⟩
      case s1_3 =>
        refine RegD.stepN_det (by decide) (by decide) (by simp) (fun u w1 hO => ?_)
        go_wp2_with (go_at_call 13; with_reducible refine (swapped_at s z _ HSW).mono ?_; rintro r w2 ⟨rfl, rfl⟩)
        exact ⟨rfl, rfl, rfl, PairW.Own.refl _⟩
      case s1_4 =>
        refine RegD.stepN_det (by decide) (by decide) (by simp) (fun u w1 hO => ?_)
        go_wp2_with (go_at_call 8; with_reducible refine (bCen_at b m z nx y 0 _ (Lib.hid (tab_own HT.out (g0.trans hO))) (Lib.hid (HBT.out.own (g0.trans hO))) (Lib.hid (HS.out.own (g0.trans hO))) HC2).mono ?_; rintro r w2 ⟨rfl, hg⟩)
        exact ⟨rfl, rfl, rfl, hg⟩
      case s1_5 =>
        refine RegD.stepN_det (by decide) (by decide) (by simp) (fun u w1 hO => ?_)
        go_wp2
        exact ⟨rfl, rfl, rfl, PairW.Own.refl _⟩
      case s1_6 =>
        refine RegD.stepN_det (by decide) (by decide) (by simp) (fun u w1 hO => ?_)
        go_wp2
        exact ⟨rfl, rfl, rfl, PairW.Own.refl _⟩
      case s1_7 =>
        refine RegD.stepN_det (by decide) (by decide) (by simp) (fun u w1 hO => ?_)
        go_wp2
        exact ⟨rfl, rfl, rfl, PairW.Own.refl _⟩
      case s1_8 =>
        refine RegD.stepN_alloc rfl (fun u w1 hO => ?_)
        go_wp2
        exact ⟨rfl, rfl, rfl, rfl⟩
      case s1_9 =>
        refine RegD.stepN_store (by decide) rfl (by kernel_rfl) (fun u w1 N hO hu hN => ?_)
        have HN := Lib.hid hN
        simp only [hu]
        clear hN
        go_wp2_with ((with_reducible show wpList _ _ _ (⟨_, .store 26 (.tmp 13) (.tmp 58), _, _, _, none⟩ :: _) _ _); refine wpList_store_row rfl 26 (.tmp 13) (.tmp 58) rfl N #[.int .i64 nx, .int .i64 y] rfl rfl 26 _ HN.out.raw PstW.infoPt rfl (by simp [Value.oneCell']) ?_)
        exact ⟨rfl, rfl, rfl⟩
      case s1_10 =>
        refine RegD.stepN_det (by decide) (by decide) (by simp) (fun u w1 hO => ?_)
        go_wp2
        exact ⟨rfl, rfl, rfl, PairW.Own.refl _⟩
    intro u w7 B13 hO hu hN0 hN
    simp only [hu]
    have H13 := Lib.hid hN
    clear hu hN0 hN
    replace g0 := g0.trans hO
    replace HB := Lib.hid (HB.out.own hO)
    replace HP := Lib.hid (HP.out.own hO)
    replace H7 := Lib.hid (H7.out.own hO)
    replace H9 := Lib.hid (H9.out.own hO)
    replace H11 := Lib.hid (H11.out.own hO)
    clear hO
    go_upto_region 10 with (first | ((with_reducible show wpList _ _ _ (⟨_, .load 24 (.tmp 3), _, _, _, none⟩ :: _) _ _); refine wpList_load_row rfl 24 (.tmp 3) rfl B rfl 24 _ (0, 0) _ HB.out.raw Tryd.underlying24 rfl infoB ?_) | ((with_reducible show wpList _ _ _ (⟨_, .load 31 (.tmp 11), _, _, _, none⟩ :: _) _ _); refine wpList_load_row rfl 31 (.tmp 11) rfl B11 rfl 31 _ (0, 0) _ H11.out.raw Tryd.underlying31 rfl infoP ?_) | (go_at_call 8; with_reducible refine (bCen_at b q s y nx 0 _ (Lib.hid (tab_own HT.out g0)) (Lib.hid (HBT.out.own g0)) (Lib.hid (HS.out.own g0)) HC3).mono ?_; rintro r w8 ⟨rfl, hg⟩; replace g0 := g0.trans hg; replace HB := Lib.hid (HB.out.own hg); replace HP := Lib.hid (HP.out.own hg); replace H7 := Lib.hid (H7.out.own hg); replace H9 := Lib.hid (H9.out.own hg); replace H11 := Lib.hid (H11.out.own hg); replace H13 := Lib.hid (H13.out.own hg); clear hg) | ((with_reducible show wpList _ _ _ (⟨_, .store 26 (.tmp 14) (.tmp 65), _, _, _, none⟩ :: _) _ _); refine wpList_store_row rfl 26 (.tmp 14) (.tmp 65) rfl _ #[.int .i64 y, .int .i64 nx] rfl rfl 26 _ (heap_new _ _) PstW.infoPt rfl (by simp [Value.oneCell']) ?_; rw [World.setRow_alloc_new]))
    obtain ⟨w9, B14, hW, hBq, hb, hg, B14g⟩ := blk_new w8 (#[.int .i64 y, .int .i64 nx]) 26
    rw [hW, hBq]
    have H14 := Lib.hid hb
    replace g0 := g0.trans hg
    replace HB := Lib.hid (HB.out.own hg)
    replace HP := Lib.hid (HP.out.own hg)
    replace H7 := Lib.hid (H7.out.own hg)
    replace H9 := Lib.hid (H9.out.own hg)
    replace H11 := Lib.hid (H11.out.own hg)
    replace H13 := Lib.hid (H13.out.own hg)
    clear hW hBq hb hg
    clear B14g
    have k0 := H7.out.cell 0
    have k1 := H7.out.cell 1
    go_upto_region 13 with (first | ((with_reducible show wpList _ _ _ (⟨_, .load 26 (.tmp 13), _, _, _, some _⟩ :: _) _ _); refine wpList_load_row_g rfl 26 (.tmp 13) rfl B13 rfl 26 _ (0, 0) _ H13.out.raw Tryd.underlying26 rfl PstW.infoPt ?_) | ((with_reducible show wpList _ _ _ (⟨_, .load 26 (.tmp 14), _, _, _, some _⟩ :: _) _ _); refine wpList_load_row_g rfl 26 (.tmp 14) rfl B14 rfl 26 _ (0, 0) _ H14.out.raw Tryd.underlying26 rfl PstW.infoPt ?_) | ((with_reducible show wpList _ _ _ (⟨_, .load 24 (.tmp 3), _, _, _, none⟩ :: _) _ _); refine wpList_load_row rfl 24 (.tmp 3) rfl B rfl 24 _ (0, 0) _ HB.out.raw Tryd.underlying24 rfl infoB ?_) | ((with_reducible show wpList _ _ _ (⟨_, .load 31 (.tmp 4), _, _, _, none⟩ :: _) _ _); refine wpList_load_row rfl 31 (.tmp 4) rfl P rfl 31 _ (0, 0) _ HP.out.raw Tryd.underlying31 rfl infoP ?_) | (go_at_call 14; with_reducible refine (bSta_at b p s t 0 _ (Lib.hid (tab_own HT.out g0)) (Lib.hid (HBT.out.own g0)) (Lib.hid (HS.out.own g0)) HS1).mono ?_; rintro r w10 ⟨rfl, hg⟩; replace g0 := g0.trans hg; replace HB := Lib.hid (HB.out.own hg); replace HP := Lib.hid (HP.out.own hg); replace H9 := Lib.hid (H9.out.own hg); replace H11 := Lib.hid (H11.out.own hg); clear k0 k1 H7 H13 H14; clear hg))
    (first | go_frame | skip)
    refine RegD.region_duty [101, 102, 103, 104, 105, 100, 106, 107, 16, 10] (RegI.upd (RegI.upd (RegI.upd (RegI.upd (RegI.upd (RegI.upd (RegI.upd (RegI.upd (RegI.upd (RegI.upd (fun _ => undef) 101 (.agg (cz 15 b))) 102 (.agg (cz 22 m))) 103 (.int .i64 s)) 104 (.int .i64 z)) 105 (.tuple #[.bool t, .int .i64 0])) 100 (.tuple #[.bool t, .int .i64 0])) 106 (.bool t)) 107 (.int .i64 0)) 16 (.bool t)) 10 (.int .i64 0)) (by kernel_rfl) (by kernel_rfl) (by intro d hd; simp at hd; simp; omega) ?_
    simp only [RegD.FF, RegI.FX, RegI.upd, List.foldl_cons, List.foldl_nil, List.not_mem_nil, if_true, if_false, Nat.reduceEqDiff]
    simp only [List.setIfInBounds_toArray, List.set_cons_succ, List.set_cons_zero]
    refine And.intro ?hs2 ?he2
    case hs2 =>
      refine And.intro ?s2_0 (And.intro ?s2_1 (And.intro ?s2_2 (And.intro ?s2_3 (And.intro ?s2_4 (And.intro ?s2_5 (And.intro ?s2_6 (And.intro ?s2_7 (And.intro ?s2_8 (And.intro ?s2_9 (trivial))))))))))
      case s2_0 =>
        intro u w1 hO
        have HB9 := Lib.hid (HB.out.own hO)
        go_wp2_with ((with_reducible show wpList _ _ _ (⟨_, .load 24 (.tmp 3), _, _, _, none⟩ :: _) _ _); refine wpList_load_row rfl 24 (.tmp 3) rfl B rfl 24 _ (0, 0) _ HB9.out.raw Tryd.underlying24 rfl infoB ?_)
        exact ⟨rfl, rfl, rfl, PairW.Own.refl _⟩
      case s2_1 =>
        intro u w1 hO
        have HB9 := Lib.hid (H9.out.own hO)
        go_wp2_with ((with_reducible show wpList _ _ _ (⟨_, .load 31 (.tmp 9), _, _, _, none⟩ :: _) _ _); refine wpList_load_row rfl 31 (.tmp 9) rfl B9 rfl 31 _ (0, 0) _ HB9.out.raw Tryd.underlying31 rfl infoP ?_)
        exact ⟨rfl, rfl, rfl, PairW.Own.refl _⟩
      case s2_2 =>
        intro u w1 hO
        go_wp2
        exact ⟨rfl, rfl, rfl, PairW.Own.refl _⟩
      case s2_3 =>
        intro u w1 hO
        go_wp2_with (go_at_call 13; with_reducible refine (swapped_at s z _ HSW).mono ?_; rintro r w2 ⟨rfl, rfl⟩)
        exact ⟨rfl, rfl, rfl, PairW.Own.refl _⟩
      case s2_4 =>
        intro u w1 hO
        go_wp2_with (go_at_call 14; with_reducible refine (bSta_at b m z t 0 _ (Lib.hid (tab_own HT.out (g0.trans hO))) (Lib.hid (HBT.out.own (g0.trans hO))) (Lib.hid (HS.out.own (g0.trans hO))) HS2).mono ?_; rintro r w2 ⟨rfl, hg⟩)
        exact ⟨rfl, rfl, rfl, hg⟩
      case s2_5 =>
        intro u w1 hO
        go_wp2
        exact ⟨rfl, rfl, rfl, PairW.Own.refl _⟩
      case s2_6 =>
        intro u w1 hO
        go_wp2
        exact ⟨rfl, rfl, rfl, PairW.Own.refl _⟩
      case s2_7 =>
        intro u w1 hO
        go_wp2
        exact ⟨rfl, rfl, rfl, PairW.Own.refl _⟩
      case s2_8 =>
        intro u w1 hO
        go_wp2
        exact ⟨rfl, rfl, rfl, PairW.Own.refl _⟩
      case s2_9 =>
        intro u w1 hO
        go_wp2
        exact ⟨rfl, rfl, rfl, PairW.Own.refl _⟩
    intro u w11 hO
    replace g0 := g0.trans hO
    replace HB := Lib.hid (HB.out.own hO)
    replace HP := Lib.hid (HP.out.own hO)
    replace H9 := Lib.hid (H9.out.own hO)
    replace H11 := Lib.hid (H11.out.own hO)
    clear hO
    go_upto_region 18 with (first | ((with_reducible show wpList _ _ _ (⟨_, .load 24 (.tmp 3), _, _, _, none⟩ :: _) _ _); refine wpList_load_row rfl 24 (.tmp 3) rfl B rfl 24 _ (0, 0) _ HB.out.raw Tryd.underlying24 rfl infoB ?_) | ((with_reducible show wpList _ _ _ (⟨_, .load 31 (.tmp 4), _, _, _, none⟩ :: _) _ _); refine wpList_load_row rfl 31 (.tmp 4) rfl P rfl 31 _ (0, 0) _ HP.out.raw Tryd.underlying31 rfl infoP ?_) | ((with_reducible show wpList _ _ _ (⟨_, .load 31 (.tmp 11), _, _, _, none⟩ :: _) _ _); refine wpList_load_row rfl 31 (.tmp 11) rfl B11 rfl 31 _ (0, 0) _ H11.out.raw Tryd.underlying31 rfl infoP ?_) | (go_at_call 14; with_reducible refine (bSta_at b q s t 0 _ (Lib.hid (tab_own HT.out g0)) (Lib.hid (HBT.out.own g0)) (Lib.hid (HS.out.own g0)) HS3).mono ?_; rintro r w12 ⟨rfl, hg⟩; replace g0 := g0.trans hg; replace HB := Lib.hid (HB.out.own hg); replace HP := Lib.hid (HP.out.own hg); replace H9 := Lib.hid (H9.out.own hg); replace H11 := Lib.hid (H11.out.own hg); clear hg) | (go_at_call 15; with_reducible refine (bMar_at b p s n e _ (Lib.hid (tab_own HT.out g0)) (Lib.hid (HBT.out.own g0)) (Lib.hid (HS.out.own g0)) HG1).mono ?_; rintro r w13 ⟨rfl, hg⟩; replace g0 := g0.trans hg; replace HB := Lib.hid (HB.out.own hg); replace HP := Lib.hid (HP.out.own hg); replace H9 := Lib.hid (H9.out.own hg); replace H11 := Lib.hid (H11.out.own hg); clear hg))
    (first | go_frame | skip)
    refine RegD.region_duty [143, 144, 145, 146, 147, 142, 148, 149, 19, 10] (RegI.upd (RegI.upd (RegI.upd (RegI.upd (RegI.upd (RegI.upd (RegI.upd (RegI.upd (RegI.upd (RegI.upd (fun _ => undef) 143 (.agg (cz 15 b))) 144 (.agg (cz 22 m))) 145 (.int .i64 s)) 146 (.int .i64 z)) 147 (.tuple #[.int .i64 n, .int .i64 e])) 142 (.tuple #[.int .i64 n, .int .i64 e])) 148 (.int .i64 n)) 149 (.int .i64 e)) 19 (.int .i64 n)) 10 (.int .i64 e)) (by kernel_rfl) (by kernel_rfl) (by intro d hd; simp at hd; simp; omega) ?_
    simp only [RegD.FF, RegI.FX, RegI.upd, List.foldl_cons, List.foldl_nil, List.not_mem_nil, if_true, if_false, Nat.reduceEqDiff]
    simp only [List.setIfInBounds_toArray, List.set_cons_succ, List.set_cons_zero]
    refine And.intro ?hs3 ?he3
    case hs3 =>
      refine And.intro ?s3_0 (And.intro ?s3_1 (And.intro ?s3_2 (And.intro ?s3_3 (And.intro ?s3_4 (And.intro ?s3_5 (And.intro ?s3_6 (And.intro ?s3_7 (And.intro ?s3_8 (And.intro ?s3_9 (trivial))))))))))
      case s3_0 =>
        intro u w1 hO
        have HB9 := Lib.hid (HB.out.own hO)
        go_wp2_with ((with_reducible show wpList _ _ _ (⟨_, .load 24 (.tmp 3), _, _, _, none⟩ :: _) _ _); refine wpList_load_row rfl 24 (.tmp 3) rfl B rfl 24 _ (0, 0) _ HB9.out.raw Tryd.underlying24 rfl infoB ?_)
        exact ⟨rfl, rfl, rfl, PairW.Own.refl _⟩
      case s3_1 =>
        intro u w1 hO
        have HB9 := Lib.hid (H9.out.own hO)
        go_wp2_with ((with_reducible show wpList _ _ _ (⟨_, .load 31 (.tmp 9), _, _, _, none⟩ :: _) _ _); refine wpList_load_row rfl 31 (.tmp 9) rfl B9 rfl 31 _ (0, 0) _ HB9.out.raw Tryd.underlying31 rfl infoP ?_)
        exact ⟨rfl, rfl, rfl, PairW.Own.refl _⟩
      case s3_2 =>
        intro u w1 hO
        go_wp2
        exact ⟨rfl, rfl, rfl, PairW.Own.refl _⟩
      case s3_3 =>
        intro u w1 hO
        go_wp2_with (go_at_call 13; with_reducible refine (swapped_at s z _ HSW).mono ?_; rintro r w2 ⟨rfl, rfl⟩)
        exact ⟨rfl, rfl, rfl, PairW.Own.refl _⟩
      case s3_4 =>
        intro u w1 hO
        go_wp2_with (go_at_call 15; with_reducible refine (bMar_at b m z n e _ (Lib.hid (tab_own HT.out (g0.trans hO))) (Lib.hid (HBT.out.own (g0.trans hO))) (Lib.hid (HS.out.own (g0.trans hO))) HG2).mono ?_; rintro r w2 ⟨rfl, hg⟩)
        exact ⟨rfl, rfl, rfl, hg⟩
      case s3_5 =>
        intro u w1 hO
        go_wp2
        exact ⟨rfl, rfl, rfl, PairW.Own.refl _⟩
      case s3_6 =>
        intro u w1 hO
        go_wp2
        exact ⟨rfl, rfl, rfl, PairW.Own.refl _⟩
      case s3_7 =>
        intro u w1 hO
        go_wp2
        exact ⟨rfl, rfl, rfl, PairW.Own.refl _⟩
      case s3_8 =>
        intro u w1 hO
        go_wp2
        exact ⟨rfl, rfl, rfl, PairW.Own.refl _⟩
      case s3_9 =>
        intro u w1 hO
        go_wp2
        exact ⟨rfl, rfl, rfl, PairW.Own.refl _⟩
    intro u w14 hO
    replace g0 := g0.trans hO
    replace HB := Lib.hid (HB.out.own hO)
    replace H11 := Lib.hid (H11.out.own hO)
    clear hO
    clear HP H9
    go_wp2_with (first | ((with_reducible show wpList _ _ _ (⟨_, .load 24 (.tmp 3), _, _, _, none⟩ :: _) _ _); refine wpList_load_row rfl 24 (.tmp 3) rfl B rfl 24 _ (0, 0) _ HB.out.raw Tryd.underlying24 rfl infoB ?_) | ((with_reducible show wpList _ _ _ (⟨_, .load 31 (.tmp 11), _, _, _, none⟩ :: _) _ _); refine wpList_load_row rfl 31 (.tmp 11) rfl B11 rfl 31 _ (0, 0) _ H11.out.raw Tryd.underlying31 rfl infoP ?_) | (go_at_call 15; with_reducible refine (bMar_at b q s n e _ (Lib.hid (tab_own HT.out g0)) (Lib.hid (HBT.out.own g0)) (Lib.hid (HS.out.own g0)) HG3).mono ?_; rintro r w15 ⟨rfl, hg⟩; replace g0 := g0.trans hg; clear hg) | (go_at_call 10; with_reducible refine (awake_at _ (Lib.hid (tab_own HT.out g0)) (Lib.hid (HBT.out.own g0)) (Lib.hid (HS.out.own g0))).mono ?_; rintro r w99 ⟨rfl, hg⟩; replace g0 := g0.trans hg; clear hg))
    go_ret
    exact ⟨by first | rfl | (exact ret_bool (by simp)), g0⟩
  · obtain ⟨c, hc⟩ : ∃ c, joE b p s = c := ⟨_, rfl⟩
    have HC := Lib.hid (show ceV b p s 0 = 0 ∧ ceV b p s 1 = 0 ∧ joE b p s = c from ⟨ceV_no h 0, ceV_no h 1, hc⟩)
    rw [hc] at h
    have kc : (c != 0) = true := bne_iff_ne.2 h
    clear h hc
    go_enter Tryd.func4, Tryd.ntmps4
    go_upto_region 1 with (fail)
    obtain ⟨W0, B, P, hW, hC, hBq, hb, hc, g0, -, -, -⟩ := two_new w (cz 15 b) 24 (cz 22 p) 31
    rw [hW, hC, hBq]
    have HB := Lib.hid hb
    have HP := Lib.hid hc
    clear hW hC hBq hb hc
    go_upto_region 2 with (first | ((with_reducible show wpList _ _ _ (⟨_, .load 24 (.tmp 3), _, _, _, none⟩ :: _) _ _); refine wpList_load_row rfl 24 (.tmp 3) rfl B rfl 24 _ (0, 0) _ HB.out.raw Tryd.underlying24 rfl infoB ?_) | ((with_reducible show wpList _ _ _ (⟨_, .load 31 (.tmp 4), _, _, _, none⟩ :: _) _ _); refine wpList_load_row rfl 31 (.tmp 4) rfl P rfl 31 _ (0, 0) _ HP.out.raw Tryd.underlying31 rfl infoP ?_) | (go_at_call 8; with_reducible refine (bCen_at b p s 0 0 c _ (Lib.hid (tab_own HT.out g0)) (Lib.hid (HBT.out.own g0)) (Lib.hid (HS.out.own g0)) HC).mono ?_; rintro r w1 ⟨rfl, hg⟩; replace g0 := g0.trans hg; clear hg) | ((with_reducible show wpList _ _ _ (⟨_, .store 26 (.tmp 7) (.tmp 26), _, _, _, none⟩ :: _) _ _); refine wpList_store_row rfl 26 (.tmp 7) (.tmp 26) rfl _ #[.int .i64 0, .int .i64 0] rfl rfl 26 _ (heap_new _ _) PstW.infoPt rfl (by simp [Value.oneCell']) ?_; rw [World.setRow_alloc_new]))
    obtain ⟨w2, B7, hW, hBq, hb, hg, B7g⟩ := blk_new w1 (#[.int .i64 0, .int .i64 0]) 26
    rw [hW, hBq]
    have H7 := Lib.hid hb
    replace g0 := g0.trans hg
    clear hW hBq hb hg
    clear B7g
    clear HB HP
    go_wp2_with (first | ((with_reducible show wpList _ _ _ (⟨_, .load 26 (.tmp 7), _, _, _, none⟩ :: _) _ _); refine wpList_load_row rfl 26 (.tmp 7) rfl B7 rfl 26 _ (0, 0) _ H7.out.raw Tryd.underlying26 rfl PstW.infoPt ?_) | (go_at_call 10; with_reducible refine (awake_at _ (Lib.hid (tab_own HT.out g0)) (Lib.hid (HBT.out.own g0)) (Lib.hid (HS.out.own g0))).mono ?_; rintro r w99 ⟨rfl, hg⟩; replace g0 := g0.trans hg; clear hg))
    go_ret
    exact ⟨by first | rfl | (exact ret_bool (by simp)), g0⟩
end Go.Proofs.YtighpjhipgobiaaDoor.BalL
