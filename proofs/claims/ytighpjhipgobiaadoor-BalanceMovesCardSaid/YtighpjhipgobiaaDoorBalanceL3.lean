/-
  Walks of the laws of package balance: BalanceMoves. Condition: the table of sines, the table of bounds and the numbers of both sides lie in memory.
-/
import Derived.Test.YtighpjhipgobiaaDoorBalanceT
namespace Go.Proofs.YtighpjhipgobiaaDoor.BalL
open Go.ChangeShapes Go.WideShapes Go.ChangeAt Go.RowKit
open BalW PairW AimP AimW BlkW PrtW PstP PstW JntP JntW BalP
set_option maxRecDepth 100000 in
set_option maxHeartbeats 40000000 in
theorem BalanceMoves_walk (b p : Vl) (s m1 m2 : Int) (w : World) (HT : Hid (AngW.Tab w)) (HBT : Hid (BuiW.Tab w)) (HS : Hid (Sds w)) :
    Calls Tryd.prog 5 #[.agg (cz 15 b), .agg (cz 22 p), .agg #[.int .i64 s, .int .i64 m1, .int .i64 m2]] w fun r w' => r = .returned (.bool true) ∧ PairW.Own w w' := by
  by_cases h1 : -32768 ≤ m1
  · by_cases h2 : m1 ≤ 32768
    · by_cases h3 : -32768 ≤ m2
      · by_cases h4 : m2 ≤ 32768
        · by_cases hv : vaE p = 0
          · have d1 : decide (m1 < -32768) = false := decide_eq_false (by omega)
            have d2 : decide (32768 < m1) = false := decide_eq_false (by omega)
            have d3 : decide (m2 < -32768) = false := decide_eq_false (by omega)
            have d4 : decide (32768 < m2) = false := decide_eq_false (by omega)
            obtain ⟨hpp0, hpp1, -, -⟩ := (va_yes hv).1
            obtain ⟨a, ha⟩ : ∃ x, 2 * m1 = x := ⟨_, rfl⟩
            obtain ⟨b2, hb2⟩ : ∃ x, 2 * m2 = x := ⟨_, rfl⟩
            obtain ⟨x, hx⟩ : ∃ z, p 0 + a = z := ⟨_, rfl⟩
            obtain ⟨y, hy⟩ : ∃ z, p 1 + b2 = z := ⟨_, rfl⟩
            have i0 : IntKind.i64.wrap (2 * m1) = a := (IntWalk.i64_in _ (by omega)).trans ha
            have i1 : IntKind.i64.wrap (2 * m2) = b2 := (IntWalk.i64_in _ (by omega)).trans hb2
            have i2 : IntKind.i64.wrap (p 0 + a) = x := (IntWalk.i64_in _ (by omega)).trans hx
            have i3 : IntKind.i64.wrap (p 1 + b2) = y := (IntWalk.i64_in _ (by omega)).trans hy
            have HV := Lib.hid hv
            have HQE := Lib.hid (show cz 22 (put p 0 2 (l2 x y)) = cz 22 (at2 p x y) from cz_congr (fun i _ => by
              unfold put at2 l2
              by_cases c0 : i = 0
              · subst c0; rfl
              · by_cases c1 : i = 1
                · subst c1; rfl
                · rw [if_neg (by omega), if_neg c0, if_neg c1]))
            obtain ⟨q, hq⟩ : ∃ f, at2 p x y = f := ⟨_, rfl⟩
            rw [hq] at HQE
            by_cases hvq : vaE q = 0
            · by_cases hj : joE b p s = 0
              · have hj2 : joE b q s = 0 := (jo_moved hv hvq).trans hj
                have hce := ce_rel hj
                rw [← ceV_yes hj, ← ceV_yes hj] at hce
                obtain ⟨⟨e1, e2⟩, e3, e4, e5⟩ := ba_at (x := x) (y := y) hj (by rw [hq]; exact hj2) (by omega) (by omega)
                rw [hq] at e1 e2 e3 e4 e5
                rw [show x - p 0 = a by omega] at e1
                rw [show y - p 1 = b2 by omega] at e2
                obtain ⟨x0, hx0⟩ : ∃ z, ceV b p s 0 = z := ⟨_, rfl⟩
                obtain ⟨y0, hy0⟩ : ∃ z, ceV b p s 1 = z := ⟨_, rfl⟩
                rw [hx0] at e1 hce
                rw [hy0] at e2 hce
                obtain ⟨x9, hx9⟩ : ∃ z, x0 + a = z := ⟨_, rfl⟩
                obtain ⟨y9, hy9⟩ : ∃ z, y0 + b2 = z := ⟨_, rfl⟩
                have i4 : IntKind.i64.wrap (x0 + a) = x9 := (IntWalk.i64_in _ (by omega)).trans hx9
                have i5 : IntKind.i64.wrap (y0 + b2) = y9 := (IntWalk.i64_in _ (by omega)).trans hy9
                rw [hx9] at e1
                rw [hy9] at e2
                obtain ⟨t, ht⟩ : ∃ z, stV b p s = z := ⟨_, rfl⟩
                obtain ⟨n, hn⟩ : ∃ z, mgV b p s = z := ⟨_, rfl⟩
                obtain ⟨e, he⟩ : ∃ z, mgE b p s = z := ⟨_, rfl⟩
                rw [ht] at e3
                rw [he] at e4
                rw [hn] at e5
                have HC1 := Lib.hid (show ceV b p s 0 = x0 ∧ ceV b p s 1 = y0 ∧ joE b p s = 0 from ⟨hx0, hy0, hj⟩)
                have HC2 := Lib.hid (show ceV b q s 0 = x9 ∧ ceV b q s 1 = y9 ∧ joE b q s = 0 from ⟨e1, e2, hj2⟩)
                have HS1 := Lib.hid (show stV b p s = t ∧ joE b p s = 0 from ⟨ht, hj⟩)
                have HS2 := Lib.hid (show stV b q s = t ∧ joE b q s = 0 from ⟨e3, hj2⟩)
                have HG1 := Lib.hid (show mgV b p s = n ∧ mgE b p s = e from ⟨hn, he⟩)
                have HG2 := Lib.hid (show mgV b q s = n ∧ mgE b q s = e from ⟨e5, e4⟩)
                have HVQ := Lib.hid hvq
                clear hce e1 e2 e3 e4 e5 hx0 hy0 hx9 hy9 ht hn he hj hj2 hvq hv hq ha hb2 hx hy hpp0 hpp1 h1 h2 h3 h4
                go_enter Tryd.func5, Tryd.ntmps5
                go_upto_region 1 with (fail)
                obtain ⟨W0, B, P, X, hW, hD, hC, hBq, hb, hc, hd, g0, -, -, -, -⟩ := three_new w (cz 15 b) 24 (cz 22 p) 31 (#[.int .i64 s, .int .i64 m1, .int .i64 m2]) 45
                rw [hW, hD, hC, hBq]
                have HB := Lib.hid hb
                have HP := Lib.hid hc
                have HX := Lib.hid hd
                clear hW hD hC hBq hb hc hd
                refine RegD.region_dutyN [21, 22, 23, 8, 7] 8 3 5 (RegI.upd (RegI.upd (RegI.upd (RegI.upd (fun _ => undef) 21 (.pointer (some ⟨X, 0, none⟩))) 22 (.int .i64 s)) 23 (.agg (cz 22 p))) 7 (.int .i64 s)) (cz 22 nul) (cz 22 p) 31 (by kernel_rfl) (by kernel_rfl) (by decide) (by intro d hd; simp at hd; simp; omega) ?_
                simp only [RegD.FF, RegI.FX, RegI.upd, List.foldl_cons, List.foldl_nil, List.mem_cons, List.not_mem_nil, if_true, if_false, Nat.reduceEqDiff, or_false]
                simp only [List.setIfInBounds_toArray, List.set_cons_succ, List.set_cons_zero]
                refine And.intro ?hs5 ?he5
                case hs5 =>
                  refine And.intro ?s5_0 (And.intro ?s5_1 (And.intro ?s5_2 (And.intro ?s5_3 (And.intro ?s5_4 (And.intro ?s5_5 (trivial))))))
                  case s5_0 =>
                    refine RegD.stepN_det (by decide) (by decide) (by simp) (fun u w1 hO => ?_)
                    go_wp2
                    exact ⟨rfl, rfl, rfl, PairW.Own.refl _⟩
                  case s5_1 =>
                    refine RegD.stepN_det (by decide) (by decide) (by simp) (fun u w1 hO => ?_)
                    have kk := (HX.out.own hO).cell 0
                    go_wp2
                    exact ⟨rfl, rfl, rfl, PairW.Own.refl _⟩
                  case s5_2 =>
                    refine RegD.stepN_det (by decide) (by decide) (by simp) (fun u w1 hO => ?_)
                    have HB9 := Lib.hid (HP.out.own hO)
                    go_wp2_with ((with_reducible show wpList _ _ _ (⟨_, .load 31 (.tmp 4), _, _, _, none⟩ :: _) _ _); refine wpList_load_row rfl 31 (.tmp 4) rfl P rfl 31 _ (0, 0) _ HB9.out.raw Tryd.underlying31 rfl infoP ?_)
                    exact ⟨rfl, rfl, rfl, PairW.Own.refl _⟩
                  case s5_3 =>
                    refine RegD.stepN_alloc rfl (fun u w1 hO => ?_)
                    go_wp2
                    exact ⟨rfl, rfl, rfl, rfl⟩
                  case s5_4 =>
                    refine RegD.stepN_det (by decide) (by decide) (by simp) (fun u w1 hO => ?_)
                    go_wp2
                    exact ⟨rfl, rfl, rfl, PairW.Own.refl _⟩
                  case s5_5 =>
                    refine RegD.stepN_store (by decide) rfl (by kernel_rfl) (fun u w1 N hO hu hN => ?_)
                    have HN := Lib.hid hN
                    simp only [hu]
                    clear hN
                    go_wp2_with ((with_reducible show wpList _ _ _ (⟨_, .store 31 (.tmp 8) (.tmp 23), _, _, _, none⟩ :: _) _ _); refine wpList_store_row rfl 31 (.tmp 8) (.tmp 23) rfl N (cz 22 (p)) rfl rfl 31 _ HN.out.raw infoP rfl (cz_one _ _) ?_)
                    exact ⟨rfl, rfl, rfl⟩
                intro u w1 Q hO hu hN0 hN
                simp only [hu]
                have HQ := Lib.hid hN
                have hBQ := Nat.ne_of_lt (Nat.lt_of_lt_of_le HB.out.lt hN0)
                have hPQ := Nat.ne_of_lt (Nat.lt_of_lt_of_le HP.out.lt hN0)
                have hXQ := Nat.ne_of_lt (Nat.lt_of_lt_of_le HX.out.lt hN0)
                have hQ0 : w.heap.size ≤ Q := Nat.le_trans g0.size hN0
                clear hu hN0 hN
                replace g0 := g0.trans hO
                replace HB := Lib.hid (HB.out.own hO)
                replace HP := Lib.hid (HP.out.own hO)
                replace HX := Lib.hid (HX.out.own hO)
                clear hO
                have x1 := HX.out.cell 1
                have x2 := HX.out.cell 2
                have p0 := blk_num HP.out (i := 0) (by omega)
                have p1 := blk_num HP.out (i := 1) (by omega)
                go_upto_region 5 with (first | ((with_reducible show wpList _ _ _ (⟨_, .load 31 (.tmp 4), _, _, _, some _⟩ :: _) _ _); refine wpList_load_row_g rfl 31 (.tmp 4) rfl P rfl 31 _ (0, 0) _ HP.out.raw Tryd.underlying31 rfl infoP ?_) | (go_at_call 16; with_reducible refine (qvalid_at p 0 _ HV).mono ?_; rintro r w2 ⟨rfl, hg⟩; replace g0 := g0.trans hg; replace HB := Lib.hid (HB.out.own hg); replace HP := Lib.hid (HP.out.own hg); replace HX := Lib.hid (HX.out.own hg); replace HQ := Lib.hid (HQ.out.own hg); replace x1 := HX.out.cell 1; replace x2 := HX.out.cell 2; replace p0 := blk_num HP.out (i := 0) (by omega); replace p1 := blk_num HP.out (i := 1) (by omega); clear hg) | ((with_reducible show wpList _ _ _ (⟨_, .store 26 (.tmp 63) (.tmp 62), _, _, _, none⟩ :: _) _ _); refine wpList_store_part rfl 26 (.tmp 63) (.tmp 62) rfl Q (0) 2 (l2 x y) rfl (#[.int .i64 x, .int .i64 y]) rfl rfl HQ.out (by omega) PstW.infoPt ?_))
                clear p0 p1 x1 x2
                have hb9 := HQ.out.row (cz 22 (put p 0 2 (l2 x y)))
                have h9HB := HB.out.rowfar hBQ (cz 22 (put p 0 2 (l2 x y)))
                have h9HP := HP.out.rowfar hPQ (cz 22 (put p 0 2 (l2 x y)))
                have h9HX := HX.out.rowfar hXQ (cz 22 (put p 0 2 (l2 x y)))
                replace g0 := own_setRow g0 hQ0 (cz 22 (put p 0 2 (l2 x y)))
                clear HQ HB HP HX
                generalize w2.setRow Q (cz 22 (put p 0 2 (l2 x y))) = w3 at *
                have HQ := Lib.hid hb9
                have HB := Lib.hid h9HB
                have HP := Lib.hid h9HP
                have HX := Lib.hid h9HX
                clear hb9 h9HB h9HP h9HX
                rw [show cz 22 (put p 0 2 (l2 x y)) = cz 22 q from HQE.out] at HQ
                clear hBQ hPQ hXQ hQ0 i2 i3
                (first | go_frame | skip)
                go_upto_region 8 with (first | ((with_reducible show wpList _ _ _ (⟨_, .load 31 (.tmp 8), _, _, _, none⟩ :: _) _ _); refine wpList_load_row rfl 31 (.tmp 8) rfl Q rfl 31 _ (0, 0) _ HQ.out.raw Tryd.underlying31 rfl infoP ?_) | (go_at_call 16; with_reducible refine (qvalid_at q 0 _ HVQ).mono ?_; rintro r w4 ⟨rfl, hg⟩; replace g0 := g0.trans hg; replace HB := Lib.hid (HB.out.own hg); replace HP := Lib.hid (HP.out.own hg); replace HX := Lib.hid (HX.out.own hg); replace HQ := Lib.hid (HQ.out.own hg); clear hg) | ((with_reducible show wpList _ _ _ (⟨_, .load 24 (.tmp 3), _, _, _, none⟩ :: _) _ _); refine wpList_load_row rfl 24 (.tmp 3) rfl B rfl 24 _ (0, 0) _ HB.out.raw Tryd.underlying24 rfl infoB ?_) | ((with_reducible show wpList _ _ _ (⟨_, .load 31 (.tmp 4), _, _, _, none⟩ :: _) _ _); refine wpList_load_row rfl 31 (.tmp 4) rfl P rfl 31 _ (0, 0) _ HP.out.raw Tryd.underlying31 rfl infoP ?_) | (go_at_call 8; with_reducible refine (bCen_at b p s x0 y0 0 _ (Lib.hid (tab_own HT.out g0)) (Lib.hid (HBT.out.own g0)) (Lib.hid (HS.out.own g0)) HC1).mono ?_; rintro r w5 ⟨rfl, hg⟩; replace g0 := g0.trans hg; replace HB := Lib.hid (HB.out.own hg); replace HP := Lib.hid (HP.out.own hg); replace HX := Lib.hid (HX.out.own hg); replace HQ := Lib.hid (HQ.out.own hg); clear hg) | ((with_reducible show wpList _ _ _ (⟨_, .store 26 (.tmp 9) (.tmp 73), _, _, _, none⟩ :: _) _ _); refine wpList_store_row rfl 26 (.tmp 9) (.tmp 73) rfl _ #[.int .i64 x0, .int .i64 y0] rfl rfl 26 _ (heap_new _ _) PstW.infoPt rfl (by simp [Value.oneCell']) ?_; rw [World.setRow_alloc_new]))
                obtain ⟨w6, B9, hW, hBq, hb, hg, B9g⟩ := blk_new w5 (#[.int .i64 x0, .int .i64 y0]) 26
                rw [hW, hBq]
                have H9 := Lib.hid hb
                replace g0 := g0.trans hg
                replace HB := Lib.hid (HB.out.own hg)
                replace HP := Lib.hid (HP.out.own hg)
                replace HX := Lib.hid (HX.out.own hg)
                replace HQ := Lib.hid (HQ.out.own hg)
                clear hW hBq hb hg
                clear B9g
                go_upto_region 9 with (first | ((with_reducible show wpList _ _ _ (⟨_, .load 24 (.tmp 3), _, _, _, none⟩ :: _) _ _); refine wpList_load_row rfl 24 (.tmp 3) rfl B rfl 24 _ (0, 0) _ HB.out.raw Tryd.underlying24 rfl infoB ?_) | ((with_reducible show wpList _ _ _ (⟨_, .load 31 (.tmp 8), _, _, _, none⟩ :: _) _ _); refine wpList_load_row rfl 31 (.tmp 8) rfl Q rfl 31 _ (0, 0) _ HQ.out.raw Tryd.underlying31 rfl infoP ?_) | (go_at_call 8; with_reducible refine (bCen_at b q s x9 y9 0 _ (Lib.hid (tab_own HT.out g0)) (Lib.hid (HBT.out.own g0)) (Lib.hid (HS.out.own g0)) HC2).mono ?_; rintro r w7 ⟨rfl, hg⟩; replace g0 := g0.trans hg; replace HB := Lib.hid (HB.out.own hg); replace HP := Lib.hid (HP.out.own hg); replace HX := Lib.hid (HX.out.own hg); replace HQ := Lib.hid (HQ.out.own hg); replace H9 := Lib.hid (H9.out.own hg); clear hg) | ((with_reducible show wpList _ _ _ (⟨_, .store 26 (.tmp 11) (.tmp 80), _, _, _, none⟩ :: _) _ _); refine wpList_store_row rfl 26 (.tmp 11) (.tmp 80) rfl _ #[.int .i64 x9, .int .i64 y9] rfl rfl 26 _ (heap_new _ _) PstW.infoPt rfl (by simp [Value.oneCell']) ?_; rw [World.setRow_alloc_new]))
                obtain ⟨w8, B11, hW, hBq, hb, hg, B11g⟩ := blk_new w7 (#[.int .i64 x9, .int .i64 y9]) 26
                rw [hW, hBq]
                have H11 := Lib.hid hb
                replace g0 := g0.trans hg
                replace HB := Lib.hid (HB.out.own hg)
                replace HP := Lib.hid (HP.out.own hg)
                replace HX := Lib.hid (HX.out.own hg)
                replace HQ := Lib.hid (HQ.out.own hg)
                replace H9 := Lib.hid (H9.out.own hg)
                clear hW hBq hb hg
                clear B11g
                go_upto_region 13 with (first | ((with_reducible show wpList _ _ _ (⟨_, .load 24 (.tmp 3), _, _, _, none⟩ :: _) _ _); refine wpList_load_row rfl 24 (.tmp 3) rfl B rfl 24 _ (0, 0) _ HB.out.raw Tryd.underlying24 rfl infoB ?_) | ((with_reducible show wpList _ _ _ (⟨_, .load 31 (.tmp 8), _, _, _, none⟩ :: _) _ _); refine wpList_load_row rfl 31 (.tmp 8) rfl Q rfl 31 _ (0, 0) _ HQ.out.raw Tryd.underlying31 rfl infoP ?_) | ((with_reducible show wpList _ _ _ (⟨_, .load 31 (.tmp 4), _, _, _, none⟩ :: _) _ _); refine wpList_load_row rfl 31 (.tmp 4) rfl P rfl 31 _ (0, 0) _ HP.out.raw Tryd.underlying31 rfl infoP ?_) | (go_at_call 14; with_reducible refine (bSta_at b p s t 0 _ (Lib.hid (tab_own HT.out g0)) (Lib.hid (HBT.out.own g0)) (Lib.hid (HS.out.own g0)) HS1).mono ?_; rintro r w9 ⟨rfl, hg⟩; replace g0 := g0.trans hg; replace HB := Lib.hid (HB.out.own hg); replace HP := Lib.hid (HP.out.own hg); replace HX := Lib.hid (HX.out.own hg); replace HQ := Lib.hid (HQ.out.own hg); replace H9 := Lib.hid (H9.out.own hg); replace H11 := Lib.hid (H11.out.own hg); clear hg) | (go_at_call 14; with_reducible refine (bSta_at b q s t 0 _ (Lib.hid (tab_own HT.out g0)) (Lib.hid (HBT.out.own g0)) (Lib.hid (HS.out.own g0)) HS2).mono ?_; rintro r w10 ⟨rfl, hg⟩; replace g0 := g0.trans hg; replace HB := Lib.hid (HB.out.own hg); replace HP := Lib.hid (HP.out.own hg); replace HX := Lib.hid (HX.out.own hg); replace HQ := Lib.hid (HQ.out.own hg); replace H9 := Lib.hid (H9.out.own hg); replace H11 := Lib.hid (H11.out.own hg); clear hg) | (go_at_call 15; with_reducible refine (bMar_at b p s n e _ (Lib.hid (tab_own HT.out g0)) (Lib.hid (HBT.out.own g0)) (Lib.hid (HS.out.own g0)) HG1).mono ?_; rintro r w11 ⟨rfl, hg⟩; replace g0 := g0.trans hg; replace HB := Lib.hid (HB.out.own hg); replace HP := Lib.hid (HP.out.own hg); replace HX := Lib.hid (HX.out.own hg); replace HQ := Lib.hid (HQ.out.own hg); replace H9 := Lib.hid (H9.out.own hg); replace H11 := Lib.hid (H11.out.own hg); clear hg) | (go_at_call 15; with_reducible refine (bMar_at b q s n e _ (Lib.hid (tab_own HT.out g0)) (Lib.hid (HBT.out.own g0)) (Lib.hid (HS.out.own g0)) HG2).mono ?_; rintro r w12 ⟨rfl, hg⟩; replace g0 := g0.trans hg; replace HB := Lib.hid (HB.out.own hg); replace HP := Lib.hid (HP.out.own hg); replace HX := Lib.hid (HX.out.own hg); replace HQ := Lib.hid (HQ.out.own hg); replace H9 := Lib.hid (H9.out.own hg); replace H11 := Lib.hid (H11.out.own hg); clear hg))
                clear HB HP HQ
                have x1 := HX.out.cell 1
                have x2 := HX.out.cell 2
                have k0 := H9.out.cell 0
                have k1 := H9.out.cell 1
                go_wp2_with (first | ((with_reducible show wpList _ _ _ (⟨_, .load 26 (.tmp 9), _, _, _, some _⟩ :: _) _ _); refine wpList_load_row_g rfl 26 (.tmp 9) rfl B9 rfl 26 _ (0, 0) _ H9.out.raw Tryd.underlying26 rfl PstW.infoPt ?_) | ((with_reducible show wpList _ _ _ (⟨_, .load 26 (.tmp 11), _, _, _, some _⟩ :: _) _ _); refine wpList_load_row_g rfl 26 (.tmp 11) rfl B11 rfl 26 _ (0, 0) _ H11.out.raw Tryd.underlying26 rfl PstW.infoPt ?_) | (go_at_call 10; with_reducible refine (awake_at _ (Lib.hid (tab_own HT.out g0)) (Lib.hid (HBT.out.own g0)) (Lib.hid (HS.out.own g0))).mono ?_; rintro r w99 ⟨rfl, hg⟩; replace g0 := g0.trans hg; clear hg))
                go_ret
                exact ⟨by first | rfl | (exact ret_bool (by simp)), g0⟩
              · have hj2 : joE b q s = joE b p s := jo_moved hv hvq
                obtain ⟨c, hc⟩ : ∃ c, joE b p s = c := ⟨_, rfl⟩
                have hjq : joE b q s ≠ 0 := by rw [hj2]; exact hj
                have HC1 := Lib.hid (show ceV b p s 0 = 0 ∧ ceV b p s 1 = 0 ∧ joE b p s = c from ⟨ceV_no hj 0, ceV_no hj 1, hc⟩)
                have HC2 := Lib.hid (show ceV b q s 0 = 0 ∧ ceV b q s 1 = 0 ∧ joE b q s = c from ⟨ceV_no hjq 0, ceV_no hjq 1, hj2.trans hc⟩)
                have HS1 := Lib.hid (show stV b p s = false ∧ joE b p s = c from ⟨stV_no hj, hc⟩)
                have HS2 := Lib.hid (show stV b q s = false ∧ joE b q s = c from ⟨stV_no hjq, hj2.trans hc⟩)
                have HG1 := Lib.hid (show mgV b p s = 0 ∧ mgE b p s = c from ⟨(mg_no hj).2, (mg_no hj).1.trans hc⟩)
                have HG2 := Lib.hid (show mgV b q s = 0 ∧ mgE b q s = c from ⟨(mg_no hjq).2, (mg_no hjq).1.trans (hj2.trans hc)⟩)
                rw [hc] at hj
                have kc : (c != 0) = true := bne_iff_ne.2 hj
                have kd : decide (c = 0) = false := decide_eq_false hj
                have HVQ := Lib.hid hvq
                clear hj hj2 hjq hc hvq hv hq ha hb2 hx hy hpp0 hpp1 h1 h2 h3 h4
                go_enter Tryd.func5, Tryd.ntmps5
                go_upto_region 1 with (fail)
                obtain ⟨W0, B, P, X, hW, hD, hC, hBq, hb, hc, hd, g0, -, -, -, -⟩ := three_new w (cz 15 b) 24 (cz 22 p) 31 (#[.int .i64 s, .int .i64 m1, .int .i64 m2]) 45
                rw [hW, hD, hC, hBq]
                have HB := Lib.hid hb
                have HP := Lib.hid hc
                have HX := Lib.hid hd
                clear hW hD hC hBq hb hc hd
                refine RegD.region_dutyN [21, 22, 23, 8, 7] 8 3 5 (RegI.upd (RegI.upd (RegI.upd (RegI.upd (fun _ => undef) 21 (.pointer (some ⟨X, 0, none⟩))) 22 (.int .i64 s)) 23 (.agg (cz 22 p))) 7 (.int .i64 s)) (cz 22 nul) (cz 22 p) 31 (by kernel_rfl) (by kernel_rfl) (by decide) (by intro d hd; simp at hd; simp; omega) ?_
                simp only [RegD.FF, RegI.FX, RegI.upd, List.foldl_cons, List.foldl_nil, List.mem_cons, List.not_mem_nil, if_true, if_false, Nat.reduceEqDiff, or_false]
                simp only [List.setIfInBounds_toArray, List.set_cons_succ, List.set_cons_zero]
                refine And.intro ?hs6 ?he6
                case hs6 =>
                  refine And.intro ?s6_0 (And.intro ?s6_1 (And.intro ?s6_2 (And.intro ?s6_3 (And.intro ?s6_4 (And.intro ?s6_5 (trivial))))))
                  case s6_0 =>
                    refine RegD.stepN_det (by decide) (by decide) (by simp) (fun u w1 hO => ?_)
                    go_wp2
                    exact ⟨rfl, rfl, rfl, PairW.Own.refl _⟩
                  case s6_1 =>
                    refine RegD.stepN_det (by decide) (by decide) (by simp) (fun u w1 hO => ?_)
                    have kk := (HX.out.own hO).cell 0
                    go_wp2
                    exact ⟨rfl, rfl, rfl, PairW.Own.refl _⟩
                  case s6_2 =>
                    refine RegD.stepN_det (by decide) (by decide) (by simp) (fun u w1 hO => ?_)
                    have HB9 := Lib.hid (HP.out.own hO)
                    go_wp2_with ((with_reducible show wpList _ _ _ (⟨_, .load 31 (.tmp 4), _, _, _, none⟩ :: _) _ _); refine wpList_load_row rfl 31 (.tmp 4) rfl P rfl 31 _ (0, 0) _ HB9.out.raw Tryd.underlying31 rfl infoP ?_)
                    exact ⟨rfl, rfl, rfl, PairW.Own.refl _⟩
                  case s6_3 =>
                    refine RegD.stepN_alloc rfl (fun u w1 hO => ?_)
                    go_wp2
                    exact ⟨rfl, rfl, rfl, rfl⟩
                  case s6_4 =>
                    refine RegD.stepN_det (by decide) (by decide) (by simp) (fun u w1 hO => ?_)
                    go_wp2
                    exact ⟨rfl, rfl, rfl, PairW.Own.refl _⟩
                  case s6_5 =>
                    refine RegD.stepN_store (by decide) rfl (by kernel_rfl) (fun u w1 N hO hu hN => ?_)
                    have HN := Lib.hid hN
                    simp only [hu]
                    clear hN
                    go_wp2_with ((with_reducible show wpList _ _ _ (⟨_, .store 31 (.tmp 8) (.tmp 23), _, _, _, none⟩ :: _) _ _); refine wpList_store_row rfl 31 (.tmp 8) (.tmp 23) rfl N (cz 22 (p)) rfl rfl 31 _ HN.out.raw infoP rfl (cz_one _ _) ?_)
                    exact ⟨rfl, rfl, rfl⟩
                intro u w1 Q hO hu hN0 hN
                simp only [hu]
                have HQ := Lib.hid hN
                have hBQ := Nat.ne_of_lt (Nat.lt_of_lt_of_le HB.out.lt hN0)
                have hPQ := Nat.ne_of_lt (Nat.lt_of_lt_of_le HP.out.lt hN0)
                have hXQ := Nat.ne_of_lt (Nat.lt_of_lt_of_le HX.out.lt hN0)
                have hQ0 : w.heap.size ≤ Q := Nat.le_trans g0.size hN0
                clear hu hN0 hN
                replace g0 := g0.trans hO
                replace HB := Lib.hid (HB.out.own hO)
                replace HP := Lib.hid (HP.out.own hO)
                replace HX := Lib.hid (HX.out.own hO)
                clear hO
                have x1 := HX.out.cell 1
                have x2 := HX.out.cell 2
                have p0 := blk_num HP.out (i := 0) (by omega)
                have p1 := blk_num HP.out (i := 1) (by omega)
                go_upto_region 5 with (first | ((with_reducible show wpList _ _ _ (⟨_, .load 31 (.tmp 4), _, _, _, some _⟩ :: _) _ _); refine wpList_load_row_g rfl 31 (.tmp 4) rfl P rfl 31 _ (0, 0) _ HP.out.raw Tryd.underlying31 rfl infoP ?_) | (go_at_call 16; with_reducible refine (qvalid_at p 0 _ HV).mono ?_; rintro r w2 ⟨rfl, hg⟩; replace g0 := g0.trans hg; replace HB := Lib.hid (HB.out.own hg); replace HP := Lib.hid (HP.out.own hg); replace HX := Lib.hid (HX.out.own hg); replace HQ := Lib.hid (HQ.out.own hg); replace x1 := HX.out.cell 1; replace x2 := HX.out.cell 2; replace p0 := blk_num HP.out (i := 0) (by omega); replace p1 := blk_num HP.out (i := 1) (by omega); clear hg) | ((with_reducible show wpList _ _ _ (⟨_, .store 26 (.tmp 63) (.tmp 62), _, _, _, none⟩ :: _) _ _); refine wpList_store_part rfl 26 (.tmp 63) (.tmp 62) rfl Q (0) 2 (l2 x y) rfl (#[.int .i64 x, .int .i64 y]) rfl rfl HQ.out (by omega) PstW.infoPt ?_))
                clear p0 p1 x1 x2
                have hb9 := HQ.out.row (cz 22 (put p 0 2 (l2 x y)))
                have h9HB := HB.out.rowfar hBQ (cz 22 (put p 0 2 (l2 x y)))
                have h9HP := HP.out.rowfar hPQ (cz 22 (put p 0 2 (l2 x y)))
                have h9HX := HX.out.rowfar hXQ (cz 22 (put p 0 2 (l2 x y)))
                replace g0 := own_setRow g0 hQ0 (cz 22 (put p 0 2 (l2 x y)))
                clear HQ HB HP HX
                generalize w2.setRow Q (cz 22 (put p 0 2 (l2 x y))) = w3 at *
                have HQ := Lib.hid hb9
                have HB := Lib.hid h9HB
                have HP := Lib.hid h9HP
                have HX := Lib.hid h9HX
                clear hb9 h9HB h9HP h9HX
                rw [show cz 22 (put p 0 2 (l2 x y)) = cz 22 q from HQE.out] at HQ
                clear hBQ hPQ hXQ hQ0 i2 i3
                (first | go_frame | skip)
                go_upto_region 8 with (first | ((with_reducible show wpList _ _ _ (⟨_, .load 31 (.tmp 8), _, _, _, none⟩ :: _) _ _); refine wpList_load_row rfl 31 (.tmp 8) rfl Q rfl 31 _ (0, 0) _ HQ.out.raw Tryd.underlying31 rfl infoP ?_) | (go_at_call 16; with_reducible refine (qvalid_at q 0 _ HVQ).mono ?_; rintro r w4 ⟨rfl, hg⟩; replace g0 := g0.trans hg; replace HB := Lib.hid (HB.out.own hg); replace HP := Lib.hid (HP.out.own hg); replace HX := Lib.hid (HX.out.own hg); replace HQ := Lib.hid (HQ.out.own hg); clear hg) | ((with_reducible show wpList _ _ _ (⟨_, .load 24 (.tmp 3), _, _, _, none⟩ :: _) _ _); refine wpList_load_row rfl 24 (.tmp 3) rfl B rfl 24 _ (0, 0) _ HB.out.raw Tryd.underlying24 rfl infoB ?_) | ((with_reducible show wpList _ _ _ (⟨_, .load 31 (.tmp 4), _, _, _, none⟩ :: _) _ _); refine wpList_load_row rfl 31 (.tmp 4) rfl P rfl 31 _ (0, 0) _ HP.out.raw Tryd.underlying31 rfl infoP ?_) | (go_at_call 8; with_reducible refine (bCen_at b p s 0 0 c _ (Lib.hid (tab_own HT.out g0)) (Lib.hid (HBT.out.own g0)) (Lib.hid (HS.out.own g0)) HC1).mono ?_; rintro r w5 ⟨rfl, hg⟩; replace g0 := g0.trans hg; replace HB := Lib.hid (HB.out.own hg); replace HP := Lib.hid (HP.out.own hg); replace HX := Lib.hid (HX.out.own hg); replace HQ := Lib.hid (HQ.out.own hg); clear hg) | ((with_reducible show wpList _ _ _ (⟨_, .store 26 (.tmp 9) (.tmp 73), _, _, _, none⟩ :: _) _ _); refine wpList_store_row rfl 26 (.tmp 9) (.tmp 73) rfl _ #[.int .i64 0, .int .i64 0] rfl rfl 26 _ (heap_new _ _) PstW.infoPt rfl (by simp [Value.oneCell']) ?_; rw [World.setRow_alloc_new]))
                obtain ⟨w6, B9, hW, hBq, hb, hg, B9g⟩ := blk_new w5 (#[.int .i64 0, .int .i64 0]) 26
                rw [hW, hBq]
                have H9 := Lib.hid hb
                replace g0 := g0.trans hg
                replace HB := Lib.hid (HB.out.own hg)
                replace HP := Lib.hid (HP.out.own hg)
                replace HX := Lib.hid (HX.out.own hg)
                replace HQ := Lib.hid (HQ.out.own hg)
                clear hW hBq hb hg
                clear B9g
                go_upto_region 9 with (first | ((with_reducible show wpList _ _ _ (⟨_, .load 24 (.tmp 3), _, _, _, none⟩ :: _) _ _); refine wpList_load_row rfl 24 (.tmp 3) rfl B rfl 24 _ (0, 0) _ HB.out.raw Tryd.underlying24 rfl infoB ?_) | ((with_reducible show wpList _ _ _ (⟨_, .load 31 (.tmp 8), _, _, _, none⟩ :: _) _ _); refine wpList_load_row rfl 31 (.tmp 8) rfl Q rfl 31 _ (0, 0) _ HQ.out.raw Tryd.underlying31 rfl infoP ?_) | (go_at_call 8; with_reducible refine (bCen_at b q s 0 0 c _ (Lib.hid (tab_own HT.out g0)) (Lib.hid (HBT.out.own g0)) (Lib.hid (HS.out.own g0)) HC2).mono ?_; rintro r w7 ⟨rfl, hg⟩; replace g0 := g0.trans hg; replace HB := Lib.hid (HB.out.own hg); replace HP := Lib.hid (HP.out.own hg); replace HX := Lib.hid (HX.out.own hg); replace HQ := Lib.hid (HQ.out.own hg); replace H9 := Lib.hid (H9.out.own hg); clear hg) | ((with_reducible show wpList _ _ _ (⟨_, .store 26 (.tmp 11) (.tmp 80), _, _, _, none⟩ :: _) _ _); refine wpList_store_row rfl 26 (.tmp 11) (.tmp 80) rfl _ #[.int .i64 0, .int .i64 0] rfl rfl 26 _ (heap_new _ _) PstW.infoPt rfl (by simp [Value.oneCell']) ?_; rw [World.setRow_alloc_new]))
                obtain ⟨w8, B11, hW, hBq, hb, hg, B11g⟩ := blk_new w7 (#[.int .i64 0, .int .i64 0]) 26
                rw [hW, hBq]
                have H11 := Lib.hid hb
                replace g0 := g0.trans hg
                replace HB := Lib.hid (HB.out.own hg)
                replace HP := Lib.hid (HP.out.own hg)
                replace HX := Lib.hid (HX.out.own hg)
                replace HQ := Lib.hid (HQ.out.own hg)
                replace H9 := Lib.hid (H9.out.own hg)
                clear hW hBq hb hg
                clear B11g
                go_upto_region 13 with (first | ((with_reducible show wpList _ _ _ (⟨_, .load 24 (.tmp 3), _, _, _, none⟩ :: _) _ _); refine wpList_load_row rfl 24 (.tmp 3) rfl B rfl 24 _ (0, 0) _ HB.out.raw Tryd.underlying24 rfl infoB ?_) | ((with_reducible show wpList _ _ _ (⟨_, .load 31 (.tmp 8), _, _, _, none⟩ :: _) _ _); refine wpList_load_row rfl 31 (.tmp 8) rfl Q rfl 31 _ (0, 0) _ HQ.out.raw Tryd.underlying31 rfl infoP ?_) | ((with_reducible show wpList _ _ _ (⟨_, .load 31 (.tmp 4), _, _, _, none⟩ :: _) _ _); refine wpList_load_row rfl 31 (.tmp 4) rfl P rfl 31 _ (0, 0) _ HP.out.raw Tryd.underlying31 rfl infoP ?_) | (go_at_call 14; with_reducible refine (bSta_at b p s false c _ (Lib.hid (tab_own HT.out g0)) (Lib.hid (HBT.out.own g0)) (Lib.hid (HS.out.own g0)) HS1).mono ?_; rintro r w9 ⟨rfl, hg⟩; replace g0 := g0.trans hg; replace HB := Lib.hid (HB.out.own hg); replace HP := Lib.hid (HP.out.own hg); replace HX := Lib.hid (HX.out.own hg); replace HQ := Lib.hid (HQ.out.own hg); replace H9 := Lib.hid (H9.out.own hg); replace H11 := Lib.hid (H11.out.own hg); clear hg) | (go_at_call 14; with_reducible refine (bSta_at b q s false c _ (Lib.hid (tab_own HT.out g0)) (Lib.hid (HBT.out.own g0)) (Lib.hid (HS.out.own g0)) HS2).mono ?_; rintro r w10 ⟨rfl, hg⟩; replace g0 := g0.trans hg; replace HB := Lib.hid (HB.out.own hg); replace HP := Lib.hid (HP.out.own hg); replace HX := Lib.hid (HX.out.own hg); replace HQ := Lib.hid (HQ.out.own hg); replace H9 := Lib.hid (H9.out.own hg); replace H11 := Lib.hid (H11.out.own hg); clear hg) | (go_at_call 15; with_reducible refine (bMar_at b p s 0 c _ (Lib.hid (tab_own HT.out g0)) (Lib.hid (HBT.out.own g0)) (Lib.hid (HS.out.own g0)) HG1).mono ?_; rintro r w11 ⟨rfl, hg⟩; replace g0 := g0.trans hg; replace HB := Lib.hid (HB.out.own hg); replace HP := Lib.hid (HP.out.own hg); replace HX := Lib.hid (HX.out.own hg); replace HQ := Lib.hid (HQ.out.own hg); replace H9 := Lib.hid (H9.out.own hg); replace H11 := Lib.hid (H11.out.own hg); clear hg) | (go_at_call 15; with_reducible refine (bMar_at b q s 0 c _ (Lib.hid (tab_own HT.out g0)) (Lib.hid (HBT.out.own g0)) (Lib.hid (HS.out.own g0)) HG2).mono ?_; rintro r w12 ⟨rfl, hg⟩; replace g0 := g0.trans hg; replace HB := Lib.hid (HB.out.own hg); replace HP := Lib.hid (HP.out.own hg); replace HX := Lib.hid (HX.out.own hg); replace HQ := Lib.hid (HQ.out.own hg); replace H9 := Lib.hid (H9.out.own hg); replace H11 := Lib.hid (H11.out.own hg); clear hg))
                clear HB HP HQ
                have x1 := HX.out.cell 1
                have x2 := HX.out.cell 2
                have k0 := H9.out.cell 0
                have k1 := H9.out.cell 1
                go_wp2_with (first | ((with_reducible show wpList _ _ _ (⟨_, .load 26 (.tmp 9), _, _, _, some _⟩ :: _) _ _); refine wpList_load_row_g rfl 26 (.tmp 9) rfl B9 rfl 26 _ (0, 0) _ H9.out.raw Tryd.underlying26 rfl PstW.infoPt ?_) | ((with_reducible show wpList _ _ _ (⟨_, .load 26 (.tmp 11), _, _, _, some _⟩ :: _) _ _); refine wpList_load_row_g rfl 26 (.tmp 11) rfl B11 rfl 26 _ (0, 0) _ H11.out.raw Tryd.underlying26 rfl PstW.infoPt ?_) | (go_at_call 10; with_reducible refine (awake_at _ (Lib.hid (tab_own HT.out g0)) (Lib.hid (HBT.out.own g0)) (Lib.hid (HS.out.own g0))).mono ?_; rintro r w99 ⟨rfl, hg⟩; replace g0 := g0.trans hg; clear hg))
                go_ret
                exact ⟨by first | rfl | (exact ret_bool (by simp)), g0⟩
            · obtain ⟨c1, hc1⟩ : ∃ c, vaE q = c := ⟨_, rfl⟩
              rw [hc1] at hvq
              have kc : (c1 != 0) = true := bne_iff_ne.2 hvq
              have HVQ := Lib.hid hc1
              clear hvq hc1 hv hq ha hb2 hx hy hpp0 hpp1 h1 h2 h3 h4
              go_enter Tryd.func5, Tryd.ntmps5
              go_upto_region 1 with (fail)
              obtain ⟨W0, B, P, X, hW, hD, hC, hBq, hb, hc, hd, g0, -, -, -, -⟩ := three_new w (cz 15 b) 24 (cz 22 p) 31 (#[.int .i64 s, .int .i64 m1, .int .i64 m2]) 45
              rw [hW, hD, hC, hBq]
              have HB := Lib.hid hb
              have HP := Lib.hid hc
              have HX := Lib.hid hd
              clear hW hD hC hBq hb hc hd
              refine RegD.region_dutyN [21, 22, 23, 8, 7] 8 3 5 (RegI.upd (RegI.upd (RegI.upd (RegI.upd (fun _ => undef) 21 (.pointer (some ⟨X, 0, none⟩))) 22 (.int .i64 s)) 23 (.agg (cz 22 p))) 7 (.int .i64 s)) (cz 22 nul) (cz 22 p) 31 (by kernel_rfl) (by kernel_rfl) (by decide) (by intro d hd; simp at hd; simp; omega) ?_
              simp only [RegD.FF, RegI.FX, RegI.upd, List.foldl_cons, List.foldl_nil, List.mem_cons, List.not_mem_nil, if_true, if_false, Nat.reduceEqDiff, or_false]
              simp only [List.setIfInBounds_toArray, List.set_cons_succ, List.set_cons_zero]
              refine And.intro ?hs4 ?he4
              case hs4 =>
                refine And.intro ?s4_0 (And.intro ?s4_1 (And.intro ?s4_2 (And.intro ?s4_3 (And.intro ?s4_4 (And.intro ?s4_5 (trivial))))))
                case s4_0 =>
                  refine RegD.stepN_det (by decide) (by decide) (by simp) (fun u w1 hO => ?_)
                  go_wp2
                  exact ⟨rfl, rfl, rfl, PairW.Own.refl _⟩
                case s4_1 =>
                  refine RegD.stepN_det (by decide) (by decide) (by simp) (fun u w1 hO => ?_)
                  have kk := (HX.out.own hO).cell 0
                  go_wp2
                  exact ⟨rfl, rfl, rfl, PairW.Own.refl _⟩
                case s4_2 =>
                  refine RegD.stepN_det (by decide) (by decide) (by simp) (fun u w1 hO => ?_)
                  have HB9 := Lib.hid (HP.out.own hO)
                  go_wp2_with ((with_reducible show wpList _ _ _ (⟨_, .load 31 (.tmp 4), _, _, _, none⟩ :: _) _ _); refine wpList_load_row rfl 31 (.tmp 4) rfl P rfl 31 _ (0, 0) _ HB9.out.raw Tryd.underlying31 rfl infoP ?_)
                  exact ⟨rfl, rfl, rfl, PairW.Own.refl _⟩
                case s4_3 =>
                  refine RegD.stepN_alloc rfl (fun u w1 hO => ?_)
                  go_wp2
                  exact ⟨rfl, rfl, rfl, rfl⟩
                case s4_4 =>
                  refine RegD.stepN_det (by decide) (by decide) (by simp) (fun u w1 hO => ?_)
                  go_wp2
                  exact ⟨rfl, rfl, rfl, PairW.Own.refl _⟩
                case s4_5 =>
                  refine RegD.stepN_store (by decide) rfl (by kernel_rfl) (fun u w1 N hO hu hN => ?_)
                  have HN := Lib.hid hN
                  simp only [hu]
                  clear hN
                  go_wp2_with ((with_reducible show wpList _ _ _ (⟨_, .store 31 (.tmp 8) (.tmp 23), _, _, _, none⟩ :: _) _ _); refine wpList_store_row rfl 31 (.tmp 8) (.tmp 23) rfl N (cz 22 (p)) rfl rfl 31 _ HN.out.raw infoP rfl (cz_one _ _) ?_)
                  exact ⟨rfl, rfl, rfl⟩
              intro u w1 Q hO hu hN0 hN
              simp only [hu]
              have HQ := Lib.hid hN
              have hBQ := Nat.ne_of_lt (Nat.lt_of_lt_of_le HB.out.lt hN0)
              have hPQ := Nat.ne_of_lt (Nat.lt_of_lt_of_le HP.out.lt hN0)
              have hXQ := Nat.ne_of_lt (Nat.lt_of_lt_of_le HX.out.lt hN0)
              have hQ0 : w.heap.size ≤ Q := Nat.le_trans g0.size hN0
              clear hu hN0 hN
              replace g0 := g0.trans hO
              replace HB := Lib.hid (HB.out.own hO)
              replace HP := Lib.hid (HP.out.own hO)
              replace HX := Lib.hid (HX.out.own hO)
              clear hO
              have x1 := HX.out.cell 1
              have x2 := HX.out.cell 2
              have p0 := blk_num HP.out (i := 0) (by omega)
              have p1 := blk_num HP.out (i := 1) (by omega)
              go_upto_region 5 with (first | ((with_reducible show wpList _ _ _ (⟨_, .load 31 (.tmp 4), _, _, _, some _⟩ :: _) _ _); refine wpList_load_row_g rfl 31 (.tmp 4) rfl P rfl 31 _ (0, 0) _ HP.out.raw Tryd.underlying31 rfl infoP ?_) | (go_at_call 16; with_reducible refine (qvalid_at p 0 _ HV).mono ?_; rintro r w2 ⟨rfl, hg⟩; replace g0 := g0.trans hg; replace HB := Lib.hid (HB.out.own hg); replace HP := Lib.hid (HP.out.own hg); replace HX := Lib.hid (HX.out.own hg); replace HQ := Lib.hid (HQ.out.own hg); replace x1 := HX.out.cell 1; replace x2 := HX.out.cell 2; replace p0 := blk_num HP.out (i := 0) (by omega); replace p1 := blk_num HP.out (i := 1) (by omega); clear hg) | ((with_reducible show wpList _ _ _ (⟨_, .store 26 (.tmp 63) (.tmp 62), _, _, _, none⟩ :: _) _ _); refine wpList_store_part rfl 26 (.tmp 63) (.tmp 62) rfl Q (0) 2 (l2 x y) rfl (#[.int .i64 x, .int .i64 y]) rfl rfl HQ.out (by omega) PstW.infoPt ?_))
              clear p0 p1 x1 x2
              have hb9 := HQ.out.row (cz 22 (put p 0 2 (l2 x y)))
              have h9HB := HB.out.rowfar hBQ (cz 22 (put p 0 2 (l2 x y)))
              have h9HP := HP.out.rowfar hPQ (cz 22 (put p 0 2 (l2 x y)))
              have h9HX := HX.out.rowfar hXQ (cz 22 (put p 0 2 (l2 x y)))
              replace g0 := own_setRow g0 hQ0 (cz 22 (put p 0 2 (l2 x y)))
              clear HQ HB HP HX
              generalize w2.setRow Q (cz 22 (put p 0 2 (l2 x y))) = w3 at *
              have HQ := Lib.hid hb9
              have HB := Lib.hid h9HB
              have HP := Lib.hid h9HP
              have HX := Lib.hid h9HX
              clear hb9 h9HB h9HP h9HX
              rw [show cz 22 (put p 0 2 (l2 x y)) = cz 22 q from HQE.out] at HQ
              clear hBQ hPQ hXQ hQ0 i2 i3
              (first | go_frame | skip)
              clear HB HX HP
              go_wp2_with (first | ((with_reducible show wpList _ _ _ (⟨_, .load 31 (.tmp 8), _, _, _, none⟩ :: _) _ _); refine wpList_load_row rfl 31 (.tmp 8) rfl Q rfl 31 _ (0, 0) _ HQ.out.raw Tryd.underlying31 rfl infoP ?_) | (go_at_call 16; with_reducible refine (qvalid_at q c1 _ HVQ).mono ?_; rintro r w4 ⟨rfl, hg⟩; replace g0 := g0.trans hg; clear hg) | (go_at_call 10; with_reducible refine (awake_at _ (Lib.hid (tab_own HT.out g0)) (Lib.hid (HBT.out.own g0)) (Lib.hid (HS.out.own g0))).mono ?_; rintro r w99 ⟨rfl, hg⟩; replace g0 := g0.trans hg; clear hg))
              go_ret
              exact ⟨by first | rfl | (exact ret_bool (by simp)), g0⟩
          · have d1 : decide (m1 < -32768) = false := decide_eq_false (by omega)
            have d2 : decide (32768 < m1) = false := decide_eq_false (by omega)
            have d3 : decide (m2 < -32768) = false := decide_eq_false (by omega)
            have d4 : decide (32768 < m2) = false := decide_eq_false (by omega)
            obtain ⟨c1, hc1⟩ : ∃ c, vaE p = c := ⟨_, rfl⟩
            rw [hc1] at hv
            have kc : (c1 != 0) = true := bne_iff_ne.2 hv
            have HV := Lib.hid hc1
            clear hc1 hv h1 h2 h3 h4
            go_enter Tryd.func5, Tryd.ntmps5
            go_upto_region 1 with (fail)
            obtain ⟨W0, B, P, X, hW, hD, hC, hBq, hb, hc, hd, g0, -, -, -, -⟩ := three_new w (cz 15 b) 24 (cz 22 p) 31 (#[.int .i64 s, .int .i64 m1, .int .i64 m2]) 45
            rw [hW, hD, hC, hBq]
            have HB := Lib.hid hb
            have HP := Lib.hid hc
            have HX := Lib.hid hd
            clear hW hD hC hBq hb hc hd
            refine RegD.region_dutyN [21, 22, 23, 8, 7] 8 3 5 (RegI.upd (RegI.upd (RegI.upd (RegI.upd (fun _ => undef) 21 (.pointer (some ⟨X, 0, none⟩))) 22 (.int .i64 s)) 23 (.agg (cz 22 p))) 7 (.int .i64 s)) (cz 22 nul) (cz 22 p) 31 (by kernel_rfl) (by kernel_rfl) (by decide) (by intro d hd; simp at hd; simp; omega) ?_
            simp only [RegD.FF, RegI.FX, RegI.upd, List.foldl_cons, List.foldl_nil, List.mem_cons, List.not_mem_nil, if_true, if_false, Nat.reduceEqDiff, or_false]
            simp only [List.setIfInBounds_toArray, List.set_cons_succ, List.set_cons_zero]
            refine And.intro ?hs7 ?he7
            case hs7 =>
              refine And.intro ?s7_0 (And.intro ?s7_1 (And.intro ?s7_2 (And.intro ?s7_3 (And.intro ?s7_4 (And.intro ?s7_5 (trivial))))))
              case s7_0 =>
                refine RegD.stepN_det (by decide) (by decide) (by simp) (fun u w1 hO => ?_)
                go_wp2
                exact ⟨rfl, rfl, rfl, PairW.Own.refl _⟩
              case s7_1 =>
                refine RegD.stepN_det (by decide) (by decide) (by simp) (fun u w1 hO => ?_)
                have kk := (HX.out.own hO).cell 0
                go_wp2
                exact ⟨rfl, rfl, rfl, PairW.Own.refl _⟩
              case s7_2 =>
                refine RegD.stepN_det (by decide) (by decide) (by simp) (fun u w1 hO => ?_)
                have HB9 := Lib.hid (HP.out.own hO)
                go_wp2_with ((with_reducible show wpList _ _ _ (⟨_, .load 31 (.tmp 4), _, _, _, none⟩ :: _) _ _); refine wpList_load_row rfl 31 (.tmp 4) rfl P rfl 31 _ (0, 0) _ HB9.out.raw Tryd.underlying31 rfl infoP ?_)
                exact ⟨rfl, rfl, rfl, PairW.Own.refl _⟩
              case s7_3 =>
                refine RegD.stepN_alloc rfl (fun u w1 hO => ?_)
                go_wp2
                exact ⟨rfl, rfl, rfl, rfl⟩
              case s7_4 =>
                refine RegD.stepN_det (by decide) (by decide) (by simp) (fun u w1 hO => ?_)
                go_wp2
                exact ⟨rfl, rfl, rfl, PairW.Own.refl _⟩
              case s7_5 =>
                refine RegD.stepN_store (by decide) rfl (by kernel_rfl) (fun u w1 N hO hu hN => ?_)
                have HN := Lib.hid hN
                simp only [hu]
                clear hN
                go_wp2_with ((with_reducible show wpList _ _ _ (⟨_, .store 31 (.tmp 8) (.tmp 23), _, _, _, none⟩ :: _) _ _); refine wpList_store_row rfl 31 (.tmp 8) (.tmp 23) rfl N (cz 22 (p)) rfl rfl 31 _ HN.out.raw infoP rfl (cz_one _ _) ?_)
                exact ⟨rfl, rfl, rfl⟩
            intro u w1 Q hO hu hN0 hN
            simp only [hu]
            have HQ := Lib.hid hN
            have hBQ := Nat.ne_of_lt (Nat.lt_of_lt_of_le HB.out.lt hN0)
            have hPQ := Nat.ne_of_lt (Nat.lt_of_lt_of_le HP.out.lt hN0)
            have hXQ := Nat.ne_of_lt (Nat.lt_of_lt_of_le HX.out.lt hN0)
            have hQ0 : w.heap.size ≤ Q := Nat.le_trans g0.size hN0
            clear hu hN0 hN
            replace g0 := g0.trans hO
            replace HB := Lib.hid (HB.out.own hO)
            replace HP := Lib.hid (HP.out.own hO)
            replace HX := Lib.hid (HX.out.own hO)
            clear hO
            have x1 := HX.out.cell 1
            have x2 := HX.out.cell 2
            clear hBQ hPQ hXQ hQ0 HB HX HQ
            go_wp2_with (first | ((with_reducible show wpList _ _ _ (⟨_, .load 31 (.tmp 4), _, _, _, some _⟩ :: _) _ _); refine wpList_load_row_g rfl 31 (.tmp 4) rfl P rfl 31 _ (0, 0) _ HP.out.raw Tryd.underlying31 rfl infoP ?_) | (go_at_call 16; with_reducible refine (qvalid_at p c1 _ HV).mono ?_; rintro r w2 ⟨rfl, hg⟩; replace g0 := g0.trans hg; clear hg) | (go_at_call 10; with_reducible refine (awake_at _ (Lib.hid (tab_own HT.out g0)) (Lib.hid (HBT.out.own g0)) (Lib.hid (HS.out.own g0))).mono ?_; rintro r w99 ⟨rfl, hg⟩; replace g0 := g0.trans hg; clear hg))
            go_ret
            exact ⟨by first | rfl | (exact ret_bool (by simp)), g0⟩
        · have d1 : decide (m1 < -32768) = false := decide_eq_false (by omega)
          have d2 : decide (32768 < m1) = false := decide_eq_false (by omega)
          have d3 : decide (m2 < -32768) = false := decide_eq_false (by omega)
          have d4 : decide (32768 < m2) = true := decide_eq_true (by omega)
          clear h1 h2 h3 h4
          go_enter Tryd.func5, Tryd.ntmps5
          go_upto_region 1 with (fail)
          obtain ⟨W0, B, P, X, hW, hD, hC, hBq, hb, hc, hd, g0, -, -, -, -⟩ := three_new w (cz 15 b) 24 (cz 22 p) 31 (#[.int .i64 s, .int .i64 m1, .int .i64 m2]) 45
          rw [hW, hD, hC, hBq]
          have HB := Lib.hid hb
          have HP := Lib.hid hc
          have HX := Lib.hid hd
          clear hW hD hC hBq hb hc hd
          refine RegD.region_dutyN [21, 22, 23, 8, 7] 8 3 5 (RegI.upd (RegI.upd (RegI.upd (RegI.upd (fun _ => undef) 21 (.pointer (some ⟨X, 0, none⟩))) 22 (.int .i64 s)) 23 (.agg (cz 22 p))) 7 (.int .i64 s)) (cz 22 nul) (cz 22 p) 31 (by kernel_rfl) (by kernel_rfl) (by decide) (by intro d hd; simp at hd; simp; omega) ?_
          simp only [RegD.FF, RegI.FX, RegI.upd, List.foldl_cons, List.foldl_nil, List.mem_cons, List.not_mem_nil, if_true, if_false, Nat.reduceEqDiff, or_false]
          simp only [List.setIfInBounds_toArray, List.set_cons_succ, List.set_cons_zero]
          refine And.intro ?hs8 ?he8
          case hs8 =>
            refine And.intro ?s8_0 (And.intro ?s8_1 (And.intro ?s8_2 (And.intro ?s8_3 (And.intro ?s8_4 (And.intro ?s8_5 (trivial))))))
            case s8_0 =>
              refine RegD.stepN_det (by decide) (by decide) (by simp) (fun u w1 hO => ?_)
              go_wp2
              exact ⟨rfl, rfl, rfl, PairW.Own.refl _⟩
            case s8_1 =>
              refine RegD.stepN_det (by decide) (by decide) (by simp) (fun u w1 hO => ?_)
              have kk := (HX.out.own hO).cell 0
              go_wp2
              exact ⟨rfl, rfl, rfl, PairW.Own.refl _⟩
            case s8_2 =>
              refine RegD.stepN_det (by decide) (by decide) (by simp) (fun u w1 hO => ?_)
              have HB9 := Lib.hid (HP.out.own hO)
              go_wp2_with ((with_reducible show wpList _ _ _ (⟨_, .load 31 (.tmp 4), _, _, _, none⟩ :: _) _ _); refine wpList_load_row rfl 31 (.tmp 4) rfl P rfl 31 _ (0, 0) _ HB9.out.raw Tryd.underlying31 rfl infoP ?_)
              exact ⟨rfl, rfl, rfl, PairW.Own.refl _⟩
            case s8_3 =>
              refine RegD.stepN_alloc rfl (fun u w1 hO => ?_)
              go_wp2
              exact ⟨rfl, rfl, rfl, rfl⟩
            case s8_4 =>
              refine RegD.stepN_det (by decide) (by decide) (by simp) (fun u w1 hO => ?_)
              go_wp2
              exact ⟨rfl, rfl, rfl, PairW.Own.refl _⟩
            case s8_5 =>
              refine RegD.stepN_store (by decide) rfl (by kernel_rfl) (fun u w1 N hO hu hN => ?_)
              have HN := Lib.hid hN
              simp only [hu]
              clear hN
              go_wp2_with ((with_reducible show wpList _ _ _ (⟨_, .store 31 (.tmp 8) (.tmp 23), _, _, _, none⟩ :: _) _ _); refine wpList_store_row rfl 31 (.tmp 8) (.tmp 23) rfl N (cz 22 (p)) rfl rfl 31 _ HN.out.raw infoP rfl (cz_one _ _) ?_)
              exact ⟨rfl, rfl, rfl⟩
          intro u w1 Q hO hu hN0 hN
          simp only [hu]
          have HQ := Lib.hid hN
          have hBQ := Nat.ne_of_lt (Nat.lt_of_lt_of_le HB.out.lt hN0)
          have hPQ := Nat.ne_of_lt (Nat.lt_of_lt_of_le HP.out.lt hN0)
          have hXQ := Nat.ne_of_lt (Nat.lt_of_lt_of_le HX.out.lt hN0)
          have hQ0 : w.heap.size ≤ Q := Nat.le_trans g0.size hN0
          clear hu hN0 hN
          replace g0 := g0.trans hO
          replace HB := Lib.hid (HB.out.own hO)
          replace HP := Lib.hid (HP.out.own hO)
          replace HX := Lib.hid (HX.out.own hO)
          clear hO
          have x1 := HX.out.cell 1
          have x2 := HX.out.cell 2
          clear hBQ hPQ hXQ hQ0 HB HX HQ
          clear HP
          go_wp2_with (go_at_call 10; with_reducible refine (awake_at _ (Lib.hid (tab_own HT.out g0)) (Lib.hid (HBT.out.own g0)) (Lib.hid (HS.out.own g0))).mono ?_; rintro r w99 ⟨rfl, hg⟩; replace g0 := g0.trans hg; clear hg)
          go_ret
          exact ⟨by first | rfl | (exact ret_bool (by simp)), g0⟩
      · have d1 : decide (m1 < -32768) = false := decide_eq_false (by omega)
        have d2 : decide (32768 < m1) = false := decide_eq_false (by omega)
        have d3 : decide (m2 < -32768) = true := decide_eq_true (by omega)
        clear h1 h2 h3
        go_enter Tryd.func5, Tryd.ntmps5
        go_upto_region 1 with (fail)
        obtain ⟨W0, B, P, X, hW, hD, hC, hBq, hb, hc, hd, g0, -, -, -, -⟩ := three_new w (cz 15 b) 24 (cz 22 p) 31 (#[.int .i64 s, .int .i64 m1, .int .i64 m2]) 45
        rw [hW, hD, hC, hBq]
        have HB := Lib.hid hb
        have HP := Lib.hid hc
        have HX := Lib.hid hd
        clear hW hD hC hBq hb hc hd
        refine RegD.region_dutyN [21, 22, 23, 8, 7] 8 3 5 (RegI.upd (RegI.upd (RegI.upd (RegI.upd (fun _ => undef) 21 (.pointer (some ⟨X, 0, none⟩))) 22 (.int .i64 s)) 23 (.agg (cz 22 p))) 7 (.int .i64 s)) (cz 22 nul) (cz 22 p) 31 (by kernel_rfl) (by kernel_rfl) (by decide) (by intro d hd; simp at hd; simp; omega) ?_
        simp only [RegD.FF, RegI.FX, RegI.upd, List.foldl_cons, List.foldl_nil, List.mem_cons, List.not_mem_nil, if_true, if_false, Nat.reduceEqDiff, or_false]
        simp only [List.setIfInBounds_toArray, List.set_cons_succ, List.set_cons_zero]
        refine And.intro ?hs9 ?he9
        case hs9 =>
          refine And.intro ?s9_0 (And.intro ?s9_1 (And.intro ?s9_2 (And.intro ?s9_3 (And.intro ?s9_4 (And.intro ?s9_5 (trivial))))))
          case s9_0 =>
            refine RegD.stepN_det (by decide) (by decide) (by simp) (fun u w1 hO => ?_)
            go_wp2
            exact ⟨rfl, rfl, rfl, PairW.Own.refl _⟩
          case s9_1 =>
            refine RegD.stepN_det (by decide) (by decide) (by simp) (fun u w1 hO => ?_)
            have kk := (HX.out.own hO).cell 0
            go_wp2
            exact ⟨rfl, rfl, rfl, PairW.Own.refl _⟩
          case s9_2 =>
            refine RegD.stepN_det (by decide) (by decide) (by simp) (fun u w1 hO => ?_)
            have HB9 := Lib.hid (HP.out.own hO)
            go_wp2_with ((with_reducible show wpList _ _ _ (⟨_, .load 31 (.tmp 4), _, _, _, none⟩ :: _) _ _); refine wpList_load_row rfl 31 (.tmp 4) rfl P rfl 31 _ (0, 0) _ HB9.out.raw Tryd.underlying31 rfl infoP ?_)
            exact ⟨rfl, rfl, rfl, PairW.Own.refl _⟩
          case s9_3 =>
            refine RegD.stepN_alloc rfl (fun u w1 hO => ?_)
            go_wp2
            exact ⟨rfl, rfl, rfl, rfl⟩
          case s9_4 =>
            refine RegD.stepN_det (by decide) (by decide) (by simp) (fun u w1 hO => ?_)
            go_wp2
            exact ⟨rfl, rfl, rfl, PairW.Own.refl _⟩
          case s9_5 =>
            refine RegD.stepN_store (by decide) rfl (by kernel_rfl) (fun u w1 N hO hu hN => ?_)
            have HN := Lib.hid hN
            simp only [hu]
            clear hN
            go_wp2_with ((with_reducible show wpList _ _ _ (⟨_, .store 31 (.tmp 8) (.tmp 23), _, _, _, none⟩ :: _) _ _); refine wpList_store_row rfl 31 (.tmp 8) (.tmp 23) rfl N (cz 22 (p)) rfl rfl 31 _ HN.out.raw infoP rfl (cz_one _ _) ?_)
            exact ⟨rfl, rfl, rfl⟩
        intro u w1 Q hO hu hN0 hN
        simp only [hu]
        have HQ := Lib.hid hN
        have hBQ := Nat.ne_of_lt (Nat.lt_of_lt_of_le HB.out.lt hN0)
        have hPQ := Nat.ne_of_lt (Nat.lt_of_lt_of_le HP.out.lt hN0)
        have hXQ := Nat.ne_of_lt (Nat.lt_of_lt_of_le HX.out.lt hN0)
        have hQ0 : w.heap.size ≤ Q := Nat.le_trans g0.size hN0
        clear hu hN0 hN
        replace g0 := g0.trans hO
        replace HB := Lib.hid (HB.out.own hO)
        replace HP := Lib.hid (HP.out.own hO)
        replace HX := Lib.hid (HX.out.own hO)
        clear hO
        have x1 := HX.out.cell 1
        have x2 := HX.out.cell 2
        clear hBQ hPQ hXQ hQ0 HB HX HQ
        clear HP
        go_wp2_with (go_at_call 10; with_reducible refine (awake_at _ (Lib.hid (tab_own HT.out g0)) (Lib.hid (HBT.out.own g0)) (Lib.hid (HS.out.own g0))).mono ?_; rintro r w99 ⟨rfl, hg⟩; replace g0 := g0.trans hg; clear hg)
        go_ret
        exact ⟨by first | rfl | (exact ret_bool (by simp)), g0⟩
    · have d1 : decide (m1 < -32768) = false := decide_eq_false (by omega)
      have d2 : decide (32768 < m1) = true := decide_eq_true (by omega)
      clear h1 h2
      go_enter Tryd.func5, Tryd.ntmps5
      go_upto_region 1 with (fail)
      obtain ⟨W0, B, P, X, hW, hD, hC, hBq, hb, hc, hd, g0, -, -, -, -⟩ := three_new w (cz 15 b) 24 (cz 22 p) 31 (#[.int .i64 s, .int .i64 m1, .int .i64 m2]) 45
      rw [hW, hD, hC, hBq]
      have HB := Lib.hid hb
      have HP := Lib.hid hc
      have HX := Lib.hid hd
      clear hW hD hC hBq hb hc hd
      refine RegD.region_dutyN [21, 22, 23, 8, 7] 8 3 5 (RegI.upd (RegI.upd (RegI.upd (RegI.upd (fun _ => undef) 21 (.pointer (some ⟨X, 0, none⟩))) 22 (.int .i64 s)) 23 (.agg (cz 22 p))) 7 (.int .i64 s)) (cz 22 nul) (cz 22 p) 31 (by kernel_rfl) (by kernel_rfl) (by decide) (by intro d hd; simp at hd; simp; omega) ?_
      simp only [RegD.FF, RegI.FX, RegI.upd, List.foldl_cons, List.foldl_nil, List.mem_cons, List.not_mem_nil, if_true, if_false, Nat.reduceEqDiff, or_false]
      simp only [List.setIfInBounds_toArray, List.set_cons_succ, List.set_cons_zero]
      refine And.intro ?hs10 ?he10
      case hs10 =>
        refine And.intro ?s10_0 (And.intro ?s10_1 (And.intro ?s10_2 (And.intro ?s10_3 (And.intro ?s10_4 (And.intro ?s10_5 (trivial))))))
        case s10_0 =>
          refine RegD.stepN_det (by decide) (by decide) (by simp) (fun u w1 hO => ?_)
          go_wp2
          exact ⟨rfl, rfl, rfl, PairW.Own.refl _⟩
        case s10_1 =>
          refine RegD.stepN_det (by decide) (by decide) (by simp) (fun u w1 hO => ?_)
          have kk := (HX.out.own hO).cell 0
          go_wp2
          exact ⟨rfl, rfl, rfl, PairW.Own.refl _⟩
        case s10_2 =>
          refine RegD.stepN_det (by decide) (by decide) (by simp) (fun u w1 hO => ?_)
          have HB9 := Lib.hid (HP.out.own hO)
          go_wp2_with ((with_reducible show wpList _ _ _ (⟨_, .load 31 (.tmp 4), _, _, _, none⟩ :: _) _ _); refine wpList_load_row rfl 31 (.tmp 4) rfl P rfl 31 _ (0, 0) _ HB9.out.raw Tryd.underlying31 rfl infoP ?_)
          exact ⟨rfl, rfl, rfl, PairW.Own.refl _⟩
        case s10_3 =>
          refine RegD.stepN_alloc rfl (fun u w1 hO => ?_)
          go_wp2
          exact ⟨rfl, rfl, rfl, rfl⟩
        case s10_4 =>
          refine RegD.stepN_det (by decide) (by decide) (by simp) (fun u w1 hO => ?_)
          go_wp2
          exact ⟨rfl, rfl, rfl, PairW.Own.refl _⟩
        case s10_5 =>
          refine RegD.stepN_store (by decide) rfl (by kernel_rfl) (fun u w1 N hO hu hN => ?_)
          have HN := Lib.hid hN
          simp only [hu]
          clear hN
          go_wp2_with ((with_reducible show wpList _ _ _ (⟨_, .store 31 (.tmp 8) (.tmp 23), _, _, _, none⟩ :: _) _ _); refine wpList_store_row rfl 31 (.tmp 8) (.tmp 23) rfl N (cz 22 (p)) rfl rfl 31 _ HN.out.raw infoP rfl (cz_one _ _) ?_)
          exact ⟨rfl, rfl, rfl⟩
      intro u w1 Q hO hu hN0 hN
      simp only [hu]
      have HQ := Lib.hid hN
      have hBQ := Nat.ne_of_lt (Nat.lt_of_lt_of_le HB.out.lt hN0)
      have hPQ := Nat.ne_of_lt (Nat.lt_of_lt_of_le HP.out.lt hN0)
      have hXQ := Nat.ne_of_lt (Nat.lt_of_lt_of_le HX.out.lt hN0)
      have hQ0 : w.heap.size ≤ Q := Nat.le_trans g0.size hN0
      clear hu hN0 hN
      replace g0 := g0.trans hO
      replace HB := Lib.hid (HB.out.own hO)
      replace HP := Lib.hid (HP.out.own hO)
      replace HX := Lib.hid (HX.out.own hO)
      clear hO
      have x1 := HX.out.cell 1
      have x2 := HX.out.cell 2
      clear hBQ hPQ hXQ hQ0 HB HX HQ
      clear HP
      go_wp2_with (go_at_call 10; with_reducible refine (awake_at _ (Lib.hid (tab_own HT.out g0)) (Lib.hid (HBT.out.own g0)) (Lib.hid (HS.out.own g0))).mono ?_; rintro r w99 ⟨rfl, hg⟩; replace g0 := g0.trans hg; clear hg)
      go_ret
      exact ⟨by first | rfl | (exact ret_bool (by simp)), g0⟩
  · have d1 : decide (m1 < -32768) = true := decide_eq_true (by omega)
    clear h1
    go_enter Tryd.func5, Tryd.ntmps5
    go_upto_region 1 with (fail)
    obtain ⟨W0, B, P, X, hW, hD, hC, hBq, hb, hc, hd, g0, -, -, -, -⟩ := three_new w (cz 15 b) 24 (cz 22 p) 31 (#[.int .i64 s, .int .i64 m1, .int .i64 m2]) 45
    rw [hW, hD, hC, hBq]
    have HB := Lib.hid hb
    have HP := Lib.hid hc
    have HX := Lib.hid hd
    clear hW hD hC hBq hb hc hd
    refine RegD.region_dutyN [21, 22, 23, 8, 7] 8 3 5 (RegI.upd (RegI.upd (RegI.upd (RegI.upd (fun _ => undef) 21 (.pointer (some ⟨X, 0, none⟩))) 22 (.int .i64 s)) 23 (.agg (cz 22 p))) 7 (.int .i64 s)) (cz 22 nul) (cz 22 p) 31 (by kernel_rfl) (by kernel_rfl) (by decide) (by intro d hd; simp at hd; simp; omega) ?_
    simp only [RegD.FF, RegI.FX, RegI.upd, List.foldl_cons, List.foldl_nil, List.mem_cons, List.not_mem_nil, if_true, if_false, Nat.reduceEqDiff, or_false]
    simp only [List.setIfInBounds_toArray, List.set_cons_succ, List.set_cons_zero]
    refine And.intro ?hs11 ?he11
    case hs11 =>
      refine And.intro ?s11_0 (And.intro ?s11_1 (And.intro ?s11_2 (And.intro ?s11_3 (And.intro ?s11_4 (And.intro ?s11_5 (trivial))))))
      case s11_0 =>
        refine RegD.stepN_det (by decide) (by decide) (by simp) (fun u w1 hO => ?_)
        go_wp2
        exact ⟨rfl, rfl, rfl, PairW.Own.refl _⟩
      case s11_1 =>
        refine RegD.stepN_det (by decide) (by decide) (by simp) (fun u w1 hO => ?_)
        have kk := (HX.out.own hO).cell 0
        go_wp2
        exact ⟨rfl, rfl, rfl, PairW.Own.refl _⟩
      case s11_2 =>
        refine RegD.stepN_det (by decide) (by decide) (by simp) (fun u w1 hO => ?_)
        have HB9 := Lib.hid (HP.out.own hO)
        go_wp2_with ((with_reducible show wpList _ _ _ (⟨_, .load 31 (.tmp 4), _, _, _, none⟩ :: _) _ _); refine wpList_load_row rfl 31 (.tmp 4) rfl P rfl 31 _ (0, 0) _ HB9.out.raw Tryd.underlying31 rfl infoP ?_)
        exact ⟨rfl, rfl, rfl, PairW.Own.refl _⟩
      case s11_3 =>
        refine RegD.stepN_alloc rfl (fun u w1 hO => ?_)
        go_wp2
        exact ⟨rfl, rfl, rfl, rfl⟩
      case s11_4 =>
        refine RegD.stepN_det (by decide) (by decide) (by simp) (fun u w1 hO => ?_)
        go_wp2
        exact ⟨rfl, rfl, rfl, PairW.Own.refl _⟩
      case s11_5 =>
        refine RegD.stepN_store (by decide) rfl (by kernel_rfl) (fun u w1 N hO hu hN => ?_)
        have HN := Lib.hid hN
        simp only [hu]
        clear hN
        go_wp2_with ((with_reducible show wpList _ _ _ (⟨_, .store 31 (.tmp 8) (.tmp 23), _, _, _, none⟩ :: _) _ _); refine wpList_store_row rfl 31 (.tmp 8) (.tmp 23) rfl N (cz 22 (p)) rfl rfl 31 _ HN.out.raw infoP rfl (cz_one _ _) ?_)
        exact ⟨rfl, rfl, rfl⟩
    intro u w1 Q hO hu hN0 hN
    simp only [hu]
    have HQ := Lib.hid hN
    have hBQ := Nat.ne_of_lt (Nat.lt_of_lt_of_le HB.out.lt hN0)
    have hPQ := Nat.ne_of_lt (Nat.lt_of_lt_of_le HP.out.lt hN0)
    have hXQ := Nat.ne_of_lt (Nat.lt_of_lt_of_le HX.out.lt hN0)
    have hQ0 : w.heap.size ≤ Q := Nat.le_trans g0.size hN0
    clear hu hN0 hN
    replace g0 := g0.trans hO
    replace HB := Lib.hid (HB.out.own hO)
    replace HP := Lib.hid (HP.out.own hO)
    replace HX := Lib.hid (HX.out.own hO)
    clear hO
    have x1 := HX.out.cell 1
    have x2 := HX.out.cell 2
    clear hBQ hPQ hXQ hQ0 HB HX HQ
    clear HP
    go_wp2_with (go_at_call 10; with_reducible refine (awake_at _ (Lib.hid (tab_own HT.out g0)) (Lib.hid (HBT.out.own g0)) (Lib.hid (HS.out.own g0))).mono ?_; rintro r w99 ⟨rfl, hg⟩; replace g0 := g0.trans hg; clear hg)
    go_ret
    exact ⟨by first | rfl | (exact ret_bool (by simp)), g0⟩
end Go.Proofs.YtighpjhipgobiaaDoor.BalL
