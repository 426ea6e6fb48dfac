/-
  Walk of a law of package limits: LimitsMirror. Condition: none.
-/
import Derived.Test.YtmjokgddhainlaaLimitsU
namespace Go.Proofs.Ytmjokgddhainlaa.LimL
open Go.ChangeShapes Go.WideShapes Go.ChangeAt Go.RowKit
open LimW MovW PairW AimP AimW BlkW PrtW PstP PstW RegD LimP
set_option maxRecDepth 100000 in
set_option maxHeartbeats 16000000 in
theorem lmirror_at (l : Vl) (k z e b : Int) (w : World) :
    Calls Try.prog 7 #[.agg (lz l), .int .i64 k, .agg #[.int .i64 z, .int .i64 e, .int .i64 b]] w fun r w' => r = .returned (.bool true) ∧ Own w w' := by
  by_cases h1 : chE l = 0
  · obtain ⟨r, hr⟩ : ∃ r, mrS l = r := ⟨_, rfl⟩
    have HMI := Lib.hid (show lz (mrV l) = lz r ∧ chE l = 0 from ⟨by rw [mr_yes h1, hr], h1⟩)
    have hcr := mr_chk h1
    have HMB := Lib.hid (show lz (mrV r) = lz l ∧ chE r = 0 from ⟨by rw [← hr, mr_yes hcr]; exact lz_congr (mr_mr h1), by rw [← hr]; exact hcr⟩)
    have HCR := Lib.hid HMB.out.2
    obtain ⟨t, ht⟩ : ∃ t, alV l k z e b = t := ⟨_, rfl⟩
    by_cases h2 : chk k z e b = 0
    · obtain ⟨hk, -⟩ := chk_yes h2
      have ha := (al_ok h1 h2).1
      have HA := Lib.hid (show alV l k z e b = t ∧ alE l k z e b = 0 from ⟨ht, ha⟩)
      obtain ⟨j, hj⟩ : ∃ j, swp k = j := ⟨_, rfl⟩
      obtain ⟨z2, hz2⟩ : ∃ v, mirZ k z e b = v := ⟨_, rfl⟩
      obtain ⟨e2, he2⟩ : ∃ v, mirL k z e b = v := ⟨_, rfl⟩
      obtain ⟨b2, hb2⟩ : ∃ v, mirB k z e b = v := ⟨_, rfl⟩
      have HSW := Lib.hid (show swp k = j ∧ swE k = 0 from ⟨hj, if_pos hk⟩)
      have HMR := Lib.hid (show mirZ k z e b = z2 ∧ mirL k z e b = e2 ∧ mirB k z e b = b2 ∧ chk k z e b = 0 from ⟨hz2, he2, hb2, h2⟩)
      obtain ⟨m1, m2⟩ := mr_al h1 h2
      rw [hj, hz2, he2, hb2] at m1 m2
      rw [hr, ht] at m2
      have HA2 := Lib.hid (show alV r j z2 e2 b2 = t ∧ alE r j z2 e2 b2 = 0 from ⟨m2, (al_ok HMB.out.2 m1).1⟩)
      clear m1 m2 hj hz2 he2 hb2 ha hk h2 ht h1 hr hcr
      go_enter Try.func7, Try.ntmps7
      go_upto_region 1 with (fail)
      obtain ⟨W0, B, C, hW, hC, hB, hb, hc, g0, hB0B, hB0C, hneBC⟩ := two_new w (lz l) 26 (#[.int .i64 z, .int .i64 e, .int .i64 b]) 34
      rw [hW, hC, hB]
      have HB := Lib.hid hb
      have HC := Lib.hid hc
      clear hW hC hB hb hc
      go_upto_region 2 with (first | ((with_reducible show wpList _ _ _ (⟨_, .load 26 (.tmp 3), _, _, _, none⟩ :: _) _ _); refine wpList_load_row rfl 26 (.tmp 3) rfl B rfl 26 _ (0, 0) _ HB.out.raw Try.underlying26 rfl infoLs ?_) | (go_at_call 12; with_reducible refine (lmi_at l r 0 _ HMI).mono ?_; rintro r w1 ⟨rfl, hg⟩; replace g0 := g0.trans hg; replace HB := Lib.hid (HB.out.own hg); replace HC := Lib.hid (HC.out.own hg); clear hg) | ((with_reducible show wpList _ _ _ (⟨_, .store 26 (.tmp 7) (.tmp 18), _, _, _, none⟩ :: _) _ _); refine wpList_store_row rfl 26 (.tmp 7) (.tmp 18) rfl _ (lz (r)) rfl rfl 26 _ (heap_new _ _) infoLs rfl (lz_one _) ?_; rw [World.setRow_alloc_new]))
      obtain ⟨w2, M, hW, hBq, hb, hg, Mg⟩ := blk_new w1 (lz r) 26
      rw [hW, hBq]
      have HM := Lib.hid hb
      replace g0 := g0.trans hg
      replace HB := Lib.hid (HB.out.own hg)
      replace HC := Lib.hid (HC.out.own hg)
      clear hW hBq hb hg
      clear Mg
      go_upto_region 5 with (first | ((with_reducible show wpList _ _ _ (⟨_, .load 26 (.tmp 7), _, _, _, none⟩ :: _) _ _); refine wpList_load_row rfl 26 (.tmp 7) rfl M rfl 26 _ (0, 0) _ HM.out.raw Try.underlying26 rfl infoLs ?_) | (go_at_call 12; with_reducible refine (lmi_at r l 0 _ HMB).mono ?_; rintro r w3 ⟨rfl, hg⟩; replace g0 := g0.trans hg; replace HB := Lib.hid (HB.out.own hg); replace HC := Lib.hid (HC.out.own hg); replace HM := Lib.hid (HM.out.own hg); clear hg) | ((with_reducible show wpList _ _ _ (⟨_, .store 26 (.tmp 9) (.tmp 37), _, _, _, none⟩ :: _) _ _); refine wpList_store_row rfl 26 (.tmp 9) (.tmp 37) rfl _ (lz (l)) rfl rfl 26 _ (heap_new _ _) infoLs rfl (lz_one _) ?_; rw [World.setRow_alloc_new]))
      obtain ⟨w4, N, hW, hBq, hb, hg, Ng⟩ := blk_new w3 (lz l) 26
      rw [hW, hBq]
      have HN := Lib.hid hb
      replace g0 := g0.trans hg
      replace HB := Lib.hid (HB.out.own hg)
      replace HC := Lib.hid (HC.out.own hg)
      replace HM := Lib.hid (HM.out.own hg)
      clear hW hBq hb hg
      clear Ng
      cases t with
      | true =>
        go_upto_region 11 with (first | ((with_reducible show wpList _ _ _ (⟨_, .load 26 (.tmp 9), _, _, _, none⟩ :: _) _ _); refine wpList_load_row rfl 26 (.tmp 9) rfl N rfl 26 _ (0, 0) _ HN.out.raw Try.underlying26 rfl infoLs ?_) | ((with_reducible show wpList _ _ _ (⟨_, .load 26 (.tmp 3), _, _, _, none⟩ :: _) _ _); refine wpList_load_row rfl 26 (.tmp 3) rfl B rfl 26 _ (0, 0) _ HB.out.raw Try.underlying26 rfl infoLs ?_) | ((with_reducible show wpList _ _ _ (⟨_, .load 26 (.tmp 7), _, _, _, some _⟩ :: _) _ _); refine wpList_load_row_g rfl 26 (.tmp 7) rfl M rfl 26 _ (0, 0) _ HM.out.raw Try.underlying26 rfl infoLs ?_) | ((with_reducible show wpList _ _ _ (⟨_, .load 34 (.tmp 5), _, _, _, none⟩ :: _) _ _); refine wpList_load_row rfl 34 (.tmp 5) rfl C rfl 34 _ (0, 0) _ HC.out.raw Try.underlying34 rfl infoA ?_) | (go_at_call 14; with_reducible refine (lck_at r 0 _ HCR).mono ?_; rintro r w5 ⟨rfl, hg⟩; replace g0 := g0.trans hg; replace HB := Lib.hid (HB.out.own hg); replace HC := Lib.hid (HC.out.own hg); replace HM := Lib.hid (HM.out.own hg); clear hg) | (go_at_call 17; with_reducible refine (lal2_at l k z e b true 0 _ HA).mono ?_; rintro r w6 ⟨rfl, hg⟩; replace g0 := g0.trans hg; replace HB := Lib.hid (HB.out.own hg); replace HC := Lib.hid (HC.out.own hg); replace HM := Lib.hid (HM.out.own hg); clear hg) | (go_at_call 22; with_reducible refine (AimW.pswap_at _ _ _ _ HSW).mono ?_; rintro r w1 ⟨rfl, rfl⟩))
        clear HN
        go_upto_region 12 with (first | ((with_reducible show wpList _ _ _ (⟨_, .load 34 (.tmp 5), _, _, _, none⟩ :: _) _ _); refine wpList_load_row rfl 34 (.tmp 5) rfl C rfl 34 _ (0, 0) _ HC.out.raw Try.underlying34 rfl infoA ?_) | (go_at_call 23; with_reducible refine (AimW.pmir_at k z e b z2 e2 b2 0 _ HMR).mono ?_; rintro r w7 ⟨rfl, hg⟩; replace g0 := g0.trans hg; replace HM := Lib.hid (HM.out.own hg); clear hg) | ((with_reducible show wpList _ _ _ (⟨_, .store 34 (.tmp 12) (.tmp 74), _, _, _, none⟩ :: _) _ _); refine wpList_store_row rfl 34 (.tmp 12) (.tmp 74) rfl _ #[.int .i64 z2, .int .i64 e2, .int .i64 b2] rfl rfl 34 _ (heap_new _ _) infoA rfl (by simp [Value.oneCell']) ?_; rw [World.setRow_alloc_new]))
        obtain ⟨w8, X, hW, hBq, hb, hg, Xg⟩ := blk_new w7 (#[.int .i64 z2, .int .i64 e2, .int .i64 b2]) 34
        rw [hW, hBq]
        have HX := Lib.hid hb
        replace g0 := g0.trans hg
        replace HM := Lib.hid (HM.out.own hg)
        clear hW hBq hb hg
        clear Xg HB HC
        go_wp2_with (first | ((with_reducible show wpList _ _ _ (⟨_, .load 26 (.tmp 7), _, _, _, none⟩ :: _) _ _); refine wpList_load_row rfl 26 (.tmp 7) rfl M rfl 26 _ (0, 0) _ HM.out.raw Try.underlying26 rfl infoLs ?_) | ((with_reducible show wpList _ _ _ (⟨_, .load 34 (.tmp 12), _, _, _, none⟩ :: _) _ _); refine wpList_load_row rfl 34 (.tmp 12) rfl X rfl 34 _ (0, 0) _ HX.out.raw Try.underlying34 rfl infoA ?_) | (go_at_call 17; with_reducible refine (lal2_at r j z2 e2 b2 true 0 _ HA2).mono ?_; rintro r w10 ⟨rfl, hg⟩; replace g0 := g0.trans hg; clear hg) | (go_at_call 16; with_reducible refine (awake_at _).mono ?_; rintro r w9 ⟨rfl, hg⟩; replace g0 := g0.trans hg; clear hg))
        go_ret
        exact ⟨rfl, g0⟩
      | false =>
        go_upto_region 11 with (first | ((with_reducible show wpList _ _ _ (⟨_, .load 26 (.tmp 9), _, _, _, none⟩ :: _) _ _); refine wpList_load_row rfl 26 (.tmp 9) rfl N rfl 26 _ (0, 0) _ HN.out.raw Try.underlying26 rfl infoLs ?_) | ((with_reducible show wpList _ _ _ (⟨_, .load 26 (.tmp 3), _, _, _, none⟩ :: _) _ _); refine wpList_load_row rfl 26 (.tmp 3) rfl B rfl 26 _ (0, 0) _ HB.out.raw Try.underlying26 rfl infoLs ?_) | ((with_reducible show wpList _ _ _ (⟨_, .load 26 (.tmp 7), _, _, _, some _⟩ :: _) _ _); refine wpList_load_row_g rfl 26 (.tmp 7) rfl M rfl 26 _ (0, 0) _ HM.out.raw Try.underlying26 rfl infoLs ?_) | ((with_reducible show wpList _ _ _ (⟨_, .load 34 (.tmp 5), _, _, _, none⟩ :: _) _ _); refine wpList_load_row rfl 34 (.tmp 5) rfl C rfl 34 _ (0, 0) _ HC.out.raw Try.underlying34 rfl infoA ?_) | (go_at_call 14; with_reducible refine (lck_at r 0 _ HCR).mono ?_; rintro r w5 ⟨rfl, hg⟩; replace g0 := g0.trans hg; replace HB := Lib.hid (HB.out.own hg); replace HC := Lib.hid (HC.out.own hg); replace HM := Lib.hid (HM.out.own hg); clear hg) | (go_at_call 17; with_reducible refine (lal2_at l k z e b false 0 _ HA).mono ?_; rintro r w6 ⟨rfl, hg⟩; replace g0 := g0.trans hg; replace HB := Lib.hid (HB.out.own hg); replace HC := Lib.hid (HC.out.own hg); replace HM := Lib.hid (HM.out.own hg); clear hg) | (go_at_call 22; with_reducible refine (AimW.pswap_at _ _ _ _ HSW).mono ?_; rintro r w1 ⟨rfl, rfl⟩))
        clear HN
        go_upto_region 12 with (first | ((with_reducible show wpList _ _ _ (⟨_, .load 34 (.tmp 5), _, _, _, none⟩ :: _) _ _); refine wpList_load_row rfl 34 (.tmp 5) rfl C rfl 34 _ (0, 0) _ HC.out.raw Try.underlying34 rfl infoA ?_) | (go_at_call 23; with_reducible refine (AimW.pmir_at k z e b z2 e2 b2 0 _ HMR).mono ?_; rintro r w7 ⟨rfl, hg⟩; replace g0 := g0.trans hg; replace HM := Lib.hid (HM.out.own hg); clear hg) | ((with_reducible show wpList _ _ _ (⟨_, .store 34 (.tmp 12) (.tmp 74), _, _, _, none⟩ :: _) _ _); refine wpList_store_row rfl 34 (.tmp 12) (.tmp 74) rfl _ #[.int .i64 z2, .int .i64 e2, .int .i64 b2] rfl rfl 34 _ (heap_new _ _) infoA rfl (by simp [Value.oneCell']) ?_; rw [World.setRow_alloc_new]))
        obtain ⟨w8, X, hW, hBq, hb, hg, Xg⟩ := blk_new w7 (#[.int .i64 z2, .int .i64 e2, .int .i64 b2]) 34
        rw [hW, hBq]
        have HX := Lib.hid hb
        replace g0 := g0.trans hg
        replace HM := Lib.hid (HM.out.own hg)
        clear hW hBq hb hg
        clear Xg HB HC
        go_wp2_with (first | ((with_reducible show wpList _ _ _ (⟨_, .load 26 (.tmp 7), _, _, _, none⟩ :: _) _ _); refine wpList_load_row rfl 26 (.tmp 7) rfl M rfl 26 _ (0, 0) _ HM.out.raw Try.underlying26 rfl infoLs ?_) | ((with_reducible show wpList _ _ _ (⟨_, .load 34 (.tmp 12), _, _, _, none⟩ :: _) _ _); refine wpList_load_row rfl 34 (.tmp 12) rfl X rfl 34 _ (0, 0) _ HX.out.raw Try.underlying34 rfl infoA ?_) | (go_at_call 17; with_reducible refine (lal2_at r j z2 e2 b2 false 0 _ HA2).mono ?_; rintro r w10 ⟨rfl, hg⟩; replace g0 := g0.trans hg; clear hg) | (go_at_call 16; with_reducible refine (awake_at _).mono ?_; rintro r w9 ⟨rfl, hg⟩; replace g0 := g0.trans hg; clear hg))
        go_ret
        exact ⟨rfl, g0⟩
    · obtain ⟨d, hd⟩ : ∃ d, alE l k z e b = d := ⟨_, rfl⟩
      have hd0 : d ≠ 0 := fun x => h2 (al_yes (hd.trans x)).2.1
      have ht2 := al_no (show alE l k z e b ≠ 0 by rw [hd]; exact hd0)
      have HA := Lib.hid (show alV l k z e b = false ∧ alE l k z e b = d from ⟨ht2, hd⟩)
      have kd : (d != 0) = true := bne_iff_ne.2 hd0
      clear ht ht2 hd hd0 h1 h2 hr hcr
      go_enter Try.func7, Try.ntmps7
      go_upto_region 1 with (fail)
      obtain ⟨W0, B, C, hW, hC, hB, hb, hc, g0, hB0B, hB0C, hneBC⟩ := two_new w (lz l) 26 (#[.int .i64 z, .int .i64 e, .int .i64 b]) 34
      rw [hW, hC, hB]
      have HB := Lib.hid hb
      have HC := Lib.hid hc
      clear hW hC hB hb hc
      go_upto_region 2 with (first | ((with_reducible show wpList _ _ _ (⟨_, .load 26 (.tmp 3), _, _, _, none⟩ :: _) _ _); refine wpList_load_row rfl 26 (.tmp 3) rfl B rfl 26 _ (0, 0) _ HB.out.raw Try.underlying26 rfl infoLs ?_) | (go_at_call 12; with_reducible refine (lmi_at l r 0 _ HMI).mono ?_; rintro r w1 ⟨rfl, hg⟩; replace g0 := g0.trans hg; replace HB := Lib.hid (HB.out.own hg); replace HC := Lib.hid (HC.out.own hg); clear hg) | ((with_reducible show wpList _ _ _ (⟨_, .store 26 (.tmp 7) (.tmp 18), _, _, _, none⟩ :: _) _ _); refine wpList_store_row rfl 26 (.tmp 7) (.tmp 18) rfl _ (lz (r)) rfl rfl 26 _ (heap_new _ _) infoLs rfl (lz_one _) ?_; rw [World.setRow_alloc_new]))
      obtain ⟨w2, M, hW, hBq, hb, hg, Mg⟩ := blk_new w1 (lz r) 26
      rw [hW, hBq]
      have HM := Lib.hid hb
      replace g0 := g0.trans hg
      replace HB := Lib.hid (HB.out.own hg)
      replace HC := Lib.hid (HC.out.own hg)
      clear hW hBq hb hg
      clear Mg
      go_upto_region 5 with (first | ((with_reducible show wpList _ _ _ (⟨_, .load 26 (.tmp 7), _, _, _, none⟩ :: _) _ _); refine wpList_load_row rfl 26 (.tmp 7) rfl M rfl 26 _ (0, 0) _ HM.out.raw Try.underlying26 rfl infoLs ?_) | (go_at_call 12; with_reducible refine (lmi_at r l 0 _ HMB).mono ?_; rintro r w3 ⟨rfl, hg⟩; replace g0 := g0.trans hg; replace HB := Lib.hid (HB.out.own hg); replace HC := Lib.hid (HC.out.own hg); replace HM := Lib.hid (HM.out.own hg); clear hg) | ((with_reducible show wpList _ _ _ (⟨_, .store 26 (.tmp 9) (.tmp 37), _, _, _, none⟩ :: _) _ _); refine wpList_store_row rfl 26 (.tmp 9) (.tmp 37) rfl _ (lz (l)) rfl rfl 26 _ (heap_new _ _) infoLs rfl (lz_one _) ?_; rw [World.setRow_alloc_new]))
      obtain ⟨w4, N, hW, hBq, hb, hg, Ng⟩ := blk_new w3 (lz l) 26
      rw [hW, hBq]
      have HN := Lib.hid hb
      replace g0 := g0.trans hg
      replace HB := Lib.hid (HB.out.own hg)
      replace HC := Lib.hid (HC.out.own hg)
      replace HM := Lib.hid (HM.out.own hg)
      clear hW hBq hb hg
      clear Ng
      go_wp2_with (first | ((with_reducible show wpList _ _ _ (⟨_, .load 26 (.tmp 9), _, _, _, none⟩ :: _) _ _); refine wpList_load_row rfl 26 (.tmp 9) rfl N rfl 26 _ (0, 0) _ HN.out.raw Try.underlying26 rfl infoLs ?_) | ((with_reducible show wpList _ _ _ (⟨_, .load 26 (.tmp 3), _, _, _, none⟩ :: _) _ _); refine wpList_load_row rfl 26 (.tmp 3) rfl B rfl 26 _ (0, 0) _ HB.out.raw Try.underlying26 rfl infoLs ?_) | ((with_reducible show wpList _ _ _ (⟨_, .load 26 (.tmp 7), _, _, _, some _⟩ :: _) _ _); refine wpList_load_row_g rfl 26 (.tmp 7) rfl M rfl 26 _ (0, 0) _ HM.out.raw Try.underlying26 rfl infoLs ?_) | ((with_reducible show wpList _ _ _ (⟨_, .load 34 (.tmp 5), _, _, _, none⟩ :: _) _ _); refine wpList_load_row rfl 34 (.tmp 5) rfl C rfl 34 _ (0, 0) _ HC.out.raw Try.underlying34 rfl infoA ?_) | (go_at_call 14; with_reducible refine (lck_at r 0 _ HCR).mono ?_; rintro r w5 ⟨rfl, hg⟩; replace g0 := g0.trans hg; replace HB := Lib.hid (HB.out.own hg); replace HC := Lib.hid (HC.out.own hg); replace HM := Lib.hid (HM.out.own hg); clear hg) | (go_at_call 17; with_reducible refine (lal2_at l k z e b false d _ HA).mono ?_; rintro r w6 ⟨rfl, hg⟩; replace g0 := g0.trans hg; replace HB := Lib.hid (HB.out.own hg); replace HC := Lib.hid (HC.out.own hg); replace HM := Lib.hid (HM.out.own hg); clear hg) | (go_at_call 16; with_reducible refine (awake_at _).mono ?_; rintro r w9 ⟨rfl, hg⟩; replace g0 := g0.trans hg; clear hg))
      go_ret
      exact ⟨rfl, g0⟩
  · obtain ⟨c, hc⟩ : ∃ c, chE l = c := ⟨_, rfl⟩
    have HMI := Lib.hid (show lz (mrV l) = lz nul ∧ chE l = c from ⟨congrArg lz (mr_no h1), hc⟩)
    have HCK := Lib.hid hc
    rw [hc] at h1
    have kc : (c != 0) = true := bne_iff_ne.2 h1
    clear h1 hc
    go_enter Try.func7, Try.ntmps7
    go_upto_region 1 with (fail)
    obtain ⟨W0, B, C, hW, hC, hB, hb, hc, g0, hB0B, hB0C, hneBC⟩ := two_new w (lz l) 26 (#[.int .i64 z, .int .i64 e, .int .i64 b]) 34
    rw [hW, hC, hB]
    have HB := Lib.hid hb
    have HC := Lib.hid hc
    clear hW hC hB hb hc
    go_upto_region 2 with (first | ((with_reducible show wpList _ _ _ (⟨_, .load 26 (.tmp 3), _, _, _, none⟩ :: _) _ _); refine wpList_load_row rfl 26 (.tmp 3) rfl B rfl 26 _ (0, 0) _ HB.out.raw Try.underlying26 rfl infoLs ?_) | (go_at_call 12; with_reducible refine (lmi_at l nul c _ HMI).mono ?_; rintro r w1 ⟨rfl, hg⟩; replace g0 := g0.trans hg; replace HB := Lib.hid (HB.out.own hg); replace HC := Lib.hid (HC.out.own hg); clear hg) | ((with_reducible show wpList _ _ _ (⟨_, .store 26 (.tmp 7) (.tmp 18), _, _, _, none⟩ :: _) _ _); refine wpList_store_row rfl 26 (.tmp 7) (.tmp 18) rfl _ (lz (nul)) rfl rfl 26 _ (heap_new _ _) infoLs rfl (lz_one _) ?_; rw [World.setRow_alloc_new]))
    obtain ⟨w2, M, hW, hBq, hb, hg, Mg⟩ := blk_new w1 (lz nul) 26
    rw [hW, hBq]
    have HM := Lib.hid hb
    replace g0 := g0.trans hg
    replace HB := Lib.hid (HB.out.own hg)
    replace HC := Lib.hid (HC.out.own hg)
    clear hW hBq hb hg
    clear Mg
    go_wp2_with (first | ((with_reducible show wpList _ _ _ (⟨_, .load 26 (.tmp 7), _, _, _, none⟩ :: _) _ _); refine wpList_load_row rfl 26 (.tmp 7) rfl M rfl 26 _ (0, 0) _ HM.out.raw Try.underlying26 rfl infoLs ?_) | ((with_reducible show wpList _ _ _ (⟨_, .load 26 (.tmp 3), _, _, _, some _⟩ :: _) _ _); refine wpList_load_row_g rfl 26 (.tmp 3) rfl B rfl 26 _ (0, 0) _ HB.out.raw Try.underlying26 rfl infoLs ?_) | (go_at_call 14; with_reducible refine (lck_at l c _ HCK).mono ?_; rintro r w5 ⟨rfl, hg⟩; replace g0 := g0.trans hg; clear hg) | (go_at_call 16; with_reducible refine (awake_at _).mono ?_; rintro r w9 ⟨rfl, hg⟩; replace g0 := g0.trans hg; clear hg))
    go_ret
    exact ⟨rfl, g0⟩
end Go.Proofs.Ytmjokgddhainlaa.LimL
