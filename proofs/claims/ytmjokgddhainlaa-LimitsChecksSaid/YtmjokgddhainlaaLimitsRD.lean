/-
  Walk of the specification of package limits: Mirror. Condition: none.
-/
import Derived.Test.YtmjokgddhainlaaLimitsRA
import Derived.Test.YtmjokgddhainlaaLimitsBld
namespace Go.Proofs.Ytmjokgddhainlaa.LimW
open Go.ChangeShapes Go.WideShapes Go.ChangeAt Go.RowKit
open PairW AimP AimW BlkW PrtW PstP PstW RegD LimP
set_option maxRecDepth 100000 in
set_option maxHeartbeats 16000000 in
theorem rmi_at (l r : Vl) (e : Int) (w : World) (H : Hid (lz (mrV l) = lz r ∧ chE l = e)) :
    Calls Try.prog 13 #[.agg (lz l)] w fun o w' => o = .returned (.tuple #[.agg (lz r), .int .i64 e]) ∧ Own w w' := by
  obtain ⟨hr, he⟩ := H.out
  clear H
  by_cases h1 : chE l = 0
  · have HA0 := Lib.hid h1
    have HOK := Lib.hid (ch_yes h1).1
    have H1 := Lib.hid (show lz (mrS l) = lz r by rw [← mr_yes h1]; exact hr)
    obtain rfl : 0 = e := h1.symm.trans he
    clear hr he h1
    go_enter Try.func13, Try.ntmps13
    go_upto_region 1 with (fail)
    obtain ⟨W0, B, R, hW, hC, hB, hb, hc, g0, hB0B, hB0R, hneBR⟩ := two_new w (lz l) 26 (lz nul) 26
    rw [← lz_nul] at hW
    rw [hW, hC, hB]
    have HB := Lib.hid hb
    have HR := Lib.hid hc
    clear hW hC hB hb hc
    go_upto_region 5 with (first | ((with_reducible show wpList _ _ _ (⟨_, .load 26 (.tmp 1), _, _, _, none⟩ :: _) _ _); refine wpList_load_row rfl 26 (.tmp 1) rfl B rfl 26 _ (0, 0) _ HB.out.raw Try.underlying26 rfl infoLs ?_) | (go_at_call 15; with_reducible refine (rck_at l 0 _ HA0).mono ?_; rintro r w1 ⟨rfl, hg⟩; replace g0 := g0.trans hg; replace HB := Lib.hid (HB.out.own hg); replace HR := Lib.hid (HR.out.own hg); clear hg) | ((with_reducible show wpList _ _ _ (⟨_, .store 26 (.tmp 5) (.tmp 16), _, _, _, none⟩ :: _) _ _); refine wpList_store_row rfl 26 (.tmp 5) (.tmp 16) rfl _ (lz (l)) rfl rfl 26 _ (heap_new _ _) infoLs rfl (lz_one _) ?_; rw [World.setRow_alloc_new]))
    obtain ⟨w2, M, hW, hBq, hb, hg, Mg⟩ := blk_new w1 (lz l) 26
    have hRM := Nat.ne_of_lt (Nat.lt_of_lt_of_le HR.out.lt Mg)
    have hBM := Nat.ne_of_lt (Nat.lt_of_lt_of_le HB.out.lt Mg)
    have hM0 : w.heap.size ≤ M := Nat.le_trans g0.size Mg
    rw [hW, hBq]
    have HM := Lib.hid hb
    replace g0 := g0.trans hg
    replace HB := Lib.hid (HB.out.own hg)
    replace HR := Lib.hid (HR.out.own hg)
    clear hW hBq hb hg
    clear Mg
    go_wp2
    go_loopw [6, 7, 8, 9] (fun vi _ _ _ wr => ∃ (k : Nat) (f : Vl), vi = .int .i64 (k : Int) ∧ k ≤ 6 ∧ Mq l f k ∧ Own w wr ∧ Blk wr R (lz nul) 26 ∧ Blk wr M (lz f) 26 ∧ Blk wr B (lz l) 26) (fun vi _ _ _ _ => 6 - (intOf vi).toNat)
    case atStart => exact ⟨0, l, rfl, by omega, fun i hi => by rw [if_neg (by omega)], g0, HR.out, HM.out, HB.out⟩
    case round =>
      clear g0 HR HM HB
      obtain ⟨k, f, rfl, hk, hz, g0, hr, hm, hb⟩ := hrel
      have HZ := Lib.hid hz
      have HR := Lib.hid hr
      have HM := Lib.hid hm
      have HB := Lib.hid hb
      clear hz hr hm hb
      by_cases hlt : k < 6
      · have hkn : (k : Int) < 6 := by omega
        obtain ⟨s, hs⟩ : ∃ s, swN k = s := ⟨_, rfl⟩
        have hs6 : s < 6 := by rw [← hs]; exact swN_lt hlt
        obtain ⟨-, hx2, hx3, -⟩ := HOK.out s hs6
        obtain ⟨x, hx⟩ : ∃ x, lim l s = x := ⟨_, rfl⟩
        rw [hx] at hx2 hx3
        obtain ⟨v, hv⟩ : ∃ v, (-(x 2 + x 3)) % 256 = v := ⟨_, rfl⟩
        have HN := Lib.hid (mq_next hlt HZ.out (by rw [hs]; exact hx) hv)
        have HSW := Lib.hid (show swp (k : Int) = (s : Int) ∧ swE (k : Int) = 0 from ⟨by rw [← hs]; exact swp_nat hlt, if_pos (by omega)⟩)
        have HLIM := Lib.hid (show Lie wr B (s * 6) (cz 6 x) by rw [← hx]; exact lb_lim HB.out hs6)
        have hsn : (s : Int) < 6 := by omega
        have i1 : IntKind.i64.wrap (-(x 2)) = -(x 2) := IntWalk.i64_in _ (by omega)
        have i2 : IntKind.i64.wrap (-(x 2) - x 3) = -(x 2) - x 3 := IntWalk.i64_in _ (by omega)
        have HV := Lib.hid (show (-(x 2) - x 3) % 256 = v by rw [← hv]; congr 1; omega)
        clear hv hx hx2 hx3 HZ hs
        go_upto_region 10 with (first | (go_at_call 29; with_reducible refine (AimW.rswap_at _ _ _ _ HSW).mono ?_; rintro r w1 ⟨rfl, rfl⟩) | ((with_reducible show wpList _ _ _ (⟨_, .load 23 (.tmp 28), _, _, _, none⟩ :: _) _ _); refine wpList_load_lie rfl 23 (.tmp 28) rfl B (s * 6) rfl (cz 6 x) HLIM.out _ Try.underlying23 rfl infoL ?_) | ((with_reducible show wpList _ _ _ (⟨_, .store 23 (.tmp 9) (.tmp 29), _, _, _, none⟩ :: _) _ _); refine wpList_store_row rfl 23 (.tmp 9) (.tmp 29) rfl _ (cz 6 (x)) rfl rfl 23 _ (heap_new _ _) infoL rfl (cz_one _ _) ?_; rw [World.setRow_alloc_new]))
        clear HLIM
        obtain ⟨w3, E, hW, hBq, hb, hg, Eg⟩ := blk_new wr (cz 6 x) 23
        have hE0 : w.heap.size ≤ E := Nat.le_trans g0.size Eg
        have hRE := Nat.ne_of_lt (Nat.lt_of_lt_of_le HR.out.lt Eg)
        have hME := Nat.ne_of_lt (Nat.lt_of_lt_of_le HM.out.lt Eg)
        have hBE := Nat.ne_of_lt (Nat.lt_of_lt_of_le HB.out.lt Eg)
        rw [hW, hBq]
        have HE := Lib.hid hb
        replace g0 := g0.trans hg
        replace HR := Lib.hid (HR.out.own hg)
        replace HM := Lib.hid (HM.out.own hg)
        replace HB := Lib.hid (HB.out.own hg)
        clear hW hBq hb hg
        have k2 := blk_num HE.out (i := 2) (by omega)
        have k3 := blk_num HE.out (i := 3) (by omega)
        have f2 := HE.out.frozen 2
        clear Eg
        go_upto_region 11 with (go_at_call 30; with_reducible refine (AngW.rnorm_at _ v _ HV).mono ?_; rintro r w1 ⟨rfl, rfl⟩)
        have he := blk_ups HE.out (k := 2) (by omega) v
        have hr := HR.out.far (p := ⟨E, 2, none⟩) hRE (.int .i64 v)
        have hm := HM.out.far (p := ⟨E, 2, none⟩) hME (.int .i64 v)
        have hb := HB.out.far (p := ⟨E, 2, none⟩) hBE (.int .i64 v)
        replace g0 := g0.setCell (p := ⟨E, 2, none⟩) hE0 (.int .i64 v)
        clear HE HR HM HB k2 k3 f2 i1 i2
        generalize w3.setCell ⟨E, 2, none⟩ (.int .i64 v) = w4 at *
        have HE := Lib.hid he
        have HR := Lib.hid hr
        have HM := Lib.hid hm
        have HB := Lib.hid hb
        clear he hr hm hb
        generalize PrtW.ups x 2 v = y at *
        go_upto_region 7 with (first | ((with_reducible show wpList _ _ _ (⟨_, .load 23 (.tmp 9), _, _, _, none⟩ :: _) _ _); refine wpList_load_row rfl 23 (.tmp 9) rfl E rfl 23 _ (0, 0) _ HE.out.raw Try.underlying23 rfl infoL ?_) | ((with_reducible show wpList _ _ _ (⟨_, .store 23 (.tmp 41) (.tmp 39), _, _, _, none⟩ :: _) _ _); refine wpList_store_fam fam_lz rfl 23 (.tmp 41) (.tmp 39) rfl M (k * 6) 6 (y) rfl (cz 6 y) rfl rfl HM.out (by omega) infoL ?_))
        have hm := HM.out.row (lz (put f (k * 6) 6 y))
        have hr := HR.out.rowfar hRM (lz (put f (k * 6) 6 y))
        have hb := HB.out.rowfar hBM (lz (put f (k * 6) 6 y))
        replace g0 := own_setRow g0 hM0 (lz (put f (k * 6) 6 y))
        clear HM HR HE HB
        generalize w4.setRow M (lz (put f (k * 6) 6 y)) = w5 at *
        have HM := Lib.hid hm
        have HR := Lib.hid hr
        have HB := Lib.hid hb
        clear hm hr hb
        go_wp2
        go_roundw
        case rel => exact ⟨k + 1, _, by go_num, hlt, HN.out, g0, HR.out, HM.out, HB.out⟩
        case measure => simp [intOf]; omega
      · obtain rfl : k = 6 := by omega
        have HE := Lib.hid ((mq_end HZ.out).trans H1.out)
        clear HZ H1 HB
        go_wp2_with (first | ((with_reducible show wpList _ _ _ (⟨_, .load 26 (.tmp 5), _, _, _, none⟩ :: _) _ _); refine wpList_load_row rfl 26 (.tmp 5) rfl M rfl 26 _ (0, 0) _ HM.out.raw Try.underlying26 rfl infoLs ?_) | ((with_reducible show wpList _ _ _ (⟨_, .store 26 (.tmp 2) (.tmp 42), _, _, _, none⟩ :: _) _ _); refine wpList_store_row rfl 26 (.tmp 2) (.tmp 42) rfl R (lz (f)) rfl rfl 26 _ HR.out.raw infoLs rfl (lz_one _) ?_))
        have hz := HR.out.row (lz f)
        exact bodyPost_ret (blk_results rfl rfl rfl hz Try.underlying26 rfl infoLs) rfl ⟨(by rw [HE.out]; rfl), own_setRow g0 hB0R _⟩
  · obtain ⟨d, hd⟩ : ∃ d, chE l = d := ⟨_, rfl⟩
    rw [mr_no h1] at hr
    rw [hd] at h1
    obtain rfl : d = e := hd.symm.trans he
    have H1 := Lib.hid hr
    have HA0 := Lib.hid hd
    have kd : (d != 0) = true := bne_iff_ne.2 h1
    clear hr he hd h1
    go_enter Try.func13, Try.ntmps13
    go_upto_region 1 with (fail)
    obtain ⟨W0, B, R, hW, hC, hB, hb, hc, g0, hB0B, hB0R, hneBR⟩ := two_new w (lz l) 26 (lz nul) 26
    rw [← lz_nul] at hW
    rw [hW, hC, hB]
    have HB := Lib.hid hb
    have HR := Lib.hid hc
    clear hW hC hB hb hc
    go_wp2_with (first | ((with_reducible show wpList _ _ _ (⟨_, .load 26 (.tmp 1), _, _, _, none⟩ :: _) _ _); refine wpList_load_row rfl 26 (.tmp 1) rfl B rfl 26 _ (0, 0) _ HB.out.raw Try.underlying26 rfl infoLs ?_) | (go_at_call 15; with_reducible refine (rck_at l d _ HA0).mono ?_; rintro r w1 ⟨rfl, hg⟩; replace g0 := g0.trans hg; replace HB := Lib.hid (HB.out.own hg); replace HR := Lib.hid (HR.out.own hg); clear hg) | ((with_reducible show wpList _ _ _ (⟨_, .store 26 (.tmp 2) (.tmp 14), _, _, _, none⟩ :: _) _ _); refine wpList_store_row rfl 26 (.tmp 2) (.tmp 14) rfl R (lz (nul)) rfl (congrArg Value.agg lz_nul) 26 _ HR.out.raw infoLs rfl (lz_one _) ?_))
    have hp := HR.out.row (lz nul)
    exact bodyPost_ret (blk_results rfl rfl rfl hp Try.underlying26 rfl infoLs) rfl ⟨(by rw [H1.out]; rfl), own_setRow g0 hB0R _⟩
end Go.Proofs.Ytmjokgddhainlaa.LimW
