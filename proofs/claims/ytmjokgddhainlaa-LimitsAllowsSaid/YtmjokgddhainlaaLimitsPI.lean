/-
  Walk of the program of package limits: faultOf. Condition: none.
-/
import Derived.Test.YtmjokgddhainlaaLimitsPH
namespace Go.Proofs.Ytmjokgddhainlaa.LimW
open Go.ChangeShapes Go.WideShapes Go.ChangeAt Go.RowKit
open MovW PairW AimP AimW BlkW PrtW PstP PstW RegD LimP
set_option maxRecDepth 100000 in
set_option maxHeartbeats 8000000 in
theorem lfa_at (l p q : Vl) (a fc fi : Int) (w : World) (hl : chE l = 0) (hp : vaE p = 0) (hq : vaE q = 0) (H : Hid (ftE l p q a = fc ∧ ftP l p q a = fi)) :
    Calls Try.prog 44 #[.agg (lz l), .agg (cz 22 p), .agg (cz 22 q), .int .i64 a] w fun r w' => r = .returned (.agg #[.int .i64 fc, .int .i64 0, .int .i64 fi]) ∧ Own w w' := by
  have HX := Lib.hid (fun (k : Nat) (h : k < 6) => idxL l h)
  have HOK := Lib.hid (ch_yes hl).1
  have HVP := Lib.hid (va_yes hp).2
  have HVQ := Lib.hid (va_yes hq).2
  clear hl hp hq
  go_enter Try.func44, Try.ntmps44
  go_upto_region 1 with (fail)
  obtain ⟨W0, B, C, D, R, hW, hR, hD, hC, hB, hb, hc, hd, hr, g0, hR0, -⟩ := four_new w (lz l) 26 (cz 22 p) 63 (cz 22 q) 63 (#[.int .i64 0, .int .i64 0, .int .i64 0]) 55
  rw [hW, hR, hD, hC, hB]
  have HB := Lib.hid hb
  have HC := Lib.hid hc
  have HD := Lib.hid hd
  have HR := Lib.hid hr
  clear hW hR hD hC hB hb hc hd hr
  have HALL := Lib.hid (lb_all HB.out)
  go_upto_region 2 with ((with_reducible show wpList _ _ _ (⟨_, .load 24 (.tmp 13), _, _, _, none⟩ :: _) _ _); refine wpList_load_lie rfl 24 (.tmp 13) rfl B (0) rfl (cz 36 l) HALL.out _ Try.underlying24 rfl infoL6 ?_)
  generalize cz 36 l = TT at *
  clear HALL
  go_wp2
  go_loopw [9, 10, 11, 15] (fun _ _ _ vi wr => ∃ k : Nat, vi = .int .i64 (k : Int) ∧ k ≤ 6 ∧ (∀ i, i < k → tkE l p q a i = 0) ∧ Own w wr ∧ Blk wr B (lz l) 26 ∧ Blk wr C (cz 22 p) 63 ∧ Blk wr D (cz 22 q) 63 ∧ Blk wr R (#[.int .i64 0, .int .i64 0, .int .i64 0]) 55) (fun _ _ _ vi _ => 6 - (intOf vi).toNat)
  case atStart => exact ⟨0, rfl, by omega, fun i hi => absurd hi (by omega), g0, HB.out, HC.out, HD.out, HR.out⟩
  case round =>
    clear g0 HB HC HD HR
    obtain ⟨k, rfl, hk, hz0, g0, hb, hc, hd, hr⟩ := hrel
    have HZ := Lib.hid hz0
    have HB := Lib.hid hb
    have HC := Lib.hid hc
    have HD := Lib.hid hd
    have HR := Lib.hid hr
    clear hz0 hb hc hd hr
    by_cases hlt : k < 6
    · have ix := HX.out k hlt
      have hkn : (k : Int) < 6 := by omega
      obtain ⟨-, -, he, -⟩ := chk_yes (HVP.out k hlt)
      obtain ⟨-, hz, he2, -⟩ := chk_yes (HVQ.out k hlt)
      obtain ⟨c, hc⟩ : ∃ c, tkE l p q a k = c := ⟨_, rfl⟩
      have HTK := Lib.hid hc
      have HAC := Lib.hid (lie_aim HC.out hlt)
      have HAD := Lib.hid (lie_aim HD.out hlt)
      have hx := (HOK.out k hlt).2.1
      obtain ⟨x, hxx⟩ : ∃ x, lim l k = x := ⟨_, rfl⟩
      rw [hxx] at ix hx
      have HLB := Lib.hid (show lbE x (p (4 + k * 3)) (p (4 + k * 3 + 1)) (q (4 + k * 3)) (q (4 + k * 3 + 1)) (q (4 + k * 3 + 2)) = c by
        rw [← hc, ← hxx]
        unfold tkE
        rw [if_pos hlt]
        rfl)
      replace hz : 0 ≤ q (4 + k * 3) ∧ q (4 + k * 3) ≤ 511 := by omega
      generalize p (4 + k * 3) = z at HAC HLB
      generalize p (4 + k * 3 + 1) = e at HAC HLB he
      generalize p (4 + k * 3 + 2) = b at HAC
      generalize q (4 + k * 3) = z2 at HAD HLB hz
      generalize q (4 + k * 3 + 1) = e2 at HAD HLB he2
      generalize q (4 + k * 3 + 2) = b2 at HAD HLB
      clear hc hxx
      go_upto_region 4 with ((with_reducible show wpList _ _ _ (⟨_, .store 23 (.tmp 10) (.tmp 18), _, _, _, none⟩ :: _) _ _); refine wpList_store_row rfl 23 (.tmp 10) (.tmp 18) rfl _ (cz 6 (x)) rfl rfl 23 _ (heap_new _ _) infoL rfl (cz_one _ _) ?_; rw [World.setRow_alloc_new])
      obtain ⟨w1, E, hW, hBq, hb, hg, Eg⟩ := blk_new wr (cz 6 x) 23
      rw [hW, hBq]
      have HE := Lib.hid hb
      replace g0 := g0.trans hg
      replace HB := Lib.hid (HB.out.own hg)
      replace HC := Lib.hid (HC.out.own hg)
      replace HD := Lib.hid (HD.out.own hg)
      replace HR := Lib.hid (HR.out.own hg)
      replace HAC := Lib.hid (HAC.out.own hg)
      replace HAD := Lib.hid (HAD.out.own hg)
      clear hW hBq hb hg
      clear Eg
      go_frame
      refine RegD.region_duty [19, 20, 21, 22, 23, 24, 25, 26, 27, 28, 11] (RegI.upd (RegI.upd (RegI.upd (RegI.upd (RegI.upd (RegI.upd (RegI.upd (RegI.upd (RegI.upd (RegI.upd (RegI.upd (fun _ => undef) 19 (.agg (cz 6 x))) 20 (.int .i64 (k : Int))) 21 (.pointer (some ⟨C, 4, none⟩))) 22 (.pointer (some ⟨C, 4 + k * 3, none⟩))) 23 (.agg #[.int .i64 z, .int .i64 e, .int .i64 b])) 24 (.int .i64 (k : Int))) 25 (.pointer (some ⟨D, 4, none⟩))) 26 (.pointer (some ⟨D, 4 + k * 3, none⟩))) 27 (.agg #[.int .i64 z2, .int .i64 e2, .int .i64 b2])) 28 (.int .i64 c)) 11 (.int .i64 c)) (by kernel_rfl) (by kernel_rfl) (by intro d hd; simp at hd; simp; omega) ?_
      simp only [RegD.FF, RegI.FX, RegI.upd, List.foldl_cons, List.foldl_nil, List.not_mem_nil, if_true, if_false, Nat.reduceEqDiff]
      simp only [List.setIfInBounds_toArray, List.set_cons_succ, List.set_cons_zero]
      refine And.intro ?hs1 ?he1
      case hs1 =>
        refine And.intro ?s1_0 (And.intro ?s1_1 (And.intro ?s1_2 (And.intro ?s1_3 (And.intro ?s1_4 (And.intro ?s1_5 (And.intro ?s1_6 (And.intro ?s1_7 (And.intro ?s1_8 (And.intro ?s1_9 (And.intro ?s1_10 (trivial)))))))))))
        case s1_0 =>
          intro u w1 hO
          have HB9 := Lib.hid (HE.out.own hO)
          go_wp2_with ((with_reducible show wpList _ _ _ (⟨_, .load 23 (.tmp 10), _, _, _, none⟩ :: _) _ _); refine wpList_load_row rfl 23 (.tmp 10) rfl E rfl 23 _ (0, 0) _ HB9.out.raw Try.underlying23 rfl infoL ?_)
          exact ⟨rfl, rfl, rfl, Own.refl _⟩
        case s1_1 =>
          intro u w1 hO
          go_wp2
          exact ⟨rfl, rfl, rfl, Own.refl _⟩
        case s1_2 =>
          intro u w1 hO
          go_wp2
          exact ⟨rfl, rfl, rfl, Own.refl _⟩
        case s1_3 =>
          intro u w1 hO
          go_wp2
          exact ⟨rfl, rfl, rfl, Own.refl _⟩
        case s1_4 =>
          intro u w1 hO
          have HB9 := Lib.hid (HAC.out.own hO)
          go_wp2_with ((with_reducible show wpList _ _ _ (⟨_, .load 34 (.tmp 22), _, _, _, none⟩ :: _) _ _); refine wpList_load_lie rfl 34 (.tmp 22) rfl C (4 + k * 3) rfl (#[.int .i64 z, .int .i64 e, .int .i64 b]) HB9.out _ Try.underlying34 rfl infoA ?_)
          exact ⟨rfl, rfl, rfl, Own.refl _⟩
        case s1_5 =>
          intro u w1 hO
          go_wp2
          exact ⟨rfl, rfl, rfl, Own.refl _⟩
        case s1_6 =>
          intro u w1 hO
          go_wp2
          exact ⟨rfl, rfl, rfl, Own.refl _⟩
        case s1_7 =>
          intro u w1 hO
          go_wp2
          exact ⟨rfl, rfl, rfl, Own.refl _⟩
        case s1_8 =>
          intro u w1 hO
          have HB9 := Lib.hid (HAD.out.own hO)
          go_wp2_with ((with_reducible show wpList _ _ _ (⟨_, .load 34 (.tmp 26), _, _, _, none⟩ :: _) _ _); refine wpList_load_lie rfl 34 (.tmp 26) rfl D (4 + k * 3) rfl (#[.int .i64 z2, .int .i64 e2, .int .i64 b2]) HB9.out _ Try.underlying34 rfl infoA ?_)
          exact ⟨rfl, rfl, rfl, Own.refl _⟩
        case s1_9 =>
          intro u w1 hO
          go_wp2_with (go_at_call 63; with_reducible refine (lle_at x z e b z2 e2 b2 c _ hx hz he he2 HLB).mono ?_; rintro r w2 ⟨rfl, hg⟩)
          exact ⟨rfl, rfl, rfl, hg⟩
        case s1_10 =>
          intro u w1 hO
          go_wp2
          exact ⟨rfl, rfl, rfl, Own.refl _⟩
      intro u w9 hO
      replace g0 := g0.trans hO
      replace HB := Lib.hid (HB.out.own hO)
      replace HC := Lib.hid (HC.out.own hO)
      replace HD := Lib.hid (HD.out.own hO)
      replace HR := Lib.hid (HR.out.own hO)
      clear hO HE HAC HAD HLB hx hz he he2 ix
      by_cases hc0 : c = 0
      · subst hc0
        go_wp2
        go_roundw
        case rel =>
          refine ⟨k + 1, by go_num, hlt, fun i hi => ?_, g0, HB.out, HC.out, HD.out, HR.out⟩
          by_cases e : i = k
          · rw [e]; exact HTK.out
          · exact HZ.out i (by omega)
        case measure => simp [intOf]; omega
      · have kc : (c != 0) = true := bne_iff_ne.2 hc0
        obtain ⟨e1, e2⟩ := ft_at HZ.out (by rw [HTK.out]; exact hc0) (show k < 7 by omega)
        obtain rfl : c = fc := by rw [← H.out.1, e1]; exact HTK.out.symm
        obtain rfl : (k : Int) = fi := by rw [← H.out.2, e2]
        clear e1 e2 hc0 H HZ HTK HB HC HD
        go_wp2_with ((with_reducible show wpList _ _ _ (⟨_, .store 55 (.tmp 8) (.tmp 33), _, _, _, none⟩ :: _) _ _); refine wpList_store_row rfl 55 (.tmp 8) (.tmp 33) rfl R #[.int .i64 c, .int .i64 0, .int .i64 (k : Int)] rfl rfl 55 _ HR.out.raw infoF rfl (by simp [Value.oneCell']) ?_)
        have hp := HR.out.row (#[.int .i64 c, .int .i64 0, .int .i64 (k : Int)])
        exact bodyPost_ret (blk_result rfl rfl hp Try.underlying55 rfl infoF) rfl ⟨rfl, own_setRow g0 hR0 _⟩
    · obtain rfl : k = 6 := by omega
      obtain ⟨c, hc⟩ : ∃ c, bdE l p q a = c := ⟨_, rfl⟩
      have HBO := Lib.hid hc
      have h6 : tkE l p q a 6 = c := by
        unfold tkE
        rw [if_neg (by omega)]
        exact hc
      clear hc
      by_cases hc0 : c = 0
      · subst hc0
        obtain ⟨e1, e2⟩ := ft_ok (l := l) (p := p) (q := q) (a := a) (fun i hi => by
          by_cases e : i = 6
          · rw [e]; exact h6
          · exact HZ.out i (by omega))
        obtain rfl : 0 = fc := e1.symm.trans H.out.1
        obtain rfl : 0 = fi := e2.symm.trans H.out.2
        clear e1 e2 H HZ h6
        go_wp2_with (first | ((with_reducible show wpList _ _ _ (⟨_, .load 26 (.tmp 4), _, _, _, none⟩ :: _) _ _); refine wpList_load_row rfl 26 (.tmp 4) rfl B rfl 26 _ (0, 0) _ HB.out.raw Try.underlying26 rfl infoLs ?_) | ((with_reducible show wpList _ _ _ (⟨_, .load 63 (.tmp 5), _, _, _, none⟩ :: _) _ _); refine wpList_load_row rfl 63 (.tmp 5) rfl C rfl 63 _ (0, 0) _ HC.out.raw Try.underlying63 rfl infoP ?_) | ((with_reducible show wpList _ _ _ (⟨_, .load 63 (.tmp 6), _, _, _, none⟩ :: _) _ _); refine wpList_load_row rfl 63 (.tmp 6) rfl D rfl 63 _ (0, 0) _ HD.out.raw Try.underlying63 rfl infoP ?_) | (go_at_call 64; with_reducible refine (lbo_at l p q a 0 _ HBO).mono ?_; rintro r w9 ⟨rfl, hg⟩; replace g0 := g0.trans hg; replace HR := Lib.hid (HR.out.own hg); clear hg) | ((with_reducible show wpList _ _ _ (⟨_, .store 55 (.tmp 8) (.tmp 44), _, _, _, none⟩ :: _) _ _); refine wpList_store_row rfl 55 (.tmp 8) (.tmp 44) rfl R #[.int .i64 0, .int .i64 0, .int .i64 0] rfl rfl 55 _ HR.out.raw infoF rfl (by simp [Value.oneCell']) ?_))
        have hp := HR.out.row (#[.int .i64 0, .int .i64 0, .int .i64 0])
        exact bodyPost_ret (blk_result rfl rfl hp Try.underlying55 rfl infoF) rfl ⟨rfl, own_setRow g0 hR0 _⟩
      · have kc : (c != 0) = true := bne_iff_ne.2 hc0
        obtain ⟨e1, e2⟩ := ft_at HZ.out (by rw [h6]; exact hc0) (show 6 < 7 by omega)
        obtain rfl : c = fc := by rw [← H.out.1, e1]; exact h6.symm
        obtain rfl : 6 = fi := by rw [← H.out.2, e2]; rfl
        clear e1 e2 hc0 H HZ h6
        go_wp2_with (first | ((with_reducible show wpList _ _ _ (⟨_, .load 26 (.tmp 4), _, _, _, none⟩ :: _) _ _); refine wpList_load_row rfl 26 (.tmp 4) rfl B rfl 26 _ (0, 0) _ HB.out.raw Try.underlying26 rfl infoLs ?_) | ((with_reducible show wpList _ _ _ (⟨_, .load 63 (.tmp 5), _, _, _, none⟩ :: _) _ _); refine wpList_load_row rfl 63 (.tmp 5) rfl C rfl 63 _ (0, 0) _ HC.out.raw Try.underlying63 rfl infoP ?_) | ((with_reducible show wpList _ _ _ (⟨_, .load 63 (.tmp 6), _, _, _, none⟩ :: _) _ _); refine wpList_load_row rfl 63 (.tmp 6) rfl D rfl 63 _ (0, 0) _ HD.out.raw Try.underlying63 rfl infoP ?_) | (go_at_call 64; with_reducible refine (lbo_at l p q a c _ HBO).mono ?_; rintro r w9 ⟨rfl, hg⟩; replace g0 := g0.trans hg; replace HR := Lib.hid (HR.out.own hg); clear hg) | ((with_reducible show wpList _ _ _ (⟨_, .store 55 (.tmp 8) (.tmp 43), _, _, _, none⟩ :: _) _ _); refine wpList_store_row rfl 55 (.tmp 8) (.tmp 43) rfl R #[.int .i64 c, .int .i64 0, .int .i64 6] rfl rfl 55 _ HR.out.raw infoF rfl (by simp [Value.oneCell']) ?_))
        have hp := HR.out.row (#[.int .i64 c, .int .i64 0, .int .i64 6])
        exact bodyPost_ret (blk_result rfl rfl hp Try.underlying55 rfl infoF) rfl ⟨rfl, own_setRow g0 hR0 _⟩
end Go.Proofs.Ytmjokgddhainlaa.LimW
