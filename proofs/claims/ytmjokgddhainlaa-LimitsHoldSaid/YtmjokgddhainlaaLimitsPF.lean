/-
  Walk of the program of package limits: Narrow. Condition: none.
-/
import Derived.Test.YtmjokgddhainlaaLimitsPE
import Derived.Test.YtmjokgddhainlaaLimitsBld
namespace Go.Proofs.Ytmjokgddhainlaa.LimW
open Go.ChangeShapes Go.WideShapes Go.ChangeAt Go.RowKit
open PairW AimP AimW BlkW PrtW PstP PstW RegD LimP
set_option maxRecDepth 100000 in
set_option maxHeartbeats 16000000 in
theorem lnw_at (a b r : Vl) (e : Int) (w : World) (H : Hid (lz (nwV a b) = lz r ∧ nwE a b = e)) :
    Calls Try.prog 19 #[.agg (lz a), .agg (lz b)] w fun o w' => o = .returned (.tuple #[.agg (lz r), .int .i64 e]) ∧ Own w w' := by
  obtain ⟨hr, he⟩ := H.out
  clear H
  by_cases h1 : chE a = 0
  · have HA0 := Lib.hid h1
    by_cases h2 : chE b = 0
    · have HB0 := Lib.hid h2
      have HOA := Lib.hid (ch_yes h1).1
      have HOB := Lib.hid (ch_yes h2).1
      have HR1 := Lib.hid hr
      have HE1 := Lib.hid he
      have HC1 := Lib.hid h1
      have HC2 := Lib.hid h2
      clear hr he h1 h2
      go_enter Try.func19, Try.ntmps19
      go_upto_region 1 with (fail)
      obtain ⟨W0, B, C, R, hW, hR, hC, hB, hb, hc, hr, g0, -, -, hR0, hneBC, hneBR, hneCR⟩ := three_new w (lz a) 26 (lz b) 26 (lz nul) 26
      rw [← lz_nul] at hW
      rw [hW, hR, hC, hB]
      have HB := Lib.hid hb
      have HC := Lib.hid hc
      have HR := Lib.hid hr
      clear hW hR hC hB hb hc hr
      go_upto_region 8 with (first | ((with_reducible show wpList _ _ _ (⟨_, .load 26 (.tmp 2), _, _, _, none⟩ :: _) _ _); refine wpList_load_row rfl 26 (.tmp 2) rfl B rfl 26 _ (0, 0) _ HB.out.raw Try.underlying26 rfl infoLs ?_) | ((with_reducible show wpList _ _ _ (⟨_, .load 26 (.tmp 3), _, _, _, none⟩ :: _) _ _); refine wpList_load_row rfl 26 (.tmp 3) rfl C rfl 26 _ (0, 0) _ HC.out.raw Try.underlying26 rfl infoLs ?_) | (go_at_call 14; with_reducible refine (lck_at a 0 _ HA0).mono ?_; rintro r w1 ⟨rfl, hg⟩; replace g0 := g0.trans hg; replace HB := Lib.hid (HB.out.own hg); replace HC := Lib.hid (HC.out.own hg); replace HR := Lib.hid (HR.out.own hg); clear hg) | (go_at_call 14; with_reducible refine (lck_at b 0 _ HB0).mono ?_; rintro r w2 ⟨rfl, hg⟩; replace g0 := g0.trans hg; replace HB := Lib.hid (HB.out.own hg); replace HC := Lib.hid (HC.out.own hg); replace HR := Lib.hid (HR.out.own hg); clear hg))
      obtain ⟨w3, A, hW, hAq, ha, hg, hA0⟩ := blk_new w2 (cz 36 nul) 24
      rw [← cz36_nul] at hW
      rw [hW, hAq]
      have HA := Lib.hid ha
      replace hA0 : w.heap.size ≤ A := Nat.le_trans g0.size hA0
      replace g0 := g0.trans hg
      have hneB : B ≠ A := fun e => by have := HB.out.lt; omega
      have hneC : C ≠ A := fun e => by have := HC.out.lt; omega
      have hneR : R ≠ A := fun e => by have := HR.out.lt; omega
      replace HB := Lib.hid (HB.out.own hg)
      replace HC := Lib.hid (HC.out.own hg)
      replace HR := Lib.hid (HR.out.own hg)
      clear hW hAq ha hg
      go_wp2
      go_loopw [9, 10, 11, 24] (fun _ _ _ vi wr => ∃ (k : Nat) (f : Vl), vi = .int .i64 (k : Int) ∧ k ≤ 6 ∧ (∀ i, i < k → nrE (lim a i) (lim b i) = 0) ∧ (∀ j, j < k * 6 → f j = nwS a b j) ∧ Own w wr ∧ Blk wr B (lz a) 26 ∧ Blk wr C (lz b) 26 ∧ Blk wr R (lz nul) 26 ∧ Blk wr A (cz 36 f) 24) (fun _ _ _ vi _ => 6 - (intOf vi).toNat)
      case atStart => exact ⟨0, nul, rfl, by omega, fun i hi => absurd hi (by omega), fun j hj => absurd hj (by omega), g0, HB.out, HC.out, HR.out, HA.out⟩
      case round =>
        clear g0 HB HC HR HA
        obtain ⟨k, f, rfl, hk, hz, hf, g0, hb, hc, hr, ha⟩ := hrel
        have HZ := Lib.hid hz
        have HF := Lib.hid hf
        have HB := Lib.hid hb
        have HC := Lib.hid hc
        have HR := Lib.hid hr
        have HA := Lib.hid ha
        clear hz hf hb hc hr ha
        by_cases hlt : k < 6
        · have hkn : (k : Int) < 6 := by omega
          have HLA := Lib.hid (lb_lim HB.out hlt)
          have HLB := Lib.hid (lb_lim HC.out hlt)
          have hx := HOA.out k hlt
          have hy := HOB.out k hlt
          obtain ⟨v, hv⟩ : ∃ v, nrV (lim a k) (lim b k) = v := ⟨_, rfl⟩
          obtain ⟨d, hd⟩ : ∃ d, nrE (lim a k) (lim b k) = d := ⟨_, rfl⟩
          have HV := Lib.hid hv
          have HD := Lib.hid hd
          have HNR := Lib.hid (show cz 6 (nrV (lim a k) (lim b k)) = cz 6 v ∧ nrE (lim a k) (lim b k) = d from ⟨congrArg _ hv, hd⟩)
          clear hv hd
          generalize lim a k = x at HLA HNR hx
          generalize lim b k = y at HLB HNR hy
          go_upto_region 11 with (fail)
          refine RegD.region_dutyN [28, 29, 30, 31, 32, 33, 34, 35, 36, 27, 37, 38, 10, 11] 10 12 13 (RegI.upd (RegI.upd (RegI.upd (RegI.upd (RegI.upd (RegI.upd (RegI.upd (RegI.upd (RegI.upd (RegI.upd (RegI.upd (RegI.upd (RegI.upd (fun _ => undef) 28 (.int .i64 (k : Int))) 29 (.pointer (some ⟨B, 0, none⟩))) 30 (.pointer (some ⟨B, k * 6, none⟩))) 31 (.agg (cz 6 x))) 32 (.int .i64 (k : Int))) 33 (.pointer (some ⟨C, 0, none⟩))) 34 (.pointer (some ⟨C, k * 6, none⟩))) 35 (.agg (cz 6 y))) 36 (.tuple #[.agg (cz 6 v), .int .i64 d])) 27 (.tuple #[.agg (cz 6 v), .int .i64 d])) 37 (.agg (cz 6 v))) 38 (.int .i64 d)) 11 (.int .i64 d)) (#[.int .i64 0, .int .i64 0, .int .i64 0, .int .i64 0, .int .i64 0, .int .i64 0]) (cz 6 v) 23 (by kernel_rfl) (by kernel_rfl) (by decide) (by intro d hd; simp at hd; simp; omega) ?_
          simp only [RegD.FF, RegI.FX, RegI.upd, List.foldl_cons, List.foldl_nil, List.mem_cons, List.not_mem_nil, if_true, if_false, Nat.reduceEqDiff, or_false]
          simp only [List.setIfInBounds_toArray, List.set_cons_succ, List.set_cons_zero]
          refine And.intro ?hs1 ?he1
          case hs1 =>
            refine And.intro ?s1_0 (And.intro ?s1_1 (And.intro ?s1_2 (And.intro ?s1_3 (And.intro ?s1_4 (And.intro ?s1_5 (And.intro ?s1_6 (And.intro ?s1_7 (And.intro ?s1_8 (And.intro ?s1_9 (And.intro ?s1_10 (And.intro ?s1_11 (And.intro ?s1_12 (And.intro ?s1_13 (And.intro ?s1_14 (trivial)))))))))))))))
            case s1_0 =>
              refine RegD.stepN_det (by decide) (by decide) (by simp) (fun u w1 hO => ?_)
              go_wp2
              exact ⟨rfl, rfl, rfl, Own.refl _⟩
            case s1_1 =>
              refine RegD.stepN_det (by decide) (by decide) (by simp) (fun u w1 hO => ?_)
              go_wp2
              exact ⟨rfl, rfl, rfl, Own.refl _⟩
            case s1_2 =>
              refine RegD.stepN_det (by decide) (by decide) (by simp) (fun u w1 hO => ?_)
              go_wp2
              exact ⟨rfl, rfl, rfl, Own.refl _⟩
            case s1_3 =>
              refine RegD.stepN_det (by decide) (by decide) (by simp) (fun u w1 hO => ?_)
              have HB9 := Lib.hid (HLA.out.own hO)
              go_wp2_with ((with_reducible show wpList _ _ _ (⟨_, .load 23 (.tmp 30), _, _, _, none⟩ :: _) _ _); refine wpList_load_lie rfl 23 (.tmp 30) rfl B (k * 6) rfl (cz 6 x) HB9.out _ Try.underlying23 rfl infoL ?_)
              exact ⟨rfl, rfl, rfl, Own.refl _⟩
            case s1_4 =>
              refine RegD.stepN_det (by decide) (by decide) (by simp) (fun u w1 hO => ?_)
              go_wp2
              exact ⟨rfl, rfl, rfl, Own.refl _⟩
            case s1_5 =>
              refine RegD.stepN_det (by decide) (by decide) (by simp) (fun u w1 hO => ?_)
              go_wp2
              exact ⟨rfl, rfl, rfl, Own.refl _⟩
            case s1_6 =>
              refine RegD.stepN_det (by decide) (by decide) (by simp) (fun u w1 hO => ?_)
              go_wp2
              exact ⟨rfl, rfl, rfl, Own.refl _⟩
            case s1_7 =>
              refine RegD.stepN_det (by decide) (by decide) (by simp) (fun u w1 hO => ?_)
              have HB9 := Lib.hid (HLB.out.own hO)
              go_wp2_with ((with_reducible show wpList _ _ _ (⟨_, .load 23 (.tmp 34), _, _, _, none⟩ :: _) _ _); refine wpList_load_lie rfl 23 (.tmp 34) rfl C (k * 6) rfl (cz 6 y) HB9.out _ Try.underlying23 rfl infoL ?_)
              exact ⟨rfl, rfl, rfl, Own.refl _⟩
            case s1_8 =>
              refine RegD.stepN_det (by decide) (by decide) (by simp) (fun u w1 hO => ?_)
              go_wp2_with (go_at_call 40; with_reducible refine (lnr_at x y v d _ hx hy HNR).mono ?_; rintro r w2 ⟨rfl, hg⟩)
              exact ⟨rfl, rfl, rfl, hg⟩
            case s1_9 =>
              refine RegD.stepN_det (by decide) (by decide) (by simp) (fun u w1 hO => ?_)
              go_wp2
              exact ⟨rfl, rfl, rfl, Own.refl _⟩
            case s1_10 =>
              refine RegD.stepN_det (by decide) (by decide) (by simp) (fun u w1 hO => ?_)
              go_wp2
              exact ⟨rfl, rfl, rfl, Own.refl _⟩
            case s1_11 =>
              refine RegD.stepN_det (by decide) (by decide) (by simp) (fun u w1 hO => ?_)
              go_wp2
              exact ⟨rfl, rfl, rfl, Own.refl _⟩
            case s1_12 =>
              refine RegD.stepN_alloc rfl (fun u w1 hO => ?_)
              go_wp2
              exact ⟨rfl, rfl, rfl, rfl⟩
            case s1_13 =>
              refine RegD.stepN_store (by decide) rfl (by kernel_rfl) (fun u w1 N hO hu hN => ?_)
              have HN := Lib.hid hN
              simp only [hu]
              clear hN
              go_wp2_with ((with_reducible show wpList _ _ _ (⟨_, .store 23 (.tmp 10) (.tmp 37), _, _, _, none⟩ :: _) _ _); refine wpList_store_row rfl 23 (.tmp 10) (.tmp 37) rfl N (cz 6 (v)) rfl rfl 23 _ HN.out.raw infoL rfl (cz_one _ _) ?_)
              exact ⟨rfl, rfl, rfl⟩
            case s1_14 =>
              refine RegD.stepN_det (by decide) (by decide) (by simp) (fun u w1 hO => ?_)
              go_wp2
              exact ⟨rfl, rfl, rfl, Own.refl _⟩
          intro u w7 N hO hu hN0 hN
          simp only [hu]
          replace g0 := g0.trans hO
          replace HB := Lib.hid (HB.out.own hO)
          replace HC := Lib.hid (HC.out.own hO)
          replace HR := Lib.hid (HR.out.own hO)
          replace HA := Lib.hid (HA.out.own hO)
          have HN := Lib.hid hN
          clear hO hu hN0 hN HLA HLB HNR hx hy
          by_cases hd0 : d = 0
          · subst hd0
            have HZ2 := Lib.hid (show ∀ i, i < k + 1 → nrE (lim a i) (lim b i) = 0 from fun i hi => by
              by_cases e : i = k
              · rw [e]; exact HD.out
              · exact HZ.out i (by omega))
            have HF2 := Lib.hid (nw_next hlt HF.out HV.out)
            clear HZ HF HD HV
            go_upto_region 15 with (first | ((with_reducible show wpList _ _ _ (⟨_, .load 23 (.tmp 10), _, _, _, none⟩ :: _) _ _); refine wpList_load_row rfl 23 (.tmp 10) rfl N rfl 23 _ (0, 0) _ HN.out.raw Try.underlying23 rfl infoL ?_) | ((with_reducible show wpList _ _ _ (⟨_, .store 23 (.tmp 45) (.tmp 44), _, _, _, none⟩ :: _) _ _); refine wpList_store_part rfl 23 (.tmp 45) (.tmp 44) rfl A (k * 6) 6 (v) rfl (cz 6 v) rfl rfl HA.out (by omega) infoL ?_))
            have hb9 := HA.out.row (cz 36 (put f (k * 6) 6 v))
            have h9HB := HB.out.rowfar hneB (cz 36 (put f (k * 6) 6 v))
            have h9HC := HC.out.rowfar hneC (cz 36 (put f (k * 6) 6 v))
            have h9HR := HR.out.rowfar hneR (cz 36 (put f (k * 6) 6 v))
            replace g0 := own_setRow g0 hA0 (cz 36 (put f (k * 6) 6 v))
            clear HA HB HC HR
            generalize w7.setRow A (cz 36 (put f (k * 6) 6 v)) = w8 at *
            have HA := Lib.hid hb9
            have HB := Lib.hid h9HB
            have HC := Lib.hid h9HC
            have HR := Lib.hid h9HR
            clear hb9 h9HB h9HC h9HR
            go_wp2
            go_roundw
            case rel => exact ⟨k + 1, _, by go_num, hlt, HZ2.out, HF2.out, g0, HB.out, HC.out, HR.out, HA.out⟩
            case measure => simp [intOf]; omega
          · have kd : (d != 0) = true := bne_iff_ne.2 hd0
            have e1 : nwE a b = 25 := nw_lim HC1.out HC2.out hlt (by rw [HD.out]; exact hd0)
            obtain rfl : d = e := by
              rw [← HE1.out, e1]
              rcases nr_or (lim a k) (lim b k) with g | g
              · exact absurd (HD.out.symm.trans g) hd0
              · exact HD.out.symm.trans g
            have H1 := Lib.hid (show lz nul = lz r by rw [← nw_nul (by rw [e1]; decide)]; exact HR1.out)
            clear e1 hd0 HD HV HZ HF HE1 HR1 HA HB HC
            go_wp2_with ((with_reducible show wpList _ _ _ (⟨_, .store 26 (.tmp 4) (.tmp 41), _, _, _, none⟩ :: _) _ _); refine wpList_store_row rfl 26 (.tmp 4) (.tmp 41) rfl R (lz (nul)) rfl (congrArg Value.agg lz_nul) 26 _ HR.out.raw infoLs rfl (lz_one _) ?_)
            have hp := HR.out.row (lz nul)
            exact bodyPost_ret (blk_results rfl rfl rfl hp Try.underlying26 rfl infoLs) rfl ⟨(by rw [H1.out]; rfl), own_setRow g0 hR0 _⟩
        · obtain rfl : k = 6 := by omega
          obtain ⟨e1, e2⟩ := nw_ok HC1.out HC2.out HZ.out
          obtain rfl : 0 = e := e1.symm.trans HE1.out
          have H1 := Lib.hid (show lz (nwS a b) = lz r by rw [← e2]; exact HR1.out)
          clear e1 e2 HE1 HR1 HZ
          have k36 := lb_low HB.out
          have k37 := lb_rise HB.out
          have m36 := lb_low HC.out
          have m37 := lb_rise HC.out
          have k38 := lb_num HB.out (i := 38) (by omega) (by omega)
          have k39 := lb_num HB.out (i := 39) (by omega) (by omega)
          have m38 := lb_num HC.out (i := 38) (by omega) (by omega)
          have m39 := lb_num HC.out (i := 39) (by omega) (by omega)
          have hm3 := fun (w : World) (ts : Array TypeId) (t : TypeId) => min2_at (P := Try.prog) (a 38) (b 38) w ts t
          have hm4 := fun (w : World) (ts : Array TypeId) (t : TypeId) => min2_at (P := Try.prog) (a 39) (b 39) w ts t
          by_cases hp : a 36 = 1
          · by_cases hq : a 37 = 1
            · have HBL := Lib.hid (bld_ls f (decide (b 36 = 1)) (decide (b 37 = 1)) (min (a 38) (b 38)) (min (a 39) (b 39)))
              have HE := Lib.hid ((mk_nw (a := a) (b := b) (p := decide (b 36 = 1)) (q := decide (b 37 = 1)) HF.out (by rw [decide_eq_true hp]; rfl) (by rw [decide_eq_true hq]; rfl)).trans H1.out)
              rw [decide_eq_true hp] at k36
              rw [decide_eq_true hq] at k37
              clear hp hq
              go_wp2_with (first | ((with_reducible show wpList _ _ _ (⟨_, .load 24 (.tmp 8), _, _, _, none⟩ :: _) _ _); refine wpList_load_row rfl 24 (.tmp 8) rfl A rfl 24 _ (0, 0) _ HA.out.raw Try.underlying24 rfl infoL6 ?_) | ((with_reducible show wpList _ _ _ (⟨_, .build 26 _, _, _, _, _⟩ :: _) _ _); refine wpList_build_as rfl 26 [(0, .tmp 47), (1, .tmp 53), (2, .tmp 59), (3, .tmp 64), (4, .tmp 69)] rfl [(0, .agg (cz 36 f)), (1, .bool (decide (b 36 = 1))), (2, .bool (decide (b 37 = 1))), (3, .int .i64 (min (a 38) (b 38))), (4, .int .i64 (min (a 39) (b 39)))] rfl (lz (mkL f (decide (b 36 = 1)) (decide (b 37 = 1)) (min (a 38) (b 38)) (min (a 39) (b 39)))) (HBL.out) ?_) | ((with_reducible show wpList _ _ _ (⟨_, .store 26 (.tmp 4) (.tmp 70), _, _, _, none⟩ :: _) _ _); refine wpList_store_row rfl 26 (.tmp 4) (.tmp 70) rfl R (lz (mkL f (decide (b 36 = 1)) (decide (b 37 = 1)) (min (a 38) (b 38)) (min (a 39) (b 39)))) rfl rfl 26 _ HR.out.raw infoLs rfl (lz_one _) ?_))
              have hz := HR.out.row (lz (mkL f (decide (b 36 = 1)) (decide (b 37 = 1)) (min (a 38) (b 38)) (min (a 39) (b 39))))
              exact bodyPost_ret (blk_results rfl rfl rfl hz Try.underlying26 rfl infoLs) rfl ⟨(by rw [HE.out]; rfl), own_setRow g0 hR0 _⟩
            · have HBL := Lib.hid (bld_ls f (decide (b 36 = 1)) (false) (min (a 38) (b 38)) (min (a 39) (b 39)))
              have HE := Lib.hid ((mk_nw (a := a) (b := b) (p := decide (b 36 = 1)) (q := false) HF.out (by rw [decide_eq_true hp]; rfl) (by rw [decide_eq_false hq]; rfl)).trans H1.out)
              rw [decide_eq_true hp] at k36
              rw [decide_eq_false hq] at k37
              clear hp hq
              go_wp2_with (first | ((with_reducible show wpList _ _ _ (⟨_, .load 24 (.tmp 8), _, _, _, none⟩ :: _) _ _); refine wpList_load_row rfl 24 (.tmp 8) rfl A rfl 24 _ (0, 0) _ HA.out.raw Try.underlying24 rfl infoL6 ?_) | ((with_reducible show wpList _ _ _ (⟨_, .build 26 _, _, _, _, _⟩ :: _) _ _); refine wpList_build_as rfl 26 [(0, .tmp 47), (1, .tmp 53), (2, .tmp 59), (3, .tmp 64), (4, .tmp 69)] rfl [(0, .agg (cz 36 f)), (1, .bool (decide (b 36 = 1))), (2, .bool (false)), (3, .int .i64 (min (a 38) (b 38))), (4, .int .i64 (min (a 39) (b 39)))] rfl (lz (mkL f (decide (b 36 = 1)) (false) (min (a 38) (b 38)) (min (a 39) (b 39)))) (HBL.out) ?_) | ((with_reducible show wpList _ _ _ (⟨_, .store 26 (.tmp 4) (.tmp 70), _, _, _, none⟩ :: _) _ _); refine wpList_store_row rfl 26 (.tmp 4) (.tmp 70) rfl R (lz (mkL f (decide (b 36 = 1)) (false) (min (a 38) (b 38)) (min (a 39) (b 39)))) rfl rfl 26 _ HR.out.raw infoLs rfl (lz_one _) ?_))
              have hz := HR.out.row (lz (mkL f (decide (b 36 = 1)) (false) (min (a 38) (b 38)) (min (a 39) (b 39))))
              exact bodyPost_ret (blk_results rfl rfl rfl hz Try.underlying26 rfl infoLs) rfl ⟨(by rw [HE.out]; rfl), own_setRow g0 hR0 _⟩
          · by_cases hq : a 37 = 1
            · have HBL := Lib.hid (bld_ls f (false) (decide (b 37 = 1)) (min (a 38) (b 38)) (min (a 39) (b 39)))
              have HE := Lib.hid ((mk_nw (a := a) (b := b) (p := false) (q := decide (b 37 = 1)) HF.out (by rw [decide_eq_false hp]; rfl) (by rw [decide_eq_true hq]; rfl)).trans H1.out)
              rw [decide_eq_false hp] at k36
              rw [decide_eq_true hq] at k37
              clear hp hq
              go_wp2_with (first | ((with_reducible show wpList _ _ _ (⟨_, .load 24 (.tmp 8), _, _, _, none⟩ :: _) _ _); refine wpList_load_row rfl 24 (.tmp 8) rfl A rfl 24 _ (0, 0) _ HA.out.raw Try.underlying24 rfl infoL6 ?_) | ((with_reducible show wpList _ _ _ (⟨_, .build 26 _, _, _, _, _⟩ :: _) _ _); refine wpList_build_as rfl 26 [(0, .tmp 47), (1, .tmp 53), (2, .tmp 59), (3, .tmp 64), (4, .tmp 69)] rfl [(0, .agg (cz 36 f)), (1, .bool (false)), (2, .bool (decide (b 37 = 1))), (3, .int .i64 (min (a 38) (b 38))), (4, .int .i64 (min (a 39) (b 39)))] rfl (lz (mkL f (false) (decide (b 37 = 1)) (min (a 38) (b 38)) (min (a 39) (b 39)))) (HBL.out) ?_) | ((with_reducible show wpList _ _ _ (⟨_, .store 26 (.tmp 4) (.tmp 70), _, _, _, none⟩ :: _) _ _); refine wpList_store_row rfl 26 (.tmp 4) (.tmp 70) rfl R (lz (mkL f (false) (decide (b 37 = 1)) (min (a 38) (b 38)) (min (a 39) (b 39)))) rfl rfl 26 _ HR.out.raw infoLs rfl (lz_one _) ?_))
              have hz := HR.out.row (lz (mkL f (false) (decide (b 37 = 1)) (min (a 38) (b 38)) (min (a 39) (b 39))))
              exact bodyPost_ret (blk_results rfl rfl rfl hz Try.underlying26 rfl infoLs) rfl ⟨(by rw [HE.out]; rfl), own_setRow g0 hR0 _⟩
            · have HBL := Lib.hid (bld_ls f (false) (false) (min (a 38) (b 38)) (min (a 39) (b 39)))
              have HE := Lib.hid ((mk_nw (a := a) (b := b) (p := false) (q := false) HF.out (by rw [decide_eq_false hp]; rfl) (by rw [decide_eq_false hq]; rfl)).trans H1.out)
              rw [decide_eq_false hp] at k36
              rw [decide_eq_false hq] at k37
              clear hp hq
              go_wp2_with (first | ((with_reducible show wpList _ _ _ (⟨_, .load 24 (.tmp 8), _, _, _, none⟩ :: _) _ _); refine wpList_load_row rfl 24 (.tmp 8) rfl A rfl 24 _ (0, 0) _ HA.out.raw Try.underlying24 rfl infoL6 ?_) | ((with_reducible show wpList _ _ _ (⟨_, .build 26 _, _, _, _, _⟩ :: _) _ _); refine wpList_build_as rfl 26 [(0, .tmp 47), (1, .tmp 53), (2, .tmp 59), (3, .tmp 64), (4, .tmp 69)] rfl [(0, .agg (cz 36 f)), (1, .bool (false)), (2, .bool (false)), (3, .int .i64 (min (a 38) (b 38))), (4, .int .i64 (min (a 39) (b 39)))] rfl (lz (mkL f (false) (false) (min (a 38) (b 38)) (min (a 39) (b 39)))) (HBL.out) ?_) | ((with_reducible show wpList _ _ _ (⟨_, .store 26 (.tmp 4) (.tmp 70), _, _, _, none⟩ :: _) _ _); refine wpList_store_row rfl 26 (.tmp 4) (.tmp 70) rfl R (lz (mkL f (false) (false) (min (a 38) (b 38)) (min (a 39) (b 39)))) rfl rfl 26 _ HR.out.raw infoLs rfl (lz_one _) ?_))
              have hz := HR.out.row (lz (mkL f (false) (false) (min (a 38) (b 38)) (min (a 39) (b 39))))
              exact bodyPost_ret (blk_results rfl rfl rfl hz Try.underlying26 rfl infoLs) rfl ⟨(by rw [HE.out]; rfl), own_setRow g0 hR0 _⟩
    · obtain ⟨d, hd⟩ : ∃ d, chE b = d := ⟨_, rfl⟩
      have e1 : nwE a b = d := (nw_snd h1 h2).trans hd
      rw [nw_nul (by rw [e1, ← hd]; exact h2)] at hr
      rw [hd] at h2
      obtain rfl : d = e := e1.symm.trans he
      have H1 := Lib.hid hr
      have HB0 := Lib.hid hd
      have kd : (d != 0) = true := bne_iff_ne.2 h2
      clear hr he e1 h1 hd h2
      go_enter Try.func19, Try.ntmps19
      go_upto_region 1 with (fail)
      obtain ⟨W0, B, C, R, hW, hR, hC, hB, hb, hc, hr, g0, -, -, hR0, hneBC, hneBR, hneCR⟩ := three_new w (lz a) 26 (lz b) 26 (lz nul) 26
      rw [← lz_nul] at hW
      rw [hW, hR, hC, hB]
      have HB := Lib.hid hb
      have HC := Lib.hid hc
      have HR := Lib.hid hr
      clear hW hR hC hB hb hc hr
      go_wp2_with (first | ((with_reducible show wpList _ _ _ (⟨_, .load 26 (.tmp 2), _, _, _, none⟩ :: _) _ _); refine wpList_load_row rfl 26 (.tmp 2) rfl B rfl 26 _ (0, 0) _ HB.out.raw Try.underlying26 rfl infoLs ?_) | ((with_reducible show wpList _ _ _ (⟨_, .load 26 (.tmp 3), _, _, _, none⟩ :: _) _ _); refine wpList_load_row rfl 26 (.tmp 3) rfl C rfl 26 _ (0, 0) _ HC.out.raw Try.underlying26 rfl infoLs ?_) | (go_at_call 14; with_reducible refine (lck_at a 0 _ HA0).mono ?_; rintro r w1 ⟨rfl, hg⟩; replace g0 := g0.trans hg; replace HB := Lib.hid (HB.out.own hg); replace HC := Lib.hid (HC.out.own hg); replace HR := Lib.hid (HR.out.own hg); clear hg) | (go_at_call 14; with_reducible refine (lck_at b d _ HB0).mono ?_; rintro r w2 ⟨rfl, hg⟩; replace g0 := g0.trans hg; replace HB := Lib.hid (HB.out.own hg); replace HC := Lib.hid (HC.out.own hg); replace HR := Lib.hid (HR.out.own hg); clear hg) | ((with_reducible show wpList _ _ _ (⟨_, .store 26 (.tmp 4) (.tmp 22), _, _, _, none⟩ :: _) _ _); refine wpList_store_row rfl 26 (.tmp 4) (.tmp 22) rfl R (lz (nul)) rfl (congrArg Value.agg lz_nul) 26 _ HR.out.raw infoLs rfl (lz_one _) ?_))
      have hp := HR.out.row (lz nul)
      exact bodyPost_ret (blk_results rfl rfl rfl hp Try.underlying26 rfl infoLs) rfl ⟨(by rw [H1.out]; rfl), own_setRow g0 hR0 _⟩
  · obtain ⟨d, hd⟩ : ∃ d, chE a = d := ⟨_, rfl⟩
    have e1 : nwE a b = d := (nw_fst h1).trans hd
    rw [nw_nul (by rw [e1, ← hd]; exact h1)] at hr
    rw [hd] at h1
    obtain rfl : d = e := e1.symm.trans he
    have H1 := Lib.hid hr
    have HA0 := Lib.hid hd
    have kd : (d != 0) = true := bne_iff_ne.2 h1
    clear hr he e1 hd h1
    go_enter Try.func19, Try.ntmps19
    go_upto_region 1 with (fail)
    obtain ⟨W0, B, C, R, hW, hR, hC, hB, hb, hc, hr, g0, -, -, hR0, hneBC, hneBR, hneCR⟩ := three_new w (lz a) 26 (lz b) 26 (lz nul) 26
    rw [← lz_nul] at hW
    rw [hW, hR, hC, hB]
    have HB := Lib.hid hb
    have HC := Lib.hid hc
    have HR := Lib.hid hr
    clear hW hR hC hB hb hc hr
    go_wp2_with (first | ((with_reducible show wpList _ _ _ (⟨_, .load 26 (.tmp 2), _, _, _, none⟩ :: _) _ _); refine wpList_load_row rfl 26 (.tmp 2) rfl B rfl 26 _ (0, 0) _ HB.out.raw Try.underlying26 rfl infoLs ?_) | ((with_reducible show wpList _ _ _ (⟨_, .load 26 (.tmp 3), _, _, _, none⟩ :: _) _ _); refine wpList_load_row rfl 26 (.tmp 3) rfl C rfl 26 _ (0, 0) _ HC.out.raw Try.underlying26 rfl infoLs ?_) | (go_at_call 14; with_reducible refine (lck_at a d _ HA0).mono ?_; rintro r w1 ⟨rfl, hg⟩; replace g0 := g0.trans hg; replace HB := Lib.hid (HB.out.own hg); replace HC := Lib.hid (HC.out.own hg); replace HR := Lib.hid (HR.out.own hg); clear hg) | ((with_reducible show wpList _ _ _ (⟨_, .store 26 (.tmp 4) (.tmp 16), _, _, _, none⟩ :: _) _ _); refine wpList_store_row rfl 26 (.tmp 4) (.tmp 16) rfl R (lz (nul)) rfl (congrArg Value.agg lz_nul) 26 _ HR.out.raw infoLs rfl (lz_one _) ?_))
    have hp := HR.out.row (lz nul)
    exact bodyPost_ret (blk_results rfl rfl rfl hp Try.underlying26 rfl infoLs) rfl ⟨(by rw [H1.out]; rfl), own_setRow g0 hR0 _⟩
end Go.Proofs.Ytmjokgddhainlaa.LimW
