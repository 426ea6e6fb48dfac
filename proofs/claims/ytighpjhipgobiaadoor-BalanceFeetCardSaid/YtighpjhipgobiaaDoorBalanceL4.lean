/-
  Walks of the laws of package balance: BalanceFeet. Condition: the table of sines, the table of bounds and the numbers of both sides lie in memory.
-/
import Derived.Test.YtighpjhipgobiaaDoorBalanceT
import Derived.Test.YtighpjhipgobiaaDoorRegNews
namespace Go.Proofs.YtighpjhipgobiaaDoor.BalL
open Go.ChangeShapes Go.WideShapes Go.ChangeAt Go.RowKit
open BalW PairW AimP AimW BlkW PrtW PstP PstW JntP JntW BalP
set_option maxRecDepth 100000 in
set_option maxHeartbeats 400000000 in
theorem BalanceFeet_walk (b p : Vl) (s : Int) (w : World) (HT : Hid (AngW.Tab w)) (HBT : Hid (BuiW.Tab w)) (HS : Hid (Sds w)) :
    Calls Tryd.prog 6 #[.agg (cz 15 b), .agg (cz 22 p), .int .i64 s] w fun r w' => r = .returned (.bool true) ∧ PairW.Own w w' := by
  by_cases h : mgE b p s = 0
  · obtain ⟨hj, hn, f1, f2, f3⟩ := ba_feet h
    have hfb := foot_bd (jo_yes hj).1
    obtain ⟨n, hnn⟩ : ∃ z, mgV b p s = z := ⟨_, rfl⟩
    rw [hnn] at hn f2 f3
    have HG1 := Lib.hid (show mgV b p s = n ∧ mgE b p s = 0 from ⟨hnn, h⟩)
    have d1 : decide (n < 0) = false := decide_eq_false (by omega)
    have d2 : decide (b 9 < n) = false := decide_eq_false (by omega)
    obtain ⟨r1, hr1⟩ : ∃ z, b 9 + 1 = z := ⟨_, rfl⟩
    obtain ⟨r2, hr2⟩ : ∃ z, b 9 - n = z := ⟨_, rfl⟩
    obtain ⟨r3, hr3⟩ : ∃ z, r2 - 1 = z := ⟨_, rfl⟩
    have i1 : IntKind.i64.wrap (b 9 + 1) = r1 := (IntWalk.i64_in _ (by omega)).trans hr1
    have i2 : IntKind.i64.wrap (b 9 - n) = r2 := (IntWalk.i64_in _ (by omega)).trans hr2
    have i3 : IntKind.i64.wrap (r2 - 1) = r3 := (IntWalk.i64_in _ (by omega)).trans hr3
    rw [hr1] at f1
    rw [hr2] at f2 f3
    rw [hr3] at f3
    obtain ⟨g1, hg1⟩ : ∃ f, foot b r1 = f := ⟨_, rfl⟩
    have HU1 := Lib.hid (show cz 15 (ups b 9 r1) = cz 15 g1 from by rw [← hg1]; rfl)
    have j1 : BuiP.chk g1 = 0 → joE g1 p s = 0 := by rw [← hg1]; exact fun hc => (foot_jo hj hc).1
    rw [hg1] at f1
    obtain ⟨c1, hc1⟩ : ∃ c, BuiP.chk g1 = c := ⟨_, rfl⟩
    obtain ⟨t1, ht1⟩ : ∃ t, stV g1 p s = t := ⟨_, rfl⟩
    obtain ⟨e1, he1⟩ : ∃ e, joE g1 p s = e := ⟨_, rfl⟩
    rw [hc1, ht1] at f1
    rw [hc1, he1] at j1
    have HC1 := Lib.hid hc1
    have HS1 := Lib.hid (And.intro ht1 he1)
    clear hg1 hc1 ht1 he1
    obtain ⟨g2, hg2⟩ : ∃ f, foot b r2 = f := ⟨_, rfl⟩
    have HU2 := Lib.hid (show cz 15 (ups b 9 r2) = cz 15 g2 from by rw [← hg2]; rfl)
    have j2 : BuiP.chk g2 = 0 → joE g2 p s = 0 := by rw [← hg2]; exact fun hc => (foot_jo hj hc).1
    rw [hg2] at f2
    obtain ⟨c2, hc2⟩ : ∃ c, BuiP.chk g2 = c := ⟨_, rfl⟩
    obtain ⟨t2, ht2⟩ : ∃ t, stV g2 p s = t := ⟨_, rfl⟩
    obtain ⟨e2, he2⟩ : ∃ e, joE g2 p s = e := ⟨_, rfl⟩
    rw [hc2, ht2] at f2
    rw [hc2, he2] at j2
    have HC2 := Lib.hid hc2
    have HS2 := Lib.hid (And.intro ht2 he2)
    clear hg2 hc2 ht2 he2
    obtain ⟨g3, hg3⟩ : ∃ f, foot b r3 = f := ⟨_, rfl⟩
    have HU3 := Lib.hid (show cz 15 (ups b 9 r3) = cz 15 g3 from by rw [← hg3]; rfl)
    have j3 : BuiP.chk g3 = 0 → joE g3 p s = 0 := by rw [← hg3]; exact fun hc => (foot_jo hj hc).1
    rw [hg3] at f3
    obtain ⟨c3, hc3⟩ : ∃ c, BuiP.chk g3 = c := ⟨_, rfl⟩
    obtain ⟨t3, ht3⟩ : ∃ t, stV g3 p s = t := ⟨_, rfl⟩
    obtain ⟨e3, he3⟩ : ∃ e, joE g3 p s = e := ⟨_, rfl⟩
    rw [hc3, ht3] at f3
    rw [hc3, he3] at j3
    have HC3 := Lib.hid hc3
    have HS3 := Lib.hid (And.intro ht3 he3)
    clear hg3 hc3 ht3 he3
    clear hj hn hfb hnn hr1 hr2 hr3 h
    by_cases z1 : c1 = 0
    · subst z1
      have q1 := f1 rfl
      have v1 := j1 rfl
      subst q1
      subst v1
      clear f1 j1
      by_cases z2 : c2 = 0
      · subst z2
        have q2 := f2 rfl
        have v2 := j2 rfl
        subst q2
        subst v2
        clear f2 j2
        by_cases z3 : c3 = 0
        · subst z3
          have q3 := f3 rfl
          have v3 := j3 rfl
          subst q3
          subst v3
          clear f3 j3
          go_enter Tryd.func6, Tryd.ntmps6
          go_upto_region 1 with (fail)
          obtain ⟨W0, B, P, hW, hC, hBq, hb, hc, g0, -, -, -⟩ := two_new w (cz 15 b) 24 (cz 22 p) 31
          rw [hW, hC, hBq]
          have HB := Lib.hid hb
          have HP := Lib.hid hc
          clear hW hC hBq hb hc
          go_upto_region 6 with (first | ((with_reducible show wpList _ _ _ (⟨_, .load 24 (.tmp 3), _, _, _, none⟩ :: _) _ _); refine wpList_load_row rfl 24 (.tmp 3) rfl B rfl 24 _ (0, 0) _ HB.out.raw Tryd.underlying24 rfl infoB ?_) | ((with_reducible show wpList _ _ _ (⟨_, .load 31 (.tmp 4), _, _, _, none⟩ :: _) _ _); refine wpList_load_row rfl 31 (.tmp 4) rfl P rfl 31 _ (0, 0) _ HP.out.raw Tryd.underlying31 rfl infoP ?_) | (go_at_call 15; with_reducible refine (bMar_at b p s n 0 _ (Lib.hid (tab_own HT.out g0)) (Lib.hid (HBT.out.own g0)) (Lib.hid (HS.out.own g0)) HG1).mono ?_; rintro r w1 ⟨rfl, hg⟩; replace g0 := g0.trans hg; replace HB := Lib.hid (HB.out.own hg); replace HP := Lib.hid (HP.out.own hg); have b9 := blk_num HB.out (i := 9) (by omega); clear hg))
          clear b9
          (first | go_frame | skip)
          have hbs12 : RegD.OkB [(RegD.NewB.mk 9 3 6 (cz 15 nul) (cz 15 b) 24), (RegD.NewB.mk 10 4 7 (cz 15 nul) (cz 15 b) 24), (RegD.NewB.mk 11 5 8 (cz 15 nul) (cz 15 b) 24)] [9, 10, 11] 9 := by
            refine ⟨fun k => ⟨fun hk => ?_, fun hk => ?_⟩, fun q hq r hr h => ?_, fun q hq r hr => ?_, fun q hq => ?_⟩
            · simp only [List.mem_cons, List.not_mem_nil, or_false] at hk
              rcases hk with rfl | rfl | rfl
              · exact ⟨_, (.head _), rfl⟩
              · exact ⟨_, (.tail _ (.head _)), rfl⟩
              · exact ⟨_, (.tail _ (.tail _ (.head _))), rfl⟩
            · obtain ⟨q, hq, rfl⟩ := hk
              simp only [List.mem_cons, List.not_mem_nil, or_false] at hq
              rcases hq with rfl | rfl | rfl <;> simp
            · simp only [List.mem_cons, List.not_mem_nil, or_false] at hq
              simp only [List.mem_cons, List.not_mem_nil, or_false] at hr
              rcases hq with rfl | rfl | rfl <;> rcases hr with rfl | rfl | rfl <;> first | rfl | exact absurd h (by simp)
            · simp only [List.mem_cons, List.not_mem_nil, or_false] at hq
              simp only [List.mem_cons, List.not_mem_nil, or_false] at hr
              rcases hq with rfl | rfl | rfl <;> rcases hr with rfl | rfl | rfl <;> exact ⟨by simp, by simp⟩
            · simp only [List.mem_cons, List.not_mem_nil, or_false] at hq
              rcases hq with rfl | rfl | rfl <;> exact ⟨by simp, by simp⟩
          refine RegD.region_dutyB [35, 36, 37, 9, 10, 11] [(RegD.NewB.mk 9 3 6 (cz 15 nul) (cz 15 b) 24), (RegD.NewB.mk 10 4 7 (cz 15 nul) (cz 15 b) 24), (RegD.NewB.mk 11 5 8 (cz 15 nul) (cz 15 b) 24)] [9, 10, 11] (RegI.upd (RegI.upd (RegI.upd (fun _ => undef) 35 (.agg (cz 15 b))) 36 (.agg (cz 15 b))) 37 (.agg (cz 15 b))) (by kernel_rfl) (by kernel_rfl) hbs12 (by intro d hd; simp at hd; simp; omega) ?_
          simp only [RegD.FF, RegI.FX, RegI.upd, List.foldl_cons, List.foldl_nil, List.mem_cons, List.not_mem_nil, if_true, if_false, Nat.reduceEqDiff, or_false, or_true]
          simp only [List.setIfInBounds_toArray, List.set_cons_succ, List.set_cons_zero]
          refine And.intro ?hs12 ?he12
          case hs12 =>
            refine And.intro ?s12_0 (And.intro ?s12_1 (And.intro ?s12_2 (And.intro ?s12_3 (And.intro ?s12_4 (And.intro ?s12_5 (And.intro ?s12_6 (And.intro ?s12_7 (And.intro ?s12_8 (trivial)))))))))
            case s12_0 =>
              refine RegD.stepB_det (by intro q hq; simp only [List.mem_cons, List.not_mem_nil, or_false] at hq; rcases hq with rfl | rfl | rfl <;> exact ⟨by simp, by simp, by simp⟩) (fun u w1 hO => ?_)
              have HB9 := Lib.hid (HB.out.own hO)
              go_wp2_with ((with_reducible show wpList _ _ _ (⟨_, .load 24 (.tmp 3), _, _, _, none⟩ :: _) _ _); refine wpList_load_row rfl 24 (.tmp 3) rfl B rfl 24 _ (0, 0) _ HB9.out.raw Tryd.underlying24 rfl infoB ?_)
              exact ⟨rfl, rfl, rfl, PairW.Own.refl _⟩
            case s12_1 =>
              refine RegD.stepB_det (by intro q hq; simp only [List.mem_cons, List.not_mem_nil, or_false] at hq; rcases hq with rfl | rfl | rfl <;> exact ⟨by simp, by simp, by simp⟩) (fun u w1 hO => ?_)
              have HB9 := Lib.hid (HB.out.own hO)
              go_wp2_with ((with_reducible show wpList _ _ _ (⟨_, .load 24 (.tmp 3), _, _, _, none⟩ :: _) _ _); refine wpList_load_row rfl 24 (.tmp 3) rfl B rfl 24 _ (0, 0) _ HB9.out.raw Tryd.underlying24 rfl infoB ?_)
              exact ⟨rfl, rfl, rfl, PairW.Own.refl _⟩
            case s12_2 =>
              refine RegD.stepB_det (by intro q hq; simp only [List.mem_cons, List.not_mem_nil, or_false] at hq; rcases hq with rfl | rfl | rfl <;> exact ⟨by simp, by simp, by simp⟩) (fun u w1 hO => ?_)
              have HB9 := Lib.hid (HB.out.own hO)
              go_wp2_with ((with_reducible show wpList _ _ _ (⟨_, .load 24 (.tmp 3), _, _, _, none⟩ :: _) _ _); refine wpList_load_row rfl 24 (.tmp 3) rfl B rfl 24 _ (0, 0) _ HB9.out.raw Tryd.underlying24 rfl infoB ?_)
              exact ⟨rfl, rfl, rfl, PairW.Own.refl _⟩
            case s12_3 =>
              refine RegD.stepB_new (RegD.NewB.mk 9 3 6 (cz 15 nul) (cz 15 b) 24) (.head _) rfl rfl (fun u w1 hO => ?_)
              go_wp2
              exact ⟨rfl, rfl, rfl, rfl⟩
            case s12_4 =>
              refine RegD.stepB_new (RegD.NewB.mk 10 4 7 (cz 15 nul) (cz 15 b) 24) (.tail _ (.head _)) rfl rfl (fun u w1 hO => ?_)
              go_wp2
              exact ⟨rfl, rfl, rfl, rfl⟩
            case s12_5 =>
              refine RegD.stepB_new (RegD.NewB.mk 11 5 8 (cz 15 nul) (cz 15 b) 24) (.tail _ (.tail _ (.head _))) rfl rfl (fun u w1 hO => ?_)
              go_wp2
              exact ⟨rfl, rfl, rfl, rfl⟩
            case s12_6 =>
              refine RegD.stepB_store (RegD.NewB.mk 9 3 6 (cz 15 nul) (cz 15 b) 24) (.head _) rfl rfl (by kernel_rfl) (fun u w1 N hO hu hN => ?_)
              replace hu : u 9 = .pointer (some ⟨N, 0, none⟩) := hu
              have HN := Lib.hid (show Blk w1 N (cz 15 nul) 24 from hN)
              simp only [hu]
              clear hN
              go_wp2_with ((with_reducible show wpList _ _ _ (⟨_, .store 24 (.tmp 9) (.tmp 35), _, _, _, none⟩ :: _) _ _); refine wpList_store_row rfl 24 (.tmp 9) (.tmp 35) rfl N (cz 15 (b)) rfl rfl 24 _ HN.out.raw infoB rfl (cz_one _ _) ?_)
              exact ⟨rfl, rfl, rfl⟩
            case s12_7 =>
              refine RegD.stepB_store (RegD.NewB.mk 10 4 7 (cz 15 nul) (cz 15 b) 24) (.tail _ (.head _)) rfl rfl (by kernel_rfl) (fun u w1 N hO hu hN => ?_)
              replace hu : u 10 = .pointer (some ⟨N, 0, none⟩) := hu
              have HN := Lib.hid (show Blk w1 N (cz 15 nul) 24 from hN)
              simp only [hu]
              clear hN
              go_wp2_with ((with_reducible show wpList _ _ _ (⟨_, .store 24 (.tmp 10) (.tmp 36), _, _, _, none⟩ :: _) _ _); refine wpList_store_row rfl 24 (.tmp 10) (.tmp 36) rfl N (cz 15 (b)) rfl rfl 24 _ HN.out.raw infoB rfl (cz_one _ _) ?_)
              exact ⟨rfl, rfl, rfl⟩
            case s12_8 =>
              refine RegD.stepB_store (RegD.NewB.mk 11 5 8 (cz 15 nul) (cz 15 b) 24) (.tail _ (.tail _ (.head _))) rfl rfl (by kernel_rfl) (fun u w1 N hO hu hN => ?_)
              replace hu : u 11 = .pointer (some ⟨N, 0, none⟩) := hu
              have HN := Lib.hid (show Blk w1 N (cz 15 nul) 24 from hN)
              simp only [hu]
              clear hN
              go_wp2_with ((with_reducible show wpList _ _ _ (⟨_, .store 24 (.tmp 11) (.tmp 37), _, _, _, none⟩ :: _) _ _); refine wpList_store_row rfl 24 (.tmp 11) (.tmp 37) rfl N (cz 15 (b)) rfl rfl 24 _ HN.out.raw infoB rfl (cz_one _ _) ?_)
              exact ⟨rfl, rfl, rfl⟩
          intro u w2 hO hB9
          obtain ⟨U, huU, h0U, hnU, hxU⟩ := hB9 (RegD.NewB.mk 9 3 6 (cz 15 nul) (cz 15 b) 24) (.head _)
          replace huU : u 9 = .pointer (some ⟨U, 0, none⟩) := huU
          obtain ⟨V, huV, h0V, hnV, hxV⟩ := hB9 (RegD.NewB.mk 10 4 7 (cz 15 nul) (cz 15 b) 24) (.tail _ (.head _))
          replace huV : u 10 = .pointer (some ⟨V, 0, none⟩) := huV
          obtain ⟨Y, huY, h0Y, hnY, hxY⟩ := hB9 (RegD.NewB.mk 11 5 8 (cz 15 nul) (cz 15 b) 24) (.tail _ (.tail _ (.head _)))
          replace huY : u 11 = .pointer (some ⟨Y, 0, none⟩) := huY
          have hneUV : U ≠ V := fun e => hxV (RegD.NewB.mk 9 3 6 (cz 15 nul) (cz 15 b) 24) (.head _) (by simp) (show u 9 = .pointer (some ⟨V, 0, none⟩) from by rw [huU, e])
          have hneUY : U ≠ Y := fun e => hxY (RegD.NewB.mk 9 3 6 (cz 15 nul) (cz 15 b) 24) (.head _) (by simp) (show u 9 = .pointer (some ⟨Y, 0, none⟩) from by rw [huU, e])
          have hneVU : V ≠ U := fun e => hxU (RegD.NewB.mk 10 4 7 (cz 15 nul) (cz 15 b) 24) (.tail _ (.head _)) (by simp) (show u 10 = .pointer (some ⟨U, 0, none⟩) from by rw [huV, e])
          have hneVY : V ≠ Y := fun e => hxY (RegD.NewB.mk 10 4 7 (cz 15 nul) (cz 15 b) 24) (.tail _ (.head _)) (by simp) (show u 10 = .pointer (some ⟨Y, 0, none⟩) from by rw [huV, e])
          have hneYU : Y ≠ U := fun e => hxU (RegD.NewB.mk 11 5 8 (cz 15 nul) (cz 15 b) 24) (.tail _ (.tail _ (.head _))) (by simp) (show u 11 = .pointer (some ⟨U, 0, none⟩) from by rw [huY, e])
          have hneYV : Y ≠ V := fun e => hxV (RegD.NewB.mk 11 5 8 (cz 15 nul) (cz 15 b) 24) (.tail _ (.tail _ (.head _))) (by simp) (show u 11 = .pointer (some ⟨V, 0, none⟩) from by rw [huY, e])
          simp only [huU, huV, huY]
          have hBU := Nat.ne_of_lt (Nat.lt_of_lt_of_le HB.out.lt h0U)
          have hPU := Nat.ne_of_lt (Nat.lt_of_lt_of_le HP.out.lt h0U)
          have hwU : w.heap.size ≤ U := Nat.le_trans g0.size h0U
          have hBV := Nat.ne_of_lt (Nat.lt_of_lt_of_le HB.out.lt h0V)
          have hPV := Nat.ne_of_lt (Nat.lt_of_lt_of_le HP.out.lt h0V)
          have hwV : w.heap.size ≤ V := Nat.le_trans g0.size h0V
          have hBY := Nat.ne_of_lt (Nat.lt_of_lt_of_le HB.out.lt h0Y)
          have hPY := Nat.ne_of_lt (Nat.lt_of_lt_of_le HP.out.lt h0Y)
          have hwY : w.heap.size ≤ Y := Nat.le_trans g0.size h0Y
          have HU := Lib.hid (show Blk w2 U (cz 15 b) 24 from hnU)
          have HV := Lib.hid (show Blk w2 V (cz 15 b) 24 from hnV)
          have HY := Lib.hid (show Blk w2 Y (cz 15 b) 24 from hnY)
          replace g0 := g0.trans hO
          replace HB := Lib.hid (HB.out.own hO)
          replace HP := Lib.hid (HP.out.own hO)
          clear hO hB9 hbs12 huU h0U hnU hxU huV h0V hnV hxV huY h0Y hnY hxY
          have b9 := blk_num HB.out (i := 9) (by omega)
          have kc := blk_num HU.out (i := 9) (by omega)
          have fc := HU.out.frozen 9
          go_upto_region 8 with (fail)
          have hd : Blk (w2.setCell ⟨U, 9, none⟩ (.int .i64 r1)) U (cz 15 (ups b 9 r1)) 24 := blk_ups HU.out (by omega) r1
          rw [HU1.out] at hd
          have hb := HB.out.far (p := ⟨U, 9, none⟩) hBU (.int .i64 r1)
          have hp := HP.out.far (p := ⟨U, 9, none⟩) hPU (.int .i64 r1)
          have ho := HV.out.far (p := ⟨U, 9, none⟩) hneVU (.int .i64 r1)
          have ho2 := HY.out.far (p := ⟨U, 9, none⟩) hneYU (.int .i64 r1)
          replace g0 := g0.setCell (p := ⟨U, 9, none⟩) hwU (.int .i64 r1)
          clear HB HP HU HV HY kc fc b9
          generalize w2.setCell ⟨U, 9, none⟩ (.int .i64 r1) = w3 at *
          have HB := Lib.hid hb
          have HP := Lib.hid hp
          have HU := Lib.hid hd
          have HV := Lib.hid ho
          have HY := Lib.hid ho2
          clear hb hp hd ho ho2
          have b9 := blk_num HB.out (i := 9) (by omega)
          have kc := blk_num HV.out (i := 9) (by omega)
          have fc := HV.out.frozen 9
          go_upto_region 9 with (fail)
          have hd : Blk (w3.setCell ⟨V, 9, none⟩ (.int .i64 r2)) V (cz 15 (ups b 9 r2)) 24 := blk_ups HV.out (by omega) r2
          rw [HU2.out] at hd
          have hb := HB.out.far (p := ⟨V, 9, none⟩) hBV (.int .i64 r2)
          have hp := HP.out.far (p := ⟨V, 9, none⟩) hPV (.int .i64 r2)
          have ho := HU.out.far (p := ⟨V, 9, none⟩) hneUV (.int .i64 r2)
          have ho2 := HY.out.far (p := ⟨V, 9, none⟩) hneYV (.int .i64 r2)
          replace g0 := g0.setCell (p := ⟨V, 9, none⟩) hwV (.int .i64 r2)
          clear HB HP HU HV HY kc fc b9
          generalize w3.setCell ⟨V, 9, none⟩ (.int .i64 r2) = w4 at *
          have HB := Lib.hid hb
          have HP := Lib.hid hp
          have HV := Lib.hid hd
          have HU := Lib.hid ho
          have HY := Lib.hid ho2
          clear hb hp hd ho ho2
          have b9 := blk_num HB.out (i := 9) (by omega)
          have kc := blk_num HY.out (i := 9) (by omega)
          have fc := HY.out.frozen 9
          go_upto_region 10 with (fail)
          have hd : Blk (w4.setCell ⟨Y, 9, none⟩ (.int .i64 r3)) Y (cz 15 (ups b 9 r3)) 24 := blk_ups HY.out (by omega) r3
          rw [HU3.out] at hd
          have hb := HB.out.far (p := ⟨Y, 9, none⟩) hBY (.int .i64 r3)
          have hp := HP.out.far (p := ⟨Y, 9, none⟩) hPY (.int .i64 r3)
          have ho := HU.out.far (p := ⟨Y, 9, none⟩) hneUY (.int .i64 r3)
          have ho2 := HV.out.far (p := ⟨Y, 9, none⟩) hneVY (.int .i64 r3)
          replace g0 := g0.setCell (p := ⟨Y, 9, none⟩) hwY (.int .i64 r3)
          clear HB HP HU HV HY kc fc b9
          generalize w4.setCell ⟨Y, 9, none⟩ (.int .i64 r3) = w5 at *
          have HB := Lib.hid hb
          have HP := Lib.hid hp
          have HY := Lib.hid hd
          have HU := Lib.hid ho
          have HV := Lib.hid ho2
          clear hb hp hd ho ho2
          clear hneUV hneUY hneVU hneVY hneYU hneYV hBU hBV hBY hPU hPV hPY hwU hwV hwY HB HU1 HU2 HU3 i1 i2 i3
          (first | go_frame | skip)
          go_wp2_with (first | ((with_reducible show wpList _ _ _ (⟨_, .load 31 (.tmp 4), _, _, _, none⟩ :: _) _ _); refine wpList_load_row rfl 31 (.tmp 4) rfl P rfl 31 _ (0, 0) _ HP.out.raw Tryd.underlying31 rfl infoP ?_) | ((with_reducible show wpList _ _ _ (⟨_, .load 24 (.tmp 9), _, _, _, none⟩ :: _) _ _); refine wpList_load_row rfl 24 (.tmp 9) rfl U rfl 24 _ (0, 0) _ HU.out.raw Tryd.underlying24 rfl infoB ?_) | (go_at_call 14; with_reducible refine (bSta_at g1 p s true 0 _ (Lib.hid (tab_own HT.out g0)) (Lib.hid (HBT.out.own g0)) (Lib.hid (HS.out.own g0)) HS1).mono ?_; rintro r w8 ⟨rfl, hg⟩; replace g0 := g0.trans hg; replace HP := Lib.hid (HP.out.own hg); replace HU := Lib.hid (HU.out.own hg); replace HV := Lib.hid (HV.out.own hg); replace HY := Lib.hid (HY.out.own hg); clear hg) | (go_at_call 17; with_reducible refine (jbc_at g1 0 _ (Lib.hid (HBT.out.own g0)) HC1).mono ?_; rintro r w9 ⟨rfl, hg⟩; replace g0 := g0.trans hg; replace HP := Lib.hid (HP.out.own hg); replace HU := Lib.hid (HU.out.own hg); replace HV := Lib.hid (HV.out.own hg); replace HY := Lib.hid (HY.out.own hg); clear hg) | ((with_reducible show wpList _ _ _ (⟨_, .load 24 (.tmp 10), _, _, _, none⟩ :: _) _ _); refine wpList_load_row rfl 24 (.tmp 10) rfl V rfl 24 _ (0, 0) _ HV.out.raw Tryd.underlying24 rfl infoB ?_) | (go_at_call 14; with_reducible refine (bSta_at g2 p s true 0 _ (Lib.hid (tab_own HT.out g0)) (Lib.hid (HBT.out.own g0)) (Lib.hid (HS.out.own g0)) HS2).mono ?_; rintro r w8 ⟨rfl, hg⟩; replace g0 := g0.trans hg; replace HP := Lib.hid (HP.out.own hg); replace HU := Lib.hid (HU.out.own hg); replace HV := Lib.hid (HV.out.own hg); replace HY := Lib.hid (HY.out.own hg); clear hg) | (go_at_call 17; with_reducible refine (jbc_at g2 0 _ (Lib.hid (HBT.out.own g0)) HC2).mono ?_; rintro r w9 ⟨rfl, hg⟩; replace g0 := g0.trans hg; replace HP := Lib.hid (HP.out.own hg); replace HU := Lib.hid (HU.out.own hg); replace HV := Lib.hid (HV.out.own hg); replace HY := Lib.hid (HY.out.own hg); clear hg) | ((with_reducible show wpList _ _ _ (⟨_, .load 24 (.tmp 11), _, _, _, none⟩ :: _) _ _); refine wpList_load_row rfl 24 (.tmp 11) rfl Y rfl 24 _ (0, 0) _ HY.out.raw Tryd.underlying24 rfl infoB ?_) | (go_at_call 14; with_reducible refine (bSta_at g3 p s false 0 _ (Lib.hid (tab_own HT.out g0)) (Lib.hid (HBT.out.own g0)) (Lib.hid (HS.out.own g0)) HS3).mono ?_; rintro r w8 ⟨rfl, hg⟩; replace g0 := g0.trans hg; replace HP := Lib.hid (HP.out.own hg); replace HU := Lib.hid (HU.out.own hg); replace HV := Lib.hid (HV.out.own hg); replace HY := Lib.hid (HY.out.own hg); clear hg) | (go_at_call 17; with_reducible refine (jbc_at g3 0 _ (Lib.hid (HBT.out.own g0)) HC3).mono ?_; rintro r w9 ⟨rfl, hg⟩; replace g0 := g0.trans hg; replace HP := Lib.hid (HP.out.own hg); replace HU := Lib.hid (HU.out.own hg); replace HV := Lib.hid (HV.out.own hg); replace HY := Lib.hid (HY.out.own hg); clear hg) | (go_at_call 10; with_reducible refine (awake_at _ (Lib.hid (tab_own HT.out g0)) (Lib.hid (HBT.out.own g0)) (Lib.hid (HS.out.own g0))).mono ?_; rintro r w99 ⟨rfl, hg⟩; replace g0 := g0.trans hg; replace HP := Lib.hid (HP.out.own hg); replace HU := Lib.hid (HU.out.own hg); replace HV := Lib.hid (HV.out.own hg); replace HY := Lib.hid (HY.out.own hg); clear hg))
          go_ret
          exact ⟨by first | rfl | (exact ret_bool (by simp)), g0⟩
        · have kc3 : (c3 != 0) = true := bne_iff_ne.2 z3
          have kd3 : decide (c3 = 0) = false := decide_eq_false z3
          have ke3 : (c3 == 0) = false := beq_eq_false_iff_ne.2 z3
          clear f3 j3 z3
          go_enter Tryd.func6, Tryd.ntmps6
          go_upto_region 1 with (fail)
          obtain ⟨W0, B, P, hW, hC, hBq, hb, hc, g0, -, -, -⟩ := two_new w (cz 15 b) 24 (cz 22 p) 31
          rw [hW, hC, hBq]
          have HB := Lib.hid hb
          have HP := Lib.hid hc
          clear hW hC hBq hb hc
          go_upto_region 6 with (first | ((with_reducible show wpList _ _ _ (⟨_, .load 24 (.tmp 3), _, _, _, none⟩ :: _) _ _); refine wpList_load_row rfl 24 (.tmp 3) rfl B rfl 24 _ (0, 0) _ HB.out.raw Tryd.underlying24 rfl infoB ?_) | ((with_reducible show wpList _ _ _ (⟨_, .load 31 (.tmp 4), _, _, _, none⟩ :: _) _ _); refine wpList_load_row rfl 31 (.tmp 4) rfl P rfl 31 _ (0, 0) _ HP.out.raw Tryd.underlying31 rfl infoP ?_) | (go_at_call 15; with_reducible refine (bMar_at b p s n 0 _ (Lib.hid (tab_own HT.out g0)) (Lib.hid (HBT.out.own g0)) (Lib.hid (HS.out.own g0)) HG1).mono ?_; rintro r w1 ⟨rfl, hg⟩; replace g0 := g0.trans hg; replace HB := Lib.hid (HB.out.own hg); replace HP := Lib.hid (HP.out.own hg); have b9 := blk_num HB.out (i := 9) (by omega); clear hg))
          clear b9
          (first | go_frame | skip)
          have hbs13 : RegD.OkB [(RegD.NewB.mk 9 3 6 (cz 15 nul) (cz 15 b) 24), (RegD.NewB.mk 10 4 7 (cz 15 nul) (cz 15 b) 24), (RegD.NewB.mk 11 5 8 (cz 15 nul) (cz 15 b) 24)] [9, 10, 11] 9 := by
            refine ⟨fun k => ⟨fun hk => ?_, fun hk => ?_⟩, fun q hq r hr h => ?_, fun q hq r hr => ?_, fun q hq => ?_⟩
            · simp only [List.mem_cons, List.not_mem_nil, or_false] at hk
              rcases hk with rfl | rfl | rfl
              · exact ⟨_, (.head _), rfl⟩
              · exact ⟨_, (.tail _ (.head _)), rfl⟩
              · exact ⟨_, (.tail _ (.tail _ (.head _))), rfl⟩
            · obtain ⟨q, hq, rfl⟩ := hk
              simp only [List.mem_cons, List.not_mem_nil, or_false] at hq
              rcases hq with rfl | rfl | rfl <;> simp
            · simp only [List.mem_cons, List.not_mem_nil, or_false] at hq
              simp only [List.mem_cons, List.not_mem_nil, or_false] at hr
              rcases hq with rfl | rfl | rfl <;> rcases hr with rfl | rfl | rfl <;> first | rfl | exact absurd h (by simp)
            · simp only [List.mem_cons, List.not_mem_nil, or_false] at hq
              simp only [List.mem_cons, List.not_mem_nil, or_false] at hr
              rcases hq with rfl | rfl | rfl <;> rcases hr with rfl | rfl | rfl <;> exact ⟨by simp, by simp⟩
            · simp only [List.mem_cons, List.not_mem_nil, or_false] at hq
              rcases hq with rfl | rfl | rfl <;> exact ⟨by simp, by simp⟩
          refine RegD.region_dutyB [35, 36, 37, 9, 10, 11] [(RegD.NewB.mk 9 3 6 (cz 15 nul) (cz 15 b) 24), (RegD.NewB.mk 10 4 7 (cz 15 nul) (cz 15 b) 24), (RegD.NewB.mk 11 5 8 (cz 15 nul) (cz 15 b) 24)] [9, 10, 11] (RegI.upd (RegI.upd (RegI.upd (fun _ => undef) 35 (.agg (cz 15 b))) 36 (.agg (cz 15 b))) 37 (.agg (cz 15 b))) (by kernel_rfl) (by kernel_rfl) hbs13 (by intro d hd; simp at hd; simp; omega) ?_
          simp only [RegD.FF, RegI.FX, RegI.upd, List.foldl_cons, List.foldl_nil, List.mem_cons, List.not_mem_nil, if_true, if_false, Nat.reduceEqDiff, or_false, or_true]
          simp only [List.setIfInBounds_toArray, List.set_cons_succ, List.set_cons_zero]
          refine And.intro ?hs13 ?he13
          case hs13 =>
            refine And.intro ?s13_0 (And.intro ?s13_1 (And.intro ?s13_2 (And.intro ?s13_3 (And.intro ?s13_4 (And.intro ?s13_5 (And.intro ?s13_6 (And.intro ?s13_7 (And.intro ?s13_8 (trivial)))))))))
            case s13_0 =>
              refine RegD.stepB_det (by intro q hq; simp only [List.mem_cons, List.not_mem_nil, or_false] at hq; rcases hq with rfl | rfl | rfl <;> exact ⟨by simp, by simp, by simp⟩) (fun u w1 hO => ?_)
              have HB9 := Lib.hid (HB.out.own hO)
              go_wp2_with ((with_reducible show wpList _ _ _ (⟨_, .load 24 (.tmp 3), _, _, _, none⟩ :: _) _ _); refine wpList_load_row rfl 24 (.tmp 3) rfl B rfl 24 _ (0, 0) _ HB9.out.raw Tryd.underlying24 rfl infoB ?_)
              exact ⟨rfl, rfl, rfl, PairW.Own.refl _⟩
            case s13_1 =>
              refine RegD.stepB_det (by intro q hq; simp only [List.mem_cons, List.not_mem_nil, or_false] at hq; rcases hq with rfl | rfl | rfl <;> exact ⟨by simp, by simp, by simp⟩) (fun u w1 hO => ?_)
              have HB9 := Lib.hid (HB.out.own hO)
              go_wp2_with ((with_reducible show wpList _ _ _ (⟨_, .load 24 (.tmp 3), _, _, _, none⟩ :: _) _ _); refine wpList_load_row rfl 24 (.tmp 3) rfl B rfl 24 _ (0, 0) _ HB9.out.raw Tryd.underlying24 rfl infoB ?_)
              exact ⟨rfl, rfl, rfl, PairW.Own.refl _⟩
            case s13_2 =>
              refine RegD.stepB_det (by intro q hq; simp only [List.mem_cons, List.not_mem_nil, or_false] at hq; rcases hq with rfl | rfl | rfl <;> exact ⟨by simp, by simp, by simp⟩) (fun u w1 hO => ?_)
              have HB9 := Lib.hid (HB.out.own hO)
              go_wp2_with ((with_reducible show wpList _ _ _ (⟨_, .load 24 (.tmp 3), _, _, _, none⟩ :: _) _ _); refine wpList_load_row rfl 24 (.tmp 3) rfl B rfl 24 _ (0, 0) _ HB9.out.raw Tryd.underlying24 rfl infoB ?_)
              exact ⟨rfl, rfl, rfl, PairW.Own.refl _⟩
            case s13_3 =>
              refine RegD.stepB_new (RegD.NewB.mk 9 3 6 (cz 15 nul) (cz 15 b) 24) (.head _) rfl rfl (fun u w1 hO => ?_)
              go_wp2
              exact ⟨rfl, rfl, rfl, rfl⟩
            case s13_4 =>
              refine RegD.stepB_new (RegD.NewB.mk 10 4 7 (cz 15 nul) (cz 15 b) 24) (.tail _ (.head _)) rfl rfl (fun u w1 hO => ?_)
              go_wp2
              exact ⟨rfl, rfl, rfl, rfl⟩
            case s13_5 =>
              refine RegD.stepB_new (RegD.NewB.mk 11 5 8 (cz 15 nul) (cz 15 b) 24) (.tail _ (.tail _ (.head _))) rfl rfl (fun u w1 hO => ?_)
              go_wp2
              exact ⟨rfl, rfl, rfl, rfl⟩
            case s13_6 =>
              refine RegD.stepB_store (RegD.NewB.mk 9 3 6 (cz 15 nul) (cz 15 b) 24) (.head _) rfl rfl (by kernel_rfl) (fun u w1 N hO hu hN => ?_)
              replace hu : u 9 = .pointer (some ⟨N, 0, none⟩) := hu
              have HN := Lib.hid (show Blk w1 N (cz 15 nul) 24 from hN)
              simp only [hu]
              clear hN
              go_wp2_with ((with_reducible show wpList _ _ _ (⟨_, .store 24 (.tmp 9) (.tmp 35), _, _, _, none⟩ :: _) _ _); refine wpList_store_row rfl 24 (.tmp 9) (.tmp 35) rfl N (cz 15 (b)) rfl rfl 24 _ HN.out.raw infoB rfl (cz_one _ _) ?_)
              exact ⟨rfl, rfl, rfl⟩
            case s13_7 =>
              refine RegD.stepB_store (RegD.NewB.mk 10 4 7 (cz 15 nul) (cz 15 b) 24) (.tail _ (.head _)) rfl rfl (by kernel_rfl) (fun u w1 N hO hu hN => ?_)
              replace hu : u 10 = .pointer (some ⟨N, 0, none⟩) := hu
              have HN := Lib.hid (show Blk w1 N (cz 15 nul) 24 from hN)
              simp only [hu]
              clear hN
              go_wp2_with ((with_reducible show wpList _ _ _ (⟨_, .store 24 (.tmp 10) (.tmp 36), _, _, _, none⟩ :: _) _ _); refine wpList_store_row rfl 24 (.tmp 10) (.tmp 36) rfl N (cz 15 (b)) rfl rfl 24 _ HN.out.raw infoB rfl (cz_one _ _) ?_)
              exact ⟨rfl, rfl, rfl⟩
            case s13_8 =>
              refine RegD.stepB_store (RegD.NewB.mk 11 5 8 (cz 15 nul) (cz 15 b) 24) (.tail _ (.tail _ (.head _))) rfl rfl (by kernel_rfl) (fun u w1 N hO hu hN => ?_)
              replace hu : u 11 = .pointer (some ⟨N, 0, none⟩) := hu
              have HN := Lib.hid (show Blk w1 N (cz 15 nul) 24 from hN)
              simp only [hu]
              clear hN
              go_wp2_with ((with_reducible show wpList _ _ _ (⟨_, .store 24 (.tmp 11) (.tmp 37), _, _, _, none⟩ :: _) _ _); refine wpList_store_row rfl 24 (.tmp 11) (.tmp 37) rfl N (cz 15 (b)) rfl rfl 24 _ HN.out.raw infoB rfl (cz_one _ _) ?_)
              exact ⟨rfl, rfl, rfl⟩
          intro u w2 hO hB9
          obtain ⟨U, huU, h0U, hnU, hxU⟩ := hB9 (RegD.NewB.mk 9 3 6 (cz 15 nul) (cz 15 b) 24) (.head _)
          replace huU : u 9 = .pointer (some ⟨U, 0, none⟩) := huU
          obtain ⟨V, huV, h0V, hnV, hxV⟩ := hB9 (RegD.NewB.mk 10 4 7 (cz 15 nul) (cz 15 b) 24) (.tail _ (.head _))
          replace huV : u 10 = .pointer (some ⟨V, 0, none⟩) := huV
          obtain ⟨Y, huY, h0Y, hnY, hxY⟩ := hB9 (RegD.NewB.mk 11 5 8 (cz 15 nul) (cz 15 b) 24) (.tail _ (.tail _ (.head _)))
          replace huY : u 11 = .pointer (some ⟨Y, 0, none⟩) := huY
          have hneUV : U ≠ V := fun e => hxV (RegD.NewB.mk 9 3 6 (cz 15 nul) (cz 15 b) 24) (.head _) (by simp) (show u 9 = .pointer (some ⟨V, 0, none⟩) from by rw [huU, e])
          have hneUY : U ≠ Y := fun e => hxY (RegD.NewB.mk 9 3 6 (cz 15 nul) (cz 15 b) 24) (.head _) (by simp) (show u 9 = .pointer (some ⟨Y, 0, none⟩) from by rw [huU, e])
          have hneVU : V ≠ U := fun e => hxU (RegD.NewB.mk 10 4 7 (cz 15 nul) (cz 15 b) 24) (.tail _ (.head _)) (by simp) (show u 10 = .pointer (some ⟨U, 0, none⟩) from by rw [huV, e])
          have hneVY : V ≠ Y := fun e => hxY (RegD.NewB.mk 10 4 7 (cz 15 nul) (cz 15 b) 24) (.tail _ (.head _)) (by simp) (show u 10 = .pointer (some ⟨Y, 0, none⟩) from by rw [huV, e])
          have hneYU : Y ≠ U := fun e => hxU (RegD.NewB.mk 11 5 8 (cz 15 nul) (cz 15 b) 24) (.tail _ (.tail _ (.head _))) (by simp) (show u 11 = .pointer (some ⟨U, 0, none⟩) from by rw [huY, e])
          have hneYV : Y ≠ V := fun e => hxV (RegD.NewB.mk 11 5 8 (cz 15 nul) (cz 15 b) 24) (.tail _ (.tail _ (.head _))) (by simp) (show u 11 = .pointer (some ⟨V, 0, none⟩) from by rw [huY, e])
          simp only [huU, huV, huY]
          have hBU := Nat.ne_of_lt (Nat.lt_of_lt_of_le HB.out.lt h0U)
          have hPU := Nat.ne_of_lt (Nat.lt_of_lt_of_le HP.out.lt h0U)
          have hwU : w.heap.size ≤ U := Nat.le_trans g0.size h0U
          have hBV := Nat.ne_of_lt (Nat.lt_of_lt_of_le HB.out.lt h0V)
          have hPV := Nat.ne_of_lt (Nat.lt_of_lt_of_le HP.out.lt h0V)
          have hwV : w.heap.size ≤ V := Nat.le_trans g0.size h0V
          have hBY := Nat.ne_of_lt (Nat.lt_of_lt_of_le HB.out.lt h0Y)
          have hPY := Nat.ne_of_lt (Nat.lt_of_lt_of_le HP.out.lt h0Y)
          have hwY : w.heap.size ≤ Y := Nat.le_trans g0.size h0Y
          have HU := Lib.hid (show Blk w2 U (cz 15 b) 24 from hnU)
          have HV := Lib.hid (show Blk w2 V (cz 15 b) 24 from hnV)
          have HY := Lib.hid (show Blk w2 Y (cz 15 b) 24 from hnY)
          replace g0 := g0.trans hO
          replace HB := Lib.hid (HB.out.own hO)
          replace HP := Lib.hid (HP.out.own hO)
          clear hO hB9 hbs13 huU h0U hnU hxU huV h0V hnV hxV huY h0Y hnY hxY
          have b9 := blk_num HB.out (i := 9) (by omega)
          have kc := blk_num HU.out (i := 9) (by omega)
          have fc := HU.out.frozen 9
          go_upto_region 8 with (fail)
          have hd : Blk (w2.setCell ⟨U, 9, none⟩ (.int .i64 r1)) U (cz 15 (ups b 9 r1)) 24 := blk_ups HU.out (by omega) r1
          rw [HU1.out] at hd
          have hb := HB.out.far (p := ⟨U, 9, none⟩) hBU (.int .i64 r1)
          have hp := HP.out.far (p := ⟨U, 9, none⟩) hPU (.int .i64 r1)
          have ho := HV.out.far (p := ⟨U, 9, none⟩) hneVU (.int .i64 r1)
          have ho2 := HY.out.far (p := ⟨U, 9, none⟩) hneYU (.int .i64 r1)
          replace g0 := g0.setCell (p := ⟨U, 9, none⟩) hwU (.int .i64 r1)
          clear HB HP HU HV HY kc fc b9
          generalize w2.setCell ⟨U, 9, none⟩ (.int .i64 r1) = w3 at *
          have HB := Lib.hid hb
          have HP := Lib.hid hp
          have HU := Lib.hid hd
          have HV := Lib.hid ho
          have HY := Lib.hid ho2
          clear hb hp hd ho ho2
          have b9 := blk_num HB.out (i := 9) (by omega)
          have kc := blk_num HV.out (i := 9) (by omega)
          have fc := HV.out.frozen 9
          go_upto_region 9 with (fail)
          have hd : Blk (w3.setCell ⟨V, 9, none⟩ (.int .i64 r2)) V (cz 15 (ups b 9 r2)) 24 := blk_ups HV.out (by omega) r2
          rw [HU2.out] at hd
          have hb := HB.out.far (p := ⟨V, 9, none⟩) hBV (.int .i64 r2)
          have hp := HP.out.far (p := ⟨V, 9, none⟩) hPV (.int .i64 r2)
          have ho := HU.out.far (p := ⟨V, 9, none⟩) hneUV (.int .i64 r2)
          have ho2 := HY.out.far (p := ⟨V, 9, none⟩) hneYV (.int .i64 r2)
          replace g0 := g0.setCell (p := ⟨V, 9, none⟩) hwV (.int .i64 r2)
          clear HB HP HU HV HY kc fc b9
          generalize w3.setCell ⟨V, 9, none⟩ (.int .i64 r2) = w4 at *
          have HB := Lib.hid hb
          have HP := Lib.hid hp
          have HV := Lib.hid hd
          have HU := Lib.hid ho
          have HY := Lib.hid ho2
          clear hb hp hd ho ho2
          have b9 := blk_num HB.out (i := 9) (by omega)
          have kc := blk_num HY.out (i := 9) (by omega)
          have fc := HY.out.frozen 9
          go_upto_region 10 with (fail)
          have hd : Blk (w4.setCell ⟨Y, 9, none⟩ (.int .i64 r3)) Y (cz 15 (ups b 9 r3)) 24 := blk_ups HY.out (by omega) r3
          rw [HU3.out] at hd
          have hb := HB.out.far (p := ⟨Y, 9, none⟩) hBY (.int .i64 r3)
          have hp := HP.out.far (p := ⟨Y, 9, none⟩) hPY (.int .i64 r3)
          have ho := HU.out.far (p := ⟨Y, 9, none⟩) hneUY (.int .i64 r3)
          have ho2 := HV.out.far (p := ⟨Y, 9, none⟩) hneVY (.int .i64 r3)
          replace g0 := g0.setCell (p := ⟨Y, 9, none⟩) hwY (.int .i64 r3)
          clear HB HP HU HV HY kc fc b9
          generalize w4.setCell ⟨Y, 9, none⟩ (.int .i64 r3) = w5 at *
          have HB := Lib.hid hb
          have HP := Lib.hid hp
          have HY := Lib.hid hd
          have HU := Lib.hid ho
          have HV := Lib.hid ho2
          clear hb hp hd ho ho2
          clear hneUV hneUY hneVU hneVY hneYU hneYV hBU hBV hBY hPU hPV hPY hwU hwV hwY HB HU1 HU2 HU3 i1 i2 i3
          (first | go_frame | skip)
          go_wp2_with (first | ((with_reducible show wpList _ _ _ (⟨_, .load 31 (.tmp 4), _, _, _, none⟩ :: _) _ _); refine wpList_load_row rfl 31 (.tmp 4) rfl P rfl 31 _ (0, 0) _ HP.out.raw Tryd.underlying31 rfl infoP ?_) | ((with_reducible show wpList _ _ _ (⟨_, .load 24 (.tmp 9), _, _, _, none⟩ :: _) _ _); refine wpList_load_row rfl 24 (.tmp 9) rfl U rfl 24 _ (0, 0) _ HU.out.raw Tryd.underlying24 rfl infoB ?_) | (go_at_call 14; with_reducible refine (bSta_at g1 p s true 0 _ (Lib.hid (tab_own HT.out g0)) (Lib.hid (HBT.out.own g0)) (Lib.hid (HS.out.own g0)) HS1).mono ?_; rintro r w8 ⟨rfl, hg⟩; replace g0 := g0.trans hg; replace HP := Lib.hid (HP.out.own hg); replace HU := Lib.hid (HU.out.own hg); replace HV := Lib.hid (HV.out.own hg); replace HY := Lib.hid (HY.out.own hg); clear hg) | (go_at_call 17; with_reducible refine (jbc_at g1 0 _ (Lib.hid (HBT.out.own g0)) HC1).mono ?_; rintro r w9 ⟨rfl, hg⟩; replace g0 := g0.trans hg; replace HP := Lib.hid (HP.out.own hg); replace HU := Lib.hid (HU.out.own hg); replace HV := Lib.hid (HV.out.own hg); replace HY := Lib.hid (HY.out.own hg); clear hg) | ((with_reducible show wpList _ _ _ (⟨_, .load 24 (.tmp 10), _, _, _, none⟩ :: _) _ _); refine wpList_load_row rfl 24 (.tmp 10) rfl V rfl 24 _ (0, 0) _ HV.out.raw Tryd.underlying24 rfl infoB ?_) | (go_at_call 14; with_reducible refine (bSta_at g2 p s true 0 _ (Lib.hid (tab_own HT.out g0)) (Lib.hid (HBT.out.own g0)) (Lib.hid (HS.out.own g0)) HS2).mono ?_; rintro r w8 ⟨rfl, hg⟩; replace g0 := g0.trans hg; replace HP := Lib.hid (HP.out.own hg); replace HU := Lib.hid (HU.out.own hg); replace HV := Lib.hid (HV.out.own hg); replace HY := Lib.hid (HY.out.own hg); clear hg) | (go_at_call 17; with_reducible refine (jbc_at g2 0 _ (Lib.hid (HBT.out.own g0)) HC2).mono ?_; rintro r w9 ⟨rfl, hg⟩; replace g0 := g0.trans hg; replace HP := Lib.hid (HP.out.own hg); replace HU := Lib.hid (HU.out.own hg); replace HV := Lib.hid (HV.out.own hg); replace HY := Lib.hid (HY.out.own hg); clear hg) | ((with_reducible show wpList _ _ _ (⟨_, .load 24 (.tmp 11), _, _, _, none⟩ :: _) _ _); refine wpList_load_row rfl 24 (.tmp 11) rfl Y rfl 24 _ (0, 0) _ HY.out.raw Tryd.underlying24 rfl infoB ?_) | (go_at_call 14; with_reducible refine (bSta_at g3 p s t3 e3 _ (Lib.hid (tab_own HT.out g0)) (Lib.hid (HBT.out.own g0)) (Lib.hid (HS.out.own g0)) HS3).mono ?_; rintro r w8 ⟨rfl, hg⟩; replace g0 := g0.trans hg; replace HP := Lib.hid (HP.out.own hg); replace HU := Lib.hid (HU.out.own hg); replace HV := Lib.hid (HV.out.own hg); replace HY := Lib.hid (HY.out.own hg); clear hg) | (go_at_call 17; with_reducible refine (jbc_at g3 c3 _ (Lib.hid (HBT.out.own g0)) HC3).mono ?_; rintro r w9 ⟨rfl, hg⟩; replace g0 := g0.trans hg; replace HP := Lib.hid (HP.out.own hg); replace HU := Lib.hid (HU.out.own hg); replace HV := Lib.hid (HV.out.own hg); replace HY := Lib.hid (HY.out.own hg); clear hg) | (go_at_call 10; with_reducible refine (awake_at _ (Lib.hid (tab_own HT.out g0)) (Lib.hid (HBT.out.own g0)) (Lib.hid (HS.out.own g0))).mono ?_; rintro r w99 ⟨rfl, hg⟩; replace g0 := g0.trans hg; replace HP := Lib.hid (HP.out.own hg); replace HU := Lib.hid (HU.out.own hg); replace HV := Lib.hid (HV.out.own hg); replace HY := Lib.hid (HY.out.own hg); clear hg))
          go_ret
          exact ⟨by first | rfl | (exact ret_bool (by simp)), g0⟩
      · have kc2 : (c2 != 0) = true := bne_iff_ne.2 z2
        have kd2 : decide (c2 = 0) = false := decide_eq_false z2
        have ke2 : (c2 == 0) = false := beq_eq_false_iff_ne.2 z2
        clear f2 j2 z2
        by_cases z3 : c3 = 0
        · subst z3
          have q3 := f3 rfl
          have v3 := j3 rfl
          subst q3
          subst v3
          clear f3 j3
          go_enter Tryd.func6, Tryd.ntmps6
          go_upto_region 1 with (fail)
          obtain ⟨W0, B, P, hW, hC, hBq, hb, hc, g0, -, -, -⟩ := two_new w (cz 15 b) 24 (cz 22 p) 31
          rw [hW, hC, hBq]
          have HB := Lib.hid hb
          have HP := Lib.hid hc
          clear hW hC hBq hb hc
          go_upto_region 6 with (first | ((with_reducible show wpList _ _ _ (⟨_, .load 24 (.tmp 3), _, _, _, none⟩ :: _) _ _); refine wpList_load_row rfl 24 (.tmp 3) rfl B rfl 24 _ (0, 0) _ HB.out.raw Tryd.underlying24 rfl infoB ?_) | ((with_reducible show wpList _ _ _ (⟨_, .load 31 (.tmp 4), _, _, _, none⟩ :: _) _ _); refine wpList_load_row rfl 31 (.tmp 4) rfl P rfl 31 _ (0, 0) _ HP.out.raw Tryd.underlying31 rfl infoP ?_) | (go_at_call 15; with_reducible refine (bMar_at b p s n 0 _ (Lib.hid (tab_own HT.out g0)) (Lib.hid (HBT.out.own g0)) (Lib.hid (HS.out.own g0)) HG1).mono ?_; rintro r w1 ⟨rfl, hg⟩; replace g0 := g0.trans hg; replace HB := Lib.hid (HB.out.own hg); replace HP := Lib.hid (HP.out.own hg); have b9 := blk_num HB.out (i := 9) (by omega); clear hg))
          clear b9
          (first | go_frame | skip)
          have hbs14 : RegD.OkB [(RegD.NewB.mk 9 3 6 (cz 15 nul) (cz 15 b) 24), (RegD.NewB.mk 10 4 7 (cz 15 nul) (cz 15 b) 24), (RegD.NewB.mk 11 5 8 (cz 15 nul) (cz 15 b) 24)] [9, 10, 11] 9 := by
            refine ⟨fun k => ⟨fun hk => ?_, fun hk => ?_⟩, fun q hq r hr h => ?_, fun q hq r hr => ?_, fun q hq => ?_⟩
            · simp only [List.mem_cons, List.not_mem_nil, or_false] at hk
              rcases hk with rfl | rfl | rfl
              · exact ⟨_, (.head _), rfl⟩
              · exact ⟨_, (.tail _ (.head _)), rfl⟩
              · exact ⟨_, (.tail _ (.tail _ (.head _))), rfl⟩
            · obtain ⟨q, hq, rfl⟩ := hk
              simp only [List.mem_cons, List.not_mem_nil, or_false] at hq
              rcases hq with rfl | rfl | rfl <;> simp
            · simp only [List.mem_cons, List.not_mem_nil, or_false] at hq
              simp only [List.mem_cons, List.not_mem_nil, or_false] at hr
              rcases hq with rfl | rfl | rfl <;> rcases hr with rfl | rfl | rfl <;> first | rfl | exact absurd h (by simp)
            · simp only [List.mem_cons, List.not_mem_nil, or_false] at hq
              simp only [List.mem_cons, List.not_mem_nil, or_false] at hr
              rcases hq with rfl | rfl | rfl <;> rcases hr with rfl | rfl | rfl <;> exact ⟨by simp, by simp⟩
            · simp only [List.mem_cons, List.not_mem_nil, or_false] at hq
              rcases hq with rfl | rfl | rfl <;> exact ⟨by simp, by simp⟩
          refine RegD.region_dutyB [35, 36, 37, 9, 10, 11] [(RegD.NewB.mk 9 3 6 (cz 15 nul) (cz 15 b) 24), (RegD.NewB.mk 10 4 7 (cz 15 nul) (cz 15 b) 24), (RegD.NewB.mk 11 5 8 (cz 15 nul) (cz 15 b) 24)] [9, 10, 11] (RegI.upd (RegI.upd (RegI.upd (fun _ => undef) 35 (.agg (cz 15 b))) 36 (.agg (cz 15 b))) 37 (.agg (cz 15 b))) (by kernel_rfl) (by kernel_rfl) hbs14 (by intro d hd; simp at hd; simp; omega) ?_
          simp only [RegD.FF, RegI.FX, RegI.upd, List.foldl_cons, List.foldl_nil, List.mem_cons, List.not_mem_nil, if_true, if_false, Nat.reduceEqDiff, or_false, or_true]
          simp only [List.setIfInBounds_toArray, List.set_cons_succ, List.set_cons_zero]
          refine And.intro ?hs14 ?he14
          case hs14 =>
            refine And.intro ?s14_0 (And.intro ?s14_1 (And.intro ?s14_2 (And.intro ?s14_3 (And.intro ?s14_4 (And.intro ?s14_5 (And.intro ?s14_6 (And.intro ?s14_7 (And.intro ?s14_8 (trivial)))))))))
            case s14_0 =>
              refine RegD.stepB_det (by intro q hq; simp only [List.mem_cons, List.not_mem_nil, or_false] at hq; rcases hq with rfl | rfl | rfl <;> exact ⟨by simp, by simp, by simp⟩) (fun u w1 hO => ?_)
              have HB9 := Lib.hid (HB.out.own hO)
              go_wp2_with ((with_reducible show wpList _ _ _ (⟨_, .load 24 (.tmp 3), _, _, _, none⟩ :: _) _ _); refine wpList_load_row rfl 24 (.tmp 3) rfl B rfl 24 _ (0, 0) _ HB9.out.raw Tryd.underlying24 rfl infoB ?_)
              exact ⟨rfl, rfl, rfl, PairW.Own.refl _⟩
            case s14_1 =>
              refine RegD.stepB_det (by intro q hq; simp only [List.mem_cons, List.not_mem_nil, or_false] at hq; rcases hq with rfl | rfl | rfl <;> exact ⟨by simp, by simp, by simp⟩) (fun u w1 hO => ?_)
              have HB9 := Lib.hid (HB.out.own hO)
              go_wp2_with ((with_reducible show wpList _ _ _ (⟨_, .load 24 (.tmp 3), _, _, _, none⟩ :: _) _ _); refine wpList_load_row rfl 24 (.tmp 3) rfl B rfl 24 _ (0, 0) _ HB9.out.raw Tryd.underlying24 rfl infoB ?_)
              exact ⟨rfl, rfl, rfl, PairW.Own.refl _⟩
            case s14_2 =>
              refine RegD.stepB_det (by intro q hq; simp only [List.mem_cons, List.not_mem_nil, or_false] at hq; rcases hq with rfl | rfl | rfl <;> exact ⟨by simp, by simp, by simp⟩) (fun u w1 hO => ?_)
              have HB9 := Lib.hid (HB.out.own hO)
              go_wp2_with ((with_reducible show wpList _ _ _ (⟨_, .load 24 (.tmp 3), _, _, _, none⟩ :: _) _ _); refine wpList_load_row rfl 24 (.tmp 3) rfl B rfl 24 _ (0, 0) _ HB9.out.raw Tryd.underlying24 rfl infoB ?_)
              exact ⟨rfl, rfl, rfl, PairW.Own.refl _⟩
            case s14_3 =>
              refine RegD.stepB_new (RegD.NewB.mk 9 3 6 (cz 15 nul) (cz 15 b) 24) (.head _) rfl rfl (fun u w1 hO => ?_)
              go_wp2
              exact ⟨rfl, rfl, rfl, rfl⟩
            case s14_4 =>
              refine RegD.stepB_new (RegD.NewB.mk 10 4 7 (cz 15 nul) (cz 15 b) 24) (.tail _ (.head _)) rfl rfl (fun u w1 hO => ?_)
              go_wp2
              exact ⟨rfl, rfl, rfl, rfl⟩
            case s14_5 =>
              refine RegD.stepB_new (RegD.NewB.mk 11 5 8 (cz 15 nul) (cz 15 b) 24) (.tail _ (.tail _ (.head _))) rfl rfl (fun u w1 hO => ?_)
              go_wp2
              exact ⟨rfl, rfl, rfl, rfl⟩
            case s14_6 =>
              refine RegD.stepB_store (RegD.NewB.mk 9 3 6 (cz 15 nul) (cz 15 b) 24) (.head _) rfl rfl (by kernel_rfl) (fun u w1 N hO hu hN => ?_)
              replace hu : u 9 = .pointer (some ⟨N, 0, none⟩) := hu
              have HN := Lib.hid (show Blk w1 N (cz 15 nul) 24 from hN)
              simp only [hu]
              clear hN
              go_wp2_with ((with_reducible show wpList _ _ _ (⟨_, .store 24 (.tmp 9) (.tmp 35), _, _, _, none⟩ :: _) _ _); refine wpList_store_row rfl 24 (.tmp 9) (.tmp 35) rfl N (cz 15 (b)) rfl rfl 24 _ HN.out.raw infoB rfl (cz_one _ _) ?_)
              exact ⟨rfl, rfl, rfl⟩
            case s14_7 =>
              refine RegD.stepB_store (RegD.NewB.mk 10 4 7 (cz 15 nul) (cz 15 b) 24) (.tail _ (.head _)) rfl rfl (by kernel_rfl) (fun u w1 N hO hu hN => ?_)
              replace hu : u 10 = .pointer (some ⟨N, 0, none⟩) := hu
              have HN := Lib.hid (show Blk w1 N (cz 15 nul) 24 from hN)
              simp only [hu]
              clear hN
              go_wp2_with ((with_reducible show wpList _ _ _ (⟨_, .store 24 (.tmp 10) (.tmp 36), _, _, _, none⟩ :: _) _ _); refine wpList_store_row rfl 24 (.tmp 10) (.tmp 36) rfl N (cz 15 (b)) rfl rfl 24 _ HN.out.raw infoB rfl (cz_one _ _) ?_)
              exact ⟨rfl, rfl, rfl⟩
            case s14_8 =>
              refine RegD.stepB_store (RegD.NewB.mk 11 5 8 (cz 15 nul) (cz 15 b) 24) (.tail _ (.tail _ (.head _))) rfl rfl (by kernel_rfl) (fun u w1 N hO hu hN => ?_)
              replace hu : u 11 = .pointer (some ⟨N, 0, none⟩) := hu
              have HN := Lib.hid (show Blk w1 N (cz 15 nul) 24 from hN)
              simp only [hu]
              clear hN
              go_wp2_with ((with_reducible show wpList _ _ _ (⟨_, .store 24 (.tmp 11) (.tmp 37), _, _, _, none⟩ :: _) _ _); refine wpList_store_row rfl 24 (.tmp 11) (.tmp 37) rfl N (cz 15 (b)) rfl rfl 24 _ HN.out.raw infoB rfl (cz_one _ _) ?_)
              exact ⟨rfl, rfl, rfl⟩
          intro u w2 hO hB9
          obtain ⟨U, huU, h0U, hnU, hxU⟩ := hB9 (RegD.NewB.mk 9 3 6 (cz 15 nul) (cz 15 b) 24) (.head _)
          replace huU : u 9 = .pointer (some ⟨U, 0, none⟩) := huU
          obtain ⟨V, huV, h0V, hnV, hxV⟩ := hB9 (RegD.NewB.mk 10 4 7 (cz 15 nul) (cz 15 b) 24) (.tail _ (.head _))
          replace huV : u 10 = .pointer (some ⟨V, 0, none⟩) := huV
          obtain ⟨Y, huY, h0Y, hnY, hxY⟩ := hB9 (RegD.NewB.mk 11 5 8 (cz 15 nul) (cz 15 b) 24) (.tail _ (.tail _ (.head _)))
          replace huY : u 11 = .pointer (some ⟨Y, 0, none⟩) := huY
          have hneUV : U ≠ V := fun e => hxV (RegD.NewB.mk 9 3 6 (cz 15 nul) (cz 15 b) 24) (.head _) (by simp) (show u 9 = .pointer (some ⟨V, 0, none⟩) from by rw [huU, e])
          have hneUY : U ≠ Y := fun e => hxY (RegD.NewB.mk 9 3 6 (cz 15 nul) (cz 15 b) 24) (.head _) (by simp) (show u 9 = .pointer (some ⟨Y, 0, none⟩) from by rw [huU, e])
          have hneVU : V ≠ U := fun e => hxU (RegD.NewB.mk 10 4 7 (cz 15 nul) (cz 15 b) 24) (.tail _ (.head _)) (by simp) (show u 10 = .pointer (some ⟨U, 0, none⟩) from by rw [huV, e])
          have hneVY : V ≠ Y := fun e => hxY (RegD.NewB.mk 10 4 7 (cz 15 nul) (cz 15 b) 24) (.tail _ (.head _)) (by simp) (show u 10 = .pointer (some ⟨Y, 0, none⟩) from by rw [huV, e])
          have hneYU : Y ≠ U := fun e => hxU (RegD.NewB.mk 11 5 8 (cz 15 nul) (cz 15 b) 24) (.tail _ (.tail _ (.head _))) (by simp) (show u 11 = .pointer (some ⟨U, 0, none⟩) from by rw [huY, e])
          have hneYV : Y ≠ V := fun e => hxV (RegD.NewB.mk 11 5 8 (cz 15 nul) (cz 15 b) 24) (.tail _ (.tail _ (.head _))) (by simp) (show u 11 = .pointer (some ⟨V, 0, none⟩) from by rw [huY, e])
          simp only [huU, huV, huY]
          have hBU := Nat.ne_of_lt (Nat.lt_of_lt_of_le HB.out.lt h0U)
          have hPU := Nat.ne_of_lt (Nat.lt_of_lt_of_le HP.out.lt h0U)
          have hwU : w.heap.size ≤ U := Nat.le_trans g0.size h0U
          have hBV := Nat.ne_of_lt (Nat.lt_of_lt_of_le HB.out.lt h0V)
          have hPV := Nat.ne_of_lt (Nat.lt_of_lt_of_le HP.out.lt h0V)
          have hwV : w.heap.size ≤ V := Nat.le_trans g0.size h0V
          have hBY := Nat.ne_of_lt (Nat.lt_of_lt_of_le HB.out.lt h0Y)
          have hPY := Nat.ne_of_lt (Nat.lt_of_lt_of_le HP.out.lt h0Y)
          have hwY : w.heap.size ≤ Y := Nat.le_trans g0.size h0Y
          have HU := Lib.hid (show Blk w2 U (cz 15 b) 24 from hnU)
          have HV := Lib.hid (show Blk w2 V (cz 15 b) 24 from hnV)
          have HY := Lib.hid (show Blk w2 Y (cz 15 b) 24 from hnY)
          replace g0 := g0.trans hO
          replace HB := Lib.hid (HB.out.own hO)
          replace HP := Lib.hid (HP.out.own hO)
          clear hO hB9 hbs14 huU h0U hnU hxU huV h0V hnV hxV huY h0Y hnY hxY
          have b9 := blk_num HB.out (i := 9) (by omega)
          have kc := blk_num HU.out (i := 9) (by omega)
          have fc := HU.out.frozen 9
          go_upto_region 8 with (fail)
          have hd : Blk (w2.setCell ⟨U, 9, none⟩ (.int .i64 r1)) U (cz 15 (ups b 9 r1)) 24 := blk_ups HU.out (by omega) r1
          rw [HU1.out] at hd
          have hb := HB.out.far (p := ⟨U, 9, none⟩) hBU (.int .i64 r1)
          have hp := HP.out.far (p := ⟨U, 9, none⟩) hPU (.int .i64 r1)
          have ho := HV.out.far (p := ⟨U, 9, none⟩) hneVU (.int .i64 r1)
          have ho2 := HY.out.far (p := ⟨U, 9, none⟩) hneYU (.int .i64 r1)
          replace g0 := g0.setCell (p := ⟨U, 9, none⟩) hwU (.int .i64 r1)
          clear HB HP HU HV HY kc fc b9
          generalize w2.setCell ⟨U, 9, none⟩ (.int .i64 r1) = w3 at *
          have HB := Lib.hid hb
          have HP := Lib.hid hp
          have HU := Lib.hid hd
          have HV := Lib.hid ho
          have HY := Lib.hid ho2
          clear hb hp hd ho ho2
          have b9 := blk_num HB.out (i := 9) (by omega)
          have kc := blk_num HV.out (i := 9) (by omega)
          have fc := HV.out.frozen 9
          go_upto_region 9 with (fail)
          have hd : Blk (w3.setCell ⟨V, 9, none⟩ (.int .i64 r2)) V (cz 15 (ups b 9 r2)) 24 := blk_ups HV.out (by omega) r2
          rw [HU2.out] at hd
          have hb := HB.out.far (p := ⟨V, 9, none⟩) hBV (.int .i64 r2)
          have hp := HP.out.far (p := ⟨V, 9, none⟩) hPV (.int .i64 r2)
          have ho := HU.out.far (p := ⟨V, 9, none⟩) hneUV (.int .i64 r2)
          have ho2 := HY.out.far (p := ⟨V, 9, none⟩) hneYV (.int .i64 r2)
          replace g0 := g0.setCell (p := ⟨V, 9, none⟩) hwV (.int .i64 r2)
          clear HB HP HU HV HY kc fc b9
          generalize w3.setCell ⟨V, 9, none⟩ (.int .i64 r2) = w4 at *
          have HB := Lib.hid hb
          have HP := Lib.hid hp
          have HV := Lib.hid hd
          have HU := Lib.hid ho
          have HY := Lib.hid ho2
          clear hb hp hd ho ho2
          have b9 := blk_num HB.out (i := 9) (by omega)
          have kc := blk_num HY.out (i := 9) (by omega)
          have fc := HY.out.frozen 9
          go_upto_region 10 with (fail)
          have hd : Blk (w4.setCell ⟨Y, 9, none⟩ (.int .i64 r3)) Y (cz 15 (ups b 9 r3)) 24 := blk_ups HY.out (by omega) r3
          rw [HU3.out] at hd
          have hb := HB.out.far (p := ⟨Y, 9, none⟩) hBY (.int .i64 r3)
          have hp := HP.out.far (p := ⟨Y, 9, none⟩) hPY (.int .i64 r3)
          have ho := HU.out.far (p := ⟨Y, 9, none⟩) hneUY (.int .i64 r3)
          have ho2 := HV.out.far (p := ⟨Y, 9, none⟩) hneVY (.int .i64 r3)
          replace g0 := g0.setCell (p := ⟨Y, 9, none⟩) hwY (.int .i64 r3)
          clear HB HP HU HV HY kc fc b9
          generalize w4.setCell ⟨Y, 9, none⟩ (.int .i64 r3) = w5 at *
          have HB := Lib.hid hb
          have HP := Lib.hid hp
          have HY := Lib.hid hd
          have HU := Lib.hid ho
          have HV := Lib.hid ho2
          clear hb hp hd ho ho2
          clear hneUV hneUY hneVU hneVY hneYU hneYV hBU hBV hBY hPU hPV hPY hwU hwV hwY HB HU1 HU2 HU3 i1 i2 i3
          (first | go_frame | skip)
          go_wp2_with (first | ((with_reducible show wpList _ _ _ (⟨_, .load 31 (.tmp 4), _, _, _, none⟩ :: _) _ _); refine wpList_load_row rfl 31 (.tmp 4) rfl P rfl 31 _ (0, 0) _ HP.out.raw Tryd.underlying31 rfl infoP ?_) | ((with_reducible show wpList _ _ _ (⟨_, .load 24 (.tmp 9), _, _, _, none⟩ :: _) _ _); refine wpList_load_row rfl 24 (.tmp 9) rfl U rfl 24 _ (0, 0) _ HU.out.raw Tryd.underlying24 rfl infoB ?_) | (go_at_call 14; with_reducible refine (bSta_at g1 p s true 0 _ (Lib.hid (tab_own HT.out g0)) (Lib.hid (HBT.out.own g0)) (Lib.hid (HS.out.own g0)) HS1).mono ?_; rintro r w8 ⟨rfl, hg⟩; replace g0 := g0.trans hg; replace HP := Lib.hid (HP.out.own hg); replace HU := Lib.hid (HU.out.own hg); replace HV := Lib.hid (HV.out.own hg); replace HY := Lib.hid (HY.out.own hg); clear hg) | (go_at_call 17; with_reducible refine (jbc_at g1 0 _ (Lib.hid (HBT.out.own g0)) HC1).mono ?_; rintro r w9 ⟨rfl, hg⟩; replace g0 := g0.trans hg; replace HP := Lib.hid (HP.out.own hg); replace HU := Lib.hid (HU.out.own hg); replace HV := Lib.hid (HV.out.own hg); replace HY := Lib.hid (HY.out.own hg); clear hg) | ((with_reducible show wpList _ _ _ (⟨_, .load 24 (.tmp 10), _, _, _, none⟩ :: _) _ _); refine wpList_load_row rfl 24 (.tmp 10) rfl V rfl 24 _ (0, 0) _ HV.out.raw Tryd.underlying24 rfl infoB ?_) | (go_at_call 14; with_reducible refine (bSta_at g2 p s t2 e2 _ (Lib.hid (tab_own HT.out g0)) (Lib.hid (HBT.out.own g0)) (Lib.hid (HS.out.own g0)) HS2).mono ?_; rintro r w8 ⟨rfl, hg⟩; replace g0 := g0.trans hg; replace HP := Lib.hid (HP.out.own hg); replace HU := Lib.hid (HU.out.own hg); replace HV := Lib.hid (HV.out.own hg); replace HY := Lib.hid (HY.out.own hg); clear hg) | (go_at_call 17; with_reducible refine (jbc_at g2 c2 _ (Lib.hid (HBT.out.own g0)) HC2).mono ?_; rintro r w9 ⟨rfl, hg⟩; replace g0 := g0.trans hg; replace HP := Lib.hid (HP.out.own hg); replace HU := Lib.hid (HU.out.own hg); replace HV := Lib.hid (HV.out.own hg); replace HY := Lib.hid (HY.out.own hg); clear hg) | ((with_reducible show wpList _ _ _ (⟨_, .load 24 (.tmp 11), _, _, _, none⟩ :: _) _ _); refine wpList_load_row rfl 24 (.tmp 11) rfl Y rfl 24 _ (0, 0) _ HY.out.raw Tryd.underlying24 rfl infoB ?_) | (go_at_call 14; with_reducible refine (bSta_at g3 p s false 0 _ (Lib.hid (tab_own HT.out g0)) (Lib.hid (HBT.out.own g0)) (Lib.hid (HS.out.own g0)) HS3).mono ?_; rintro r w8 ⟨rfl, hg⟩; replace g0 := g0.trans hg; replace HP := Lib.hid (HP.out.own hg); replace HU := Lib.hid (HU.out.own hg); replace HV := Lib.hid (HV.out.own hg); replace HY := Lib.hid (HY.out.own hg); clear hg) | (go_at_call 17; with_reducible refine (jbc_at g3 0 _ (Lib.hid (HBT.out.own g0)) HC3).mono ?_; rintro r w9 ⟨rfl, hg⟩; replace g0 := g0.trans hg; replace HP := Lib.hid (HP.out.own hg); replace HU := Lib.hid (HU.out.own hg); replace HV := Lib.hid (HV.out.own hg); replace HY := Lib.hid (HY.out.own hg); clear hg) | (go_at_call 10; with_reducible refine (awake_at _ (Lib.hid (tab_own HT.out g0)) (Lib.hid (HBT.out.own g0)) (Lib.hid (HS.out.own g0))).mono ?_; rintro r w99 ⟨rfl, hg⟩; replace g0 := g0.trans hg; replace HP := Lib.hid (HP.out.own hg); replace HU := Lib.hid (HU.out.own hg); replace HV := Lib.hid (HV.out.own hg); replace HY := Lib.hid (HY.out.own hg); clear hg))
          go_ret
          exact ⟨by first | rfl | (exact ret_bool (by simp)), g0⟩
        · have kc3 : (c3 != 0) = true := bne_iff_ne.2 z3
          have kd3 : decide (c3 = 0) = false := decide_eq_false z3
          have ke3 : (c3 == 0) = false := beq_eq_false_iff_ne.2 z3
          clear f3 j3 z3
          go_enter Tryd.func6, Tryd.ntmps6
          go_upto_region 1 with (fail)
          obtain ⟨W0, B, P, hW, hC, hBq, hb, hc, g0, -, -, -⟩ := two_new w (cz 15 b) 24 (cz 22 p) 31
          rw [hW, hC, hBq]
          have HB := Lib.hid hb
          have HP := Lib.hid hc
          clear hW hC hBq hb hc
          go_upto_region 6 with (first | ((with_reducible show wpList _ _ _ (⟨_, .load 24 (.tmp 3), _, _, _, none⟩ :: _) _ _); refine wpList_load_row rfl 24 (.tmp 3) rfl B rfl 24 _ (0, 0) _ HB.out.raw Tryd.underlying24 rfl infoB ?_) | ((with_reducible show wpList _ _ _ (⟨_, .load 31 (.tmp 4), _, _, _, none⟩ :: _) _ _); refine wpList_load_row rfl 31 (.tmp 4) rfl P rfl 31 _ (0, 0) _ HP.out.raw Tryd.underlying31 rfl infoP ?_) | (go_at_call 15; with_reducible refine (bMar_at b p s n 0 _ (Lib.hid (tab_own HT.out g0)) (Lib.hid (HBT.out.own g0)) (Lib.hid (HS.out.own g0)) HG1).mono ?_; rintro r w1 ⟨rfl, hg⟩; replace g0 := g0.trans hg; replace HB := Lib.hid (HB.out.own hg); replace HP := Lib.hid (HP.out.own hg); have b9 := blk_num HB.out (i := 9) (by omega); clear hg))
          clear b9
          (first | go_frame | skip)
          have hbs15 : RegD.OkB [(RegD.NewB.mk 9 3 6 (cz 15 nul) (cz 15 b) 24), (RegD.NewB.mk 10 4 7 (cz 15 nul) (cz 15 b) 24), (RegD.NewB.mk 11 5 8 (cz 15 nul) (cz 15 b) 24)] [9, 10, 11] 9 := by
            refine ⟨fun k => ⟨fun hk => ?_, fun hk => ?_⟩, fun q hq r hr h => ?_, fun q hq r hr => ?_, fun q hq => ?_⟩
            · simp only [List.mem_cons, List.not_mem_nil, or_false] at hk
              rcases hk with rfl | rfl | rfl
              · exact ⟨_, (.head _), rfl⟩
              · exact ⟨_, (.tail _ (.head _)), rfl⟩
              · exact ⟨_, (.tail _ (.tail _ (.head _))), rfl⟩
            · obtain ⟨q, hq, rfl⟩ := hk
              simp only [List.mem_cons, List.not_mem_nil, or_false] at hq
              rcases hq with rfl | rfl | rfl <;> simp
            · simp only [List.mem_cons, List.not_mem_nil, or_false] at hq
              simp only [List.mem_cons, List.not_mem_nil, or_false] at hr
              rcases hq with rfl | rfl | rfl <;> rcases hr with rfl | rfl | rfl <;> first | rfl | exact absurd h (by simp)
            · simp only [List.mem_cons, List.not_mem_nil, or_false] at hq
              simp only [List.mem_cons, List.not_mem_nil, or_false] at hr
              rcases hq with rfl | rfl | rfl <;> rcases hr with rfl | rfl | rfl <;> exact ⟨by simp, by simp⟩
            · simp only [List.mem_cons, List.not_mem_nil, or_false] at hq
              rcases hq with rfl | rfl | rfl <;> exact ⟨by simp, by simp⟩
          refine RegD.region_dutyB [35, 36, 37, 9, 10, 11] [(RegD.NewB.mk 9 3 6 (cz 15 nul) (cz 15 b) 24), (RegD.NewB.mk 10 4 7 (cz 15 nul) (cz 15 b) 24), (RegD.NewB.mk 11 5 8 (cz 15 nul) (cz 15 b) 24)] [9, 10, 11] (RegI.upd (RegI.upd (RegI.upd (fun _ => undef) 35 (.agg (cz 15 b))) 36 (.agg (cz 15 b))) 37 (.agg (cz 15 b))) (by kernel_rfl) (by kernel_rfl) hbs15 (by intro d hd; simp at hd; simp; omega) ?_
          simp only [RegD.FF, RegI.FX, RegI.upd, List.foldl_cons, List.foldl_nil, List.mem_cons, List.not_mem_nil, if_true, if_false, Nat.reduceEqDiff, or_false, or_true]
          simp only [List.setIfInBounds_toArray, List.set_cons_succ, List.set_cons_zero]
          refine And.intro ?hs15 ?he15
          case hs15 =>
            refine And.intro ?s15_0 (And.intro ?s15_1 (And.intro ?s15_2 (And.intro ?s15_3 (And.intro ?s15_4 (And.intro ?s15_5 (And.intro ?s15_6 (And.intro ?s15_7 (And.intro ?s15_8 (trivial)))))))))
            case s15_0 =>
              refine RegD.stepB_det (by intro q hq; simp only [List.mem_cons, List.not_mem_nil, or_false] at hq; rcases hq with rfl | rfl | rfl <;> exact ⟨by simp, by simp, by simp⟩) (fun u w1 hO => ?_)
              have HB9 := Lib.hid (HB.out.own hO)
              go_wp2_with ((with_reducible show wpList _ _ _ (⟨_, .load 24 (.tmp 3), _, _, _, none⟩ :: _) _ _); refine wpList_load_row rfl 24 (.tmp 3) rfl B rfl 24 _ (0, 0) _ HB9.out.raw Tryd.underlying24 rfl infoB ?_)
              exact ⟨rfl, rfl, rfl, PairW.Own.refl _⟩
            case s15_1 =>
              refine RegD.stepB_det (by intro q hq; simp only [List.mem_cons, List.not_mem_nil, or_false] at hq; rcases hq with rfl | rfl | rfl <;> exact ⟨by simp, by simp, by simp⟩) (fun u w1 hO => ?_)
              have HB9 := Lib.hid (HB.out.own hO)
              go_wp2_with ((with_reducible show wpList _ _ _ (⟨_, .load 24 (.tmp 3), _, _, _, none⟩ :: _) _ _); refine wpList_load_row rfl 24 (.tmp 3) rfl B rfl 24 _ (0, 0) _ HB9.out.raw Tryd.underlying24 rfl infoB ?_)
              exact ⟨rfl, rfl, rfl, PairW.Own.refl _⟩
            case s15_2 =>
              refine RegD.stepB_det (by intro q hq; simp only [List.mem_cons, List.not_mem_nil, or_false] at hq; rcases hq with rfl | rfl | rfl <;> exact ⟨by simp, by simp, by simp⟩) (fun u w1 hO => ?_)
              have HB9 := Lib.hid (HB.out.own hO)
              go_wp2_with ((with_reducible show wpList _ _ _ (⟨_, .load 24 (.tmp 3), _, _, _, none⟩ :: _) _ _); refine wpList_load_row rfl 24 (.tmp 3) rfl B rfl 24 _ (0, 0) _ HB9.out.raw Tryd.underlying24 rfl infoB ?_)
              exact ⟨rfl, rfl, rfl, PairW.Own.refl _⟩
            case s15_3 =>
              refine RegD.stepB_new (RegD.NewB.mk 9 3 6 (cz 15 nul) (cz 15 b) 24) (.head _) rfl rfl (fun u w1 hO => ?_)
              go_wp2
              exact ⟨rfl, rfl, rfl, rfl⟩
            case s15_4 =>
              refine RegD.stepB_new (RegD.NewB.mk 10 4 7 (cz 15 nul) (cz 15 b) 24) (.tail _ (.head _)) rfl rfl (fun u w1 hO => ?_)
              go_wp2
              exact ⟨rfl, rfl, rfl, rfl⟩
            case s15_5 =>
              refine RegD.stepB_new (RegD.NewB.mk 11 5 8 (cz 15 nul) (cz 15 b) 24) (.tail _ (.tail _ (.head _))) rfl rfl (fun u w1 hO => ?_)
              go_wp2
              exact ⟨rfl, rfl, rfl, rfl⟩
            case s15_6 =>
              refine RegD.stepB_store (RegD.NewB.mk 9 3 6 (cz 15 nul) (cz 15 b) 24) (.head _) rfl rfl (by kernel_rfl) (fun u w1 N hO hu hN => ?_)
              replace hu : u 9 = .pointer (some ⟨N, 0, none⟩) := hu
              have HN := Lib.hid (show Blk w1 N (cz 15 nul) 24 from hN)
              simp only [hu]
              clear hN
              go_wp2_with ((with_reducible show wpList _ _ _ (⟨_, .store 24 (.tmp 9) (.tmp 35), _, _, _, none⟩ :: _) _ _); refine wpList_store_row rfl 24 (.tmp 9) (.tmp 35) rfl N (cz 15 (b)) rfl rfl 24 _ HN.out.raw infoB rfl (cz_one _ _) ?_)
              exact ⟨rfl, rfl, rfl⟩
            case s15_7 =>
              refine RegD.stepB_store (RegD.NewB.mk 10 4 7 (cz 15 nul) (cz 15 b) 24) (.tail _ (.head _)) rfl rfl (by kernel_rfl) (fun u w1 N hO hu hN => ?_)
              replace hu : u 10 = .pointer (some ⟨N, 0, none⟩) := hu
              have HN := Lib.hid (show Blk w1 N (cz 15 nul) 24 from hN)
              simp only [hu]
              clear hN
              go_wp2_with ((with_reducible show wpList _ _ _ (⟨_, .store 24 (.tmp 10) (.tmp 36), _, _, _, none⟩ :: _) _ _); refine wpList_store_row rfl 24 (.tmp 10) (.tmp 36) rfl N (cz 15 (b)) rfl rfl 24 _ HN.out.raw infoB rfl (cz_one _ _) ?_)
              exact ⟨rfl, rfl, rfl⟩
            case s15_8 =>
              refine RegD.stepB_store (RegD.NewB.mk 11 5 8 (cz 15 nul) (cz 15 b) 24) (.tail _ (.tail _ (.head _))) rfl rfl (by kernel_rfl) (fun u w1 N hO hu hN => ?_)
              replace hu : u 11 = .pointer (some ⟨N, 0, none⟩) := hu
              have HN := Lib.hid (show Blk w1 N (cz 15 nul) 24 from hN)
              simp only [hu]
              clear hN
              go_wp2_with ((with_reducible show wpList _ _ _ (⟨_, .store 24 (.tmp 11) (.tmp 37), _, _, _, none⟩ :: _) _ _); refine wpList_store_row rfl 24 (.tmp 11) (.tmp 37) rfl N (cz 15 (b)) rfl rfl 24 _ HN.out.raw infoB rfl (cz_one _ _) ?_)
              exact ⟨rfl, rfl, rfl⟩
          intro u w2 hO hB9
          obtain ⟨U, huU, h0U, hnU, hxU⟩ := hB9 (RegD.NewB.mk 9 3 6 (cz 15 nul) (cz 15 b) 24) (.head _)
          replace huU : u 9 = .pointer (some ⟨U, 0, none⟩) := huU
          obtain ⟨V, huV, h0V, hnV, hxV⟩ := hB9 (RegD.NewB.mk 10 4 7 (cz 15 nul) (cz 15 b) 24) (.tail _ (.head _))
          replace huV : u 10 = .pointer (some ⟨V, 0, none⟩) := huV
          obtain ⟨Y, huY, h0Y, hnY, hxY⟩ := hB9 (RegD.NewB.mk 11 5 8 (cz 15 nul) (cz 15 b) 24) (.tail _ (.tail _ (.head _)))
          replace huY : u 11 = .pointer (some ⟨Y, 0, none⟩) := huY
          have hneUV : U ≠ V := fun e => hxV (RegD.NewB.mk 9 3 6 (cz 15 nul) (cz 15 b) 24) (.head _) (by simp) (show u 9 = .pointer (some ⟨V, 0, none⟩) from by rw [huU, e])
          have hneUY : U ≠ Y := fun e => hxY (RegD.NewB.mk 9 3 6 (cz 15 nul) (cz 15 b) 24) (.head _) (by simp) (show u 9 = .pointer (some ⟨Y, 0, none⟩) from by rw [huU, e])
          have hneVU : V ≠ U := fun e => hxU (RegD.NewB.mk 10 4 7 (cz 15 nul) (cz 15 b) 24) (.tail _ (.head _)) (by simp) (show u 10 = .pointer (some ⟨U, 0, none⟩) from by rw [huV, e])
          have hneVY : V ≠ Y := fun e => hxY (RegD.NewB.mk 10 4 7 (cz 15 nul) (cz 15 b) 24) (.tail _ (.head _)) (by simp) (show u 10 = .pointer (some ⟨Y, 0, none⟩) from by rw [huV, e])
          have hneYU : Y ≠ U := fun e => hxU (RegD.NewB.mk 11 5 8 (cz 15 nul) (cz 15 b) 24) (.tail _ (.tail _ (.head _))) (by simp) (show u 11 = .pointer (some ⟨U, 0, none⟩) from by rw [huY, e])
          have hneYV : Y ≠ V := fun e => hxV (RegD.NewB.mk 11 5 8 (cz 15 nul) (cz 15 b) 24) (.tail _ (.tail _ (.head _))) (by simp) (show u 11 = .pointer (some ⟨V, 0, none⟩) from by rw [huY, e])
          simp only [huU, huV, huY]
          have hBU := Nat.ne_of_lt (Nat.lt_of_lt_of_le HB.out.lt h0U)
          have hPU := Nat.ne_of_lt (Nat.lt_of_lt_of_le HP.out.lt h0U)
          have hwU : w.heap.size ≤ U := Nat.le_trans g0.size h0U
          have hBV := Nat.ne_of_lt (Nat.lt_of_lt_of_le HB.out.lt h0V)
          have hPV := Nat.ne_of_lt (Nat.lt_of_lt_of_le HP.out.lt h0V)
          have hwV : w.heap.size ≤ V := Nat.le_trans g0.size h0V
          have hBY := Nat.ne_of_lt (Nat.lt_of_lt_of_le HB.out.lt h0Y)
          have hPY := Nat.ne_of_lt (Nat.lt_of_lt_of_le HP.out.lt h0Y)
          have hwY : w.heap.size ≤ Y := Nat.le_trans g0.size h0Y
          have HU := Lib.hid (show Blk w2 U (cz 15 b) 24 from hnU)
          have HV := Lib.hid (show Blk w2 V (cz 15 b) 24 from hnV)
          have HY := Lib.hid (show Blk w2 Y (cz 15 b) 24 from hnY)
          replace g0 := g0.trans hO
          replace HB := Lib.hid (HB.out.own hO)
          replace HP := Lib.hid (HP.out.own hO)
          clear hO hB9 hbs15 huU h0U hnU hxU huV h0V hnV hxV huY h0Y hnY hxY
          have b9 := blk_num HB.out (i := 9) (by omega)
          have kc := blk_num HU.out (i := 9) (by omega)
          have fc := HU.out.frozen 9
          go_upto_region 8 with (fail)
          have hd : Blk (w2.setCell ⟨U, 9, none⟩ (.int .i64 r1)) U (cz 15 (ups b 9 r1)) 24 := blk_ups HU.out (by omega) r1
          rw [HU1.out] at hd
          have hb := HB.out.far (p := ⟨U, 9, none⟩) hBU (.int .i64 r1)
          have hp := HP.out.far (p := ⟨U, 9, none⟩) hPU (.int .i64 r1)
          have ho := HV.out.far (p := ⟨U, 9, none⟩) hneVU (.int .i64 r1)
          have ho2 := HY.out.far (p := ⟨U, 9, none⟩) hneYU (.int .i64 r1)
          replace g0 := g0.setCell (p := ⟨U, 9, none⟩) hwU (.int .i64 r1)
          clear HB HP HU HV HY kc fc b9
          generalize w2.setCell ⟨U, 9, none⟩ (.int .i64 r1) = w3 at *
          have HB := Lib.hid hb
          have HP := Lib.hid hp
          have HU := Lib.hid hd
          have HV := Lib.hid ho
          have HY := Lib.hid ho2
          clear hb hp hd ho ho2
          have b9 := blk_num HB.out (i := 9) (by omega)
          have kc := blk_num HV.out (i := 9) (by omega)
          have fc := HV.out.frozen 9
          go_upto_region 9 with (fail)
          have hd : Blk (w3.setCell ⟨V, 9, none⟩ (.int .i64 r2)) V (cz 15 (ups b 9 r2)) 24 := blk_ups HV.out (by omega) r2
          rw [HU2.out] at hd
          have hb := HB.out.far (p := ⟨V, 9, none⟩) hBV (.int .i64 r2)
          have hp := HP.out.far (p := ⟨V, 9, none⟩) hPV (.int .i64 r2)
          have ho := HU.out.far (p := ⟨V, 9, none⟩) hneUV (.int .i64 r2)
          have ho2 := HY.out.far (p := ⟨V, 9, none⟩) hneYV (.int .i64 r2)
          replace g0 := g0.setCell (p := ⟨V, 9, none⟩) hwV (.int .i64 r2)
          clear HB HP HU HV HY kc fc b9
          generalize w3.setCell ⟨V, 9, none⟩ (.int .i64 r2) = w4 at *
          have HB := Lib.hid hb
          have HP := Lib.hid hp
          have HV := Lib.hid hd
          have HU := Lib.hid ho
          have HY := Lib.hid ho2
          clear hb hp hd ho ho2
          have b9 := blk_num HB.out (i := 9) (by omega)
          have kc := blk_num HY.out (i := 9) (by omega)
          have fc := HY.out.frozen 9
          go_upto_region 10 with (fail)
          have hd : Blk (w4.setCell ⟨Y, 9, none⟩ (.int .i64 r3)) Y (cz 15 (ups b 9 r3)) 24 := blk_ups HY.out (by omega) r3
          rw [HU3.out] at hd
          have hb := HB.out.far (p := ⟨Y, 9, none⟩) hBY (.int .i64 r3)
          have hp := HP.out.far (p := ⟨Y, 9, none⟩) hPY (.int .i64 r3)
          have ho := HU.out.far (p := ⟨Y, 9, none⟩) hneUY (.int .i64 r3)
          have ho2 := HV.out.far (p := ⟨Y, 9, none⟩) hneVY (.int .i64 r3)
          replace g0 := g0.setCell (p := ⟨Y, 9, none⟩) hwY (.int .i64 r3)
          clear HB HP HU HV HY kc fc b9
          generalize w4.setCell ⟨Y, 9, none⟩ (.int .i64 r3) = w5 at *
          have HB := Lib.hid hb
          have HP := Lib.hid hp
          have HY := Lib.hid hd
          have HU := Lib.hid ho
          have HV := Lib.hid ho2
          clear hb hp hd ho ho2
          clear hneUV hneUY hneVU hneVY hneYU hneYV hBU hBV hBY hPU hPV hPY hwU hwV hwY HB HU1 HU2 HU3 i1 i2 i3
          (first | go_frame | skip)
          go_wp2_with (first | ((with_reducible show wpList _ _ _ (⟨_, .load 31 (.tmp 4), _, _, _, none⟩ :: _) _ _); refine wpList_load_row rfl 31 (.tmp 4) rfl P rfl 31 _ (0, 0) _ HP.out.raw Tryd.underlying31 rfl infoP ?_) | ((with_reducible show wpList _ _ _ (⟨_, .load 24 (.tmp 9), _, _, _, none⟩ :: _) _ _); refine wpList_load_row rfl 24 (.tmp 9) rfl U rfl 24 _ (0, 0) _ HU.out.raw Tryd.underlying24 rfl infoB ?_) | (go_at_call 14; with_reducible refine (bSta_at g1 p s true 0 _ (Lib.hid (tab_own HT.out g0)) (Lib.hid (HBT.out.own g0)) (Lib.hid (HS.out.own g0)) HS1).mono ?_; rintro r w8 ⟨rfl, hg⟩; replace g0 := g0.trans hg; replace HP := Lib.hid (HP.out.own hg); replace HU := Lib.hid (HU.out.own hg); replace HV := Lib.hid (HV.out.own hg); replace HY := Lib.hid (HY.out.own hg); clear hg) | (go_at_call 17; with_reducible refine (jbc_at g1 0 _ (Lib.hid (HBT.out.own g0)) HC1).mono ?_; rintro r w9 ⟨rfl, hg⟩; replace g0 := g0.trans hg; replace HP := Lib.hid (HP.out.own hg); replace HU := Lib.hid (HU.out.own hg); replace HV := Lib.hid (HV.out.own hg); replace HY := Lib.hid (HY.out.own hg); clear hg) | ((with_reducible show wpList _ _ _ (⟨_, .load 24 (.tmp 10), _, _, _, none⟩ :: _) _ _); refine wpList_load_row rfl 24 (.tmp 10) rfl V rfl 24 _ (0, 0) _ HV.out.raw Tryd.underlying24 rfl infoB ?_) | (go_at_call 14; with_reducible refine (bSta_at g2 p s t2 e2 _ (Lib.hid (tab_own HT.out g0)) (Lib.hid (HBT.out.own g0)) (Lib.hid (HS.out.own g0)) HS2).mono ?_; rintro r w8 ⟨rfl, hg⟩; replace g0 := g0.trans hg; replace HP := Lib.hid (HP.out.own hg); replace HU := Lib.hid (HU.out.own hg); replace HV := Lib.hid (HV.out.own hg); replace HY := Lib.hid (HY.out.own hg); clear hg) | (go_at_call 17; with_reducible refine (jbc_at g2 c2 _ (Lib.hid (HBT.out.own g0)) HC2).mono ?_; rintro r w9 ⟨rfl, hg⟩; replace g0 := g0.trans hg; replace HP := Lib.hid (HP.out.own hg); replace HU := Lib.hid (HU.out.own hg); replace HV := Lib.hid (HV.out.own hg); replace HY := Lib.hid (HY.out.own hg); clear hg) | ((with_reducible show wpList _ _ _ (⟨_, .load 24 (.tmp 11), _, _, _, none⟩ :: _) _ _); refine wpList_load_row rfl 24 (.tmp 11) rfl Y rfl 24 _ (0, 0) _ HY.out.raw Tryd.underlying24 rfl infoB ?_) | (go_at_call 14; with_reducible refine (bSta_at g3 p s t3 e3 _ (Lib.hid (tab_own HT.out g0)) (Lib.hid (HBT.out.own g0)) (Lib.hid (HS.out.own g0)) HS3).mono ?_; rintro r w8 ⟨rfl, hg⟩; replace g0 := g0.trans hg; replace HP := Lib.hid (HP.out.own hg); replace HU := Lib.hid (HU.out.own hg); replace HV := Lib.hid (HV.out.own hg); replace HY := Lib.hid (HY.out.own hg); clear hg) | (go_at_call 17; with_reducible refine (jbc_at g3 c3 _ (Lib.hid (HBT.out.own g0)) HC3).mono ?_; rintro r w9 ⟨rfl, hg⟩; replace g0 := g0.trans hg; replace HP := Lib.hid (HP.out.own hg); replace HU := Lib.hid (HU.out.own hg); replace HV := Lib.hid (HV.out.own hg); replace HY := Lib.hid (HY.out.own hg); clear hg) | (go_at_call 10; with_reducible refine (awake_at _ (Lib.hid (tab_own HT.out g0)) (Lib.hid (HBT.out.own g0)) (Lib.hid (HS.out.own g0))).mono ?_; rintro r w99 ⟨rfl, hg⟩; replace g0 := g0.trans hg; replace HP := Lib.hid (HP.out.own hg); replace HU := Lib.hid (HU.out.own hg); replace HV := Lib.hid (HV.out.own hg); replace HY := Lib.hid (HY.out.own hg); clear hg))
          go_ret
          exact ⟨by first | rfl | (exact ret_bool (by simp)), g0⟩
    · have kc1 : (c1 != 0) = true := bne_iff_ne.2 z1
      have kd1 : decide (c1 = 0) = false := decide_eq_false z1
      have ke1 : (c1 == 0) = false := beq_eq_false_iff_ne.2 z1
      clear f1 j1 z1
      by_cases z2 : c2 = 0
      · subst z2
        have q2 := f2 rfl
        have v2 := j2 rfl
        subst q2
        subst v2
        clear f2 j2
        by_cases z3 : c3 = 0
        · subst z3
          have q3 := f3 rfl
          have v3 := j3 rfl
          subst q3
          subst v3
          clear f3 j3
          go_enter Tryd.func6, Tryd.ntmps6
          go_upto_region 1 with (fail)
          obtain ⟨W0, B, P, hW, hC, hBq, hb, hc, g0, -, -, -⟩ := two_new w (cz 15 b) 24 (cz 22 p) 31
          rw [hW, hC, hBq]
          have HB := Lib.hid hb
          have HP := Lib.hid hc
          clear hW hC hBq hb hc
          go_upto_region 6 with (first | ((with_reducible show wpList _ _ _ (⟨_, .load 24 (.tmp 3), _, _, _, none⟩ :: _) _ _); refine wpList_load_row rfl 24 (.tmp 3) rfl B rfl 24 _ (0, 0) _ HB.out.raw Tryd.underlying24 rfl infoB ?_) | ((with_reducible show wpList _ _ _ (⟨_, .load 31 (.tmp 4), _, _, _, none⟩ :: _) _ _); refine wpList_load_row rfl 31 (.tmp 4) rfl P rfl 31 _ (0, 0) _ HP.out.raw Tryd.underlying31 rfl infoP ?_) | (go_at_call 15; with_reducible refine (bMar_at b p s n 0 _ (Lib.hid (tab_own HT.out g0)) (Lib.hid (HBT.out.own g0)) (Lib.hid (HS.out.own g0)) HG1).mono ?_; rintro r w1 ⟨rfl, hg⟩; replace g0 := g0.trans hg; replace HB := Lib.hid (HB.out.own hg); replace HP := Lib.hid (HP.out.own hg); have b9 := blk_num HB.out (i := 9) (by omega); clear hg))
          clear b9
          (first | go_frame | skip)
          have hbs16 : RegD.OkB [(RegD.NewB.mk 9 3 6 (cz 15 nul) (cz 15 b) 24), (RegD.NewB.mk 10 4 7 (cz 15 nul) (cz 15 b) 24), (RegD.NewB.mk 11 5 8 (cz 15 nul) (cz 15 b) 24)] [9, 10, 11] 9 := by
            refine ⟨fun k => ⟨fun hk => ?_, fun hk => ?_⟩, fun q hq r hr h => ?_, fun q hq r hr => ?_, fun q hq => ?_⟩
            · simp only [List.mem_cons, List.not_mem_nil, or_false] at hk
              rcases hk with rfl | rfl | rfl
              · exact ⟨_, (.head _), rfl⟩
              · exact ⟨_, (.tail _ (.head _)), rfl⟩
              · exact ⟨_, (.tail _ (.tail _ (.head _))), rfl⟩
            · obtain ⟨q, hq, rfl⟩ := hk
              simp only [List.mem_cons, List.not_mem_nil, or_false] at hq
              rcases hq with rfl | rfl | rfl <;> simp
            · simp only [List.mem_cons, List.not_mem_nil, or_false] at hq
              simp only [List.mem_cons, List.not_mem_nil, or_false] at hr
              rcases hq with rfl | rfl | rfl <;> rcases hr with rfl | rfl | rfl <;> first | rfl | exact absurd h (by simp)
            · simp only [List.mem_cons, List.not_mem_nil, or_false] at hq
              simp only [List.mem_cons, List.not_mem_nil, or_false] at hr
              rcases hq with rfl | rfl | rfl <;> rcases hr with rfl | rfl | rfl <;> exact ⟨by simp, by simp⟩
            · simp only [List.mem_cons, List.not_mem_nil, or_false] at hq
              rcases hq with rfl | rfl | rfl <;> exact ⟨by simp, by simp⟩
          refine RegD.region_dutyB [35, 36, 37, 9, 10, 11] [(RegD.NewB.mk 9 3 6 (cz 15 nul) (cz 15 b) 24), (RegD.NewB.mk 10 4 7 (cz 15 nul) (cz 15 b) 24), (RegD.NewB.mk 11 5 8 (cz 15 nul) (cz 15 b) 24)] [9, 10, 11] (RegI.upd (RegI.upd (RegI.upd (fun _ => undef) 35 (.agg (cz 15 b))) 36 (.agg (cz 15 b))) 37 (.agg (cz 15 b))) (by kernel_rfl) (by kernel_rfl) hbs16 (by intro d hd; simp at hd; simp; omega) ?_
          simp only [RegD.FF, RegI.FX, RegI.upd, List.foldl_cons, List.foldl_nil, List.mem_cons, List.not_mem_nil, if_true, if_false, Nat.reduceEqDiff, or_false, or_true]
          simp only [List.setIfInBounds_toArray, List.set_cons_succ, List.set_cons_zero]
          refine And.intro ?hs16 ?he16
          case hs16 =>
            refine And.intro ?s16_0 (And.intro ?s16_1 (And.intro ?s16_2 (And.intro ?s16_3 (And.intro ?s16_4 (And.intro ?s16_5 (And.intro ?s16_6 (And.intro ?s16_7 (And.intro ?s16_8 (trivial)))))))))
            case s16_0 =>
              refine RegD.stepB_det (by intro q hq; simp only [List.mem_cons, List.not_mem_nil, or_false] at hq; rcases hq with rfl | rfl | rfl <;> exact ⟨by simp, by simp, by simp⟩) (fun u w1 hO => ?_)
              have HB9 := Lib.hid (HB.out.own hO)
              go_wp2_with ((with_reducible show wpList _ _ _ (⟨_, .load 24 (.tmp 3), _, _, _, none⟩ :: _) _ _); refine wpList_load_row rfl 24 (.tmp 3) rfl B rfl 24 _ (0, 0) _ HB9.out.raw Tryd.underlying24 rfl infoB ?_)
              exact ⟨rfl, rfl, rfl, PairW.Own.refl _⟩
            case s16_1 =>
              refine RegD.stepB_det (by intro q hq; simp only [List.mem_cons, List.not_mem_nil, or_false] at hq; rcases hq with rfl | rfl | rfl <;> exact ⟨by simp, by simp, by simp⟩) (fun u w1 hO => ?_)
              have HB9 := Lib.hid (HB.out.own hO)
              go_wp2_with ((with_reducible show wpList _ _ _ (⟨_, .load 24 (.tmp 3), _, _, _, none⟩ :: _) _ _); refine wpList_load_row rfl 24 (.tmp 3) rfl B rfl 24 _ (0, 0) _ HB9.out.raw Tryd.underlying24 rfl infoB ?_)
              exact ⟨rfl, rfl, rfl, PairW.Own.refl _⟩
            case s16_2 =>
              refine RegD.stepB_det (by intro q hq; simp only [List.mem_cons, List.not_mem_nil, or_false] at hq; rcases hq with rfl | rfl | rfl <;> exact ⟨by simp, by simp, by simp⟩) (fun u w1 hO => ?_)
              have HB9 := Lib.hid (HB.out.own hO)
              go_wp2_with ((with_reducible show wpList _ _ _ (⟨_, .load 24 (.tmp 3), _, _, _, none⟩ :: _) _ _); refine wpList_load_row rfl 24 (.tmp 3) rfl B rfl 24 _ (0, 0) _ HB9.out.raw Tryd.underlying24 rfl infoB ?_)
              exact ⟨rfl, rfl, rfl, PairW.Own.refl _⟩
            case s16_3 =>
              refine RegD.stepB_new (RegD.NewB.mk 9 3 6 (cz 15 nul) (cz 15 b) 24) (.head _) rfl rfl (fun u w1 hO => ?_)
              go_wp2
              exact ⟨rfl, rfl, rfl, rfl⟩
            case s16_4 =>
              refine RegD.stepB_new (RegD.NewB.mk 10 4 7 (cz 15 nul) (cz 15 b) 24) (.tail _ (.head _)) rfl rfl (fun u w1 hO => ?_)
              go_wp2
              exact ⟨rfl, rfl, rfl, rfl⟩
            case s16_5 =>
              refine RegD.stepB_new (RegD.NewB.mk 11 5 8 (cz 15 nul) (cz 15 b) 24) (.tail _ (.tail _ (.head _))) rfl rfl (fun u w1 hO => ?_)
              go_wp2
              exact ⟨rfl, rfl, rfl, rfl⟩
            case s16_6 =>
              refine RegD.stepB_store (RegD.NewB.mk 9 3 6 (cz 15 nul) (cz 15 b) 24) (.head _) rfl rfl (by kernel_rfl) (fun u w1 N hO hu hN => ?_)
              replace hu : u 9 = .pointer (some ⟨N, 0, none⟩) := hu
              have HN := Lib.hid (show Blk w1 N (cz 15 nul) 24 from hN)
              simp only [hu]
              clear hN
              go_wp2_with ((with_reducible show wpList _ _ _ (⟨_, .store 24 (.tmp 9) (.tmp 35), _, _, _, none⟩ :: _) _ _); refine wpList_store_row rfl 24 (.tmp 9) (.tmp 35) rfl N (cz 15 (b)) rfl rfl 24 _ HN.out.raw infoB rfl (cz_one _ _) ?_)
              exact ⟨rfl, rfl, rfl⟩
            case s16_7 =>
              refine RegD.stepB_store (RegD.NewB.mk 10 4 7 (cz 15 nul) (cz 15 b) 24) (.tail _ (.head _)) rfl rfl (by kernel_rfl) (fun u w1 N hO hu hN => ?_)
              replace hu : u 10 = .pointer (some ⟨N, 0, none⟩) := hu
              have HN := Lib.hid (show Blk w1 N (cz 15 nul) 24 from hN)
              simp only [hu]
              clear hN
              go_wp2_with ((with_reducible show wpList _ _ _ (⟨_, .store 24 (.tmp 10) (.tmp 36), _, _, _, none⟩ :: _) _ _); refine wpList_store_row rfl 24 (.tmp 10) (.tmp 36) rfl N (cz 15 (b)) rfl rfl 24 _ HN.out.raw infoB rfl (cz_one _ _) ?_)
              exact ⟨rfl, rfl, rfl⟩
            case s16_8 =>
              refine RegD.stepB_store (RegD.NewB.mk 11 5 8 (cz 15 nul) (cz 15 b) 24) (.tail _ (.tail _ (.head _))) rfl rfl (by kernel_rfl) (fun u w1 N hO hu hN => ?_)
              replace hu : u 11 = .pointer (some ⟨N, 0, none⟩) := hu
              have HN := Lib.hid (show Blk w1 N (cz 15 nul) 24 from hN)
              simp only [hu]
              clear hN
              go_wp2_with ((with_reducible show wpList _ _ _ (⟨_, .store 24 (.tmp 11) (.tmp 37), _, _, _, none⟩ :: _) _ _); refine wpList_store_row rfl 24 (.tmp 11) (.tmp 37) rfl N (cz 15 (b)) rfl rfl 24 _ HN.out.raw infoB rfl (cz_one _ _) ?_)
              exact ⟨rfl, rfl, rfl⟩
          intro u w2 hO hB9
          obtain ⟨U, huU, h0U, hnU, hxU⟩ := hB9 (RegD.NewB.mk 9 3 6 (cz 15 nul) (cz 15 b) 24) (.head _)
          replace huU : u 9 = .pointer (some ⟨U, 0, none⟩) := huU
          obtain ⟨V, huV, h0V, hnV, hxV⟩ := hB9 (RegD.NewB.mk 10 4 7 (cz 15 nul) (cz 15 b) 24) (.tail _ (.head _))
          replace huV : u 10 = .pointer (some ⟨V, 0, none⟩) := huV
          obtain ⟨Y, huY, h0Y, hnY, hxY⟩ := hB9 (RegD.NewB.mk 11 5 8 (cz 15 nul) (cz 15 b) 24) (.tail _ (.tail _ (.head _)))
          replace huY : u 11 = .pointer (some ⟨Y, 0, none⟩) := huY
          have hneUV : U ≠ V := fun e => hxV (RegD.NewB.mk 9 3 6 (cz 15 nul) (cz 15 b) 24) (.head _) (by simp) (show u 9 = .pointer (some ⟨V, 0, none⟩) from by rw [huU, e])
          have hneUY : U ≠ Y := fun e => hxY (RegD.NewB.mk 9 3 6 (cz 15 nul) (cz 15 b) 24) (.head _) (by simp) (show u 9 = .pointer (some ⟨Y, 0, none⟩) from by rw [huU, e])
          have hneVU : V ≠ U := fun e => hxU (RegD.NewB.mk 10 4 7 (cz 15 nul) (cz 15 b) 24) (.tail _ (.head _)) (by simp) (show u 10 = .pointer (some ⟨U, 0, none⟩) from by rw [huV, e])
          have hneVY : V ≠ Y := fun e => hxY (RegD.NewB.mk 10 4 7 (cz 15 nul) (cz 15 b) 24) (.tail _ (.head _)) (by simp) (show u 10 = .pointer (some ⟨Y, 0, none⟩) from by rw [huV, e])
          have hneYU : Y ≠ U := fun e => hxU (RegD.NewB.mk 11 5 8 (cz 15 nul) (cz 15 b) 24) (.tail _ (.tail _ (.head _))) (by simp) (show u 11 = .pointer (some ⟨U, 0, none⟩) from by rw [huY, e])
          have hneYV : Y ≠ V := fun e => hxV (RegD.NewB.mk 11 5 8 (cz 15 nul) (cz 15 b) 24) (.tail _ (.tail _ (.head _))) (by simp) (show u 11 = .pointer (some ⟨V, 0, none⟩) from by rw [huY, e])
          simp only [huU, huV, huY]
          have hBU := Nat.ne_of_lt (Nat.lt_of_lt_of_le HB.out.lt h0U)
          have hPU := Nat.ne_of_lt (Nat.lt_of_lt_of_le HP.out.lt h0U)
          have hwU : w.heap.size ≤ U := Nat.le_trans g0.size h0U
          have hBV := Nat.ne_of_lt (Nat.lt_of_lt_of_le HB.out.lt h0V)
          have hPV := Nat.ne_of_lt (Nat.lt_of_lt_of_le HP.out.lt h0V)
          have hwV : w.heap.size ≤ V := Nat.le_trans g0.size h0V
          have hBY := Nat.ne_of_lt (Nat.lt_of_lt_of_le HB.out.lt h0Y)
          have hPY := Nat.ne_of_lt (Nat.lt_of_lt_of_le HP.out.lt h0Y)
          have hwY : w.heap.size ≤ Y := Nat.le_trans g0.size h0Y
          have HU := Lib.hid (show Blk w2 U (cz 15 b) 24 from hnU)
          have HV := Lib.hid (show Blk w2 V (cz 15 b) 24 from hnV)
          have HY := Lib.hid (show Blk w2 Y (cz 15 b) 24 from hnY)
          replace g0 := g0.trans hO
          replace HB := Lib.hid (HB.out.own hO)
          replace HP := Lib.hid (HP.out.own hO)
          clear hO hB9 hbs16 huU h0U hnU hxU huV h0V hnV hxV huY h0Y hnY hxY
          have b9 := blk_num HB.out (i := 9) (by omega)
          have kc := blk_num HU.out (i := 9) (by omega)
          have fc := HU.out.frozen 9
          go_upto_region 8 with (fail)
          have hd : Blk (w2.setCell ⟨U, 9, none⟩ (.int .i64 r1)) U (cz 15 (ups b 9 r1)) 24 := blk_ups HU.out (by omega) r1
          rw [HU1.out] at hd
          have hb := HB.out.far (p := ⟨U, 9, none⟩) hBU (.int .i64 r1)
          have hp := HP.out.far (p := ⟨U, 9, none⟩) hPU (.int .i64 r1)
          have ho := HV.out.far (p := ⟨U, 9, none⟩) hneVU (.int .i64 r1)
          have ho2 := HY.out.far (p := ⟨U, 9, none⟩) hneYU (.int .i64 r1)
          replace g0 := g0.setCell (p := ⟨U, 9, none⟩) hwU (.int .i64 r1)
          clear HB HP HU HV HY kc fc b9
          generalize w2.setCell ⟨U, 9, none⟩ (.int .i64 r1) = w3 at *
          have HB := Lib.hid hb
          have HP := Lib.hid hp
          have HU := Lib.hid hd
          have HV := Lib.hid ho
          have HY := Lib.hid ho2
          clear hb hp hd ho ho2
          have b9 := blk_num HB.out (i := 9) (by omega)
          have kc := blk_num HV.out (i := 9) (by omega)
          have fc := HV.out.frozen 9
          go_upto_region 9 with (fail)
          have hd : Blk (w3.setCell ⟨V, 9, none⟩ (.int .i64 r2)) V (cz 15 (ups b 9 r2)) 24 := blk_ups HV.out (by omega) r2
          rw [HU2.out] at hd
          have hb := HB.out.far (p := ⟨V, 9, none⟩) hBV (.int .i64 r2)
          have hp := HP.out.far (p := ⟨V, 9, none⟩) hPV (.int .i64 r2)
          have ho := HU.out.far (p := ⟨V, 9, none⟩) hneUV (.int .i64 r2)
          have ho2 := HY.out.far (p := ⟨V, 9, none⟩) hneYV (.int .i64 r2)
          replace g0 := g0.setCell (p := ⟨V, 9, none⟩) hwV (.int .i64 r2)
          clear HB HP HU HV HY kc fc b9
          generalize w3.setCell ⟨V, 9, none⟩ (.int .i64 r2) = w4 at *
          have HB := Lib.hid hb
          have HP := Lib.hid hp
          have HV := Lib.hid hd
          have HU := Lib.hid ho
          have HY := Lib.hid ho2
          clear hb hp hd ho ho2
          have b9 := blk_num HB.out (i := 9) (by omega)
          have kc := blk_num HY.out (i := 9) (by omega)
          have fc := HY.out.frozen 9
          go_upto_region 10 with (fail)
          have hd : Blk (w4.setCell ⟨Y, 9, none⟩ (.int .i64 r3)) Y (cz 15 (ups b 9 r3)) 24 := blk_ups HY.out (by omega) r3
          rw [HU3.out] at hd
          have hb := HB.out.far (p := ⟨Y, 9, none⟩) hBY (.int .i64 r3)
          have hp := HP.out.far (p := ⟨Y, 9, none⟩) hPY (.int .i64 r3)
          have ho := HU.out.far (p := ⟨Y, 9, none⟩) hneUY (.int .i64 r3)
          have ho2 := HV.out.far (p := ⟨Y, 9, none⟩) hneVY (.int .i64 r3)
          replace g0 := g0.setCell (p := ⟨Y, 9, none⟩) hwY (.int .i64 r3)
          clear HB HP HU HV HY kc fc b9
          generalize w4.setCell ⟨Y, 9, none⟩ (.int .i64 r3) = w5 at *
          have HB := Lib.hid hb
          have HP := Lib.hid hp
          have HY := Lib.hid hd
          have HU := Lib.hid ho
          have HV := Lib.hid ho2
          clear hb hp hd ho ho2
          clear hneUV hneUY hneVU hneVY hneYU hneYV hBU hBV hBY hPU hPV hPY hwU hwV hwY HB HU1 HU2 HU3 i1 i2 i3
          (first | go_frame | skip)
          go_wp2_with (first | ((with_reducible show wpList _ _ _ (⟨_, .load 31 (.tmp 4), _, _, _, none⟩ :: _) _ _); refine wpList_load_row rfl 31 (.tmp 4) rfl P rfl 31 _ (0, 0) _ HP.out.raw Tryd.underlying31 rfl infoP ?_) | ((with_reducible show wpList _ _ _ (⟨_, .load 24 (.tmp 9), _, _, _, none⟩ :: _) _ _); refine wpList_load_row rfl 24 (.tmp 9) rfl U rfl 24 _ (0, 0) _ HU.out.raw Tryd.underlying24 rfl infoB ?_) | (go_at_call 14; with_reducible refine (bSta_at g1 p s t1 e1 _ (Lib.hid (tab_own HT.out g0)) (Lib.hid (HBT.out.own g0)) (Lib.hid (HS.out.own g0)) HS1).mono ?_; rintro r w8 ⟨rfl, hg⟩; replace g0 := g0.trans hg; replace HP := Lib.hid (HP.out.own hg); replace HU := Lib.hid (HU.out.own hg); replace HV := Lib.hid (HV.out.own hg); replace HY := Lib.hid (HY.out.own hg); clear hg) | (go_at_call 17; with_reducible refine (jbc_at g1 c1 _ (Lib.hid (HBT.out.own g0)) HC1).mono ?_; rintro r w9 ⟨rfl, hg⟩; replace g0 := g0.trans hg; replace HP := Lib.hid (HP.out.own hg); replace HU := Lib.hid (HU.out.own hg); replace HV := Lib.hid (HV.out.own hg); replace HY := Lib.hid (HY.out.own hg); clear hg) | ((with_reducible show wpList _ _ _ (⟨_, .load 24 (.tmp 10), _, _, _, none⟩ :: _) _ _); refine wpList_load_row rfl 24 (.tmp 10) rfl V rfl 24 _ (0, 0) _ HV.out.raw Tryd.underlying24 rfl infoB ?_) | (go_at_call 14; with_reducible refine (bSta_at g2 p s true 0 _ (Lib.hid (tab_own HT.out g0)) (Lib.hid (HBT.out.own g0)) (Lib.hid (HS.out.own g0)) HS2).mono ?_; rintro r w8 ⟨rfl, hg⟩; replace g0 := g0.trans hg; replace HP := Lib.hid (HP.out.own hg); replace HU := Lib.hid (HU.out.own hg); replace HV := Lib.hid (HV.out.own hg); replace HY := Lib.hid (HY.out.own hg); clear hg) | (go_at_call 17; with_reducible refine (jbc_at g2 0 _ (Lib.hid (HBT.out.own g0)) HC2).mono ?_; rintro r w9 ⟨rfl, hg⟩; replace g0 := g0.trans hg; replace HP := Lib.hid (HP.out.own hg); replace HU := Lib.hid (HU.out.own hg); replace HV := Lib.hid (HV.out.own hg); replace HY := Lib.hid (HY.out.own hg); clear hg) | ((with_reducible show wpList _ _ _ (⟨_, .load 24 (.tmp 11), _, _, _, none⟩ :: _) _ _); refine wpList_load_row rfl 24 (.tmp 11) rfl Y rfl 24 _ (0, 0) _ HY.out.raw Tryd.underlying24 rfl infoB ?_) | (go_at_call 14; with_reducible refine (bSta_at g3 p s false 0 _ (Lib.hid (tab_own HT.out g0)) (Lib.hid (HBT.out.own g0)) (Lib.hid (HS.out.own g0)) HS3).mono ?_; rintro r w8 ⟨rfl, hg⟩; replace g0 := g0.trans hg; replace HP := Lib.hid (HP.out.own hg); replace HU := Lib.hid (HU.out.own hg); replace HV := Lib.hid (HV.out.own hg); replace HY := Lib.hid (HY.out.own hg); clear hg) | (go_at_call 17; with_reducible refine (jbc_at g3 0 _ (Lib.hid (HBT.out.own g0)) HC3).mono ?_; rintro r w9 ⟨rfl, hg⟩; replace g0 := g0.trans hg; replace HP := Lib.hid (HP.out.own hg); replace HU := Lib.hid (HU.out.own hg); replace HV := Lib.hid (HV.out.own hg); replace HY := Lib.hid (HY.out.own hg); clear hg) | (go_at_call 10; with_reducible refine (awake_at _ (Lib.hid (tab_own HT.out g0)) (Lib.hid (HBT.out.own g0)) (Lib.hid (HS.out.own g0))).mono ?_; rintro r w99 ⟨rfl, hg⟩; replace g0 := g0.trans hg; replace HP := Lib.hid (HP.out.own hg); replace HU := Lib.hid (HU.out.own hg); replace HV := Lib.hid (HV.out.own hg); replace HY := Lib.hid (HY.out.own hg); clear hg))
          go_ret
          exact ⟨by first | rfl | (exact ret_bool (by simp)), g0⟩
        · have kc3 : (c3 != 0) = true := bne_iff_ne.2 z3
          have kd3 : decide (c3 = 0) = false := decide_eq_false z3
          have ke3 : (c3 == 0) = false := beq_eq_false_iff_ne.2 z3
          clear f3 j3 z3
          go_enter Tryd.func6, Tryd.ntmps6
          go_upto_region 1 with (fail)
          obtain ⟨W0, B, P, hW, hC, hBq, hb, hc, g0, -, -, -⟩ := two_new w (cz 15 b) 24 (cz 22 p) 31
          rw [hW, hC, hBq]
          have HB := Lib.hid hb
          have HP := Lib.hid hc
          clear hW hC hBq hb hc
          go_upto_region 6 with (first | ((with_reducible show wpList _ _ _ (⟨_, .load 24 (.tmp 3), _, _, _, none⟩ :: _) _ _); refine wpList_load_row rfl 24 (.tmp 3) rfl B rfl 24 _ (0, 0) _ HB.out.raw Tryd.underlying24 rfl infoB ?_) | ((with_reducible show wpList _ _ _ (⟨_, .load 31 (.tmp 4), _, _, _, none⟩ :: _) _ _); refine wpList_load_row rfl 31 (.tmp 4) rfl P rfl 31 _ (0, 0) _ HP.out.raw Tryd.underlying31 rfl infoP ?_) | (go_at_call 15; with_reducible refine (bMar_at b p s n 0 _ (Lib.hid (tab_own HT.out g0)) (Lib.hid (HBT.out.own g0)) (Lib.hid (HS.out.own g0)) HG1).mono ?_; rintro r w1 ⟨rfl, hg⟩; replace g0 := g0.trans hg; replace HB := Lib.hid (HB.out.own hg); replace HP := Lib.hid (HP.out.own hg); have b9 := blk_num HB.out (i := 9) (by omega); clear hg))
          clear b9
          (first | go_frame | skip)
          have hbs17 : RegD.OkB [(RegD.NewB.mk 9 3 6 (cz 15 nul) (cz 15 b) 24), (RegD.NewB.mk 10 4 7 (cz 15 nul) (cz 15 b) 24), (RegD.NewB.mk 11 5 8 (cz 15 nul) (cz 15 b) 24)] [9, 10, 11] 9 := by
            refine ⟨fun k => ⟨fun hk => ?_, fun hk => ?_⟩, fun q hq r hr h => ?_, fun q hq r hr => ?_, fun q hq => ?_⟩
            · simp only [List.mem_cons, List.not_mem_nil, or_false] at hk
              rcases hk with rfl | rfl | rfl
              · exact ⟨_, (.head _), rfl⟩
              · exact ⟨_, (.tail _ (.head _)), rfl⟩
              · exact ⟨_, (.tail _ (.tail _ (.head _))), rfl⟩
            · obtain ⟨q, hq, rfl⟩ := hk
              simp only [List.mem_cons, List.not_mem_nil, or_false] at hq
              rcases hq with rfl | rfl | rfl <;> simp
            · simp only [List.mem_cons, List.not_mem_nil, or_false] at hq
              simp only [List.mem_cons, List.not_mem_nil, or_false] at hr
              rcases hq with rfl | rfl | rfl <;> rcases hr with rfl | rfl | rfl <;> first | rfl | exact absurd h (by simp)
            · simp only [List.mem_cons, List.not_mem_nil, or_false] at hq
              simp only [List.mem_cons, List.not_mem_nil, or_false] at hr
              rcases hq with rfl | rfl | rfl <;> rcases hr with rfl | rfl | rfl <;> exact ⟨by simp, by simp⟩
            · simp only [List.mem_cons, List.not_mem_nil, or_false] at hq
              rcases hq with rfl | rfl | rfl <;> exact ⟨by simp, by simp⟩
          refine RegD.region_dutyB [35, 36, 37, 9, 10, 11] [(RegD.NewB.mk 9 3 6 (cz 15 nul) (cz 15 b) 24), (RegD.NewB.mk 10 4 7 (cz 15 nul) (cz 15 b) 24), (RegD.NewB.mk 11 5 8 (cz 15 nul) (cz 15 b) 24)] [9, 10, 11] (RegI.upd (RegI.upd (RegI.upd (fun _ => undef) 35 (.agg (cz 15 b))) 36 (.agg (cz 15 b))) 37 (.agg (cz 15 b))) (by kernel_rfl) (by kernel_rfl) hbs17 (by intro d hd; simp at hd; simp; omega) ?_
          simp only [RegD.FF, RegI.FX, RegI.upd, List.foldl_cons, List.foldl_nil, List.mem_cons, List.not_mem_nil, if_true, if_false, Nat.reduceEqDiff, or_false, or_true]
          simp only [List.setIfInBounds_toArray, List.set_cons_succ, List.set_cons_zero]
          refine And.intro ?hs17 ?he17
          case hs17 =>
            refine And.intro ?s17_0 (And.intro ?s17_1 (And.intro ?s17_2 (And.intro ?s17_3 (And.intro ?s17_4 (And.intro ?s17_5 (And.intro ?s17_6 (And.intro ?s17_7 (And.intro ?s17_8 (trivial)))))))))
            case s17_0 =>
              refine RegD.stepB_det (by intro q hq; simp only [List.mem_cons, List.not_mem_nil, or_false] at hq; rcases hq with rfl | rfl | rfl <;> exact ⟨by simp, by simp, by simp⟩) (fun u w1 hO => ?_)
              have HB9 := Lib.hid (HB.out.own hO)
              go_wp2_with ((with_reducible show wpList _ _ _ (⟨_, .load 24 (.tmp 3), _, _, _, none⟩ :: _) _ _); refine wpList_load_row rfl 24 (.tmp 3) rfl B rfl 24 _ (0, 0) _ HB9.out.raw Tryd.underlying24 rfl infoB ?_)
              exact ⟨rfl, rfl, rfl, PairW.Own.refl _⟩
            case s17_1 =>
              refine RegD.stepB_det (by intro q hq; simp only [List.mem_cons, List.not_mem_nil, or_false] at hq; rcases hq with rfl | rfl | rfl <;> exact ⟨by simp, by simp, by simp⟩) (fun u w1 hO => ?_)
              have HB9 := Lib.hid (HB.out.own hO)
              go_wp2_with ((with_reducible show wpList _ _ _ (⟨_, .load 24 (.tmp 3), _, _, _, none⟩ :: _) _ _); refine wpList_load_row rfl 24 (.tmp 3) rfl B rfl 24 _ (0, 0) _ HB9.out.raw Tryd.underlying24 rfl infoB ?_)
              exact ⟨rfl, rfl, rfl, PairW.Own.refl _⟩
            case s17_2 =>
              refine RegD.stepB_det (by intro q hq; simp only [List.mem_cons, List.not_mem_nil, or_false] at hq; rcases hq with rfl | rfl | rfl <;> exact ⟨by simp, by simp, by simp⟩) (fun u w1 hO => ?_)
              have HB9 := Lib.hid (HB.out.own hO)
              go_wp2_with ((with_reducible show wpList _ _ _ (⟨_, .load 24 (.tmp 3), _, _, _, none⟩ :: _) _ _); refine wpList_load_row rfl 24 (.tmp 3) rfl B rfl 24 _ (0, 0) _ HB9.out.raw Tryd.underlying24 rfl infoB ?_)
              exact ⟨rfl, rfl, rfl, PairW.Own.refl _⟩
            case s17_3 =>
              refine RegD.stepB_new (RegD.NewB.mk 9 3 6 (cz 15 nul) (cz 15 b) 24) (.head _) rfl rfl (fun u w1 hO => ?_)
              go_wp2
              exact ⟨rfl, rfl, rfl, rfl⟩
            case s17_4 =>
              refine RegD.stepB_new (RegD.NewB.mk 10 4 7 (cz 15 nul) (cz 15 b) 24) (.tail _ (.head _)) rfl rfl (fun u w1 hO => ?_)
              go_wp2
              exact ⟨rfl, rfl, rfl, rfl⟩
            case s17_5 =>
              refine RegD.stepB_new (RegD.NewB.mk 11 5 8 (cz 15 nul) (cz 15 b) 24) (.tail _ (.tail _ (.head _))) rfl rfl (fun u w1 hO => ?_)
              go_wp2
              exact ⟨rfl, rfl, rfl, rfl⟩
            case s17_6 =>
              refine RegD.stepB_store (RegD.NewB.mk 9 3 6 (cz 15 nul) (cz 15 b) 24) (.head _) rfl rfl (by kernel_rfl) (fun u w1 N hO hu hN => ?_)
              replace hu : u 9 = .pointer (some ⟨N, 0, none⟩) := hu
              have HN := Lib.hid (show Blk w1 N (cz 15 nul) 24 from hN)
              simp only [hu]
              clear hN
              go_wp2_with ((with_reducible show wpList _ _ _ (⟨_, .store 24 (.tmp 9) (.tmp 35), _, _, _, none⟩ :: _) _ _); refine wpList_store_row rfl 24 (.tmp 9) (.tmp 35) rfl N (cz 15 (b)) rfl rfl 24 _ HN.out.raw infoB rfl (cz_one _ _) ?_)
              exact ⟨rfl, rfl, rfl⟩
            case s17_7 =>
              refine RegD.stepB_store (RegD.NewB.mk 10 4 7 (cz 15 nul) (cz 15 b) 24) (.tail _ (.head _)) rfl rfl (by kernel_rfl) (fun u w1 N hO hu hN => ?_)
              replace hu : u 10 = .pointer (some ⟨N, 0, none⟩) := hu
              have HN := Lib.hid (show Blk w1 N (cz 15 nul) 24 from hN)
              simp only [hu]
              clear hN
              go_wp2_with ((with_reducible show wpList _ _ _ (⟨_, .store 24 (.tmp 10) (.tmp 36), _, _, _, none⟩ :: _) _ _); refine wpList_store_row rfl 24 (.tmp 10) (.tmp 36) rfl N (cz 15 (b)) rfl rfl 24 _ HN.out.raw infoB rfl (cz_one _ _) ?_)
              exact ⟨rfl, rfl, rfl⟩
            case s17_8 =>
              refine RegD.stepB_store (RegD.NewB.mk 11 5 8 (cz 15 nul) (cz 15 b) 24) (.tail _ (.tail _ (.head _))) rfl rfl (by kernel_rfl) (fun u w1 N hO hu hN => ?_)
              replace hu : u 11 = .pointer (some ⟨N, 0, none⟩) := hu
              have HN := Lib.hid (show Blk w1 N (cz 15 nul) 24 from hN)
              simp only [hu]
              clear hN
              go_wp2_with ((with_reducible show wpList _ _ _ (⟨_, .store 24 (.tmp 11) (.tmp 37), _, _, _, none⟩ :: _) _ _); refine wpList_store_row rfl 24 (.tmp 11) (.tmp 37) rfl N (cz 15 (b)) rfl rfl 24 _ HN.out.raw infoB rfl (cz_one _ _) ?_)
              exact ⟨rfl, rfl, rfl⟩
          intro u w2 hO hB9
          obtain ⟨U, huU, h0U, hnU, hxU⟩ := hB9 (RegD.NewB.mk 9 3 6 (cz 15 nul) (cz 15 b) 24) (.head _)
          replace huU : u 9 = .pointer (some ⟨U, 0, none⟩) := huU
          obtain ⟨V, huV, h0V, hnV, hxV⟩ := hB9 (RegD.NewB.mk 10 4 7 (cz 15 nul) (cz 15 b) 24) (.tail _ (.head _))
          replace huV : u 10 = .pointer (some ⟨V, 0, none⟩) := huV
          obtain ⟨Y, huY, h0Y, hnY, hxY⟩ := hB9 (RegD.NewB.mk 11 5 8 (cz 15 nul) (cz 15 b) 24) (.tail _ (.tail _ (.head _)))
          replace huY : u 11 = .pointer (some ⟨Y, 0, none⟩) := huY
          have hneUV : U ≠ V := fun e => hxV (RegD.NewB.mk 9 3 6 (cz 15 nul) (cz 15 b) 24) (.head _) (by simp) (show u 9 = .pointer (some ⟨V, 0, none⟩) from by rw [huU, e])
          have hneUY : U ≠ Y := fun e => hxY (RegD.NewB.mk 9 3 6 (cz 15 nul) (cz 15 b) 24) (.head _) (by simp) (show u 9 = .pointer (some ⟨Y, 0, none⟩) from by rw [huU, e])
          have hneVU : V ≠ U := fun e => hxU (RegD.NewB.mk 10 4 7 (cz 15 nul) (cz 15 b) 24) (.tail _ (.head _)) (by simp) (show u 10 = .pointer (some ⟨U, 0, none⟩) from by rw [huV, e])
          have hneVY : V ≠ Y := fun e => hxY (RegD.NewB.mk 10 4 7 (cz 15 nul) (cz 15 b) 24) (.tail _ (.head _)) (by simp) (show u 10 = .pointer (some ⟨Y, 0, none⟩) from by rw [huV, e])
          have hneYU : Y ≠ U := fun e => hxU (RegD.NewB.mk 11 5 8 (cz 15 nul) (cz 15 b) 24) (.tail _ (.tail _ (.head _))) (by simp) (show u 11 = .pointer (some ⟨U, 0, none⟩) from by rw [huY, e])
          have hneYV : Y ≠ V := fun e => hxV (RegD.NewB.mk 11 5 8 (cz 15 nul) (cz 15 b) 24) (.tail _ (.tail _ (.head _))) (by simp) (show u 11 = .pointer (some ⟨V, 0, none⟩) from by rw [huY, e])
          simp only [huU, huV, huY]
          have hBU := Nat.ne_of_lt (Nat.lt_of_lt_of_le HB.out.lt h0U)
          have hPU := Nat.ne_of_lt (Nat.lt_of_lt_of_le HP.out.lt h0U)
          have hwU : w.heap.size ≤ U := Nat.le_trans g0.size h0U
          have hBV := Nat.ne_of_lt (Nat.lt_of_lt_of_le HB.out.lt h0V)
          have hPV := Nat.ne_of_lt (Nat.lt_of_lt_of_le HP.out.lt h0V)
          have hwV : w.heap.size ≤ V := Nat.le_trans g0.size h0V
          have hBY := Nat.ne_of_lt (Nat.lt_of_lt_of_le HB.out.lt h0Y)
          have hPY := Nat.ne_of_lt (Nat.lt_of_lt_of_le HP.out.lt h0Y)
          have hwY : w.heap.size ≤ Y := Nat.le_trans g0.size h0Y
          have HU := Lib.hid (show Blk w2 U (cz 15 b) 24 from hnU)
          have HV := Lib.hid (show Blk w2 V (cz 15 b) 24 from hnV)
          have HY := Lib.hid (show Blk w2 Y (cz 15 b) 24 from hnY)
          replace g0 := g0.trans hO
          replace HB := Lib.hid (HB.out.own hO)
          replace HP := Lib.hid (HP.out.own hO)
          clear hO hB9 hbs17 huU h0U hnU hxU huV h0V hnV hxV huY h0Y hnY hxY
          have b9 := blk_num HB.out (i := 9) (by omega)
          have kc := blk_num HU.out (i := 9) (by omega)
          have fc := HU.out.frozen 9
          go_upto_region 8 with (fail)
          have hd : Blk (w2.setCell ⟨U, 9, none⟩ (.int .i64 r1)) U (cz 15 (ups b 9 r1)) 24 := blk_ups HU.out (by omega) r1
          rw [HU1.out] at hd
          have hb := HB.out.far (p := ⟨U, 9, none⟩) hBU (.int .i64 r1)
          have hp := HP.out.far (p := ⟨U, 9, none⟩) hPU (.int .i64 r1)
          have ho := HV.out.far (p := ⟨U, 9, none⟩) hneVU (.int .i64 r1)
          have ho2 := HY.out.far (p := ⟨U, 9, none⟩) hneYU (.int .i64 r1)
          replace g0 := g0.setCell (p := ⟨U, 9, none⟩) hwU (.int .i64 r1)
          clear HB HP HU HV HY kc fc b9
          generalize w2.setCell ⟨U, 9, none⟩ (.int .i64 r1) = w3 at *
          have HB := Lib.hid hb
          have HP := Lib.hid hp
          have HU := Lib.hid hd
          have HV := Lib.hid ho
          have HY := Lib.hid ho2
          clear hb hp hd ho ho2
          have b9 := blk_num HB.out (i := 9) (by omega)
          have kc := blk_num HV.out (i := 9) (by omega)
          have fc := HV.out.frozen 9
          go_upto_region 9 with (fail)
          have hd : Blk (w3.setCell ⟨V, 9, none⟩ (.int .i64 r2)) V (cz 15 (ups b 9 r2)) 24 := blk_ups HV.out (by omega) r2
          rw [HU2.out] at hd
          have hb := HB.out.far (p := ⟨V, 9, none⟩) hBV (.int .i64 r2)
          have hp := HP.out.far (p := ⟨V, 9, none⟩) hPV (.int .i64 r2)
          have ho := HU.out.far (p := ⟨V, 9, none⟩) hneUV (.int .i64 r2)
          have ho2 := HY.out.far (p := ⟨V, 9, none⟩) hneYV (.int .i64 r2)
          replace g0 := g0.setCell (p := ⟨V, 9, none⟩) hwV (.int .i64 r2)
          clear HB HP HU HV HY kc fc b9
          generalize w3.setCell ⟨V, 9, none⟩ (.int .i64 r2) = w4 at *
          have HB := Lib.hid hb
          have HP := Lib.hid hp
          have HV := Lib.hid hd
          have HU := Lib.hid ho
          have HY := Lib.hid ho2
          clear hb hp hd ho ho2
          have b9 := blk_num HB.out (i := 9) (by omega)
          have kc := blk_num HY.out (i := 9) (by omega)
          have fc := HY.out.frozen 9
          go_upto_region 10 with (fail)
          have hd : Blk (w4.setCell ⟨Y, 9, none⟩ (.int .i64 r3)) Y (cz 15 (ups b 9 r3)) 24 := blk_ups HY.out (by omega) r3
          rw [HU3.out] at hd
          have hb := HB.out.far (p := ⟨Y, 9, none⟩) hBY (.int .i64 r3)
          have hp := HP.out.far (p := ⟨Y, 9, none⟩) hPY (.int .i64 r3)
          have ho := HU.out.far (p := ⟨Y, 9, none⟩) hneUY (.int .i64 r3)
          have ho2 := HV.out.far (p := ⟨Y, 9, none⟩) hneVY (.int .i64 r3)
          replace g0 := g0.setCell (p := ⟨Y, 9, none⟩) hwY (.int .i64 r3)
          clear HB HP HU HV HY kc fc b9
          generalize w4.setCell ⟨Y, 9, none⟩ (.int .i64 r3) = w5 at *
          have HB := Lib.hid hb
          have HP := Lib.hid hp
          have HY := Lib.hid hd
          have HU := Lib.hid ho
          have HV := Lib.hid ho2
          clear hb hp hd ho ho2
          clear hneUV hneUY hneVU hneVY hneYU hneYV hBU hBV hBY hPU hPV hPY hwU hwV hwY HB HU1 HU2 HU3 i1 i2 i3
          (first | go_frame | skip)
          go_wp2_with (first | ((with_reducible show wpList _ _ _ (⟨_, .load 31 (.tmp 4), _, _, _, none⟩ :: _) _ _); refine wpList_load_row rfl 31 (.tmp 4) rfl P rfl 31 _ (0, 0) _ HP.out.raw Tryd.underlying31 rfl infoP ?_) | ((with_reducible show wpList _ _ _ (⟨_, .load 24 (.tmp 9), _, _, _, none⟩ :: _) _ _); refine wpList_load_row rfl 24 (.tmp 9) rfl U rfl 24 _ (0, 0) _ HU.out.raw Tryd.underlying24 rfl infoB ?_) | (go_at_call 14; with_reducible refine (bSta_at g1 p s t1 e1 _ (Lib.hid (tab_own HT.out g0)) (Lib.hid (HBT.out.own g0)) (Lib.hid (HS.out.own g0)) HS1).mono ?_; rintro r w8 ⟨rfl, hg⟩; replace g0 := g0.trans hg; replace HP := Lib.hid (HP.out.own hg); replace HU := Lib.hid (HU.out.own hg); replace HV := Lib.hid (HV.out.own hg); replace HY := Lib.hid (HY.out.own hg); clear hg) | (go_at_call 17; with_reducible refine (jbc_at g1 c1 _ (Lib.hid (HBT.out.own g0)) HC1).mono ?_; rintro r w9 ⟨rfl, hg⟩; replace g0 := g0.trans hg; replace HP := Lib.hid (HP.out.own hg); replace HU := Lib.hid (HU.out.own hg); replace HV := Lib.hid (HV.out.own hg); replace HY := Lib.hid (HY.out.own hg); clear hg) | ((with_reducible show wpList _ _ _ (⟨_, .load 24 (.tmp 10), _, _, _, none⟩ :: _) _ _); refine wpList_load_row rfl 24 (.tmp 10) rfl V rfl 24 _ (0, 0) _ HV.out.raw Tryd.underlying24 rfl infoB ?_) | (go_at_call 14; with_reducible refine (bSta_at g2 p s true 0 _ (Lib.hid (tab_own HT.out g0)) (Lib.hid (HBT.out.own g0)) (Lib.hid (HS.out.own g0)) HS2).mono ?_; rintro r w8 ⟨rfl, hg⟩; replace g0 := g0.trans hg; replace HP := Lib.hid (HP.out.own hg); replace HU := Lib.hid (HU.out.own hg); replace HV := Lib.hid (HV.out.own hg); replace HY := Lib.hid (HY.out.own hg); clear hg) | (go_at_call 17; with_reducible refine (jbc_at g2 0 _ (Lib.hid (HBT.out.own g0)) HC2).mono ?_; rintro r w9 ⟨rfl, hg⟩; replace g0 := g0.trans hg; replace HP := Lib.hid (HP.out.own hg); replace HU := Lib.hid (HU.out.own hg); replace HV := Lib.hid (HV.out.own hg); replace HY := Lib.hid (HY.out.own hg); clear hg) | ((with_reducible show wpList _ _ _ (⟨_, .load 24 (.tmp 11), _, _, _, none⟩ :: _) _ _); refine wpList_load_row rfl 24 (.tmp 11) rfl Y rfl 24 _ (0, 0) _ HY.out.raw Tryd.underlying24 rfl infoB ?_) | (go_at_call 14; with_reducible refine (bSta_at g3 p s t3 e3 _ (Lib.hid (tab_own HT.out g0)) (Lib.hid (HBT.out.own g0)) (Lib.hid (HS.out.own g0)) HS3).mono ?_; rintro r w8 ⟨rfl, hg⟩; replace g0 := g0.trans hg; replace HP := Lib.hid (HP.out.own hg); replace HU := Lib.hid (HU.out.own hg); replace HV := Lib.hid (HV.out.own hg); replace HY := Lib.hid (HY.out.own hg); clear hg) | (go_at_call 17; with_reducible refine (jbc_at g3 c3 _ (Lib.hid (HBT.out.own g0)) HC3).mono ?_; rintro r w9 ⟨rfl, hg⟩; replace g0 := g0.trans hg; replace HP := Lib.hid (HP.out.own hg); replace HU := Lib.hid (HU.out.own hg); replace HV := Lib.hid (HV.out.own hg); replace HY := Lib.hid (HY.out.own hg); clear hg) | (go_at_call 10; with_reducible refine (awake_at _ (Lib.hid (tab_own HT.out g0)) (Lib.hid (HBT.out.own g0)) (Lib.hid (HS.out.own g0))).mono ?_; rintro r w99 ⟨rfl, hg⟩; replace g0 := g0.trans hg; replace HP := Lib.hid (HP.out.own hg); replace HU := Lib.hid (HU.out.own hg); replace HV := Lib.hid (HV.out.own hg); replace HY := Lib.hid (HY.out.own hg); clear hg))
          go_ret
          exact ⟨by first | rfl | (exact ret_bool (by simp)), g0⟩
      · have kc2 : (c2 != 0) = true := bne_iff_ne.2 z2
        have kd2 : decide (c2 = 0) = false := decide_eq_false z2
        have ke2 : (c2 == 0) = false := beq_eq_false_iff_ne.2 z2
        clear f2 j2 z2
        by_cases z3 : c3 = 0
        · subst z3
          have q3 := f3 rfl
          have v3 := j3 rfl
          subst q3
          subst v3
          clear f3 j3
          go_enter Tryd.func6, Tryd.ntmps6
          go_upto_region 1 with (fail)
          obtain ⟨W0, B, P, hW, hC, hBq, hb, hc, g0, -, -, -⟩ := two_new w (cz 15 b) 24 (cz 22 p) 31
          rw [hW, hC, hBq]
          have HB := Lib.hid hb
          have HP := Lib.hid hc
          clear hW hC hBq hb hc
          go_upto_region 6 with (first | ((with_reducible show wpList _ _ _ (⟨_, .load 24 (.tmp 3), _, _, _, none⟩ :: _) _ _); refine wpList_load_row rfl 24 (.tmp 3) rfl B rfl 24 _ (0, 0) _ HB.out.raw Tryd.underlying24 rfl infoB ?_) | ((with_reducible show wpList _ _ _ (⟨_, .load 31 (.tmp 4), _, _, _, none⟩ :: _) _ _); refine wpList_load_row rfl 31 (.tmp 4) rfl P rfl 31 _ (0, 0) _ HP.out.raw Tryd.underlying31 rfl infoP ?_) | (go_at_call 15; with_reducible refine (bMar_at b p s n 0 _ (Lib.hid (tab_own HT.out g0)) (Lib.hid (HBT.out.own g0)) (Lib.hid (HS.out.own g0)) HG1).mono ?_; rintro r w1 ⟨rfl, hg⟩; replace g0 := g0.trans hg; replace HB := Lib.hid (HB.out.own hg); replace HP := Lib.hid (HP.out.own hg); have b9 := blk_num HB.out (i := 9) (by omega); clear hg))
          clear b9
          (first | go_frame | skip)
          have hbs18 : RegD.OkB [(RegD.NewB.mk 9 3 6 (cz 15 nul) (cz 15 b) 24), (RegD.NewB.mk 10 4 7 (cz 15 nul) (cz 15 b) 24), (RegD.NewB.mk 11 5 8 (cz 15 nul) (cz 15 b) 24)] [9, 10, 11] 9 := by
            refine ⟨fun k => ⟨fun hk => ?_, fun hk => ?_⟩, fun q hq r hr h => ?_, fun q hq r hr => ?_, fun q hq => ?_⟩
            · simp only [List.mem_cons, List.not_mem_nil, or_false] at hk
              rcases hk with rfl | rfl | rfl
              · exact ⟨_, (.head _), rfl⟩
              · exact ⟨_, (.tail _ (.head _)), rfl⟩
              · exact ⟨_, (.tail _ (.tail _ (.head _))), rfl⟩
            · obtain ⟨q, hq, rfl⟩ := hk
              simp only [List.mem_cons, List.not_mem_nil, or_false] at hq
              rcases hq with rfl | rfl | rfl <;> simp
            · simp only [List.mem_cons, List.not_mem_nil, or_false] at hq
              simp only [List.mem_cons, List.not_mem_nil, or_false] at hr
              rcases hq with rfl | rfl | rfl <;> rcases hr with rfl | rfl | rfl <;> first | rfl | exact absurd h (by simp)
            · simp only [List.mem_cons, List.not_mem_nil, or_false] at hq
              simp only [List.mem_cons, List.not_mem_nil, or_false] at hr
              rcases hq with rfl | rfl | rfl <;> rcases hr with rfl | rfl | rfl <;> exact ⟨by simp, by simp⟩
            · simp only [List.mem_cons, List.not_mem_nil, or_false] at hq
              rcases hq with rfl | rfl | rfl <;> exact ⟨by simp, by simp⟩
          refine RegD.region_dutyB [35, 36, 37, 9, 10, 11] [(RegD.NewB.mk 9 3 6 (cz 15 nul) (cz 15 b) 24), (RegD.NewB.mk 10 4 7 (cz 15 nul) (cz 15 b) 24), (RegD.NewB.mk 11 5 8 (cz 15 nul) (cz 15 b) 24)] [9, 10, 11] (RegI.upd (RegI.upd (RegI.upd (fun _ => undef) 35 (.agg (cz 15 b))) 36 (.agg (cz 15 b))) 37 (.agg (cz 15 b))) (by kernel_rfl) (by kernel_rfl) hbs18 (by intro d hd; simp at hd; simp; omega) ?_
          simp only [RegD.FF, RegI.FX, RegI.upd, List.foldl_cons, List.foldl_nil, List.mem_cons, List.not_mem_nil, if_true, if_false, Nat.reduceEqDiff, or_false, or_true]
          simp only [List.setIfInBounds_toArray, List.set_cons_succ, List.set_cons_zero]
          refine And.intro ?hs18 ?he18
          case hs18 =>
            refine And.intro ?s18_0 (And.intro ?s18_1 (And.intro ?s18_2 (And.intro ?s18_3 (And.intro ?s18_4 (And.intro ?s18_5 (And.intro ?s18_6 (And.intro ?s18_7 (And.intro ?s18_8 (trivial)))))))))
            case s18_0 =>
              refine RegD.stepB_det (by intro q hq; simp only [List.mem_cons, List.not_mem_nil, or_false] at hq; rcases hq with rfl | rfl | rfl <;> exact ⟨by simp, by simp, by simp⟩) (fun u w1 hO => ?_)
              have HB9 := Lib.hid (HB.out.own hO)
              go_wp2_with ((with_reducible show wpList _ _ _ (⟨_, .load 24 (.tmp 3), _, _, _, none⟩ :: _) _ _); refine wpList_load_row rfl 24 (.tmp 3) rfl B rfl 24 _ (0, 0) _ HB9.out.raw Tryd.underlying24 rfl infoB ?_)
              exact ⟨rfl, rfl, rfl, PairW.Own.refl _⟩
            case s18_1 =>
              refine RegD.stepB_det (by intro q hq; simp only [List.mem_cons, List.not_mem_nil, or_false] at hq; rcases hq with rfl | rfl | rfl <;> exact ⟨by simp, by simp, by simp⟩) (fun u w1 hO => ?_)
              have HB9 := Lib.hid (HB.out.own hO)
              go_wp2_with ((with_reducible show wpList _ _ _ (⟨_, .load 24 (.tmp 3), _, _, _, none⟩ :: _) _ _); refine wpList_load_row rfl 24 (.tmp 3) rfl B rfl 24 _ (0, 0) _ HB9.out.raw Tryd.underlying24 rfl infoB ?_)
              exact ⟨rfl, rfl, rfl, PairW.Own.refl _⟩
            case s18_2 =>
              refine RegD.stepB_det (by intro q hq; simp only [List.mem_cons, List.not_mem_nil, or_false] at hq; rcases hq with rfl | rfl | rfl <;> exact ⟨by simp, by simp, by simp⟩) (fun u w1 hO => ?_)
              have HB9 := Lib.hid (HB.out.own hO)
              go_wp2_with ((with_reducible show wpList _ _ _ (⟨_, .load 24 (.tmp 3), _, _, _, none⟩ :: _) _ _); refine wpList_load_row rfl 24 (.tmp 3) rfl B rfl 24 _ (0, 0) _ HB9.out.raw Tryd.underlying24 rfl infoB ?_)
              exact ⟨rfl, rfl, rfl, PairW.Own.refl _⟩
            case s18_3 =>
              refine RegD.stepB_new (RegD.NewB.mk 9 3 6 (cz 15 nul) (cz 15 b) 24) (.head _) rfl rfl (fun u w1 hO => ?_)
              go_wp2
              exact ⟨rfl, rfl, rfl, rfl⟩
            case s18_4 =>
              refine RegD.stepB_new (RegD.NewB.mk 10 4 7 (cz 15 nul) (cz 15 b) 24) (.tail _ (.head _)) rfl rfl (fun u w1 hO => ?_)
              go_wp2
              exact ⟨rfl, rfl, rfl, rfl⟩
            case s18_5 =>
              refine RegD.stepB_new (RegD.NewB.mk 11 5 8 (cz 15 nul) (cz 15 b) 24) (.tail _ (.tail _ (.head _))) rfl rfl (fun u w1 hO => ?_)
              go_wp2
              exact ⟨rfl, rfl, rfl, rfl⟩
            case s18_6 =>
              refine RegD.stepB_store (RegD.NewB.mk 9 3 6 (cz 15 nul) (cz 15 b) 24) (.head _) rfl rfl (by kernel_rfl) (fun u w1 N hO hu hN => ?_)
              replace hu : u 9 = .pointer (some ⟨N, 0, none⟩) := hu
              have HN := Lib.hid (show Blk w1 N (cz 15 nul) 24 from hN)
              simp only [hu]
              clear hN
              go_wp2_with ((with_reducible show wpList _ _ _ (⟨_, .store 24 (.tmp 9) (.tmp 35), _, _, _, none⟩ :: _) _ _); refine wpList_store_row rfl 24 (.tmp 9) (.tmp 35) rfl N (cz 15 (b)) rfl rfl 24 _ HN.out.raw infoB rfl (cz_one _ _) ?_)
              exact ⟨rfl, rfl, rfl⟩
            case s18_7 =>
              refine RegD.stepB_store (RegD.NewB.mk 10 4 7 (cz 15 nul) (cz 15 b) 24) (.tail _ (.head _)) rfl rfl (by kernel_rfl) (fun u w1 N hO hu hN => ?_)
              replace hu : u 10 = .pointer (some ⟨N, 0, none⟩) := hu
              have HN := Lib.hid (show Blk w1 N (cz 15 nul) 24 from hN)
              simp only [hu]
              clear hN
              go_wp2_with ((with_reducible show wpList _ _ _ (⟨_, .store 24 (.tmp 10) (.tmp 36), _, _, _, none⟩ :: _) _ _); refine wpList_store_row rfl 24 (.tmp 10) (.tmp 36) rfl N (cz 15 (b)) rfl rfl 24 _ HN.out.raw infoB rfl (cz_one _ _) ?_)
              exact ⟨rfl, rfl, rfl⟩
            case s18_8 =>
              refine RegD.stepB_store (RegD.NewB.mk 11 5 8 (cz 15 nul) (cz 15 b) 24) (.tail _ (.tail _ (.head _))) rfl rfl (by kernel_rfl) (fun u w1 N hO hu hN => ?_)
              replace hu : u 11 = .pointer (some ⟨N, 0, none⟩) := hu
              have HN := Lib.hid (show Blk w1 N (cz 15 nul) 24 from hN)
              simp only [hu]
              clear hN
              go_wp2_with ((with_reducible show wpList _ _ _ (⟨_, .store 24 (.tmp 11) (.tmp 37), _, _, _, none⟩ :: _) _ _); refine wpList_store_row rfl 24 (.tmp 11) (.tmp 37) rfl N (cz 15 (b)) rfl rfl 24 _ HN.out.raw infoB rfl (cz_one _ _) ?_)
              exact ⟨rfl, rfl, rfl⟩
          intro u w2 hO hB9
          obtain ⟨U, huU, h0U, hnU, hxU⟩ := hB9 (RegD.NewB.mk 9 3 6 (cz 15 nul) (cz 15 b) 24) (.head _)
          replace huU : u 9 = .pointer (some ⟨U, 0, none⟩) := huU
          obtain ⟨V, huV, h0V, hnV, hxV⟩ := hB9 (RegD.NewB.mk 10 4 7 (cz 15 nul) (cz 15 b) 24) (.tail _ (.head _))
          replace huV : u 10 = .pointer (some ⟨V, 0, none⟩) := huV
          obtain ⟨Y, huY, h0Y, hnY, hxY⟩ := hB9 (RegD.NewB.mk 11 5 8 (cz 15 nul) (cz 15 b) 24) (.tail _ (.tail _ (.head _)))
          replace huY : u 11 = .pointer (some ⟨Y, 0, none⟩) := huY
          have hneUV : U ≠ V := fun e => hxV (RegD.NewB.mk 9 3 6 (cz 15 nul) (cz 15 b) 24) (.head _) (by simp) (show u 9 = .pointer (some ⟨V, 0, none⟩) from by rw [huU, e])
          have hneUY : U ≠ Y := fun e => hxY (RegD.NewB.mk 9 3 6 (cz 15 nul) (cz 15 b) 24) (.head _) (by simp) (show u 9 = .pointer (some ⟨Y, 0, none⟩) from by rw [huU, e])
          have hneVU : V ≠ U := fun e => hxU (RegD.NewB.mk 10 4 7 (cz 15 nul) (cz 15 b) 24) (.tail _ (.head _)) (by simp) (show u 10 = .pointer (some ⟨U, 0, none⟩) from by rw [huV, e])
          have hneVY : V ≠ Y := fun e => hxY (RegD.NewB.mk 10 4 7 (cz 15 nul) (cz 15 b) 24) (.tail _ (.head _)) (by simp) (show u 10 = .pointer (some ⟨Y, 0, none⟩) from by rw [huV, e])
          have hneYU : Y ≠ U := fun e => hxU (RegD.NewB.mk 11 5 8 (cz 15 nul) (cz 15 b) 24) (.tail _ (.tail _ (.head _))) (by simp) (show u 11 = .pointer (some ⟨U, 0, none⟩) from by rw [huY, e])
          have hneYV : Y ≠ V := fun e => hxV (RegD.NewB.mk 11 5 8 (cz 15 nul) (cz 15 b) 24) (.tail _ (.tail _ (.head _))) (by simp) (show u 11 = .pointer (some ⟨V, 0, none⟩) from by rw [huY, e])
          simp only [huU, huV, huY]
          have hBU := Nat.ne_of_lt (Nat.lt_of_lt_of_le HB.out.lt h0U)
          have hPU := Nat.ne_of_lt (Nat.lt_of_lt_of_le HP.out.lt h0U)
          have hwU : w.heap.size ≤ U := Nat.le_trans g0.size h0U
          have hBV := Nat.ne_of_lt (Nat.lt_of_lt_of_le HB.out.lt h0V)
          have hPV := Nat.ne_of_lt (Nat.lt_of_lt_of_le HP.out.lt h0V)
          have hwV : w.heap.size ≤ V := Nat.le_trans g0.size h0V
          have hBY := Nat.ne_of_lt (Nat.lt_of_lt_of_le HB.out.lt h0Y)
          have hPY := Nat.ne_of_lt (Nat.lt_of_lt_of_le HP.out.lt h0Y)
          have hwY : w.heap.size ≤ Y := Nat.le_trans g0.size h0Y
          have HU := Lib.hid (show Blk w2 U (cz 15 b) 24 from hnU)
          have HV := Lib.hid (show Blk w2 V (cz 15 b) 24 from hnV)
          have HY := Lib.hid (show Blk w2 Y (cz 15 b) 24 from hnY)
          replace g0 := g0.trans hO
          replace HB := Lib.hid (HB.out.own hO)
          replace HP := Lib.hid (HP.out.own hO)
          clear hO hB9 hbs18 huU h0U hnU hxU huV h0V hnV hxV huY h0Y hnY hxY
          have b9 := blk_num HB.out (i := 9) (by omega)
          have kc := blk_num HU.out (i := 9) (by omega)
          have fc := HU.out.frozen 9
          go_upto_region 8 with (fail)
          have hd : Blk (w2.setCell ⟨U, 9, none⟩ (.int .i64 r1)) U (cz 15 (ups b 9 r1)) 24 := blk_ups HU.out (by omega) r1
          rw [HU1.out] at hd
          have hb := HB.out.far (p := ⟨U, 9, none⟩) hBU (.int .i64 r1)
          have hp := HP.out.far (p := ⟨U, 9, none⟩) hPU (.int .i64 r1)
          have ho := HV.out.far (p := ⟨U, 9, none⟩) hneVU (.int .i64 r1)
          have ho2 := HY.out.far (p := ⟨U, 9, none⟩) hneYU (.int .i64 r1)
          replace g0 := g0.setCell (p := ⟨U, 9, none⟩) hwU (.int .i64 r1)
          clear HB HP HU HV HY kc fc b9
          generalize w2.setCell ⟨U, 9, none⟩ (.int .i64 r1) = w3 at *
          have HB := Lib.hid hb
          have HP := Lib.hid hp
          have HU := Lib.hid hd
          have HV := Lib.hid ho
          have HY := Lib.hid ho2
          clear hb hp hd ho ho2
          have b9 := blk_num HB.out (i := 9) (by omega)
          have kc := blk_num HV.out (i := 9) (by omega)
          have fc := HV.out.frozen 9
          go_upto_region 9 with (fail)
          have hd : Blk (w3.setCell ⟨V, 9, none⟩ (.int .i64 r2)) V (cz 15 (ups b 9 r2)) 24 := blk_ups HV.out (by omega) r2
          rw [HU2.out] at hd
          have hb := HB.out.far (p := ⟨V, 9, none⟩) hBV (.int .i64 r2)
          have hp := HP.out.far (p := ⟨V, 9, none⟩) hPV (.int .i64 r2)
          have ho := HU.out.far (p := ⟨V, 9, none⟩) hneUV (.int .i64 r2)
          have ho2 := HY.out.far (p := ⟨V, 9, none⟩) hneYV (.int .i64 r2)
          replace g0 := g0.setCell (p := ⟨V, 9, none⟩) hwV (.int .i64 r2)
          clear HB HP HU HV HY kc fc b9
          generalize w3.setCell ⟨V, 9, none⟩ (.int .i64 r2) = w4 at *
          have HB := Lib.hid hb
          have HP := Lib.hid hp
          have HV := Lib.hid hd
          have HU := Lib.hid ho
          have HY := Lib.hid ho2
          clear hb hp hd ho ho2
          have b9 := blk_num HB.out (i := 9) (by omega)
          have kc := blk_num HY.out (i := 9) (by omega)
          have fc := HY.out.frozen 9
          go_upto_region 10 with (fail)
          have hd : Blk (w4.setCell ⟨Y, 9, none⟩ (.int .i64 r3)) Y (cz 15 (ups b 9 r3)) 24 := blk_ups HY.out (by omega) r3
          rw [HU3.out] at hd
          have hb := HB.out.far (p := ⟨Y, 9, none⟩) hBY (.int .i64 r3)
          have hp := HP.out.far (p := ⟨Y, 9, none⟩) hPY (.int .i64 r3)
          have ho := HU.out.far (p := ⟨Y, 9, none⟩) hneUY (.int .i64 r3)
          have ho2 := HV.out.far (p := ⟨Y, 9, none⟩) hneVY (.int .i64 r3)
          replace g0 := g0.setCell (p := ⟨Y, 9, none⟩) hwY (.int .i64 r3)
          clear HB HP HU HV HY kc fc b9
          generalize w4.setCell ⟨Y, 9, none⟩ (.int .i64 r3) = w5 at *
          have HB := Lib.hid hb
          have HP := Lib.hid hp
          have HY := Lib.hid hd
          have HU := Lib.hid ho
          have HV := Lib.hid ho2
          clear hb hp hd ho ho2
          clear hneUV hneUY hneVU hneVY hneYU hneYV hBU hBV hBY hPU hPV hPY hwU hwV hwY HB HU1 HU2 HU3 i1 i2 i3
          (first | go_frame | skip)
          go_wp2_with (first | ((with_reducible show wpList _ _ _ (⟨_, .load 31 (.tmp 4), _, _, _, none⟩ :: _) _ _); refine wpList_load_row rfl 31 (.tmp 4) rfl P rfl 31 _ (0, 0) _ HP.out.raw Tryd.underlying31 rfl infoP ?_) | ((with_reducible show wpList _ _ _ (⟨_, .load 24 (.tmp 9), _, _, _, none⟩ :: _) _ _); refine wpList_load_row rfl 24 (.tmp 9) rfl U rfl 24 _ (0, 0) _ HU.out.raw Tryd.underlying24 rfl infoB ?_) | (go_at_call 14; with_reducible refine (bSta_at g1 p s t1 e1 _ (Lib.hid (tab_own HT.out g0)) (Lib.hid (HBT.out.own g0)) (Lib.hid (HS.out.own g0)) HS1).mono ?_; rintro r w8 ⟨rfl, hg⟩; replace g0 := g0.trans hg; replace HP := Lib.hid (HP.out.own hg); replace HU := Lib.hid (HU.out.own hg); replace HV := Lib.hid (HV.out.own hg); replace HY := Lib.hid (HY.out.own hg); clear hg) | (go_at_call 17; with_reducible refine (jbc_at g1 c1 _ (Lib.hid (HBT.out.own g0)) HC1).mono ?_; rintro r w9 ⟨rfl, hg⟩; replace g0 := g0.trans hg; replace HP := Lib.hid (HP.out.own hg); replace HU := Lib.hid (HU.out.own hg); replace HV := Lib.hid (HV.out.own hg); replace HY := Lib.hid (HY.out.own hg); clear hg) | ((with_reducible show wpList _ _ _ (⟨_, .load 24 (.tmp 10), _, _, _, none⟩ :: _) _ _); refine wpList_load_row rfl 24 (.tmp 10) rfl V rfl 24 _ (0, 0) _ HV.out.raw Tryd.underlying24 rfl infoB ?_) | (go_at_call 14; with_reducible refine (bSta_at g2 p s t2 e2 _ (Lib.hid (tab_own HT.out g0)) (Lib.hid (HBT.out.own g0)) (Lib.hid (HS.out.own g0)) HS2).mono ?_; rintro r w8 ⟨rfl, hg⟩; replace g0 := g0.trans hg; replace HP := Lib.hid (HP.out.own hg); replace HU := Lib.hid (HU.out.own hg); replace HV := Lib.hid (HV.out.own hg); replace HY := Lib.hid (HY.out.own hg); clear hg) | (go_at_call 17; with_reducible refine (jbc_at g2 c2 _ (Lib.hid (HBT.out.own g0)) HC2).mono ?_; rintro r w9 ⟨rfl, hg⟩; replace g0 := g0.trans hg; replace HP := Lib.hid (HP.out.own hg); replace HU := Lib.hid (HU.out.own hg); replace HV := Lib.hid (HV.out.own hg); replace HY := Lib.hid (HY.out.own hg); clear hg) | ((with_reducible show wpList _ _ _ (⟨_, .load 24 (.tmp 11), _, _, _, none⟩ :: _) _ _); refine wpList_load_row rfl 24 (.tmp 11) rfl Y rfl 24 _ (0, 0) _ HY.out.raw Tryd.underlying24 rfl infoB ?_) | (go_at_call 14; with_reducible refine (bSta_at g3 p s false 0 _ (Lib.hid (tab_own HT.out g0)) (Lib.hid (HBT.out.own g0)) (Lib.hid (HS.out.own g0)) HS3).mono ?_; rintro r w8 ⟨rfl, hg⟩; replace g0 := g0.trans hg; replace HP := Lib.hid (HP.out.own hg); replace HU := Lib.hid (HU.out.own hg); replace HV := Lib.hid (HV.out.own hg); replace HY := Lib.hid (HY.out.own hg); clear hg) | (go_at_call 17; with_reducible refine (jbc_at g3 0 _ (Lib.hid (HBT.out.own g0)) HC3).mono ?_; rintro r w9 ⟨rfl, hg⟩; replace g0 := g0.trans hg; replace HP := Lib.hid (HP.out.own hg); replace HU := Lib.hid (HU.out.own hg); replace HV := Lib.hid (HV.out.own hg); replace HY := Lib.hid (HY.out.own hg); clear hg) | (go_at_call 10; with_reducible refine (awake_at _ (Lib.hid (tab_own HT.out g0)) (Lib.hid (HBT.out.own g0)) (Lib.hid (HS.out.own g0))).mono ?_; rintro r w99 ⟨rfl, hg⟩; replace g0 := g0.trans hg; replace HP := Lib.hid (HP.out.own hg); replace HU := Lib.hid (HU.out.own hg); replace HV := Lib.hid (HV.out.own hg); replace HY := Lib.hid (HY.out.own hg); clear hg))
          go_ret
          exact ⟨by first | rfl | (exact ret_bool (by simp)), g0⟩
        · have kc3 : (c3 != 0) = true := bne_iff_ne.2 z3
          have kd3 : decide (c3 = 0) = false := decide_eq_false z3
          have ke3 : (c3 == 0) = false := beq_eq_false_iff_ne.2 z3
          clear f3 j3 z3
          go_enter Tryd.func6, Tryd.ntmps6
          go_upto_region 1 with (fail)
          obtain ⟨W0, B, P, hW, hC, hBq, hb, hc, g0, -, -, -⟩ := two_new w (cz 15 b) 24 (cz 22 p) 31
          rw [hW, hC, hBq]
          have HB := Lib.hid hb
          have HP := Lib.hid hc
          clear hW hC hBq hb hc
          go_upto_region 6 with (first | ((with_reducible show wpList _ _ _ (⟨_, .load 24 (.tmp 3), _, _, _, none⟩ :: _) _ _); refine wpList_load_row rfl 24 (.tmp 3) rfl B rfl 24 _ (0, 0) _ HB.out.raw Tryd.underlying24 rfl infoB ?_) | ((with_reducible show wpList _ _ _ (⟨_, .load 31 (.tmp 4), _, _, _, none⟩ :: _) _ _); refine wpList_load_row rfl 31 (.tmp 4) rfl P rfl 31 _ (0, 0) _ HP.out.raw Tryd.underlying31 rfl infoP ?_) | (go_at_call 15; with_reducible refine (bMar_at b p s n 0 _ (Lib.hid (tab_own HT.out g0)) (Lib.hid (HBT.out.own g0)) (Lib.hid (HS.out.own g0)) HG1).mono ?_; rintro r w1 ⟨rfl, hg⟩; replace g0 := g0.trans hg; replace HB := Lib.hid (HB.out.own hg); replace HP := Lib.hid (HP.out.own hg); have b9 := blk_num HB.out (i := 9) (by omega); clear hg))
          clear b9
          (first | go_frame | skip)
          have hbs19 : RegD.OkB [(RegD.NewB.mk 9 3 6 (cz 15 nul) (cz 15 b) 24), (RegD.NewB.mk 10 4 7 (cz 15 nul) (cz 15 b) 24), (RegD.NewB.mk 11 5 8 (cz 15 nul) (cz 15 b) 24)] [9, 10, 11] 9 := by
            refine ⟨fun k => ⟨fun hk => ?_, fun hk => ?_⟩, fun q hq r hr h => ?_, fun q hq r hr => ?_, fun q hq => ?_⟩
            · simp only [List.mem_cons, List.not_mem_nil, or_false] at hk
              rcases hk with rfl | rfl | rfl
              · exact ⟨_, (.head _), rfl⟩
              · exact ⟨_, (.tail _ (.head _)), rfl⟩
              · exact ⟨_, (.tail _ (.tail _ (.head _))), rfl⟩
            · obtain ⟨q, hq, rfl⟩ := hk
              simp only [List.mem_cons, List.not_mem_nil, or_false] at hq
              rcases hq with rfl | rfl | rfl <;> simp
            · simp only [List.mem_cons, List.not_mem_nil, or_false] at hq
              simp only [List.mem_cons, List.not_mem_nil, or_false] at hr
              rcases hq with rfl | rfl | rfl <;> rcases hr with rfl | rfl | rfl <;> first | rfl | exact absurd h (by simp)
            · simp only [List.mem_cons, List.not_mem_nil, or_false] at hq
              simp only [List.mem_cons, List.not_mem_nil, or_false] at hr
              rcases hq with rfl | rfl | rfl <;> rcases hr with rfl | rfl | rfl <;> exact ⟨by simp, by simp⟩
            · simp only [List.mem_cons, List.not_mem_nil, or_false] at hq
              rcases hq with rfl | rfl | rfl <;> exact ⟨by simp, by simp⟩
          refine RegD.region_dutyB [35, 36, 37, 9, 10, 11] [(RegD.NewB.mk 9 3 6 (cz 15 nul) (cz 15 b) 24), (RegD.NewB.mk 10 4 7 (cz 15 nul) (cz 15 b) 24), (RegD.NewB.mk 11 5 8 (cz 15 nul) (cz 15 b) 24)] [9, 10, 11] (RegI.upd (RegI.upd (RegI.upd (fun _ => undef) 35 (.agg (cz 15 b))) 36 (.agg (cz 15 b))) 37 (.agg (cz 15 b))) (by kernel_rfl) (by kernel_rfl) hbs19 (by intro d hd; simp at hd; simp; omega) ?_
          simp only [RegD.FF, RegI.FX, RegI.upd, List.foldl_cons, List.foldl_nil, List.mem_cons, List.not_mem_nil, if_true, if_false, Nat.reduceEqDiff, or_false, or_true]
          simp only [List.setIfInBounds_toArray, List.set_cons_succ, List.set_cons_zero]
          refine And.intro ?hs19 ?he19
          case hs19 =>
            refine And.intro ?s19_0 (And.intro ?s19_1 (And.intro ?s19_2 (And.intro ?s19_3 (And.intro ?s19_4 (And.intro ?s19_5 (And.intro ?s19_6 (And.intro ?s19_7 (And.intro ?s19_8 (trivial)))))))))
            case s19_0 =>
              refine RegD.stepB_det (by intro q hq; simp only [List.mem_cons, List.not_mem_nil, or_false] at hq; rcases hq with rfl | rfl | rfl <;> exact ⟨by simp, by simp, by simp⟩) (fun u w1 hO => ?_)
              have HB9 := Lib.hid (HB.out.own hO)
              go_wp2_with ((with_reducible show wpList _ _ _ (⟨_, .load 24 (.tmp 3), _, _, _, none⟩ :: _) _ _); refine wpList_load_row rfl 24 (.tmp 3) rfl B rfl 24 _ (0, 0) _ HB9.out.raw Tryd.underlying24 rfl infoB ?_)
              exact ⟨rfl, rfl, rfl, PairW.Own.refl _⟩
            case s19_1 =>
              refine RegD.stepB_det (by intro q hq; simp only [List.mem_cons, List.not_mem_nil, or_false] at hq; rcases hq with rfl | rfl | rfl <;> exact ⟨by simp, by simp, by simp⟩) (fun u w1 hO => ?_)
              have HB9 := Lib.hid (HB.out.own hO)
              go_wp2_with ((with_reducible show wpList _ _ _ (⟨_, .load 24 (.tmp 3), _, _, _, none⟩ :: _) _ _); refine wpList_load_row rfl 24 (.tmp 3) rfl B rfl 24 _ (0, 0) _ HB9.out.raw Tryd.underlying24 rfl infoB ?_)
              exact ⟨rfl, rfl, rfl, PairW.Own.refl _⟩
            case s19_2 =>
              refine RegD.stepB_det (by intro q hq; simp only [List.mem_cons, List.not_mem_nil, or_false] at hq; rcases hq with rfl | rfl | rfl <;> exact ⟨by simp, by simp, by simp⟩) (fun u w1 hO => ?_)
              have HB9 := Lib.hid (HB.out.own hO)
              go_wp2_with ((with_reducible show wpList _ _ _ (⟨_, .load 24 (.tmp 3), _, _, _, none⟩ :: _) _ _); refine wpList_load_row rfl 24 (.tmp 3) rfl B rfl 24 _ (0, 0) _ HB9.out.raw Tryd.underlying24 rfl infoB ?_)
              exact ⟨rfl, rfl, rfl, PairW.Own.refl _⟩
            case s19_3 =>
              refine RegD.stepB_new (RegD.NewB.mk 9 3 6 (cz 15 nul) (cz 15 b) 24) (.head _) rfl rfl (fun u w1 hO => ?_)
              go_wp2
              exact ⟨rfl, rfl, rfl, rfl⟩
            case s19_4 =>
              refine RegD.stepB_new (RegD.NewB.mk 10 4 7 (cz 15 nul) (cz 15 b) 24) (.tail _ (.head _)) rfl rfl (fun u w1 hO => ?_)
              go_wp2
              exact ⟨rfl, rfl, rfl, rfl⟩
            case s19_5 =>
              refine RegD.stepB_new (RegD.NewB.mk 11 5 8 (cz 15 nul) (cz 15 b) 24) (.tail _ (.tail _ (.head _))) rfl rfl (fun u w1 hO => ?_)
              go_wp2
              exact ⟨rfl, rfl, rfl, rfl⟩
            case s19_6 =>
              refine RegD.stepB_store (RegD.NewB.mk 9 3 6 (cz 15 nul) (cz 15 b) 24) (.head _) rfl rfl (by kernel_rfl) (fun u w1 N hO hu hN => ?_)
              replace hu : u 9 = .pointer (some ⟨N, 0, none⟩) := hu
              have HN := Lib.hid (show Blk w1 N (cz 15 nul) 24 from hN)
              simp only [hu]
              clear hN
              go_wp2_with ((with_reducible show wpList _ _ _ (⟨_, .store 24 (.tmp 9) (.tmp 35), _, _, _, none⟩ :: _) _ _); refine wpList_store_row rfl 24 (.tmp 9) (.tmp 35) rfl N (cz 15 (b)) rfl rfl 24 _ HN.out.raw infoB rfl (cz_one _ _) ?_)
              exact ⟨rfl, rfl, rfl⟩
            case s19_7 =>
              refine RegD.stepB_store (RegD.NewB.mk 10 4 7 (cz 15 nul) (cz 15 b) 24) (.tail _ (.head _)) rfl rfl (by kernel_rfl) (fun u w1 N hO hu hN => ?_)
              replace hu : u 10 = .pointer (some ⟨N, 0, none⟩) := hu
              have HN := Lib.hid (show Blk w1 N (cz 15 nul) 24 from hN)
              simp only [hu]
              clear hN
              go_wp2_with ((with_reducible show wpList _ _ _ (⟨_, .store 24 (.tmp 10) (.tmp 36), _, _, _, none⟩ :: _) _ _); refine wpList_store_row rfl 24 (.tmp 10) (.tmp 36) rfl N (cz 15 (b)) rfl rfl 24 _ HN.out.raw infoB rfl (cz_one _ _) ?_)
              exact ⟨rfl, rfl, rfl⟩
            case s19_8 =>
              refine RegD.stepB_store (RegD.NewB.mk 11 5 8 (cz 15 nul) (cz 15 b) 24) (.tail _ (.tail _ (.head _))) rfl rfl (by kernel_rfl) (fun u w1 N hO hu hN => ?_)
              replace hu : u 11 = .pointer (some ⟨N, 0, none⟩) := hu
              have HN := Lib.hid (show Blk w1 N (cz 15 nul) 24 from hN)
              simp only [hu]
              clear hN
              go_wp2_with ((with_reducible show wpList _ _ _ (⟨_, .store 24 (.tmp 11) (.tmp 37), _, _, _, none⟩ :: _) _ _); refine wpList_store_row rfl 24 (.tmp 11) (.tmp 37) rfl N (cz 15 (b)) rfl rfl 24 _ HN.out.raw infoB rfl (cz_one _ _) ?_)
              exact ⟨rfl, rfl, rfl⟩
          intro u w2 hO hB9
          obtain ⟨U, huU, h0U, hnU, hxU⟩ := hB9 (RegD.NewB.mk 9 3 6 (cz 15 nul) (cz 15 b) 24) (.head _)
          replace huU : u 9 = .pointer (some ⟨U, 0, none⟩) := huU
          obtain ⟨V, huV, h0V, hnV, hxV⟩ := hB9 (RegD.NewB.mk 10 4 7 (cz 15 nul) (cz 15 b) 24) (.tail _ (.head _))
          replace huV : u 10 = .pointer (some ⟨V, 0, none⟩) := huV
          obtain ⟨Y, huY, h0Y, hnY, hxY⟩ := hB9 (RegD.NewB.mk 11 5 8 (cz 15 nul) (cz 15 b) 24) (.tail _ (.tail _ (.head _)))
          replace huY : u 11 = .pointer (some ⟨Y, 0, none⟩) := huY
          have hneUV : U ≠ V := fun e => hxV (RegD.NewB.mk 9 3 6 (cz 15 nul) (cz 15 b) 24) (.head _) (by simp) (show u 9 = .pointer (some ⟨V, 0, none⟩) from by rw [huU, e])
          have hneUY : U ≠ Y := fun e => hxY (RegD.NewB.mk 9 3 6 (cz 15 nul) (cz 15 b) 24) (.head _) (by simp) (show u 9 = .pointer (some ⟨Y, 0, none⟩) from by rw [huU, e])
          have hneVU : V ≠ U := fun e => hxU (RegD.NewB.mk 10 4 7 (cz 15 nul) (cz 15 b) 24) (.tail _ (.head _)) (by simp) (show u 10 = .pointer (some ⟨U, 0, none⟩) from by rw [huV, e])
          have hneVY : V ≠ Y := fun e => hxY (RegD.NewB.mk 10 4 7 (cz 15 nul) (cz 15 b) 24) (.tail _ (.head _)) (by simp) (show u 10 = .pointer (some ⟨Y, 0, none⟩) from by rw [huV, e])
          have hneYU : Y ≠ U := fun e => hxU (RegD.NewB.mk 11 5 8 (cz 15 nul) (cz 15 b) 24) (.tail _ (.tail _ (.head _))) (by simp) (show u 11 = .pointer (some ⟨U, 0, none⟩) from by rw [huY, e])
          have hneYV : Y ≠ V := fun e => hxV (RegD.NewB.mk 11 5 8 (cz 15 nul) (cz 15 b) 24) (.tail _ (.tail _ (.head _))) (by simp) (show u 11 = .pointer (some ⟨V, 0, none⟩) from by rw [huY, e])
          simp only [huU, huV, huY]
          have hBU := Nat.ne_of_lt (Nat.lt_of_lt_of_le HB.out.lt h0U)
          have hPU := Nat.ne_of_lt (Nat.lt_of_lt_of_le HP.out.lt h0U)
          have hwU : w.heap.size ≤ U := Nat.le_trans g0.size h0U
          have hBV := Nat.ne_of_lt (Nat.lt_of_lt_of_le HB.out.lt h0V)
          have hPV := Nat.ne_of_lt (Nat.lt_of_lt_of_le HP.out.lt h0V)
          have hwV : w.heap.size ≤ V := Nat.le_trans g0.size h0V
          have hBY := Nat.ne_of_lt (Nat.lt_of_lt_of_le HB.out.lt h0Y)
          have hPY := Nat.ne_of_lt (Nat.lt_of_lt_of_le HP.out.lt h0Y)
          have hwY : w.heap.size ≤ Y := Nat.le_trans g0.size h0Y
          have HU := Lib.hid (show Blk w2 U (cz 15 b) 24 from hnU)
          have HV := Lib.hid (show Blk w2 V (cz 15 b) 24 from hnV)
          have HY := Lib.hid (show Blk w2 Y (cz 15 b) 24 from hnY)
          replace g0 := g0.trans hO
          replace HB := Lib.hid (HB.out.own hO)
          replace HP := Lib.hid (HP.out.own hO)
          clear hO hB9 hbs19 huU h0U hnU hxU huV h0V hnV hxV huY h0Y hnY hxY
          have b9 := blk_num HB.out (i := 9) (by omega)
          have kc := blk_num HU.out (i := 9) (by omega)
          have fc := HU.out.frozen 9
          go_upto_region 8 with (fail)
          have hd : Blk (w2.setCell ⟨U, 9, none⟩ (.int .i64 r1)) U (cz 15 (ups b 9 r1)) 24 := blk_ups HU.out (by omega) r1
          rw [HU1.out] at hd
          have hb := HB.out.far (p := ⟨U, 9, none⟩) hBU (.int .i64 r1)
          have hp := HP.out.far (p := ⟨U, 9, none⟩) hPU (.int .i64 r1)
          have ho := HV.out.far (p := ⟨U, 9, none⟩) hneVU (.int .i64 r1)
          have ho2 := HY.out.far (p := ⟨U, 9, none⟩) hneYU (.int .i64 r1)
          replace g0 := g0.setCell (p := ⟨U, 9, none⟩) hwU (.int .i64 r1)
          clear HB HP HU HV HY kc fc b9
          generalize w2.setCell ⟨U, 9, none⟩ (.int .i64 r1) = w3 at *
          have HB := Lib.hid hb
          have HP := Lib.hid hp
          have HU := Lib.hid hd
          have HV := Lib.hid ho
          have HY := Lib.hid ho2
          clear hb hp hd ho ho2
          have b9 := blk_num HB.out (i := 9) (by omega)
          have kc := blk_num HV.out (i := 9) (by omega)
          have fc := HV.out.frozen 9
          go_upto_region 9 with (fail)
          have hd : Blk (w3.setCell ⟨V, 9, none⟩ (.int .i64 r2)) V (cz 15 (ups b 9 r2)) 24 := blk_ups HV.out (by omega) r2
          rw [HU2.out] at hd
          have hb := HB.out.far (p := ⟨V, 9, none⟩) hBV (.int .i64 r2)
          have hp := HP.out.far (p := ⟨V, 9, none⟩) hPV (.int .i64 r2)
          have ho := HU.out.far (p := ⟨V, 9, none⟩) hneUV (.int .i64 r2)
          have ho2 := HY.out.far (p := ⟨V, 9, none⟩) hneYV (.int .i64 r2)
          replace g0 := g0.setCell (p := ⟨V, 9, none⟩) hwV (.int .i64 r2)
          clear HB HP HU HV HY kc fc b9
          generalize w3.setCell ⟨V, 9, none⟩ (.int .i64 r2) = w4 at *
          have HB := Lib.hid hb
          have HP := Lib.hid hp
          have HV := Lib.hid hd
          have HU := Lib.hid ho
          have HY := Lib.hid ho2
          clear hb hp hd ho ho2
          have b9 := blk_num HB.out (i := 9) (by omega)
          have kc := blk_num HY.out (i := 9) (by omega)
          have fc := HY.out.frozen 9
          go_upto_region 10 with (fail)
          have hd : Blk (w4.setCell ⟨Y, 9, none⟩ (.int .i64 r3)) Y (cz 15 (ups b 9 r3)) 24 := blk_ups HY.out (by omega) r3
          rw [HU3.out] at hd
          have hb := HB.out.far (p := ⟨Y, 9, none⟩) hBY (.int .i64 r3)
          have hp := HP.out.far (p := ⟨Y, 9, none⟩) hPY (.int .i64 r3)
          have ho := HU.out.far (p := ⟨Y, 9, none⟩) hneUY (.int .i64 r3)
          have ho2 := HV.out.far (p := ⟨Y, 9, none⟩) hneVY (.int .i64 r3)
          replace g0 := g0.setCell (p := ⟨Y, 9, none⟩) hwY (.int .i64 r3)
          clear HB HP HU HV HY kc fc b9
          generalize w4.setCell ⟨Y, 9, none⟩ (.int .i64 r3) = w5 at *
          have HB := Lib.hid hb
          have HP := Lib.hid hp
          have HY := Lib.hid hd
          have HU := Lib.hid ho
          have HV := Lib.hid ho2
          clear hb hp hd ho ho2
          clear hneUV hneUY hneVU hneVY hneYU hneYV hBU hBV hBY hPU hPV hPY hwU hwV hwY HB HU1 HU2 HU3 i1 i2 i3
          (first | go_frame | skip)
          go_wp2_with (first | ((with_reducible show wpList _ _ _ (⟨_, .load 31 (.tmp 4), _, _, _, none⟩ :: _) _ _); refine wpList_load_row rfl 31 (.tmp 4) rfl P rfl 31 _ (0, 0) _ HP.out.raw Tryd.underlying31 rfl infoP ?_) | ((with_reducible show wpList _ _ _ (⟨_, .load 24 (.tmp 9), _, _, _, none⟩ :: _) _ _); refine wpList_load_row rfl 24 (.tmp 9) rfl U rfl 24 _ (0, 0) _ HU.out.raw Tryd.underlying24 rfl infoB ?_) | (go_at_call 14; with_reducible refine (bSta_at g1 p s t1 e1 _ (Lib.hid (tab_own HT.out g0)) (Lib.hid (HBT.out.own g0)) (Lib.hid (HS.out.own g0)) HS1).mono ?_; rintro r w8 ⟨rfl, hg⟩; replace g0 := g0.trans hg; replace HP := Lib.hid (HP.out.own hg); replace HU := Lib.hid (HU.out.own hg); replace HV := Lib.hid (HV.out.own hg); replace HY := Lib.hid (HY.out.own hg); clear hg) | (go_at_call 17; with_reducible refine (jbc_at g1 c1 _ (Lib.hid (HBT.out.own g0)) HC1).mono ?_; rintro r w9 ⟨rfl, hg⟩; replace g0 := g0.trans hg; replace HP := Lib.hid (HP.out.own hg); replace HU := Lib.hid (HU.out.own hg); replace HV := Lib.hid (HV.out.own hg); replace HY := Lib.hid (HY.out.own hg); clear hg) | ((with_reducible show wpList _ _ _ (⟨_, .load 24 (.tmp 10), _, _, _, none⟩ :: _) _ _); refine wpList_load_row rfl 24 (.tmp 10) rfl V rfl 24 _ (0, 0) _ HV.out.raw Tryd.underlying24 rfl infoB ?_) | (go_at_call 14; with_reducible refine (bSta_at g2 p s t2 e2 _ (Lib.hid (tab_own HT.out g0)) (Lib.hid (HBT.out.own g0)) (Lib.hid (HS.out.own g0)) HS2).mono ?_; rintro r w8 ⟨rfl, hg⟩; replace g0 := g0.trans hg; replace HP := Lib.hid (HP.out.own hg); replace HU := Lib.hid (HU.out.own hg); replace HV := Lib.hid (HV.out.own hg); replace HY := Lib.hid (HY.out.own hg); clear hg) | (go_at_call 17; with_reducible refine (jbc_at g2 c2 _ (Lib.hid (HBT.out.own g0)) HC2).mono ?_; rintro r w9 ⟨rfl, hg⟩; replace g0 := g0.trans hg; replace HP := Lib.hid (HP.out.own hg); replace HU := Lib.hid (HU.out.own hg); replace HV := Lib.hid (HV.out.own hg); replace HY := Lib.hid (HY.out.own hg); clear hg) | ((with_reducible show wpList _ _ _ (⟨_, .load 24 (.tmp 11), _, _, _, none⟩ :: _) _ _); refine wpList_load_row rfl 24 (.tmp 11) rfl Y rfl 24 _ (0, 0) _ HY.out.raw Tryd.underlying24 rfl infoB ?_) | (go_at_call 14; with_reducible refine (bSta_at g3 p s t3 e3 _ (Lib.hid (tab_own HT.out g0)) (Lib.hid (HBT.out.own g0)) (Lib.hid (HS.out.own g0)) HS3).mono ?_; rintro r w8 ⟨rfl, hg⟩; replace g0 := g0.trans hg; replace HP := Lib.hid (HP.out.own hg); replace HU := Lib.hid (HU.out.own hg); replace HV := Lib.hid (HV.out.own hg); replace HY := Lib.hid (HY.out.own hg); clear hg) | (go_at_call 17; with_reducible refine (jbc_at g3 c3 _ (Lib.hid (HBT.out.own g0)) HC3).mono ?_; rintro r w9 ⟨rfl, hg⟩; replace g0 := g0.trans hg; replace HP := Lib.hid (HP.out.own hg); replace HU := Lib.hid (HU.out.own hg); replace HV := Lib.hid (HV.out.own hg); replace HY := Lib.hid (HY.out.own hg); clear hg) | (go_at_call 10; with_reducible refine (awake_at _ (Lib.hid (tab_own HT.out g0)) (Lib.hid (HBT.out.own g0)) (Lib.hid (HS.out.own g0))).mono ?_; rintro r w99 ⟨rfl, hg⟩; replace g0 := g0.trans hg; replace HP := Lib.hid (HP.out.own hg); replace HU := Lib.hid (HU.out.own hg); replace HV := Lib.hid (HV.out.own hg); replace HY := Lib.hid (HY.out.own hg); clear hg))
          go_ret
          exact ⟨by first | rfl | (exact ret_bool (by simp)), g0⟩
  · obtain ⟨c, hc⟩ : ∃ c, mgE b p s = c := ⟨_, rfl⟩
    have HG1 := Lib.hid (show mgV b p s = 0 ∧ mgE b p s = c from ⟨by unfold mgV; rw [if_neg h], hc⟩)
    rw [hc] at h
    have kc : (c != 0) = true := bne_iff_ne.2 h
    clear h hc
    go_enter Tryd.func6, Tryd.ntmps6
    go_upto_region 1 with (fail)
    obtain ⟨W0, B, P, hW, hC, hBq, hb, hc, g0, -, -, -⟩ := two_new w (cz 15 b) 24 (cz 22 p) 31
    rw [hW, hC, hBq]
    have HB := Lib.hid hb
    have HP := Lib.hid hc
    clear hW hC hBq hb hc
    go_wp2_with (first | ((with_reducible show wpList _ _ _ (⟨_, .load 24 (.tmp 3), _, _, _, none⟩ :: _) _ _); refine wpList_load_row rfl 24 (.tmp 3) rfl B rfl 24 _ (0, 0) _ HB.out.raw Tryd.underlying24 rfl infoB ?_) | ((with_reducible show wpList _ _ _ (⟨_, .load 31 (.tmp 4), _, _, _, none⟩ :: _) _ _); refine wpList_load_row rfl 31 (.tmp 4) rfl P rfl 31 _ (0, 0) _ HP.out.raw Tryd.underlying31 rfl infoP ?_) | (go_at_call 15; with_reducible refine (bMar_at b p s 0 c _ (Lib.hid (tab_own HT.out g0)) (Lib.hid (HBT.out.own g0)) (Lib.hid (HS.out.own g0)) HG1).mono ?_; rintro r w1 ⟨rfl, hg⟩; replace g0 := g0.trans hg; clear hg) | (go_at_call 10; with_reducible refine (awake_at _ (Lib.hid (tab_own HT.out g0)) (Lib.hid (HBT.out.own g0)) (Lib.hid (HS.out.own g0))).mono ?_; rintro r w99 ⟨rfl, hg⟩; replace g0 := g0.trans hg; clear hg))
    go_ret
    exact ⟨by first | rfl | (exact ret_bool (by simp)), g0⟩
end Go.Proofs.YtighpjhipgobiaaDoor.BalL
