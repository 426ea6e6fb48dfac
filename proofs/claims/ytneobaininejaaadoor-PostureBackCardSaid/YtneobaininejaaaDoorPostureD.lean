/-
  Walks of the specification of layer posture: Notate. Condition: none.
-/
import Derived.Test.YtneobaininejaaaDoorPostureC
namespace Go.Proofs.YtneobaininejaaaDoor.PstW
open Go.ChangeShapes Go.WideShapes Go.ChangeAt Go.RowKit
open PairW AimP AimW BlkW PrtW PstP
theorem bld_start4r (x y f l u : Int) : Tryd.prog.built 28 [(0, .agg #[.int .i64 x, .int .i64 y]), (1, .int .i64 f), (2, .int .i64 l), (3, .int .i64 u)] = some (cz 23 (st5 x y f l u nul)) := by kernel_rfl
set_option maxRecDepth 100000 in
set_option maxHeartbeats 2000000 in
theorem rnot_any (p : Vl) (u : Int) (w : World) :
    Calls Tryd.prog 17 #[.agg (cz 22 p), .int .i64 u] w fun r w' => r = .returned (.tuple #[.agg (cz 23 (ntV p u)), .int .i64 (ntE p u)]) ∧ Own w w' := by
  by_cases hv : vaE p = 0
  · obtain ⟨⟨-, -, b2, b3⟩, -⟩ := va_yes hv
    have HC := Lib.hid hv
    obtain ⟨m2, e2⟩ : ∃ m, p 2 % 32 = m := ⟨_, rfl⟩
    obtain ⟨m3, e3⟩ : ∃ m, (p 3).tmod 8 = m := ⟨_, rfl⟩
    have e2' : (p 2).tmod 32 = m2 := by rw [Int.tmod_eq_emod_of_nonneg b2.1]; exact e2
    have em := Int.mul_tdiv_add_tmod (p 3) 8
    have el := Int.tmod_lt_of_pos (p 3) (show (0 : Int) < 8 by decide)
    have ew := Int.lt_tmod_of_pos (p 3) (show (0 : Int) < 8 by decide)
    by_cases h2 : m2 = 0
    · by_cases h3 : m3 = 0
      · have HM := Lib.hid (show p 2 % 32 = 0 ∧ p 3 % 8 = 0 from ⟨e2.trans h2, by omega⟩)
        obtain ⟨f2, e4⟩ : ∃ m, p 2 / 32 = m := ⟨_, rfl⟩
        have e4' : (p 2).tdiv 32 = f2 := by rw [Int.tdiv_eq_ediv_of_nonneg b2.1]; exact e4
        obtain ⟨q8, e5⟩ : ∃ m, (p 3).tdiv 8 = m := ⟨_, rfl⟩
        have HFL := Lib.hid (show p 2 / 32 = f2 ∧ p 3 / 8 = q8 from ⟨e4, by omega⟩)
        have bf : 0 ≤ f2 ∧ f2 ≤ 7 := by omega
        have bl : -1 ≤ q8 ∧ q8 ≤ 1 := by omega
        subst h2 h3
        clear em el ew hv
        go_enter Tryd.func17, Tryd.ntmps17
        go_upto_region 1 with (fail)
        obtain ⟨W0, B, P, hW, hP, hB, hb, hp, g0, -, hP0, hne⟩ := two_new w (cz 22 p) 33 (cz 23 nul) 28
        rw [← cz23_nul] at hW
        rw [hW, hP, hB]
        have HB := Lib.hid hb
        have HP := Lib.hid hp
        have HNE := Lib.hid hne
        clear hW hP hB hb hp hne

        go_upto_region 4 with (first | ((with_reducible show wpList _ _ _ (⟨_, .load 33 (.tmp 2), _, _, _, none⟩ :: _) _ _); refine wpList_load_row rfl 33 (.tmp 2) rfl B rfl 33 _ (0, 0) _ HB.out.raw Tryd.underlying33 rfl infoP ?_) | (go_at_call 19; with_reducible refine (rvalid_at p 0 _ HC).mono ?_; rintro r w1 ⟨rfl, hg⟩; replace g0 := g0.trans hg; replace HB := Lib.hid (HB.out.own hg); replace HP := Lib.hid (HP.out.own hg); clear hg))
        have k2 := blk_num HB.out (i := 2) (by omega)
        have k3 := blk_num HB.out (i := 3) (by omega)
        generalize p 2 = q2 at k2 e2 e2' b2 e4 e4'
        generalize p 3 = q3 at k3 e3 b3 e5
        go_upto_region 7 with (first | ((with_reducible show wpList _ _ _ (⟨_, .load 23 (.tmp 29), _, _, _, none⟩ :: _) _ _); refine wpList_load_part rfl 23 (.tmp 29) rfl B (0) rfl 2 HB.out (by omega) (#[.int .i64 (p 0), .int .i64 (p 1)]) rfl _ Tryd.underlying23 rfl infoPt ?_) | ((with_reducible show wpList _ _ _ (⟨_, .build 28 _, _, _, _, _⟩ :: _) _ _); refine wpList_build_as rfl 28 [(0, .tmp 30), (1, .tmp 33), (2, .tmp 36), (3, .tmp 37)] rfl [(0, .agg #[.int .i64 (p 0), .int .i64 (p 1)]), (1, .int .i64 f2), (2, .int .i64 q8), (3, .int .i64 u)] rfl (cz 23 (st5 (p 0) (p 1) f2 q8 u nul)) (bld_start4r (p 0) (p 1) f2 q8 u) ?_) | ((with_reducible show wpList _ _ _ (⟨_, .store 28 (.tmp 7) (.tmp 38), _, _, _, none⟩ :: _) _ _); refine wpList_store_row rfl 28 (.tmp 7) (.tmp 38) rfl _ (cz 23 (st5 (p 0) (p 1) f2 q8 u nul)) rfl rfl 28 _ (heap_new _ _) infoS rfl (cz_one _ _) ?_; rw [World.setRow_alloc_new]))
        clear k2 k3 e2 e2' e3 e4 e4' e5 b2 b3 bf bl
        obtain ⟨w2, D, hW, hBq, hb, hg, Dg⟩ := blk_new w1 (cz 23 (st5 (p 0) (p 1) f2 q8 u nul)) 28
        have hne7 : P ≠ D := Nat.ne_of_lt (Nat.lt_of_lt_of_le HP.out.lt Dg)
        have hD0 : w.heap.size ≤ D := Nat.le_trans g0.size Dg
        have HNB := Lib.hid (Nat.ne_of_lt (Nat.lt_of_lt_of_le HB.out.lt Dg))
        rw [hW, hBq]
        have HD7 := Lib.hid hb
        replace g0 := g0.trans hg
        replace HB := Lib.hid (HB.out.own hg)
        replace HP := Lib.hid (HP.out.own hg)
        clear hW hBq hb hg
        have HN7 := Lib.hid hne7
        clear hne7 Dg
        go_wp2
        go_loopw [8, 9, 10] (fun vi _ _ wr => ∃ k : Nat, vi = .int .i64 (k : Int) ∧ k ≤ 6 ∧ (∀ i, i < k → nE p i = 0) ∧ Own w wr ∧ Blk wr P (cz 23 nul) 28 ∧ Blk wr B (cz 22 p) 33 ∧ ∃ f, Blk wr D (cz 23 f) 28 ∧ ∀ j, j < 5 + k * 3 → f j = ntS p u j) (fun vi _ _ _ => 6 - (intOf vi).toNat)
        case atStart =>
          refine ⟨0, rfl, by omega, fun i hi => absurd hi (by omega), g0, HP.out, HB.out, _, HD7.out, ?_⟩
          intro j hj
          obtain ⟨x1, x2⟩ := HFL.out
          unfold ntS
          rw [x1, x2]
          unfold st5
          have t : j = 0 ∨ j = 1 ∨ j = 2 ∨ j = 3 ∨ j = 4 := by omega
          rcases t with rfl | rfl | rfl | rfl | rfl <;> rfl
        case round =>
          clear HP HD7 g0 HB
          obtain ⟨k, rfl, hk, hz, g0, hp, hb, f, hd, hf⟩ := hrel
          have HP := Lib.hid hp
          have HD7 := Lib.hid hd
          have HF := Lib.hid hf
          have HZ := Lib.hid hz
          have HB := Lib.hid hb
          clear hb
          clear hp hd hf hz
          by_cases hlt : k < 6
          · skip
            obtain ⟨d, h1⟩ : ∃ x, nD p k = x := ⟨_, rfl⟩
            obtain ⟨v, h2⟩ : ∃ x, nL p k = x := ⟨_, rfl⟩
            obtain ⟨b, h3⟩ : ∃ x, nB p k = x := ⟨_, rfl⟩
            obtain ⟨c, h4⟩ : ∃ x, nE p k = x := ⟨_, rfl⟩
            have HO := Lib.hid (And.intro h1 (And.intro h2 (And.intro h3 h4)))
            have HOF := Lib.hid (show Nt k (p (4 + k * 3)) (p (4 + k * 3 + 1)) (p (4 + k * 3 + 2)) d v b c by
              have := nt_is k (p (4 + k * 3)) (p (4 + k * 3 + 1)) (p (4 + k * 3 + 2))
              rw [← h1, ← h2, ← h3, ← h4]
              exact this)
            clear h1 h2 h3 h4
            have hkn : (k : Int) < 6 := by omega
            go_upto_region 11 with (first | ((with_reducible show wpList _ _ _ (⟨_, .load 30 (.tmp 47), _, _, _, none⟩ :: _) _ _); refine wpList_load_part rfl 30 (.tmp 47) rfl B (4 + k * 3) rfl 3 HB.out (by omega) (#[.int .i64 (p (4 + k * 3)), .int .i64 (p (4 + k * 3 + 1)), .int .i64 (p (4 + k * 3 + 2))]) rfl _ Tryd.underlying30 rfl infoA ?_) | (go_at_call 41; with_reducible refine (AimW.rnot_at _ _ _ _ d v b c _ HOF).mono ?_; rintro r w3 ⟨rfl, hg⟩; replace g0 := g0.trans hg; replace HB := Lib.hid (HB.out.own hg); replace HP := Lib.hid (HP.out.own hg); replace HD7 := Lib.hid (HD7.out.own hg); clear hg) | ((with_reducible show wpList _ _ _ (⟨_, .store 25 (.tmp 9) (.tmp 50), _, _, _, none⟩ :: _) _ _); refine wpList_store_row rfl 25 (.tmp 9) (.tmp 50) rfl _ #[.int .i64 d, .int .i64 v, .int .i64 b] rfl rfl 25 _ (heap_new _ _) infoT rfl (by simp [Value.oneCell']) ?_; rw [World.setRow_alloc_new]))
            clear HOF
            obtain ⟨w4, G, hW, hBq, hb, hg, Gg⟩ := blk_new w3 (#[.int .i64 d, .int .i64 v, .int .i64 b]) 25
            rw [hW, hBq]
            have HG := Lib.hid hb
            replace g0 := g0.trans hg
            replace HB := Lib.hid (HB.out.own hg)
            replace HP := Lib.hid (HP.out.own hg)
            replace HD7 := Lib.hid (HD7.out.own hg)
            clear hW hBq hb hg
            by_cases c0 : c = 0
            · subst c0
              go_upto_region 9 with (first | ((with_reducible show wpList _ _ _ (⟨_, .load 25 (.tmp 9), _, _, _, none⟩ :: _) _ _); refine wpList_load_row rfl 25 (.tmp 9) rfl G rfl 25 _ (0, 0) _ HG.out.raw Tryd.underlying25 rfl infoT ?_) | ((with_reducible show wpList _ _ _ (⟨_, .store 25 (.tmp 59) (.tmp 57), _, _, _, none⟩ :: _) _ _); refine wpList_store_part rfl 25 (.tmp 59) (.tmp 57) rfl D (5 + k * 3) 3 (l3 d v b) rfl (#[.int .i64 d, .int .i64 v, .int .i64 b]) rfl rfl HD7.out (by omega) infoT ?_))
              have hd := HD7.out.row (cz 23 (put f (5 + k * 3) 3 (l3 d v b)))
              have hp := HP.out.rowfar HN7.out (cz 23 (put f (5 + k * 3) 3 (l3 d v b)))
              have hb := HB.out.rowfar HNB.out (cz 23 (put f (5 + k * 3) 3 (l3 d v b)))
              replace g0 := own_setRow g0 hD0 (cz 23 (put f (5 + k * 3) 3 (l3 d v b)))
              clear HP HD7 HG Gg HB
              generalize w4.setRow D (cz 23 (put f (5 + k * 3) 3 (l3 d v b))) = w5 at *
              have HR := Lib.hid (And.intro hp (And.intro hd hb))
              clear hp hd hb
              go_wp2
              go_roundw
              case rel =>
                refine ⟨k + 1, by go_num, hlt, fun i hi => ?_, g0, HR.out.1, HR.out.2.2, _, HR.out.2.1, fun j hj => ?_⟩
                · by_cases e : i = k
                  · rw [e]; exact HO.out.2.2.2
                  · exact HZ.out i (by omega)
                · obtain ⟨o1, o2, o3, _⟩ := HO.out
                  obtain ⟨n1, n2, n3⟩ := nt_cells p u k
                  exact put_next (g := ntS p u) HF.out (n1.trans o1) (n2.trans o2) (n3.trans o3) j (by omega)
              case measure => simp [intOf]; omega
            · have kc : (c != 0) = true := bne_iff_ne.2 c0
              have HV := Lib.hid (show cz 23 nul = cz 23 (ntV p u) ∧ c = ntE p u by
                have h1 : fe (nE p) = c := by rw [fe_at HZ.out (by rw [HO.out.2.2.2]; exact c0) hlt]; exact HO.out.2.2.2
                have h2 : ntE p u = c := by unfold ntE; rw [if_pos HC.out, if_pos HM.out, if_neg (by rw [h1]; exact c0), h1]
                exact ⟨by rw [ntV_no (by rw [h2]; exact c0)], h2.symm⟩)
              clear HO HF HZ c0 HD7 HG Gg HM HFL
              go_wp2_with ((with_reducible show wpList _ _ _ (⟨_, .store 28 (.tmp 4) (.tmp 54), _, _, _, none⟩ :: _) _ _); refine wpList_store_row rfl 28 (.tmp 4) (.tmp 54) rfl P (cz 23 (nul)) rfl rfl 28 _ HP.out.raw infoS rfl (cz_one _ _) ?_)
              have hp := HP.out.row (cz 23 nul)
              rw [← HV.out.1, ← HV.out.2]
              exact bodyPost_ret (blk_results rfl rfl rfl hp Tryd.underlying28 rfl infoS) rfl ⟨rfl, own_setRow g0 hP0 _⟩
          · obtain rfl : k = 6 := by omega
            have hd := blk_to HD7.out HF.out
            clear HD7
            have HD7 := Lib.hid hd
            clear hd
            have HE := Lib.hid (show ntE p u = stE (ntS p u) by unfold ntE; rw [if_pos HC.out, if_pos HM.out, if_pos (fe_ok HZ.out)])
            clear HF HZ HM HFL
            by_cases hs : stE (ntS p u) = 0
            · have HV := Lib.hid (show cz 23 (ntS p u) = cz 23 (ntV p u) ∧ 0 = ntE p u from ⟨by rw [ntV_yes (HE.out.trans hs)], (HE.out.trans hs).symm⟩)
              have HS := Lib.hid hs
              clear hs HE
              go_wp2_with (first | ((with_reducible show wpList _ _ _ (⟨_, .load 28 (.tmp 7), _, _, _, none⟩ :: _) _ _); refine wpList_load_row rfl 28 (.tmp 7) rfl D rfl 28 _ (0, 0) _ HD7.out.raw Tryd.underlying28 rfl infoS ?_) | (go_at_call 14; with_reducible refine (rcheck_at (ntS p u) 0 _ HS).mono ?_; rintro r w6 ⟨rfl, hg⟩; replace g0 := g0.trans hg; replace HD7 := Lib.hid (HD7.out.own hg); replace HP := Lib.hid (HP.out.own hg); clear hg) | ((with_reducible show wpList _ _ _ (⟨_, .store 28 (.tmp 4) (.tmp 66), _, _, _, none⟩ :: _) _ _); refine wpList_store_row rfl 28 (.tmp 4) (.tmp 66) rfl P (cz 23 (ntS p u)) rfl rfl 28 _ HP.out.raw infoS rfl (cz_one _ _) ?_))
              have hp := HP.out.row (cz 23 (ntS p u))
              rw [← HV.out.1, ← HV.out.2]
              exact bodyPost_ret (blk_results rfl rfl rfl hp Tryd.underlying28 rfl infoS) rfl ⟨rfl, own_setRow g0 hP0 _⟩
            · obtain ⟨c, hc⟩ : ∃ c, stE (ntS p u) = c := ⟨_, rfl⟩
              rw [hc] at hs
              have kc : (c != 0) = true := bne_iff_ne.2 hs
              have HV := Lib.hid (show cz 23 nul = cz 23 (ntV p u) ∧ c = ntE p u from ⟨by rw [ntV_no (by rw [HE.out, hc]; exact hs)], by rw [HE.out, hc]⟩)
              have HS := Lib.hid hc
              clear hs HE hc
              go_wp2_with (first | ((with_reducible show wpList _ _ _ (⟨_, .load 28 (.tmp 7), _, _, _, none⟩ :: _) _ _); refine wpList_load_row rfl 28 (.tmp 7) rfl D rfl 28 _ (0, 0) _ HD7.out.raw Tryd.underlying28 rfl infoS ?_) | (go_at_call 14; with_reducible refine (rcheck_at (ntS p u) c _ HS).mono ?_; rintro r w6 ⟨rfl, hg⟩; replace g0 := g0.trans hg; replace HD7 := Lib.hid (HD7.out.own hg); replace HP := Lib.hid (HP.out.own hg); clear hg) | ((with_reducible show wpList _ _ _ (⟨_, .store 28 (.tmp 4) (.tmp 64), _, _, _, none⟩ :: _) _ _); refine wpList_store_row rfl 28 (.tmp 4) (.tmp 64) rfl P (cz 23 (nul)) rfl rfl 28 _ HP.out.raw infoS rfl (cz_one _ _) ?_))
              have hp := HP.out.row (cz 23 nul)
              rw [← HV.out.1, ← HV.out.2]
              exact bodyPost_ret (blk_results rfl rfl rfl hp Tryd.underlying28 rfl infoS) rfl ⟨rfl, own_setRow g0 hP0 _⟩
      · have HV := Lib.hid (show cz 23 nul = cz 23 (ntV p u) ∧ 2 = ntE p u by
          have h2 : ntE p u = 2 := by unfold ntE; rw [if_pos hv, if_neg (fun x => h3 (by omega))]
          exact ⟨by rw [ntV_no (by rw [h2]; decide)], h2.symm⟩)
        have kc : (m3 != 0) = true := bne_iff_ne.2 h3
        have bm : -8 < m3 ∧ m3 < 8 := by omega
        subst h2
        clear em el ew hv h3
        go_enter Tryd.func17, Tryd.ntmps17
        go_upto_region 1 with (fail)
        obtain ⟨W0, B, P, hW, hP, hB, hb, hp, g0, -, hP0, hne⟩ := two_new w (cz 22 p) 33 (cz 23 nul) 28
        rw [← cz23_nul] at hW
        rw [hW, hP, hB]
        have HB := Lib.hid hb
        have HP := Lib.hid hp
        have HNE := Lib.hid hne
        clear hW hP hB hb hp hne

        go_upto_region 4 with (first | ((with_reducible show wpList _ _ _ (⟨_, .load 33 (.tmp 2), _, _, _, none⟩ :: _) _ _); refine wpList_load_row rfl 33 (.tmp 2) rfl B rfl 33 _ (0, 0) _ HB.out.raw Tryd.underlying33 rfl infoP ?_) | (go_at_call 19; with_reducible refine (rvalid_at p 0 _ HC).mono ?_; rintro r w1 ⟨rfl, hg⟩; replace g0 := g0.trans hg; replace HB := Lib.hid (HB.out.own hg); replace HP := Lib.hid (HP.out.own hg); clear hg))
        have k2 := blk_num HB.out (i := 2) (by omega)
        have k3 := blk_num HB.out (i := 3) (by omega)
        generalize p 2 = q2 at k2 e2 e2' b2
        generalize p 3 = q3 at k3 e3 b3
        go_wp2_with ((with_reducible show wpList _ _ _ (⟨_, .store 28 (.tmp 4) (.tmp 28), _, _, _, none⟩ :: _) _ _); refine wpList_store_row rfl 28 (.tmp 4) (.tmp 28) rfl P (cz 23 (nul)) rfl rfl 28 _ HP.out.raw infoS rfl (cz_one _ _) ?_)
        have hp := HP.out.row (cz 23 nul)
        rw [← HV.out.1, ← HV.out.2]
        exact bodyPost_ret (blk_results rfl rfl rfl hp Tryd.underlying28 rfl infoS) rfl ⟨rfl, own_setRow g0 hP0 _⟩
    · have HV := Lib.hid (show cz 23 nul = cz 23 (ntV p u) ∧ 2 = ntE p u by
        have h3 : ntE p u = 2 := by unfold ntE; rw [if_pos hv, if_neg (fun x => h2 (e2.symm.trans x.1))]
        exact ⟨by rw [ntV_no (by rw [h3]; decide)], h3.symm⟩)
      have kc : (m2 != 0) = true := bne_iff_ne.2 h2
      have bm : 0 ≤ m2 ∧ m2 < 32 := by omega
      clear em el ew hv h2
      go_enter Tryd.func17, Tryd.ntmps17
      go_upto_region 1 with (fail)
      obtain ⟨W0, B, P, hW, hP, hB, hb, hp, g0, -, hP0, hne⟩ := two_new w (cz 22 p) 33 (cz 23 nul) 28
      rw [← cz23_nul] at hW
      rw [hW, hP, hB]
      have HB := Lib.hid hb
      have HP := Lib.hid hp
      have HNE := Lib.hid hne
      clear hW hP hB hb hp hne

      go_upto_region 4 with (first | ((with_reducible show wpList _ _ _ (⟨_, .load 33 (.tmp 2), _, _, _, none⟩ :: _) _ _); refine wpList_load_row rfl 33 (.tmp 2) rfl B rfl 33 _ (0, 0) _ HB.out.raw Tryd.underlying33 rfl infoP ?_) | (go_at_call 19; with_reducible refine (rvalid_at p 0 _ HC).mono ?_; rintro r w1 ⟨rfl, hg⟩; replace g0 := g0.trans hg; replace HB := Lib.hid (HB.out.own hg); replace HP := Lib.hid (HP.out.own hg); clear hg))
      have k2 := blk_num HB.out (i := 2) (by omega)
      have k3 := blk_num HB.out (i := 3) (by omega)
      generalize p 2 = q2 at k2 e2 e2' b2
      generalize p 3 = q3 at k3 e3 b3
      go_wp2_with ((with_reducible show wpList _ _ _ (⟨_, .store 28 (.tmp 4) (.tmp 28), _, _, _, none⟩ :: _) _ _); refine wpList_store_row rfl 28 (.tmp 4) (.tmp 28) rfl P (cz 23 (nul)) rfl rfl 28 _ HP.out.raw infoS rfl (cz_one _ _) ?_)
      have hp := HP.out.row (cz 23 nul)
      rw [← HV.out.1, ← HV.out.2]
      exact bodyPost_ret (blk_results rfl rfl rfl hp Tryd.underlying28 rfl infoS) rfl ⟨rfl, own_setRow g0 hP0 _⟩
  · obtain ⟨c, hc⟩ : ∃ c, vaE p = c := ⟨_, rfl⟩
    have HV := Lib.hid (show cz 23 nul = cz 23 (ntV p u) ∧ c = ntE p u by
      have h3 : ntE p u = c := by unfold ntE; rw [if_neg hv, hc]
      exact ⟨by rw [ntV_no (by rw [h3, ← hc]; exact hv)], h3.symm⟩)
    rw [hc] at hv
    have kc : (c != 0) = true := bne_iff_ne.2 hv
    have HC := Lib.hid hc
    clear hv hc
    go_enter Tryd.func17, Tryd.ntmps17
    go_upto_region 1 with (fail)
    obtain ⟨W0, B, P, hW, hP, hB, hb, hp, g0, -, hP0, hne⟩ := two_new w (cz 22 p) 33 (cz 23 nul) 28
    rw [← cz23_nul] at hW
    rw [hW, hP, hB]
    have HB := Lib.hid hb
    have HP := Lib.hid hp
    have HNE := Lib.hid hne
    clear hW hP hB hb hp hne

    go_wp2_with (first | ((with_reducible show wpList _ _ _ (⟨_, .load 33 (.tmp 2), _, _, _, none⟩ :: _) _ _); refine wpList_load_row rfl 33 (.tmp 2) rfl B rfl 33 _ (0, 0) _ HB.out.raw Tryd.underlying33 rfl infoP ?_) | (go_at_call 19; with_reducible refine (rvalid_at p c _ HC).mono ?_; rintro r w1 ⟨rfl, hg⟩; replace g0 := g0.trans hg; replace HB := Lib.hid (HB.out.own hg); replace HP := Lib.hid (HP.out.own hg); clear hg) | ((with_reducible show wpList _ _ _ (⟨_, .store 28 (.tmp 4) (.tmp 16), _, _, _, none⟩ :: _) _ _); refine wpList_store_row rfl 28 (.tmp 4) (.tmp 16) rfl P (cz 23 (nul)) rfl rfl 28 _ HP.out.raw infoS rfl (cz_one _ _) ?_))
    have hp := HP.out.row (cz 23 nul)
    rw [← HV.out.1, ← HV.out.2]
    exact bodyPost_ret (blk_results rfl rfl rfl hp Tryd.underlying28 rfl infoS) rfl ⟨rfl, own_setRow g0 hP0 _⟩
theorem rnot_at (p s : Vl) (u c : Int) (w : World) (H : Hid (cz 23 (ntV p u) = cz 23 s ∧ ntE p u = c)) :
    Calls Tryd.prog 17 #[.agg (cz 22 p), .int .i64 u] w fun r w' => r = .returned (.tuple #[.agg (cz 23 s), .int .i64 c]) ∧ Own w w' := by
  rw [← H.out.1, ← H.out.2]
  exact rnot_any p u w
end Go.Proofs.YtneobaininejaaaDoor.PstW
