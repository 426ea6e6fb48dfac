/-
  Walks of the specification of layer joints: Of. Condition: none.
-/
import Derived.Test.YtighpjhipgobiaaDoorJointsA
import Derived.Test.YtighpjhipgobiaaDoorJointsPC
import Derived.Test.YtighpjhipgobiaaDoorBuildA
namespace Go.Proofs.YtighpjhipgobiaaDoor.JntW
open Go.ChangeShapes Go.WideShapes Go.ChangeAt Go.RowKit
open PairW AimP AimW BlkW PrtW PstP PstW JntP RegD
set_option maxRecDepth 100000 in
set_option maxHeartbeats 2000000 in
theorem rplusH_at (a b c d e f x y z : Int) (w : World) (H : Hid (sm a b c d e f x y z)) :
    Calls Tryd.prog 57 #[.agg #[.int .i64 a, .int .i64 b, .int .i64 c], .agg #[.int .i64 d, .int .i64 e, .int .i64 f]] w fun r w' => r = .returned (.agg #[.int .i64 x, .int .i64 y, .int .i64 z]) ∧ Own w w' := by
  obtain ⟨⟨h1, h2, h3⟩, ⟨h4, h5, h6⟩, h7⟩ := H.out
  exact rplus_at a b c d e f x y z w h1 h2 h3 h4 h5 h6 (Lib.hid h7)
theorem rbc_at (b : Vl) (c : Int) (w : World) (H : Hid (BuiP.chk b = c)) :
    Calls Tryd.prog 54 #[.agg (cz 15 b)] w fun r w' => r = .returned (.int .i64 c) ∧ Own w w' := BuiW.rcheck_at b c w H
theorem li_bd {b p : Vl} (hb : BuiP.chk b = 0) (hp : vaE p = 0) {i : Nat} (hi : i = 7 ∨ i = 8) : (-1600 ≤ b i * p 3 ∧ b i * p 3 ≤ 1600) ∧ -200 ≤ NumP.nearV (b i * p 3) 8 ∧ NumP.nearV (b i * p 3) 8 ≤ 200 := by
  have h1 := (BuiP.ok_of hb).1
  have h7 : 0 ≤ b 7 ∧ b 7 ≤ 200 := h1 7 (by omega)
  have h8 : 0 ≤ b 8 ∧ b 8 ≤ 200 := h1 8 (by omega)
  obtain ⟨-, -, -, h3⟩ := (va_yes hp).1
  have h : -(200 * 8) ≤ b i * p 3 ∧ b i * p 3 ≤ 200 * 8 := AngP.prod_bd (by rcases hi with rfl | rfl <;> omega) h3
  exact ⟨by omega, NumP.near_ge (by decide) (by omega), NumP.near_le (by decide) (by omega)⟩
theorem shl_one {k : Nat} (hk : k < 2) {fo : Int} (hfo : ((1 + k : Nat) : Int) = fo) : wrap64 ((2 : Int) ^ k) = fo := by
  have t : k = 0 ∨ k = 1 := by omega
  rcases t with rfl | rfl
  · subst hfo
    decide +kernel
  · subst hfo
    decide +kernel
set_option maxRecDepth 100000 in
set_option maxHeartbeats 40000000 in
theorem rof_any (b p : Vl) (s : Int) (w : World) :
    Calls Tryd.prog 21 #[.agg (cz 15 b), .agg (cz 22 p), .int .i64 s] w fun r w' => r = .returned (.tuple #[.agg (cz 33 (joV b p s)), .int .i64 (joE b p s)]) ∧ Own w w' := by
  by_cases hc : BuiP.chk b = 0
  · by_cases hv : vaE p = 0
    · have HC := Lib.hid hc
      have HV := Lib.hid hv
      by_cases hs : 0 ≤ s ∧ s ≤ 3
      · have hj := jo_ok hc hv hs
        have HJE := Lib.hid (joV_yes hj)
        rw [hj]
        have HSU := Lib.hid hs
        have HC0 := Lib.hid hc
        have HV0 := Lib.hid hv
        have HAL1 := Lib.hid (show alo (b 1) (p 10) (p 11) (p 12) (p 2) (alX (b 1) p 2) (alY (b 1) p 2) (alZ (b 1) p 2) from al_ok hc hv (i := 1) (k := 2) (by omega) (by omega))
        have HSM1 := Lib.hid (sm_neck hc hv)
        have HAL2 := Lib.hid (show alo (b 2) (p 19) (p 20) (p 21) (p 2) (alX (b 2) p 5) (alY (b 2) p 5) (alZ (b 2) p 5) from al_ok hc hv (i := 2) (k := 5) (by omega) (by omega))
        have HSM2 := Lib.hid (sm_head hc hv)
        have h0 : 400 ≤ b 0 ∧ b 0 ≤ 1500 := (BuiP.ok_of hc).1 0 (by omega)
        obtain ⟨c7, c7'⟩ := li_bd hc hv (i := 7) (.inl rfl)
        obtain ⟨c8, c8'⟩ := li_bd hc hv (i := 8) (.inr rfl)
        obtain ⟨r7, e7⟩ : ∃ x, b 7 * p 3 = x := ⟨_, rfl⟩
        obtain ⟨r8, e8⟩ : ∃ x, b 8 * p 3 = x := ⟨_, rfl⟩
        have i7 : IntKind.i64.wrap (b 7 * p 3) = r7 := (IntWalk.i64_in _ (by omega)).trans e7
        have i8 : IntKind.i64.wrap (b 8 * p 3) = r8 := (IntWalk.i64_in _ (by omega)).trans e8
        obtain ⟨l7, L7⟩ : ∃ x, Hid (NumP.nearV r7 8 = x) := ⟨_, Lib.hid rfl⟩
        obtain ⟨l8, L8⟩ : ∃ x, Hid (NumP.nearV r8 8 = x) := ⟨_, Lib.hid rfl⟩
        rw [e7, L7.out] at c7'
        rw [e8, L8.out] at c8'
        have j7 : IntKind.i64.wrap (b 0 + l7) = b 0 + l7 := IntWalk.i64_in _ (by omega)
        have j8 : IntKind.i64.wrap (b 0 + l8) = b 0 + l8 := IntWalk.i64_in _ (by omega)
        have br7 : -2147483648 ≤ r7 ∧ r7 ≤ 2147483648 := by omega
        have br8 : -2147483648 ≤ r8 ∧ r8 ≤ 2147483648 := by omega
        have d0 : decide (s < 0) = false := decide_eq_false (by omega)
        have d1 : decide (3 < s) = false := decide_eq_false (by omega)
        have E7 := Lib.hid e7
        have E8 := Lib.hid e8
        clear hc hv hs hj c7 c8 c7' c8' h0 e7 e8
        go_enter Tryd.func21, Tryd.ntmps21
        go_upto_region 1 with (fail)
        obtain ⟨W0, B, P, R, hW, hR, hP, hB, hb1, hp1, hr1, g0, -, -, hR0, -⟩ := three_new w (cz 15 b) 24 (cz 22 p) 31 (cz 33 nul) 59
        rw [← cz33_nul] at hW
        rw [hW, hR, hP, hB]
        have HB := Lib.hid hb1
        have HP := Lib.hid hp1
        have HR := Lib.hid hr1
        clear hW hR hP hB hb1 hp1 hr1
        go_upto_region 9 with (first | ((with_reducible show wpList _ _ _ (⟨_, .load 24 (.tmp 3), _, _, _, none⟩ :: _) _ _); refine wpList_load_row rfl 24 (.tmp 3) rfl B rfl 24 _ (0, 0) _ HB.out.raw Tryd.underlying24 rfl infoB ?_) | ((with_reducible show wpList _ _ _ (⟨_, .load 31 (.tmp 4), _, _, _, none⟩ :: _) _ _); refine wpList_load_row rfl 31 (.tmp 4) rfl P rfl 31 _ (0, 0) _ HP.out.raw Tryd.underlying31 rfl infoP ?_) | (go_at_call 54; with_reducible refine (rbc_at b 0 _ HC).mono ?_; rintro r w1 ⟨rfl, hg⟩; replace g0 := g0.trans hg; replace HB := Lib.hid (HB.out.own hg); replace HP := Lib.hid (HP.out.own hg); replace HR := Lib.hid (HR.out.own hg); clear hg) | (go_at_call 55; with_reducible refine (rvalid_at p 0 _ HV).mono ?_; rintro r w2 ⟨rfl, hg⟩; replace g0 := g0.trans hg; replace HB := Lib.hid (HB.out.own hg); replace HP := Lib.hid (HP.out.own hg); replace HR := Lib.hid (HR.out.own hg); clear hg))
        clear d0 d1
        refine RegD.region_duty [32, 33, 34, 35, 36, 37, 38, 39, 40, 10] (RegI.upd (RegI.upd (RegI.upd (RegI.upd (RegI.upd (RegI.upd (RegI.upd (RegI.upd (RegI.upd (RegI.upd (fun _ => undef) 32 (.pointer (some ⟨B, 0, none⟩))) 33 (.int .i64 (b 0))) 34 (.pointer (some ⟨B, 8, none⟩))) 35 (.int .i64 (b 8))) 36 (.pointer (some ⟨P, 3, none⟩))) 37 (.int .i64 (p 3))) 38 (.int .i64 r8)) 39 (.int .i64 l8)) 40 (.int .i64 (b 0 + l8))) 10 (.int .i64 (b 0 + l8))) (by kernel_rfl) (by kernel_rfl) (by intro d hd; simp at hd; simp; omega) ?_
        simp only [RegD.FF, RegI.FX, RegI.upd, List.foldl_cons, List.foldl_nil, List.not_mem_nil, if_true, if_false, Nat.reduceEqDiff]
        simp only [List.setIfInBounds_toArray, List.set_cons_succ, List.set_cons_zero]
        refine And.intro ?hs1 ?he1
        case hs1 =>
          refine And.intro ?s1_0 (And.intro ?s1_1 (And.intro ?s1_2 (And.intro ?s1_3 (And.intro ?s1_4 (And.intro ?s1_5 (And.intro ?s1_6 (And.intro ?s1_7 (And.intro ?s1_8 (And.intro ?s1_9 (trivial))))))))))
          case s1_0 =>
            intro u w1 hO
            go_wp2
            exact ⟨rfl, rfl, rfl, Own.refl _⟩
          case s1_1 =>
            intro u w1 hO
            have kk := blk_num (HB.out.own hO) (i := 0) (by omega)
            go_wp2
            exact ⟨rfl, rfl, rfl, Own.refl _⟩
          case s1_2 =>
            intro u w1 hO
            go_wp2
            exact ⟨rfl, rfl, rfl, Own.refl _⟩
          case s1_3 =>
            intro u w1 hO
            have kk := blk_num (HB.out.own hO) (i := 8) (by omega)
            go_wp2
            exact ⟨rfl, rfl, rfl, Own.refl _⟩
          case s1_4 =>
            intro u w1 hO
            go_wp2
            exact ⟨rfl, rfl, rfl, Own.refl _⟩
          case s1_5 =>
            intro u w1 hO
            have kk := blk_num (HP.out.own hO) (i := 3) (by omega)
            go_wp2
            exact ⟨rfl, rfl, rfl, Own.refl _⟩
          case s1_6 =>
            intro u w1 hO
            go_wp2
            exact ⟨rfl, rfl, rfl, Own.refl _⟩
          case s1_7 =>
            intro u w1 hO
            go_wp2_with (go_at_call 56; with_reducible refine (rrd_at r8 8 l8 _ (by omega) br8 L8).mono ?_; rintro r w2 ⟨rfl, hg⟩)
            exact ⟨rfl, rfl, rfl, hg⟩
          case s1_8 =>
            intro u w1 hO
            go_wp2
            exact ⟨rfl, rfl, rfl, Own.refl _⟩
          case s1_9 =>
            intro u w1 hO
            go_wp2
            exact ⟨rfl, rfl, rfl, Own.refl _⟩
        intro u9 w3 hO
        replace g0 := g0.trans hO
        replace HB := Lib.hid (HB.out.own hO)
        replace HP := Lib.hid (HP.out.own hO)
        replace HR := Lib.hid (HR.out.own hO)
        clear hO
        have k3 := blk_num HP.out (i := 3) (by omega)
        go_upto_if 43 with (fail)
        go_cut [10] (fun s wx => s = .int .i64 (hpZ b p) ∧ Own w3 wx)
        case first =>
          by_cases c : p 3 < 0
          · have d0 : decide (p 3 < 0) = true := decide_eq_true c
            have HZ := Lib.hid (show b 0 + l7 = hpZ b p by unfold hpZ lf; rw [if_pos c, E7.out, L7.out])
            clear c
            rw [d0]
            go_upto_region 11 with (fail)
            clear k3 d0
            refine RegD.region_duty [44, 45, 46, 47, 48, 49, 50, 51, 52, 10] (RegI.upd (RegI.upd (RegI.upd (RegI.upd (RegI.upd (RegI.upd (RegI.upd (RegI.upd (RegI.upd (RegI.upd (fun _ => undef) 44 (.pointer (some ⟨B, 0, none⟩))) 45 (.int .i64 (b 0))) 46 (.pointer (some ⟨B, 7, none⟩))) 47 (.int .i64 (b 7))) 48 (.pointer (some ⟨P, 3, none⟩))) 49 (.int .i64 (p 3))) 50 (.int .i64 r7)) 51 (.int .i64 l7)) 52 (.int .i64 (b 0 + l7))) 10 (.int .i64 (b 0 + l7))) (by kernel_rfl) (by kernel_rfl) (by intro d hd; simp at hd; simp; omega) ?_
            simp only [RegD.FF, RegI.FX, RegI.upd, List.foldl_cons, List.foldl_nil, List.not_mem_nil, if_true, if_false, Nat.reduceEqDiff]
            simp only [List.setIfInBounds_toArray, List.set_cons_succ, List.set_cons_zero]
            refine And.intro ?hs2 ?he2
            case hs2 =>
              refine And.intro ?s2_0 (And.intro ?s2_1 (And.intro ?s2_2 (And.intro ?s2_3 (And.intro ?s2_4 (And.intro ?s2_5 (And.intro ?s2_6 (And.intro ?s2_7 (And.intro ?s2_8 (And.intro ?s2_9 (trivial))))))))))
              case s2_0 =>
                intro u w1 hO
                go_wp2
                exact ⟨rfl, rfl, rfl, Own.refl _⟩
              case s2_1 =>
                intro u w1 hO
                have kk := blk_num (HB.out.own hO) (i := 0) (by omega)
                go_wp2
                exact ⟨rfl, rfl, rfl, Own.refl _⟩
              case s2_2 =>
                intro u w1 hO
                go_wp2
                exact ⟨rfl, rfl, rfl, Own.refl _⟩
              case s2_3 =>
                intro u w1 hO
                have kk := blk_num (HB.out.own hO) (i := 7) (by omega)
                go_wp2
                exact ⟨rfl, rfl, rfl, Own.refl _⟩
              case s2_4 =>
                intro u w1 hO
                go_wp2
                exact ⟨rfl, rfl, rfl, Own.refl _⟩
              case s2_5 =>
                intro u w1 hO
                have kk := blk_num (HP.out.own hO) (i := 3) (by omega)
                go_wp2
                exact ⟨rfl, rfl, rfl, Own.refl _⟩
              case s2_6 =>
                intro u w1 hO
                go_wp2
                exact ⟨rfl, rfl, rfl, Own.refl _⟩
              case s2_7 =>
                intro u w1 hO
                go_wp2_with (go_at_call 56; with_reducible refine (rrd_at r7 8 l7 _ (by omega) br7 L7).mono ?_; rintro r w2 ⟨rfl, hg⟩)
                exact ⟨rfl, rfl, rfl, hg⟩
              case s2_8 =>
                intro u w1 hO
                go_wp2
                exact ⟨rfl, rfl, rfl, Own.refl _⟩
              case s2_9 =>
                intro u w1 hO
                go_wp2
                exact ⟨rfl, rfl, rfl, Own.refl _⟩
            intro u9 w4 hO
            go_wp2
            go_meet
            exact ⟨by rw [HZ.out], hO⟩
          · have d0 : decide (p 3 < 0) = false := decide_eq_false c
            have HZ := Lib.hid (show b 0 + l8 = hpZ b p by unfold hpZ lf; rw [if_neg c, E8.out, L8.out])
            clear c
            rw [d0]
            go_wp2
            go_meet
            exact ⟨by rw [HZ.out], Own.refl _⟩
        case rest =>
          obtain ⟨rfl, hg⟩ := hcut
          replace g0 := g0.trans hg
          replace HB := Lib.hid (HB.out.own hg)
          replace HP := Lib.hid (HP.out.own hg)
          replace HR := Lib.hid (HR.out.own hg)
          clear hg k3 br7 br8 L7 L8 E7 E8 i7 i8 j7 j8
          have p0 := blk_num HP.out (i := 0) (by omega)
          have p1 := blk_num HP.out (i := 1) (by omega)
          go_upto_region 13 with (first | ((with_reducible show wpList _ _ _ (⟨_, .build 59 _, _, _, _, _⟩ :: _) _ _); refine wpList_build_as rfl 59 [(0, .tmp 60)] rfl [(0, .agg #[.int .i64 (p 0), .int .i64 (p 1), .int .i64 (hpZ b p)])] rfl (cz 33 (put nul 0 3 (l3 (p 0) (p 1) (hpZ b p)))) (bld_jo _ _ _) ?_) | ((with_reducible show wpList _ _ _ (⟨_, .store 59 (.tmp 11) (.tmp 61), _, _, _, none⟩ :: _) _ _); refine wpList_store_row rfl 59 (.tmp 11) (.tmp 61) rfl _ (cz 33 (put nul 0 3 (l3 (p 0) (p 1) (hpZ b p)))) rfl rfl 59 _ (heap_new _ _) infoJ rfl (cz_one _ _) ?_; rw [World.setRow_alloc_new]))
          obtain ⟨w4, J, hW, hBq, hb, hg, Jg⟩ := blk_new wc (cz 33 (put nul 0 3 (l3 (p 0) (p 1) (hpZ b p)))) 59
          have HNE := Lib.hid (show B ≠ J ∧ P ≠ J ∧ R ≠ J from ⟨Nat.ne_of_lt (Nat.lt_of_lt_of_le HB.out.lt Jg), Nat.ne_of_lt (Nat.lt_of_lt_of_le HP.out.lt Jg), Nat.ne_of_lt (Nat.lt_of_lt_of_le HR.out.lt Jg)⟩)
          have hJ0 : w.heap.size ≤ J := Nat.le_trans g0.size Jg
          rw [hW, hBq]
          have HJ := Lib.hid hb
          replace g0 := g0.trans hg
          replace HB := Lib.hid (HB.out.own hg)
          replace HP := Lib.hid (HP.out.own hg)
          replace HR := Lib.hid (HR.out.own hg)
          clear hW hBq hb hg
          clear Jg p0 p1
          go_frame
          refine RegD.region_dutyJ [62, 63, 64, 65, 66, 67, 68, 69, 70, 71, 72, 73] 12 33 (3) 3 (put nul 0 3 (l3 (p 0) (p 1) (hpZ b p))) (l3 (nkX b p) (nkY b p) (nkZ b p)) (RegI.upd (RegI.upd (RegI.upd (RegI.upd (RegI.upd (RegI.upd (RegI.upd (RegI.upd (RegI.upd (RegI.upd (RegI.upd (RegI.upd (fun _ => undef) 62 (.pointer (some ⟨J, 0, none⟩))) 63 (.agg #[.int .i64 (p 0), .int .i64 (p 1), .int .i64 (hpZ b p)])) 64 (.pointer (some ⟨B, 1, none⟩))) 65 (.int .i64 (b 1))) 66 (.pointer (some ⟨P, 4, none⟩))) 67 (.pointer (some ⟨P, 10, none⟩))) 68 (.agg #[.int .i64 (p 10), .int .i64 (p 11), .int .i64 (p 12)])) 69 (.pointer (some ⟨P, 2, none⟩))) 70 (.int .i64 (p 2))) 71 (.agg #[.int .i64 (alX (b 1) p 2), .int .i64 (alY (b 1) p 2), .int .i64 (alZ (b 1) p 2)])) 72 (.agg #[.int .i64 (nkX b p), .int .i64 (nkY b p), .int .i64 (nkZ b p)])) 73 (.pointer (some ⟨J, 3, none⟩))) J 59 (by kernel_rfl) (by kernel_rfl) (by decide) (by intro d hd; simp at hd; simp; omega) HJ.out ?_
          simp only [RegD.FF, RegI.FX, RegI.upd, List.foldl_cons, List.foldl_nil, List.not_mem_nil, if_true, if_false, Nat.reduceEqDiff]
          simp only [List.setIfInBounds_toArray, List.set_cons_succ, List.set_cons_zero]
          refine And.intro ?hs3 ?he3
          case hs3 =>
            refine And.intro ?s3_0 (And.intro ?s3_1 (And.intro ?s3_2 (And.intro ?s3_3 (And.intro ?s3_4 (And.intro ?s3_5 (And.intro ?s3_6 (And.intro ?s3_7 (And.intro ?s3_8 (And.intro ?s3_9 (And.intro ?s3_10 (And.intro ?s3_11 (And.intro ?s3_12 (trivial)))))))))))))
            case s3_0 =>
              refine RegD.stepJ_det (by decide) (fun u w1 h hO hJ hA => ?_)
              go_wp2
              exact ⟨rfl, rfl, rfl, Own.refl _⟩
            case s3_1 =>
              refine RegD.stepJ_det (by decide) (fun u w1 h hO hJ hA => ?_)
              have HJ9 := Lib.hid hJ
              have HA9 := Lib.hid hA
              clear hJ hA
              go_wp2_with ((with_reducible show wpList _ _ _ (⟨_, .load 56 (.tmp 62), _, _, _, none⟩ :: _) _ _); refine wpList_load_part rfl 56 (.tmp 62) rfl J (0) rfl 3 HJ9.out (by omega) (#[.int .i64 (p 0), .int .i64 (p 1), .int .i64 (hpZ b p)]) ((pt_cz (pt_put nul 0 _ _ _)).trans (apart_part HA9.out (by omega) (by omega)).symm) _ Tryd.underlying56 rfl infoV ?_)
              exact ⟨rfl, rfl, rfl, Own.refl _⟩
            case s3_2 =>
              refine RegD.stepJ_det (by decide) (fun u w1 h hO hJ hA => ?_)
              go_wp2
              exact ⟨rfl, rfl, rfl, Own.refl _⟩
            case s3_3 =>
              refine RegD.stepJ_det (by decide) (fun u w1 h hO hJ hA => ?_)
              have kk := blk_num (HB.out.ownx hO HNE.out.1) (i := 1) (by omega)
              go_wp2
              exact ⟨rfl, rfl, rfl, Own.refl _⟩
            case s3_4 =>
              refine RegD.stepJ_det (by decide) (fun u w1 h hO hJ hA => ?_)
              go_wp2
              exact ⟨rfl, rfl, rfl, Own.refl _⟩
            case s3_5 =>
              refine RegD.stepJ_det (by decide) (fun u w1 h hO hJ hA => ?_)
              go_wp2
              exact ⟨rfl, rfl, rfl, Own.refl _⟩
            case s3_6 =>
              refine RegD.stepJ_det (by decide) (fun u w1 h hO hJ hA => ?_)
              have HB9 := Lib.hid (HP.out.ownx hO HNE.out.2.1)
              go_wp2_with ((with_reducible show wpList _ _ _ (⟨_, .load 28 (.tmp 67), _, _, _, none⟩ :: _) _ _); refine wpList_load_part rfl 28 (.tmp 67) rfl P (10) rfl 3 HB9.out (by omega) (#[.int .i64 (p 10), .int .i64 (p 11), .int .i64 (p 12)]) rfl _ Tryd.underlying28 rfl infoA ?_)
              exact ⟨rfl, rfl, rfl, Own.refl _⟩
            case s3_7 =>
              refine RegD.stepJ_det (by decide) (fun u w1 h hO hJ hA => ?_)
              go_wp2
              exact ⟨rfl, rfl, rfl, Own.refl _⟩
            case s3_8 =>
              refine RegD.stepJ_det (by decide) (fun u w1 h hO hJ hA => ?_)
              have kk := blk_num (HP.out.ownx hO HNE.out.2.1) (i := 2) (by omega)
              go_wp2
              exact ⟨rfl, rfl, rfl, Own.refl _⟩
            case s3_9 =>
              refine RegD.stepJ_det (by decide) (fun u w1 h hO hJ hA => ?_)
              go_wp2_with (go_at_call 58; with_reducible refine (ralong_at _ _ _ _ _ _ _ _ _ HAL1).mono ?_; rintro r w2 ⟨rfl, hg⟩)
              exact ⟨rfl, rfl, rfl, hg⟩
            case s3_10 =>
              refine RegD.stepJ_det (by decide) (fun u w1 h hO hJ hA => ?_)
              go_wp2_with (go_at_call 57; with_reducible refine (rplusH_at _ _ _ _ _ _ _ _ _ _ HSM1).mono ?_; rintro r w2 ⟨rfl, hg⟩)
              exact ⟨rfl, rfl, rfl, hg⟩
            case s3_11 =>
              refine RegD.stepJ_det (by decide) (fun u w1 h hO hJ hA => ?_)
              go_wp2
              exact ⟨rfl, rfl, rfl, Own.refl _⟩
            case s3_12 =>
              refine RegD.stepJ_store rfl (fun u w1 h hO hJ => ?_)
              have HN := Lib.hid hJ
              clear hJ
              go_wp2_with ((with_reducible show wpList _ _ _ (⟨_, .store 56 (.tmp 73) (.tmp 72), _, _, _, none⟩ :: _) _ _); refine wpList_store_part rfl 56 (.tmp 73) (.tmp 72) rfl J (3) 3 (l3 (nkX b p) (nkY b p) (nkZ b p)) rfl (#[.int .i64 (nkX b p), .int .i64 (nkY b p), .int .i64 (nkZ b p)]) rfl rfl HN.out (by omega) infoV ?_)
              exact ⟨rfl, rfl, rfl⟩
          intro u w5 hO hj
          replace g0 := own_x g0 hJ0 hO
          replace HB := Lib.hid (HB.out.ownx hO HNE.out.1)
          replace HP := Lib.hid (HP.out.ownx hO HNE.out.2.1)
          replace HR := Lib.hid (HR.out.ownx hO HNE.out.2.2)
          clear HJ
          have HJ := Lib.hid hj
          clear hj hO
          go_upto_region 14 with (fail)
          refine RegD.region_dutyJ [74, 75, 76, 77, 78, 79, 80, 81, 82, 83, 84, 85] 12 33 (6) 3 (put (put nul 0 3 (l3 (p 0) (p 1) (hpZ b p))) 3 3 (l3 (nkX b p) (nkY b p) (nkZ b p))) (l3 (hdX b p) (hdY b p) (hdZ b p)) (RegI.upd (RegI.upd (RegI.upd (RegI.upd (RegI.upd (RegI.upd (RegI.upd (RegI.upd (RegI.upd (RegI.upd (RegI.upd (RegI.upd (fun _ => undef) 74 (.pointer (some ⟨J, 3, none⟩))) 75 (.agg #[.int .i64 (nkX b p), .int .i64 (nkY b p), .int .i64 (nkZ b p)])) 76 (.pointer (some ⟨B, 2, none⟩))) 77 (.int .i64 (b 2))) 78 (.pointer (some ⟨P, 4, none⟩))) 79 (.pointer (some ⟨P, 19, none⟩))) 80 (.agg #[.int .i64 (p 19), .int .i64 (p 20), .int .i64 (p 21)])) 81 (.pointer (some ⟨P, 2, none⟩))) 82 (.int .i64 (p 2))) 83 (.agg #[.int .i64 (alX (b 2) p 5), .int .i64 (alY (b 2) p 5), .int .i64 (alZ (b 2) p 5)])) 84 (.agg #[.int .i64 (hdX b p), .int .i64 (hdY b p), .int .i64 (hdZ b p)])) 85 (.pointer (some ⟨J, 6, none⟩))) J 59 (by kernel_rfl) (by kernel_rfl) (by decide) (by intro d hd; simp at hd; simp; omega) HJ.out ?_
          simp only [RegD.FF, RegI.FX, RegI.upd, List.foldl_cons, List.foldl_nil, List.not_mem_nil, if_true, if_false, Nat.reduceEqDiff]
          simp only [List.setIfInBounds_toArray, List.set_cons_succ, List.set_cons_zero]
          refine And.intro ?hs4 ?he4
          case hs4 =>
            refine And.intro ?s4_0 (And.intro ?s4_1 (And.intro ?s4_2 (And.intro ?s4_3 (And.intro ?s4_4 (And.intro ?s4_5 (And.intro ?s4_6 (And.intro ?s4_7 (And.intro ?s4_8 (And.intro ?s4_9 (And.intro ?s4_10 (And.intro ?s4_11 (And.intro ?s4_12 (trivial)))))))))))))
            case s4_0 =>
              refine RegD.stepJ_det (by decide) (fun u w1 h hO hJ hA => ?_)
              go_wp2
              exact ⟨rfl, rfl, rfl, Own.refl _⟩
            case s4_1 =>
              refine RegD.stepJ_det (by decide) (fun u w1 h hO hJ hA => ?_)
              have HJ9 := Lib.hid hJ
              have HA9 := Lib.hid hA
              clear hJ hA
              go_wp2_with ((with_reducible show wpList _ _ _ (⟨_, .load 56 (.tmp 74), _, _, _, none⟩ :: _) _ _); refine wpList_load_part rfl 56 (.tmp 74) rfl J (3) rfl 3 HJ9.out (by omega) (#[.int .i64 (nkX b p), .int .i64 (nkY b p), .int .i64 (nkZ b p)]) ((pt_cz (pt_put _ 3 _ _ _)).trans (apart_part HA9.out (by omega) (by omega)).symm) _ Tryd.underlying56 rfl infoV ?_)
              exact ⟨rfl, rfl, rfl, Own.refl _⟩
            case s4_2 =>
              refine RegD.stepJ_det (by decide) (fun u w1 h hO hJ hA => ?_)
              go_wp2
              exact ⟨rfl, rfl, rfl, Own.refl _⟩
            case s4_3 =>
              refine RegD.stepJ_det (by decide) (fun u w1 h hO hJ hA => ?_)
              have kk := blk_num (HB.out.ownx hO HNE.out.1) (i := 2) (by omega)
              go_wp2
              exact ⟨rfl, rfl, rfl, Own.refl _⟩
            case s4_4 =>
              refine RegD.stepJ_det (by decide) (fun u w1 h hO hJ hA => ?_)
              go_wp2
              exact ⟨rfl, rfl, rfl, Own.refl _⟩
            case s4_5 =>
              refine RegD.stepJ_det (by decide) (fun u w1 h hO hJ hA => ?_)
              go_wp2
              exact ⟨rfl, rfl, rfl, Own.refl _⟩
            case s4_6 =>
              refine RegD.stepJ_det (by decide) (fun u w1 h hO hJ hA => ?_)
              have HB9 := Lib.hid (HP.out.ownx hO HNE.out.2.1)
              go_wp2_with ((with_reducible show wpList _ _ _ (⟨_, .load 28 (.tmp 79), _, _, _, none⟩ :: _) _ _); refine wpList_load_part rfl 28 (.tmp 79) rfl P (19) rfl 3 HB9.out (by omega) (#[.int .i64 (p 19), .int .i64 (p 20), .int .i64 (p 21)]) rfl _ Tryd.underlying28 rfl infoA ?_)
              exact ⟨rfl, rfl, rfl, Own.refl _⟩
            case s4_7 =>
              refine RegD.stepJ_det (by decide) (fun u w1 h hO hJ hA => ?_)
              go_wp2
              exact ⟨rfl, rfl, rfl, Own.refl _⟩
            case s4_8 =>
              refine RegD.stepJ_det (by decide) (fun u w1 h hO hJ hA => ?_)
              have kk := blk_num (HP.out.ownx hO HNE.out.2.1) (i := 2) (by omega)
              go_wp2
              exact ⟨rfl, rfl, rfl, Own.refl _⟩
            case s4_9 =>
              refine RegD.stepJ_det (by decide) (fun u w1 h hO hJ hA => ?_)
              go_wp2_with (go_at_call 58; with_reducible refine (ralong_at _ _ _ _ _ _ _ _ _ HAL2).mono ?_; rintro r w2 ⟨rfl, hg⟩)
              exact ⟨rfl, rfl, rfl, hg⟩
            case s4_10 =>
              refine RegD.stepJ_det (by decide) (fun u w1 h hO hJ hA => ?_)
              go_wp2_with (go_at_call 57; with_reducible refine (rplusH_at _ _ _ _ _ _ _ _ _ _ HSM2).mono ?_; rintro r w2 ⟨rfl, hg⟩)
              exact ⟨rfl, rfl, rfl, hg⟩
            case s4_11 =>
              refine RegD.stepJ_det (by decide) (fun u w1 h hO hJ hA => ?_)
              go_wp2
              exact ⟨rfl, rfl, rfl, Own.refl _⟩
            case s4_12 =>
              refine RegD.stepJ_store rfl (fun u w1 h hO hJ => ?_)
              have HN := Lib.hid hJ
              clear hJ
              go_wp2_with ((with_reducible show wpList _ _ _ (⟨_, .store 56 (.tmp 85) (.tmp 84), _, _, _, none⟩ :: _) _ _); refine wpList_store_part rfl 56 (.tmp 85) (.tmp 84) rfl J (6) 3 (l3 (hdX b p) (hdY b p) (hdZ b p)) rfl (#[.int .i64 (hdX b p), .int .i64 (hdY b p), .int .i64 (hdZ b p)]) rfl rfl HN.out (by omega) infoV ?_)
              exact ⟨rfl, rfl, rfl⟩
          intro u w6 hO hj
          replace g0 := own_x g0 hJ0 hO
          replace HB := Lib.hid (HB.out.ownx hO HNE.out.1)
          replace HP := Lib.hid (HP.out.ownx hO HNE.out.2.1)
          replace HR := Lib.hid (HR.out.ownx hO HNE.out.2.2)
          clear HJ
          have HJ := Lib.hid hj
          clear hj hO
          have HF := Lib.hid (jk_start b p s)
          go_wp2
          go_loopw [12] (fun vi wr => ∃ k : Nat, vi = .int .i64 (k : Int) ∧ k ≤ 2 ∧ Own w wr ∧ Blk wr B (cz 15 b) 24 ∧ Blk wr P (cz 22 p) 31 ∧ Blk wr R (cz 33 nul) 59 ∧ ∃ f, Blk wr J (cz 33 f) 59 ∧ Jk b p s k f) (fun vi _ => 2 - (intOf vi).toNat)
          case atStart => exact ⟨0, rfl, by omega, g0, HB.out, HP.out, HR.out, _, HJ.out, HF.out⟩
          case round =>
            clear HB HP HR HJ HF g0
            obtain ⟨k, rfl, hk, g0, hb1, hp1, hr1, f, hj1, hf1⟩ := hrel
            have HB := Lib.hid hb1
            have HP := Lib.hid hp1
            have HR := Lib.hid hr1
            have HJ := Lib.hid hj1
            have HF := Lib.hid hf1
            clear hb1 hp1 hr1 hj1 hf1
            by_cases hlt : k < 2
            · have hs4 := sd_ok HC0.out HV0.out (i := 4) (k := k) (.inl rfl) hlt
              have hm4 := sm_hips HC0.out HV0.out hlt
              have hs5 := sd_ok HC0.out HV0.out (i := 5) (k := k) (.inr rfl) hlt
              have hm5 := sm_shoulders HC0.out HV0.out hlt
              have ha3 := al_ok HC0.out HV0.out (i := 3) (k := 3 + k) (by omega) (by omega)
              have hm3 := sm_hands HC0.out HV0.out hlt
              obtain ⟨m, hm⟩ : ∃ m, 3 + k = m := ⟨_, rfl⟩
              have hmn : (m : Int) < 6 := by omega
              have hkn : (k : Int) < 2 := by omega
              have hk6 : (k : Int) < 6 := by omega
              have i6 : IntKind.i64.wrap (3 + (k : Int)) = (m : Int) := (IntWalk.i64_in _ (by omega)).trans (by omega)
              obtain ⟨e2, he2⟩ : ∃ x, 2 * (k : Int) = x := ⟨_, rfl⟩
              have i2 : IntKind.i64.wrap (2 * (k : Int)) = e2 := (IntWalk.i64_in _ (by omega)).trans he2
              obtain ⟨sk, hsk⟩ : ∃ x, sg k = x := ⟨_, rfl⟩
              have i3 : IntKind.i64.wrap (e2 - 1) = sk := (IntWalk.i64_in _ (by omega)).trans (by rw [← hsk]; unfold sg; omega)
              obtain ⟨d4, hd4⟩ : ∃ x, sk * b 4 = x := ⟨_, rfl⟩
              obtain ⟨d5, hd5⟩ : ∃ x, sk * b 5 = x := ⟨_, rfl⟩
              rw [hsk, hd4] at hs4 hm4
              rw [hsk, hd5] at hs5 hm5
              rw [hm] at ha3 hm3
              have HS4 := Lib.hid (And.intro hd4 hs4)
              have HSM4 := Lib.hid hm4
              have HS5 := Lib.hid (And.intro hd5 hs5)
              have HSM5 := Lib.hid hm5
              have HAL3 := Lib.hid ha3
              have HSM3 := Lib.hid hm3
              have hbm : m < 6 := by omega
              obtain ⟨fo, hfo⟩ : ∃ x : Int, ((1 + k : Nat) : Int) = x := ⟨_, rfl⟩
              have HSH := Lib.hid (shl_one hlt hfo)
              clear hs4 hm4 hs5 hm5 ha3 hm3 hsk hd4 hd5 hm he2
              go_upto_region 18 with (fail)
              refine RegD.region_dutyJ [90, 91, 92, 93, 94, 95, 96, 97, 98, 99, 100, 101, 102, 103] 14 33 ((9 + k * 3)) 3 (f) (l3 (hiX b p k) (hiY b p k) (hpZ b p)) (RegI.upd (RegI.upd (RegI.upd (RegI.upd (RegI.upd (RegI.upd (RegI.upd (RegI.upd (RegI.upd (RegI.upd (RegI.upd (RegI.upd (RegI.upd (RegI.upd (fun _ => undef) 90 (.int .i64 (k : Int))) 91 (.pointer (some ⟨J, 0, none⟩))) 92 (.agg #[.int .i64 (p 0), .int .i64 (p 1), .int .i64 (hpZ b p)])) 93 (.pointer (some ⟨B, 4, none⟩))) 94 (.int .i64 (b 4))) 95 (.int .i64 (k : Int))) 96 (.int .i64 e2)) 97 (.int .i64 sk)) 98 (.pointer (some ⟨P, 2, none⟩))) 99 (.int .i64 (p 2))) 100 (.agg #[.int .i64 (AngP.turX d4 0 (p 2)), .int .i64 (AngP.turY d4 0 (p 2)), .int .i64 0])) 101 (.agg #[.int .i64 (hiX b p k), .int .i64 (hiY b p k), .int .i64 (hpZ b p)])) 102 (.pointer (some ⟨J, 9, none⟩))) 103 (.pointer (some ⟨J, 9 + k * 3, none⟩))) J 59 (by kernel_rfl) (by kernel_rfl) (by decide) (by intro d hd; simp at hd; simp; omega) HJ.out ?_
              simp only [RegD.FF, RegI.FX, RegI.upd, List.foldl_cons, List.foldl_nil, List.not_mem_nil, if_true, if_false, Nat.reduceEqDiff]
              simp only [List.setIfInBounds_toArray, List.set_cons_succ, List.set_cons_zero]
              refine And.intro ?hs5 ?he5
              case hs5 =>
                refine And.intro ?s5_0 (And.intro ?s5_1 (And.intro ?s5_2 (And.intro ?s5_3 (And.intro ?s5_4 (And.intro ?s5_5 (And.intro ?s5_6 (And.intro ?s5_7 (And.intro ?s5_8 (And.intro ?s5_9 (And.intro ?s5_10 (And.intro ?s5_11 (And.intro ?s5_12 (And.intro ?s5_13 (And.intro ?s5_14 (trivial)))))))))))))))
                case s5_0 =>
                  refine RegD.stepJ_det (by decide) (fun u w1 h hO hJ hA => ?_)
                  go_wp2
                  exact ⟨rfl, rfl, rfl, Own.refl _⟩
                case s5_1 =>
                  refine RegD.stepJ_det (by decide) (fun u w1 h hO hJ hA => ?_)
                  go_wp2
                  exact ⟨rfl, rfl, rfl, Own.refl _⟩
                case s5_2 =>
                  refine RegD.stepJ_det (by decide) (fun u w1 h hO hJ hA => ?_)
                  have HJ9 := Lib.hid hJ
                  have HA9 := Lib.hid hA
                  clear hJ hA
                  go_wp2_with ((with_reducible show wpList _ _ _ (⟨_, .load 56 (.tmp 91), _, _, _, none⟩ :: _) _ _); refine wpList_load_part rfl 56 (.tmp 91) rfl J (0) rfl 3 HJ9.out (by omega) (#[.int .i64 (p 0), .int .i64 (p 1), .int .i64 (hpZ b p)]) ((pt_cz HF.out.hip).trans (apart_part HA9.out (by omega) (by omega)).symm) _ Tryd.underlying56 rfl infoV ?_)
                  exact ⟨rfl, rfl, rfl, Own.refl _⟩
                case s5_3 =>
                  refine RegD.stepJ_det (by decide) (fun u w1 h hO hJ hA => ?_)
                  go_wp2
                  exact ⟨rfl, rfl, rfl, Own.refl _⟩
                case s5_4 =>
                  refine RegD.stepJ_det (by decide) (fun u w1 h hO hJ hA => ?_)
                  have kk := blk_num (HB.out.ownx hO HNE.out.1) (i := 4) (by omega)
                  go_wp2
                  exact ⟨rfl, rfl, rfl, Own.refl _⟩
                case s5_5 =>
                  refine RegD.stepJ_det (by decide) (fun u w1 h hO hJ hA => ?_)
                  go_wp2
                  exact ⟨rfl, rfl, rfl, Own.refl _⟩
                case s5_6 =>
                  refine RegD.stepJ_det (by decide) (fun u w1 h hO hJ hA => ?_)
                  go_wp2
                  exact ⟨rfl, rfl, rfl, Own.refl _⟩
                case s5_7 =>
                  refine RegD.stepJ_det (by decide) (fun u w1 h hO hJ hA => ?_)
                  go_wp2
                  exact ⟨rfl, rfl, rfl, Own.refl _⟩
                case s5_8 =>
                  refine RegD.stepJ_det (by decide) (fun u w1 h hO hJ hA => ?_)
                  go_wp2
                  exact ⟨rfl, rfl, rfl, Own.refl _⟩
                case s5_9 =>
                  refine RegD.stepJ_det (by decide) (fun u w1 h hO hJ hA => ?_)
                  have kk := blk_num (HP.out.ownx hO HNE.out.2.1) (i := 2) (by omega)
                  go_wp2
                  exact ⟨rfl, rfl, rfl, Own.refl _⟩
                case s5_10 =>
                  refine RegD.stepJ_det (by decide) (fun u w1 h hO hJ hA => ?_)
                  go_wp2_with (go_at_call 59; with_reducible refine (rside_at _ _ d4 _ _ _ _ HS4).mono ?_; rintro r w2 ⟨rfl, hg⟩)
                  exact ⟨rfl, rfl, rfl, hg⟩
                case s5_11 =>
                  refine RegD.stepJ_det (by decide) (fun u w1 h hO hJ hA => ?_)
                  go_wp2_with (go_at_call 57; with_reducible refine (rplusH_at _ _ _ _ _ _ _ _ _ _ HSM4).mono ?_; rintro r w2 ⟨rfl, hg⟩)
                  exact ⟨rfl, rfl, rfl, hg⟩
                case s5_12 =>
                  refine RegD.stepJ_det (by decide) (fun u w1 h hO hJ hA => ?_)
                  go_wp2
                  exact ⟨rfl, rfl, rfl, Own.refl _⟩
                case s5_13 =>
                  refine RegD.stepJ_det (by decide) (fun u w1 h hO hJ hA => ?_)
                  go_wp2
                  exact ⟨rfl, rfl, rfl, Own.refl _⟩
                case s5_14 =>
                  refine RegD.stepJ_store rfl (fun u w1 h hO hJ => ?_)
                  have HN := Lib.hid hJ
                  clear hJ
                  go_wp2_with ((with_reducible show wpList _ _ _ (⟨_, .store 56 (.tmp 103) (.tmp 101), _, _, _, none⟩ :: _) _ _); refine wpList_store_part rfl 56 (.tmp 103) (.tmp 101) rfl J (9 + k * 3) 3 (l3 (hiX b p k) (hiY b p k) (hpZ b p)) rfl (#[.int .i64 (hiX b p k), .int .i64 (hiY b p k), .int .i64 (hpZ b p)]) rfl rfl HN.out (by omega) infoV ?_)
                  exact ⟨rfl, rfl, rfl⟩
              intro u w2 hO hj
              replace g0 := own_x g0 hJ0 hO
              replace HB := Lib.hid (HB.out.ownx hO HNE.out.1)
              replace HP := Lib.hid (HP.out.ownx hO HNE.out.2.1)
              replace HR := Lib.hid (HR.out.ownx hO HNE.out.2.2)
              clear HJ
              have HJ := Lib.hid hj
              clear hj hO
              obtain ⟨f1, hf⟩ : ∃ ff9 : Vl, put f (9 + k * 3) 3 (l3 (hiX b p k) (hiY b p k) (hpZ b p)) = ff9 := ⟨_, rfl⟩
              have HG := Lib.hid (show Pt f1 3 (nkX b p) (nkY b p) (nkZ b p) from hf ▸ (pt_far HF.out.neck _ (by omega)))
              have HI1 := Lib.hid (show Pt f1 (9 + k * 3) (hiX b p k) (hiY b p k) (hpZ b p) from hf ▸ (pt_put ..))
              have HF1 := Lib.hid (show put f (9 + k * 3) 3 (l3 (hiX b p k) (hiY b p k) (hpZ b p)) = f1 from hf ▸ rfl)
              rw [hf] at HJ
              clear hf
              go_upto_region 19 with (fail)
              refine RegD.region_dutyJ [104, 105, 106, 107, 108, 109, 110, 111, 112, 113, 114, 115, 116, 117] 14 33 ((15 + k * 3)) 3 (f1) (l3 (shX b p k) (shY b p k) (nkZ b p)) (RegI.upd (RegI.upd (RegI.upd (RegI.upd (RegI.upd (RegI.upd (RegI.upd (RegI.upd (RegI.upd (RegI.upd (RegI.upd (RegI.upd (RegI.upd (RegI.upd (fun _ => undef) 104 (.int .i64 (k : Int))) 105 (.pointer (some ⟨J, 3, none⟩))) 106 (.agg #[.int .i64 (nkX b p), .int .i64 (nkY b p), .int .i64 (nkZ b p)])) 107 (.pointer (some ⟨B, 5, none⟩))) 108 (.int .i64 (b 5))) 109 (.int .i64 (k : Int))) 110 (.int .i64 e2)) 111 (.int .i64 sk)) 112 (.pointer (some ⟨P, 2, none⟩))) 113 (.int .i64 (p 2))) 114 (.agg #[.int .i64 (AngP.turX d5 0 (p 2)), .int .i64 (AngP.turY d5 0 (p 2)), .int .i64 0])) 115 (.agg #[.int .i64 (shX b p k), .int .i64 (shY b p k), .int .i64 (nkZ b p)])) 116 (.pointer (some ⟨J, 15, none⟩))) 117 (.pointer (some ⟨J, 15 + k * 3, none⟩))) J 59 (by kernel_rfl) (by kernel_rfl) (by decide) (by intro d hd; simp at hd; simp; omega) HJ.out ?_
              simp only [RegD.FF, RegI.FX, RegI.upd, List.foldl_cons, List.foldl_nil, List.not_mem_nil, if_true, if_false, Nat.reduceEqDiff]
              simp only [List.setIfInBounds_toArray, List.set_cons_succ, List.set_cons_zero]
              refine And.intro ?hs6 ?he6
              case hs6 =>
                refine And.intro ?s6_0 (And.intro ?s6_1 (And.intro ?s6_2 (And.intro ?s6_3 (And.intro ?s6_4 (And.intro ?s6_5 (And.intro ?s6_6 (And.intro ?s6_7 (And.intro ?s6_8 (And.intro ?s6_9 (And.intro ?s6_10 (And.intro ?s6_11 (And.intro ?s6_12 (And.intro ?s6_13 (And.intro ?s6_14 (trivial)))))))))))))))
                case s6_0 =>
                  refine RegD.stepJ_det (by decide) (fun u w1 h hO hJ hA => ?_)
                  go_wp2
                  exact ⟨rfl, rfl, rfl, Own.refl _⟩
                case s6_1 =>
                  refine RegD.stepJ_det (by decide) (fun u w1 h hO hJ hA => ?_)
                  go_wp2
                  exact ⟨rfl, rfl, rfl, Own.refl _⟩
                case s6_2 =>
                  refine RegD.stepJ_det (by decide) (fun u w1 h hO hJ hA => ?_)
                  have HJ9 := Lib.hid hJ
                  have HA9 := Lib.hid hA
                  clear hJ hA
                  go_wp2_with ((with_reducible show wpList _ _ _ (⟨_, .load 56 (.tmp 105), _, _, _, none⟩ :: _) _ _); refine wpList_load_part rfl 56 (.tmp 105) rfl J (3) rfl 3 HJ9.out (by omega) (#[.int .i64 (nkX b p), .int .i64 (nkY b p), .int .i64 (nkZ b p)]) ((pt_cz HG.out).trans (apart_part HA9.out (by omega) (by omega)).symm) _ Tryd.underlying56 rfl infoV ?_)
                  exact ⟨rfl, rfl, rfl, Own.refl _⟩
                case s6_3 =>
                  refine RegD.stepJ_det (by decide) (fun u w1 h hO hJ hA => ?_)
                  go_wp2
                  exact ⟨rfl, rfl, rfl, Own.refl _⟩
                case s6_4 =>
                  refine RegD.stepJ_det (by decide) (fun u w1 h hO hJ hA => ?_)
                  have kk := blk_num (HB.out.ownx hO HNE.out.1) (i := 5) (by omega)
                  go_wp2
                  exact ⟨rfl, rfl, rfl, Own.refl _⟩
                case s6_5 =>
                  refine RegD.stepJ_det (by decide) (fun u w1 h hO hJ hA => ?_)
                  go_wp2
                  exact ⟨rfl, rfl, rfl, Own.refl _⟩
                case s6_6 =>
                  refine RegD.stepJ_det (by decide) (fun u w1 h hO hJ hA => ?_)
                  go_wp2
                  exact ⟨rfl, rfl, rfl, Own.refl _⟩
                case s6_7 =>
                  refine RegD.stepJ_det (by decide) (fun u w1 h hO hJ hA => ?_)
                  go_wp2
                  exact ⟨rfl, rfl, rfl, Own.refl _⟩
                case s6_8 =>
                  refine RegD.stepJ_det (by decide) (fun u w1 h hO hJ hA => ?_)
                  go_wp2
                  exact ⟨rfl, rfl, rfl, Own.refl _⟩
                case s6_9 =>
                  refine RegD.stepJ_det (by decide) (fun u w1 h hO hJ hA => ?_)
                  have kk := blk_num (HP.out.ownx hO HNE.out.2.1) (i := 2) (by omega)
                  go_wp2
                  exact ⟨rfl, rfl, rfl, Own.refl _⟩
                case s6_10 =>
                  refine RegD.stepJ_det (by decide) (fun u w1 h hO hJ hA => ?_)
                  go_wp2_with (go_at_call 59; with_reducible refine (rside_at _ _ d5 _ _ _ _ HS5).mono ?_; rintro r w2 ⟨rfl, hg⟩)
                  exact ⟨rfl, rfl, rfl, hg⟩
                case s6_11 =>
                  refine RegD.stepJ_det (by decide) (fun u w1 h hO hJ hA => ?_)
                  go_wp2_with (go_at_call 57; with_reducible refine (rplusH_at _ _ _ _ _ _ _ _ _ _ HSM5).mono ?_; rintro r w2 ⟨rfl, hg⟩)
                  exact ⟨rfl, rfl, rfl, hg⟩
                case s6_12 =>
                  refine RegD.stepJ_det (by decide) (fun u w1 h hO hJ hA => ?_)
                  go_wp2
                  exact ⟨rfl, rfl, rfl, Own.refl _⟩
                case s6_13 =>
                  refine RegD.stepJ_det (by decide) (fun u w1 h hO hJ hA => ?_)
                  go_wp2
                  exact ⟨rfl, rfl, rfl, Own.refl _⟩
                case s6_14 =>
                  refine RegD.stepJ_store rfl (fun u w1 h hO hJ => ?_)
                  have HN := Lib.hid hJ
                  clear hJ
                  go_wp2_with ((with_reducible show wpList _ _ _ (⟨_, .store 56 (.tmp 117) (.tmp 115), _, _, _, none⟩ :: _) _ _); refine wpList_store_part rfl 56 (.tmp 117) (.tmp 115) rfl J (15 + k * 3) 3 (l3 (shX b p k) (shY b p k) (nkZ b p)) rfl (#[.int .i64 (shX b p k), .int .i64 (shY b p k), .int .i64 (nkZ b p)]) rfl rfl HN.out (by omega) infoV ?_)
                  exact ⟨rfl, rfl, rfl⟩
              intro u w3 hO hj
              replace g0 := own_x g0 hJ0 hO
              replace HB := Lib.hid (HB.out.ownx hO HNE.out.1)
              replace HP := Lib.hid (HP.out.ownx hO HNE.out.2.1)
              replace HR := Lib.hid (HR.out.ownx hO HNE.out.2.2)
              clear HJ
              have HJ := Lib.hid hj
              clear hj hO
              clear HG
              obtain ⟨f2, hf⟩ : ∃ ff9 : Vl, put f1 (15 + k * 3) 3 (l3 (shX b p k) (shY b p k) (nkZ b p)) = ff9 := ⟨_, rfl⟩
              have HG := Lib.hid (show Pt f2 (15 + k * 3) (shX b p k) (shY b p k) (nkZ b p) from hf ▸ (pt_put ..))
              have HI2 := Lib.hid (show Pt f2 (9 + k * 3) (hiX b p k) (hiY b p k) (hpZ b p) from hf ▸ (pt_far HI1.out _ (by omega)))
              have HF2 := Lib.hid (show put f1 (15 + k * 3) 3 (l3 (shX b p k) (shY b p k) (nkZ b p)) = f2 from hf ▸ rfl)
              rw [hf] at HJ
              clear hf i2 i3 HI1
              go_upto_region 20 with (fail)
              refine RegD.region_dutyJ [118, 119, 120, 121, 122, 123, 124, 125, 126, 127, 128, 129, 130, 131, 132, 133, 134, 135] 18 33 ((21 + k * 3)) 3 (f2) (l3 (haX b p k) (haY b p k) (haZ b p k)) (RegI.upd (RegI.upd (RegI.upd (RegI.upd (RegI.upd (RegI.upd (RegI.upd (RegI.upd (RegI.upd (RegI.upd (RegI.upd (RegI.upd (RegI.upd (RegI.upd (RegI.upd (RegI.upd (RegI.upd (RegI.upd (fun _ => undef) 118 (.int .i64 (k : Int))) 119 (.int .i64 (k : Int))) 120 (.pointer (some ⟨J, 15, none⟩))) 121 (.pointer (some ⟨J, 15 + k * 3, none⟩))) 122 (.agg #[.int .i64 (shX b p k), .int .i64 (shY b p k), .int .i64 (nkZ b p)])) 123 (.pointer (some ⟨B, 3, none⟩))) 124 (.int .i64 (b 3))) 125 (.int .i64 (k : Int))) 126 (.int .i64 (m : Int))) 127 (.pointer (some ⟨P, 4, none⟩))) 128 (.pointer (some ⟨P, 4 + m * 3, none⟩))) 129 (.agg #[.int .i64 (p (4 + m * 3)), .int .i64 (p (4 + m * 3 + 1)), .int .i64 (p (4 + m * 3 + 2))])) 130 (.pointer (some ⟨P, 2, none⟩))) 131 (.int .i64 (p 2))) 132 (.agg #[.int .i64 (alX (b 3) p m), .int .i64 (alY (b 3) p m), .int .i64 (alZ (b 3) p m)])) 133 (.agg #[.int .i64 (haX b p k), .int .i64 (haY b p k), .int .i64 (haZ b p k)])) 134 (.pointer (some ⟨J, 21, none⟩))) 135 (.pointer (some ⟨J, 21 + k * 3, none⟩))) J 59 (by kernel_rfl) (by kernel_rfl) (by decide) (by intro d hd; simp at hd; simp; omega) HJ.out ?_
              simp only [RegD.FF, RegI.FX, RegI.upd, List.foldl_cons, List.foldl_nil, List.not_mem_nil, if_true, if_false, Nat.reduceEqDiff]
              simp only [List.setIfInBounds_toArray, List.set_cons_succ, List.set_cons_zero]
              refine And.intro ?hs7 ?he7
              case hs7 =>
                refine And.intro ?s7_0 (And.intro ?s7_1 (And.intro ?s7_2 (And.intro ?s7_3 (And.intro ?s7_4 (And.intro ?s7_5 (And.intro ?s7_6 (And.intro ?s7_7 (And.intro ?s7_8 (And.intro ?s7_9 (And.intro ?s7_10 (And.intro ?s7_11 (And.intro ?s7_12 (And.intro ?s7_13 (And.intro ?s7_14 (And.intro ?s7_15 (And.intro ?s7_16 (And.intro ?s7_17 (And.intro ?s7_18 (trivial)))))))))))))))))))
                case s7_0 =>
                  refine RegD.stepJ_det (by decide) (fun u w1 h hO hJ hA => ?_)
                  go_wp2
                  exact ⟨rfl, rfl, rfl, Own.refl _⟩
                case s7_1 =>
                  refine RegD.stepJ_det (by decide) (fun u w1 h hO hJ hA => ?_)
                  go_wp2
                  exact ⟨rfl, rfl, rfl, Own.refl _⟩
                case s7_2 =>
                  refine RegD.stepJ_det (by decide) (fun u w1 h hO hJ hA => ?_)
                  go_wp2
                  exact ⟨rfl, rfl, rfl, Own.refl _⟩
                case s7_3 =>
                  refine RegD.stepJ_det (by decide) (fun u w1 h hO hJ hA => ?_)
                  go_wp2
                  exact ⟨rfl, rfl, rfl, Own.refl _⟩
                case s7_4 =>
                  refine RegD.stepJ_det (by decide) (fun u w1 h hO hJ hA => ?_)
                  have HJ9 := Lib.hid hJ
                  have HA9 := Lib.hid hA
                  clear hJ hA
                  go_wp2_with ((with_reducible show wpList _ _ _ (⟨_, .load 56 (.tmp 121), _, _, _, none⟩ :: _) _ _); refine wpList_load_part rfl 56 (.tmp 121) rfl J (15 + k * 3) rfl 3 HJ9.out (by omega) (#[.int .i64 (shX b p k), .int .i64 (shY b p k), .int .i64 (nkZ b p)]) ((pt_cz HG.out).trans (apart_part HA9.out (by omega) (by omega)).symm) _ Tryd.underlying56 rfl infoV ?_)
                  exact ⟨rfl, rfl, rfl, Own.refl _⟩
                case s7_5 =>
                  refine RegD.stepJ_det (by decide) (fun u w1 h hO hJ hA => ?_)
                  go_wp2
                  exact ⟨rfl, rfl, rfl, Own.refl _⟩
                case s7_6 =>
                  refine RegD.stepJ_det (by decide) (fun u w1 h hO hJ hA => ?_)
                  have kk := blk_num (HB.out.ownx hO HNE.out.1) (i := 3) (by omega)
                  go_wp2
                  exact ⟨rfl, rfl, rfl, Own.refl _⟩
                case s7_7 =>
                  refine RegD.stepJ_det (by decide) (fun u w1 h hO hJ hA => ?_)
                  go_wp2
                  exact ⟨rfl, rfl, rfl, Own.refl _⟩
                case s7_8 =>
                  refine RegD.stepJ_det (by decide) (fun u w1 h hO hJ hA => ?_)
                  go_wp2
                  exact ⟨rfl, rfl, rfl, Own.refl _⟩
                case s7_9 =>
                  refine RegD.stepJ_det (by decide) (fun u w1 h hO hJ hA => ?_)
                  go_wp2
                  exact ⟨rfl, rfl, rfl, Own.refl _⟩
                case s7_10 =>
                  refine RegD.stepJ_det (by decide) (fun u w1 h hO hJ hA => ?_)
                  go_wp2
                  exact ⟨rfl, rfl, rfl, Own.refl _⟩
                case s7_11 =>
                  refine RegD.stepJ_det (by decide) (fun u w1 h hO hJ hA => ?_)
                  have HB9 := Lib.hid (HP.out.ownx hO HNE.out.2.1)
                  go_wp2_with ((with_reducible show wpList _ _ _ (⟨_, .load 28 (.tmp 128), _, _, _, none⟩ :: _) _ _); refine wpList_load_part rfl 28 (.tmp 128) rfl P (4 + m * 3) rfl 3 HB9.out (by omega) (#[.int .i64 (p (4 + m * 3)), .int .i64 (p (4 + m * 3 + 1)), .int .i64 (p (4 + m * 3 + 2))]) rfl _ Tryd.underlying28 rfl infoA ?_)
                  exact ⟨rfl, rfl, rfl, Own.refl _⟩
                case s7_12 =>
                  refine RegD.stepJ_det (by decide) (fun u w1 h hO hJ hA => ?_)
                  go_wp2
                  exact ⟨rfl, rfl, rfl, Own.refl _⟩
                case s7_13 =>
                  refine RegD.stepJ_det (by decide) (fun u w1 h hO hJ hA => ?_)
                  have kk := blk_num (HP.out.ownx hO HNE.out.2.1) (i := 2) (by omega)
                  go_wp2
                  exact ⟨rfl, rfl, rfl, Own.refl _⟩
                case s7_14 =>
                  refine RegD.stepJ_det (by decide) (fun u w1 h hO hJ hA => ?_)
                  go_wp2_with (go_at_call 58; with_reducible refine (ralong_at _ _ _ _ _ _ _ _ _ HAL3).mono ?_; rintro r w2 ⟨rfl, hg⟩)
                  exact ⟨rfl, rfl, rfl, hg⟩
                case s7_15 =>
                  refine RegD.stepJ_det (by decide) (fun u w1 h hO hJ hA => ?_)
                  go_wp2_with (go_at_call 57; with_reducible refine (rplusH_at _ _ _ _ _ _ _ _ _ _ HSM3).mono ?_; rintro r w2 ⟨rfl, hg⟩)
                  exact ⟨rfl, rfl, rfl, hg⟩
                case s7_16 =>
                  refine RegD.stepJ_det (by decide) (fun u w1 h hO hJ hA => ?_)
                  go_wp2
                  exact ⟨rfl, rfl, rfl, Own.refl _⟩
                case s7_17 =>
                  refine RegD.stepJ_det (by decide) (fun u w1 h hO hJ hA => ?_)
                  go_wp2
                  exact ⟨rfl, rfl, rfl, Own.refl _⟩
                case s7_18 =>
                  refine RegD.stepJ_store rfl (fun u w1 h hO hJ => ?_)
                  have HN := Lib.hid hJ
                  clear hJ
                  go_wp2_with ((with_reducible show wpList _ _ _ (⟨_, .store 56 (.tmp 135) (.tmp 133), _, _, _, none⟩ :: _) _ _); refine wpList_store_part rfl 56 (.tmp 135) (.tmp 133) rfl J (21 + k * 3) 3 (l3 (haX b p k) (haY b p k) (haZ b p k)) rfl (#[.int .i64 (haX b p k), .int .i64 (haY b p k), .int .i64 (haZ b p k)]) rfl rfl HN.out (by omega) infoV ?_)
                  exact ⟨rfl, rfl, rfl⟩
              intro u w4 hO hj
              replace g0 := own_x g0 hJ0 hO
              replace HB := Lib.hid (HB.out.ownx hO HNE.out.1)
              replace HP := Lib.hid (HP.out.ownx hO HNE.out.2.1)
              replace HR := Lib.hid (HR.out.ownx hO HNE.out.2.2)
              clear HJ
              have HJ := Lib.hid hj
              clear hj hO
              clear HG
              obtain ⟨f3, hf⟩ : ∃ ff9 : Vl, put f2 (21 + k * 3) 3 (l3 (haX b p k) (haY b p k) (haZ b p k)) = ff9 := ⟨_, rfl⟩
              have HG := Lib.hid (show Pt f3 (9 + k * 3) (hiX b p k) (hiY b p k) (hpZ b p) from hf ▸ (pt_far HI2.out _ (by omega)))
              have HF3 := Lib.hid (show put f2 (21 + k * 3) 3 (l3 (haX b p k) (haY b p k) (haZ b p k)) = f3 from hf ▸ rfl)
              rw [hf] at HJ
              clear hf HI2 i6
              have hsh := HSH.out
              cases ho : on s k with
              | true =>
                obtain ⟨r, hr1, hr2⟩ := bit_yes HSU.out hlt ho
                rw [hfo] at hr1
                have HFE := Lib.hid (fe_on (b := b) (p := p) ho)
                clear ho
                go_upto_region 22 with (fail)
                clear hr1 hr2
                refine RegD.region_dutyJ [141, 142, 143, 144, 145, 146, 147, 148, 149, 150, 151, 152, 153, 154] 14 33 ((27 + k * 3)) 3 (f3) (l3 (hiX b p k) (hiY b p k) 0) (RegI.upd (RegI.upd (RegI.upd (RegI.upd (RegI.upd (RegI.upd (RegI.upd (RegI.upd (RegI.upd (RegI.upd (RegI.upd (RegI.upd (RegI.upd (RegI.upd (fun _ => undef) 141 (.int .i64 (k : Int))) 142 (.int .i64 (k : Int))) 143 (.pointer (some ⟨J, 9, none⟩))) 144 (.pointer (some ⟨J, 9 + k * 3, none⟩))) 145 (.pointer (some ⟨J, 9 + k * 3, none⟩))) 146 (.int .i64 (hiX b p k))) 147 (.int .i64 (k : Int))) 148 (.pointer (some ⟨J, 9, none⟩))) 149 (.pointer (some ⟨J, 9 + k * 3, none⟩))) 150 (.pointer (some ⟨J, 9 + k * 3 + 1, none⟩))) 151 (.int .i64 (hiY b p k))) 152 (.agg #[.int .i64 (hiX b p k), .int .i64 (hiY b p k), .int .i64 0])) 153 (.pointer (some ⟨J, 27, none⟩))) 154 (.pointer (some ⟨J, 27 + k * 3, none⟩))) J 59 (by kernel_rfl) (by kernel_rfl) (by decide) (by intro d hd; simp at hd; simp; omega) HJ.out ?_
                simp only [RegD.FF, RegI.FX, RegI.upd, List.foldl_cons, List.foldl_nil, List.not_mem_nil, if_true, if_false, Nat.reduceEqDiff]
                simp only [List.setIfInBounds_toArray, List.set_cons_succ, List.set_cons_zero]
                refine And.intro ?hs8 ?he8
                case hs8 =>
                  refine And.intro ?s8_0 (And.intro ?s8_1 (And.intro ?s8_2 (And.intro ?s8_3 (And.intro ?s8_4 (And.intro ?s8_5 (And.intro ?s8_6 (And.intro ?s8_7 (And.intro ?s8_8 (And.intro ?s8_9 (And.intro ?s8_10 (And.intro ?s8_11 (And.intro ?s8_12 (And.intro ?s8_13 (And.intro ?s8_14 (trivial)))))))))))))))
                  case s8_0 =>
                    refine RegD.stepJ_det (by decide) (fun u w1 h hO hJ hA => ?_)
                    go_wp2
                    exact ⟨rfl, rfl, rfl, Own.refl _⟩
                  case s8_1 =>
                    refine RegD.stepJ_det (by decide) (fun u w1 h hO hJ hA => ?_)
                    go_wp2
                    exact ⟨rfl, rfl, rfl, Own.refl _⟩
                  case s8_2 =>
                    refine RegD.stepJ_det (by decide) (fun u w1 h hO hJ hA => ?_)
                    go_wp2
                    exact ⟨rfl, rfl, rfl, Own.refl _⟩
                  case s8_3 =>
                    refine RegD.stepJ_det (by decide) (fun u w1 h hO hJ hA => ?_)
                    go_wp2
                    exact ⟨rfl, rfl, rfl, Own.refl _⟩
                  case s8_4 =>
                    refine RegD.stepJ_det (by decide) (fun u w1 h hO hJ hA => ?_)
                    go_wp2
                    exact ⟨rfl, rfl, rfl, Own.refl _⟩
                  case s8_5 =>
                    refine RegD.stepJ_det (by decide) (fun u w1 h hO hJ hA => ?_)
                    have kj := blk_num hJ (i := 9 + k * 3) (by omega)
                    rw [hA (9 + k * 3) (by omega) (by omega), HG.out.1] at kj
                    go_wp2
                    exact ⟨rfl, rfl, rfl, Own.refl _⟩
                  case s8_6 =>
                    refine RegD.stepJ_det (by decide) (fun u w1 h hO hJ hA => ?_)
                    go_wp2
                    exact ⟨rfl, rfl, rfl, Own.refl _⟩
                  case s8_7 =>
                    refine RegD.stepJ_det (by decide) (fun u w1 h hO hJ hA => ?_)
                    go_wp2
                    exact ⟨rfl, rfl, rfl, Own.refl _⟩
                  case s8_8 =>
                    refine RegD.stepJ_det (by decide) (fun u w1 h hO hJ hA => ?_)
                    go_wp2
                    exact ⟨rfl, rfl, rfl, Own.refl _⟩
                  case s8_9 =>
                    refine RegD.stepJ_det (by decide) (fun u w1 h hO hJ hA => ?_)
                    go_wp2
                    exact ⟨rfl, rfl, rfl, Own.refl _⟩
                  case s8_10 =>
                    refine RegD.stepJ_det (by decide) (fun u w1 h hO hJ hA => ?_)
                    have kj := blk_num hJ (i := 9 + k * 3 + 1) (by omega)
                    rw [hA (9 + k * 3 + 1) (by omega) (by omega), HG.out.2.1] at kj
                    go_wp2
                    exact ⟨rfl, rfl, rfl, Own.refl _⟩
                  case s8_11 =>
                    refine RegD.stepJ_det (by decide) (fun u w1 h hO hJ hA => ?_)
                    go_wp2
                    exact ⟨rfl, rfl, rfl, Own.refl _⟩
                  case s8_12 =>
                    refine RegD.stepJ_det (by decide) (fun u w1 h hO hJ hA => ?_)
                    go_wp2
                    exact ⟨rfl, rfl, rfl, Own.refl _⟩
                  case s8_13 =>
                    refine RegD.stepJ_det (by decide) (fun u w1 h hO hJ hA => ?_)
                    go_wp2
                    exact ⟨rfl, rfl, rfl, Own.refl _⟩
                  case s8_14 =>
                    refine RegD.stepJ_store rfl (fun u w1 h hO hJ => ?_)
                    have HN := Lib.hid hJ
                    clear hJ
                    go_wp2_with ((with_reducible show wpList _ _ _ (⟨_, .store 56 (.tmp 154) (.tmp 152), _, _, _, none⟩ :: _) _ _); refine wpList_store_part rfl 56 (.tmp 154) (.tmp 152) rfl J (27 + k * 3) 3 (l3 (hiX b p k) (hiY b p k) 0) rfl (#[.int .i64 (hiX b p k), .int .i64 (hiY b p k), .int .i64 0]) rfl rfl HN.out (by omega) infoV ?_)
                    exact ⟨rfl, rfl, rfl⟩
                intro u w5 hO hj
                replace g0 := own_x g0 hJ0 hO
                replace HB := Lib.hid (HB.out.ownx hO HNE.out.1)
                replace HP := Lib.hid (HP.out.ownx hO HNE.out.2.1)
                replace HR := Lib.hid (HR.out.ownx hO HNE.out.2.2)
                clear HJ
                have HJ := Lib.hid hj
                clear hj hO
                have HN := Lib.hid (show Jk b p s (k + 1) (put f3 (27 + k * 3) 3 (l3 (hiX b p k) (hiY b p k) 0)) by
                  have h := HF.out.next hlt (s := s) ⟨rfl, rfl, rfl⟩ ⟨rfl, rfl, rfl⟩ ⟨rfl, rfl, rfl⟩ HFE.out
                  rw [HF1.out, HF2.out, HF3.out] at h
                  exact h)
                go_wp2
                go_roundw
                case rel => exact ⟨k + 1, by go_num, hlt, g0, HB.out, HP.out, HR.out, _, HJ.out, HN.out⟩
                case measure => simp [intOf]; omega
              | false =>
                obtain ⟨r, hr1, hr2⟩ := bit_not HSU.out hlt ho
                rw [hfo] at hr1
                have HAL0 := Lib.hid (al_ok HC0.out HV0.out (i := 0) (k := k) (by omega) (by omega))
                have HSM0 := Lib.hid (sm_feet HC0.out HV0.out (s := s) hlt ho)
                clear ho
                go_upto_region 23 with (fail)
                clear hr1 hr2
                refine RegD.region_dutyJ [155, 156, 157, 158, 159, 160, 161, 162, 163, 164, 165, 166, 167, 168, 169, 170, 171, 172] 18 33 ((27 + k * 3)) 3 (f3) (l3 (feX b p s k) (feY b p s k) (feZ b p s k)) (RegI.upd (RegI.upd (RegI.upd (RegI.upd (RegI.upd (RegI.upd (RegI.upd (RegI.upd (RegI.upd (RegI.upd (RegI.upd (RegI.upd (RegI.upd (RegI.upd (RegI.upd (RegI.upd (RegI.upd (RegI.upd (fun _ => undef) 155 (.int .i64 (k : Int))) 156 (.int .i64 (k : Int))) 157 (.pointer (some ⟨J, 9, none⟩))) 158 (.pointer (some ⟨J, 9 + k * 3, none⟩))) 159 (.agg #[.int .i64 (hiX b p k), .int .i64 (hiY b p k), .int .i64 (hpZ b p)])) 160 (.pointer (some ⟨B, 0, none⟩))) 161 (.int .i64 (b 0))) 162 (.int .i64 (k : Int))) 163 (.int .i64 (k : Int))) 164 (.pointer (some ⟨P, 4, none⟩))) 165 (.pointer (some ⟨P, 4 + k * 3, none⟩))) 166 (.agg #[.int .i64 (p (4 + k * 3)), .int .i64 (p (4 + k * 3 + 1)), .int .i64 (p (4 + k * 3 + 2))])) 167 (.pointer (some ⟨P, 2, none⟩))) 168 (.int .i64 (p 2))) 169 (.agg #[.int .i64 (alX (b 0) p k), .int .i64 (alY (b 0) p k), .int .i64 (alZ (b 0) p k)])) 170 (.agg #[.int .i64 (feX b p s k), .int .i64 (feY b p s k), .int .i64 (feZ b p s k)])) 171 (.pointer (some ⟨J, 27, none⟩))) 172 (.pointer (some ⟨J, 27 + k * 3, none⟩))) J 59 (by kernel_rfl) (by kernel_rfl) (by decide) (by intro d hd; simp at hd; simp; omega) HJ.out ?_
                simp only [RegD.FF, RegI.FX, RegI.upd, List.foldl_cons, List.foldl_nil, List.not_mem_nil, if_true, if_false, Nat.reduceEqDiff]
                simp only [List.setIfInBounds_toArray, List.set_cons_succ, List.set_cons_zero]
                refine And.intro ?hs9 ?he9
                case hs9 =>
                  refine And.intro ?s9_0 (And.intro ?s9_1 (And.intro ?s9_2 (And.intro ?s9_3 (And.intro ?s9_4 (And.intro ?s9_5 (And.intro ?s9_6 (And.intro ?s9_7 (And.intro ?s9_8 (And.intro ?s9_9 (And.intro ?s9_10 (And.intro ?s9_11 (And.intro ?s9_12 (And.intro ?s9_13 (And.intro ?s9_14 (And.intro ?s9_15 (And.intro ?s9_16 (And.intro ?s9_17 (And.intro ?s9_18 (trivial)))))))))))))))))))
                  case s9_0 =>
                    refine RegD.stepJ_det (by decide) (fun u w1 h hO hJ hA => ?_)
                    go_wp2
                    exact ⟨rfl, rfl, rfl, Own.refl _⟩
                  case s9_1 =>
                    refine RegD.stepJ_det (by decide) (fun u w1 h hO hJ hA => ?_)
                    go_wp2
                    exact ⟨rfl, rfl, rfl, Own.refl _⟩
                  case s9_2 =>
                    refine RegD.stepJ_det (by decide) (fun u w1 h hO hJ hA => ?_)
                    go_wp2
                    exact ⟨rfl, rfl, rfl, Own.refl _⟩
                  case s9_3 =>
                    refine RegD.stepJ_det (by decide) (fun u w1 h hO hJ hA => ?_)
                    go_wp2
                    exact ⟨rfl, rfl, rfl, Own.refl _⟩
                  case s9_4 =>
                    refine RegD.stepJ_det (by decide) (fun u w1 h hO hJ hA => ?_)
                    have HJ9 := Lib.hid hJ
                    have HA9 := Lib.hid hA
                    clear hJ hA
                    go_wp2_with ((with_reducible show wpList _ _ _ (⟨_, .load 56 (.tmp 158), _, _, _, none⟩ :: _) _ _); refine wpList_load_part rfl 56 (.tmp 158) rfl J (9 + k * 3) rfl 3 HJ9.out (by omega) (#[.int .i64 (hiX b p k), .int .i64 (hiY b p k), .int .i64 (hpZ b p)]) ((pt_cz HG.out).trans (apart_part HA9.out (by omega) (by omega)).symm) _ Tryd.underlying56 rfl infoV ?_)
                    exact ⟨rfl, rfl, rfl, Own.refl _⟩
                  case s9_5 =>
                    refine RegD.stepJ_det (by decide) (fun u w1 h hO hJ hA => ?_)
                    go_wp2
                    exact ⟨rfl, rfl, rfl, Own.refl _⟩
                  case s9_6 =>
                    refine RegD.stepJ_det (by decide) (fun u w1 h hO hJ hA => ?_)
                    have kk := blk_num (HB.out.ownx hO HNE.out.1) (i := 0) (by omega)
                    go_wp2
                    exact ⟨rfl, rfl, rfl, Own.refl _⟩
                  case s9_7 =>
                    refine RegD.stepJ_det (by decide) (fun u w1 h hO hJ hA => ?_)
                    go_wp2
                    exact ⟨rfl, rfl, rfl, Own.refl _⟩
                  case s9_8 =>
                    refine RegD.stepJ_det (by decide) (fun u w1 h hO hJ hA => ?_)
                    go_wp2
                    exact ⟨rfl, rfl, rfl, Own.refl _⟩
                  case s9_9 =>
                    refine RegD.stepJ_det (by decide) (fun u w1 h hO hJ hA => ?_)
                    go_wp2
                    exact ⟨rfl, rfl, rfl, Own.refl _⟩
                  case s9_10 =>
                    refine RegD.stepJ_det (by decide) (fun u w1 h hO hJ hA => ?_)
                    go_wp2
                    exact ⟨rfl, rfl, rfl, Own.refl _⟩
                  case s9_11 =>
                    refine RegD.stepJ_det (by decide) (fun u w1 h hO hJ hA => ?_)
                    have HB9 := Lib.hid (HP.out.ownx hO HNE.out.2.1)
                    go_wp2_with ((with_reducible show wpList _ _ _ (⟨_, .load 28 (.tmp 165), _, _, _, none⟩ :: _) _ _); refine wpList_load_part rfl 28 (.tmp 165) rfl P (4 + k * 3) rfl 3 HB9.out (by omega) (#[.int .i64 (p (4 + k * 3)), .int .i64 (p (4 + k * 3 + 1)), .int .i64 (p (4 + k * 3 + 2))]) rfl _ Tryd.underlying28 rfl infoA ?_)
                    exact ⟨rfl, rfl, rfl, Own.refl _⟩
                  case s9_12 =>
                    refine RegD.stepJ_det (by decide) (fun u w1 h hO hJ hA => ?_)
                    go_wp2
                    exact ⟨rfl, rfl, rfl, Own.refl _⟩
                  case s9_13 =>
                    refine RegD.stepJ_det (by decide) (fun u w1 h hO hJ hA => ?_)
                    have kk := blk_num (HP.out.ownx hO HNE.out.2.1) (i := 2) (by omega)
                    go_wp2
                    exact ⟨rfl, rfl, rfl, Own.refl _⟩
                  case s9_14 =>
                    refine RegD.stepJ_det (by decide) (fun u w1 h hO hJ hA => ?_)
                    go_wp2_with (go_at_call 58; with_reducible refine (ralong_at _ _ _ _ _ _ _ _ _ HAL0).mono ?_; rintro r w2 ⟨rfl, hg⟩)
                    exact ⟨rfl, rfl, rfl, hg⟩
                  case s9_15 =>
                    refine RegD.stepJ_det (by decide) (fun u w1 h hO hJ hA => ?_)
                    go_wp2_with (go_at_call 57; with_reducible refine (rplusH_at _ _ _ _ _ _ _ _ _ _ HSM0).mono ?_; rintro r w2 ⟨rfl, hg⟩)
                    exact ⟨rfl, rfl, rfl, hg⟩
                  case s9_16 =>
                    refine RegD.stepJ_det (by decide) (fun u w1 h hO hJ hA => ?_)
                    go_wp2
                    exact ⟨rfl, rfl, rfl, Own.refl _⟩
                  case s9_17 =>
                    refine RegD.stepJ_det (by decide) (fun u w1 h hO hJ hA => ?_)
                    go_wp2
                    exact ⟨rfl, rfl, rfl, Own.refl _⟩
                  case s9_18 =>
                    refine RegD.stepJ_store rfl (fun u w1 h hO hJ => ?_)
                    have HN := Lib.hid hJ
                    clear hJ
                    go_wp2_with ((with_reducible show wpList _ _ _ (⟨_, .store 56 (.tmp 172) (.tmp 170), _, _, _, none⟩ :: _) _ _); refine wpList_store_part rfl 56 (.tmp 172) (.tmp 170) rfl J (27 + k * 3) 3 (l3 (feX b p s k) (feY b p s k) (feZ b p s k)) rfl (#[.int .i64 (feX b p s k), .int .i64 (feY b p s k), .int .i64 (feZ b p s k)]) rfl rfl HN.out (by omega) infoV ?_)
                    exact ⟨rfl, rfl, rfl⟩
                intro u w5 hO hj
                replace g0 := own_x g0 hJ0 hO
                replace HB := Lib.hid (HB.out.ownx hO HNE.out.1)
                replace HP := Lib.hid (HP.out.ownx hO HNE.out.2.1)
                replace HR := Lib.hid (HR.out.ownx hO HNE.out.2.2)
                clear HJ
                have HJ := Lib.hid hj
                clear hj hO
                have HN := Lib.hid (show Jk b p s (k + 1) (put f3 (27 + k * 3) 3 (l3 (feX b p s k) (feY b p s k) (feZ b p s k))) by
                  have h := HF.out.next hlt (s := s) ⟨rfl, rfl, rfl⟩ ⟨rfl, rfl, rfl⟩ ⟨rfl, rfl, rfl⟩ ⟨rfl, rfl, rfl⟩
                  rw [HF1.out, HF2.out, HF3.out] at h
                  exact h)
                go_wp2
                go_roundw
                case rel => exact ⟨k + 1, by go_num, hlt, g0, HB.out, HP.out, HR.out, _, HJ.out, HN.out⟩
                case measure => simp [intOf]; omega
            · obtain rfl : k = 2 := by omega
              have HV2 := Lib.hid (show cz 33 f = cz 33 (joV b p s) by rw [HJE.out]; exact HF.out.done)
              go_wp2_with (first | ((with_reducible show wpList _ _ _ (⟨_, .load 59 (.tmp 11), _, _, _, none⟩ :: _) _ _); refine wpList_load_row rfl 59 (.tmp 11) rfl J rfl 59 _ (0, 0) _ HJ.out.raw Tryd.underlying59 rfl infoJ ?_) | ((with_reducible show wpList _ _ _ (⟨_, .store 59 (.tmp 6) (.tmp 173), _, _, _, none⟩ :: _) _ _); refine wpList_store_row rfl 59 (.tmp 6) (.tmp 173) rfl R (cz 33 (f)) rfl rfl 59 _ HR.out.raw infoJ rfl (cz_one _ _) ?_))
              have hr := HR.out.row (cz 33 f)
              rw [← HV2.out]
              exact bodyPost_ret (blk_results rfl rfl rfl hr Tryd.underlying59 rfl infoJ) rfl ⟨rfl, own_setRow g0 hR0 _⟩

      · have hj := jo_range hc hv hs
        have HJE := Lib.hid (joV_no (b := b) (p := p) (s := s) (by rw [hj]; decide))
        rw [HJE.out, hj]
        by_cases h0 : s < 0
        · have d0 : decide (s < 0) = true := decide_eq_true h0
          clear hc hv hs hj HJE h0
          go_enter Tryd.func21, Tryd.ntmps21
          go_upto_region 1 with (fail)
          obtain ⟨W0, B, P, R, hW, hR, hP, hB, hb1, hp1, hr1, g0, -, -, hR0, -⟩ := three_new w (cz 15 b) 24 (cz 22 p) 31 (cz 33 nul) 59
          rw [← cz33_nul] at hW
          rw [hW, hR, hP, hB]
          have HB := Lib.hid hb1
          have HP := Lib.hid hp1
          have HR := Lib.hid hr1
          clear hW hR hP hB hb1 hp1 hr1
          go_wp2_with (first | ((with_reducible show wpList _ _ _ (⟨_, .load 24 (.tmp 3), _, _, _, none⟩ :: _) _ _); refine wpList_load_row rfl 24 (.tmp 3) rfl B rfl 24 _ (0, 0) _ HB.out.raw Tryd.underlying24 rfl infoB ?_) | ((with_reducible show wpList _ _ _ (⟨_, .load 31 (.tmp 4), _, _, _, none⟩ :: _) _ _); refine wpList_load_row rfl 31 (.tmp 4) rfl P rfl 31 _ (0, 0) _ HP.out.raw Tryd.underlying31 rfl infoP ?_) | (go_at_call 54; with_reducible refine (rbc_at b 0 _ HC).mono ?_; rintro r w1 ⟨rfl, hg⟩; replace g0 := g0.trans hg; replace HB := Lib.hid (HB.out.own hg); replace HP := Lib.hid (HP.out.own hg); replace HR := Lib.hid (HR.out.own hg); clear hg) | (go_at_call 55; with_reducible refine (rvalid_at p 0 _ HV).mono ?_; rintro r w2 ⟨rfl, hg⟩; replace g0 := g0.trans hg; replace HB := Lib.hid (HB.out.own hg); replace HP := Lib.hid (HP.out.own hg); replace HR := Lib.hid (HR.out.own hg); clear hg) | ((with_reducible show wpList _ _ _ (⟨_, .store 59 (.tmp 6) (.tmp 31), _, _, _, none⟩ :: _) _ _); refine wpList_store_row rfl 59 (.tmp 6) (.tmp 31) rfl R (cz 33 (nul)) rfl rfl 59 _ HR.out.raw infoJ rfl (cz_one _ _) ?_))
          have hr := HR.out.row (cz 33 nul)
          exact bodyPost_ret (blk_results rfl rfl rfl hr Tryd.underlying59 rfl infoJ) rfl ⟨rfl, own_setRow g0 hR0 _⟩
        · have d0 : decide (s < 0) = false := decide_eq_false h0
          have d1 : decide (3 < s) = true := decide_eq_true (by omega)
          clear hc hv hs hj HJE h0
          go_enter Tryd.func21, Tryd.ntmps21
          go_upto_region 1 with (fail)
          obtain ⟨W0, B, P, R, hW, hR, hP, hB, hb1, hp1, hr1, g0, -, -, hR0, -⟩ := three_new w (cz 15 b) 24 (cz 22 p) 31 (cz 33 nul) 59
          rw [← cz33_nul] at hW
          rw [hW, hR, hP, hB]
          have HB := Lib.hid hb1
          have HP := Lib.hid hp1
          have HR := Lib.hid hr1
          clear hW hR hP hB hb1 hp1 hr1
          go_wp2_with (first | ((with_reducible show wpList _ _ _ (⟨_, .load 24 (.tmp 3), _, _, _, none⟩ :: _) _ _); refine wpList_load_row rfl 24 (.tmp 3) rfl B rfl 24 _ (0, 0) _ HB.out.raw Tryd.underlying24 rfl infoB ?_) | ((with_reducible show wpList _ _ _ (⟨_, .load 31 (.tmp 4), _, _, _, none⟩ :: _) _ _); refine wpList_load_row rfl 31 (.tmp 4) rfl P rfl 31 _ (0, 0) _ HP.out.raw Tryd.underlying31 rfl infoP ?_) | (go_at_call 54; with_reducible refine (rbc_at b 0 _ HC).mono ?_; rintro r w1 ⟨rfl, hg⟩; replace g0 := g0.trans hg; replace HB := Lib.hid (HB.out.own hg); replace HP := Lib.hid (HP.out.own hg); replace HR := Lib.hid (HR.out.own hg); clear hg) | (go_at_call 55; with_reducible refine (rvalid_at p 0 _ HV).mono ?_; rintro r w2 ⟨rfl, hg⟩; replace g0 := g0.trans hg; replace HB := Lib.hid (HB.out.own hg); replace HP := Lib.hid (HP.out.own hg); replace HR := Lib.hid (HR.out.own hg); clear hg) | ((with_reducible show wpList _ _ _ (⟨_, .store 59 (.tmp 6) (.tmp 31), _, _, _, none⟩ :: _) _ _); refine wpList_store_row rfl 59 (.tmp 6) (.tmp 31) rfl R (cz 33 (nul)) rfl rfl 59 _ HR.out.raw infoJ rfl (cz_one _ _) ?_))
          have hr := HR.out.row (cz 33 nul)
          exact bodyPost_ret (blk_results rfl rfl rfl hr Tryd.underlying59 rfl infoJ) rfl ⟨rfl, own_setRow g0 hR0 _⟩
    · obtain ⟨c, hcc⟩ : ∃ c, vaE p = c := ⟨_, rfl⟩
      have hj := jo_pose (s := s) hc hv
      have HJE := Lib.hid (joV_no (b := b) (p := p) (s := s) (by rw [hj]; exact hv))
      rw [HJE.out, hj, hcc]
      rw [hcc] at hv
      have kc : (c != 0) = true := bne_iff_ne.2 hv
      have HC := Lib.hid hc
      have HV := Lib.hid hcc
      clear hc hv hj HJE hcc
      go_enter Tryd.func21, Tryd.ntmps21
      go_upto_region 1 with (fail)
      obtain ⟨W0, B, P, R, hW, hR, hP, hB, hb1, hp1, hr1, g0, -, -, hR0, -⟩ := three_new w (cz 15 b) 24 (cz 22 p) 31 (cz 33 nul) 59
      rw [← cz33_nul] at hW
      rw [hW, hR, hP, hB]
      have HB := Lib.hid hb1
      have HP := Lib.hid hp1
      have HR := Lib.hid hr1
      clear hW hR hP hB hb1 hp1 hr1
      go_wp2_with (first | ((with_reducible show wpList _ _ _ (⟨_, .load 24 (.tmp 3), _, _, _, none⟩ :: _) _ _); refine wpList_load_row rfl 24 (.tmp 3) rfl B rfl 24 _ (0, 0) _ HB.out.raw Tryd.underlying24 rfl infoB ?_) | ((with_reducible show wpList _ _ _ (⟨_, .load 31 (.tmp 4), _, _, _, none⟩ :: _) _ _); refine wpList_load_row rfl 31 (.tmp 4) rfl P rfl 31 _ (0, 0) _ HP.out.raw Tryd.underlying31 rfl infoP ?_) | (go_at_call 54; with_reducible refine (rbc_at b 0 _ HC).mono ?_; rintro r w1 ⟨rfl, hg⟩; replace g0 := g0.trans hg; replace HB := Lib.hid (HB.out.own hg); replace HP := Lib.hid (HP.out.own hg); replace HR := Lib.hid (HR.out.own hg); clear hg) | (go_at_call 55; with_reducible refine (rvalid_at p c _ HV).mono ?_; rintro r w2 ⟨rfl, hg⟩; replace g0 := g0.trans hg; replace HB := Lib.hid (HB.out.own hg); replace HP := Lib.hid (HP.out.own hg); replace HR := Lib.hid (HR.out.own hg); clear hg) | ((with_reducible show wpList _ _ _ (⟨_, .store 59 (.tmp 6) (.tmp 23), _, _, _, none⟩ :: _) _ _); refine wpList_store_row rfl 59 (.tmp 6) (.tmp 23) rfl R (cz 33 (nul)) rfl rfl 59 _ HR.out.raw infoJ rfl (cz_one _ _) ?_))
      have hr := HR.out.row (cz 33 nul)
      exact bodyPost_ret (blk_results rfl rfl rfl hr Tryd.underlying59 rfl infoJ) rfl ⟨rfl, own_setRow g0 hR0 _⟩
  · obtain ⟨c, hcc⟩ : ∃ c, BuiP.chk b = c := ⟨_, rfl⟩
    have hj := jo_build (p := p) (s := s) hc
    have HJE := Lib.hid (joV_no (b := b) (p := p) (s := s) (by rw [hj]; exact hc))
    rw [HJE.out, hj, hcc]
    rw [hcc] at hc
    have kc : (c != 0) = true := bne_iff_ne.2 hc
    have HC := Lib.hid hcc
    clear hc hj HJE hcc
    go_enter Tryd.func21, Tryd.ntmps21
    go_upto_region 1 with (fail)
    obtain ⟨W0, B, P, R, hW, hR, hP, hB, hb1, hp1, hr1, g0, -, -, hR0, -⟩ := three_new w (cz 15 b) 24 (cz 22 p) 31 (cz 33 nul) 59
    rw [← cz33_nul] at hW
    rw [hW, hR, hP, hB]
    have HB := Lib.hid hb1
    have HP := Lib.hid hp1
    have HR := Lib.hid hr1
    clear hW hR hP hB hb1 hp1 hr1
    go_wp2_with (first | ((with_reducible show wpList _ _ _ (⟨_, .load 24 (.tmp 3), _, _, _, none⟩ :: _) _ _); refine wpList_load_row rfl 24 (.tmp 3) rfl B rfl 24 _ (0, 0) _ HB.out.raw Tryd.underlying24 rfl infoB ?_) | ((with_reducible show wpList _ _ _ (⟨_, .load 31 (.tmp 4), _, _, _, none⟩ :: _) _ _); refine wpList_load_row rfl 31 (.tmp 4) rfl P rfl 31 _ (0, 0) _ HP.out.raw Tryd.underlying31 rfl infoP ?_) | (go_at_call 54; with_reducible refine (rbc_at b c _ HC).mono ?_; rintro r w1 ⟨rfl, hg⟩; replace g0 := g0.trans hg; replace HB := Lib.hid (HB.out.own hg); replace HP := Lib.hid (HP.out.own hg); replace HR := Lib.hid (HR.out.own hg); clear hg) | ((with_reducible show wpList _ _ _ (⟨_, .store 59 (.tmp 6) (.tmp 17), _, _, _, none⟩ :: _) _ _); refine wpList_store_row rfl 59 (.tmp 6) (.tmp 17) rfl R (cz 33 (nul)) rfl rfl 59 _ HR.out.raw infoJ rfl (cz_one _ _) ?_))
    have hr := HR.out.row (cz 33 nul)
    exact bodyPost_ret (blk_results rfl rfl rfl hr Tryd.underlying59 rfl infoJ) rfl ⟨rfl, own_setRow g0 hR0 _⟩
theorem rof_at (b p j : Vl) (s c : Int) (w : World) (H : Hid (cz 33 (joV b p s) = cz 33 j ∧ joE b p s = c)) :
    Calls Tryd.prog 21 #[.agg (cz 15 b), .agg (cz 22 p), .int .i64 s] w fun r w' => r = .returned (.tuple #[.agg (cz 33 j), .int .i64 c]) ∧ Own w w' := by
  rw [← H.out.1, ← H.out.2]
  exact rof_any b p s w
end Go.Proofs.YtighpjhipgobiaaDoor.JntW
