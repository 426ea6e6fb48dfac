/-
  Walks of the program of package joints: Of. Condition: the table of sines, the table of bounds and the numbers of both sides lie in memory.
-/
import Derived.Test.YtighpjhipgobiaaDoorJointsPB
import Derived.Test.YtighpjhipgobiaaDoorJointsMem
import Derived.Test.YtighpjhipgobiaaDoorBuildPA
namespace Go.Proofs.YtighpjhipgobiaaDoor.JntW
open Go.ChangeShapes Go.WideShapes Go.ChangeAt Go.RowKit
open PairW AimP AimW BlkW PrtW PstP PstW JntP RegD
set_option maxRecDepth 100000 in
set_option maxHeartbeats 2000000 in
theorem jsumH_at (a b c d e f x y z : Int) (w : World) (H : Hid (sm a b c d e f x y z)) :
    Calls Tryd.prog 45 #[.agg #[.int .i64 a, .int .i64 b, .int .i64 c], .agg #[.int .i64 d, .int .i64 e, .int .i64 f]] w fun r w' => r = .returned (.agg #[.int .i64 x, .int .i64 y, .int .i64 z]) ∧ Own w w' := by
  obtain ⟨⟨h1, h2, h3⟩, ⟨h4, h5, h6⟩, h7⟩ := H.out
  exact jsum_at a b c d e f x y z w h1 h2 h3 h4 h5 h6 (Lib.hid h7)
theorem jalongH_at (n z e b f x y v : Int) (w : World) (HT : Hid (AngW.Tab w)) (H : Hid (alo n z e b f x y v)) :
    Calls Tryd.prog 46 #[.int .i64 n, .agg #[.int .i64 z, .int .i64 e, .int .i64 b], .int .i64 f] w fun r w' => r = .returned (.agg #[.int .i64 x, .int .i64 y, .int .i64 v]) ∧ Own w w' :=
  jalong_at n z e b f x y v w HT H.out.1 H.out.2.1 (Lib.hid H.out.2.2)
theorem jasideH_at (d f x y : Int) (w : World) (HT : Hid (AngW.Tab w)) (H : Hid (sdo d f x y)) :
    Calls Tryd.prog 47 #[.int .i64 d, .int .i64 f] w fun r w' => r = .returned (.agg #[.int .i64 x, .int .i64 y, .int .i64 0]) ∧ Own w w' :=
  jaside_at d f x y w HT H.out.1 (Lib.hid H.out.2)
theorem jbc_at (b : Vl) (c : Int) (w : World) (HT : Hid (BuiW.Tab w)) (H : Hid (BuiP.chk b = c)) :
    Calls Tryd.prog 17 #[.agg (cz 15 b)] w fun r w' => r = .returned (.int .i64 c) ∧ Own w w' := BuiW.pcheck_at b c w HT H
theorem cz33_nul : (#[.int .i64 0, .int .i64 0, .int .i64 0, .int .i64 0, .int .i64 0, .int .i64 0, .int .i64 0, .int .i64 0, .int .i64 0, .int .i64 0, .int .i64 0, .int .i64 0, .int .i64 0, .int .i64 0, .int .i64 0, .int .i64 0, .int .i64 0, .int .i64 0, .int .i64 0, .int .i64 0, .int .i64 0, .int .i64 0, .int .i64 0, .int .i64 0, .int .i64 0, .int .i64 0, .int .i64 0, .int .i64 0, .int .i64 0, .int .i64 0, .int .i64 0, .int .i64 0, .int .i64 0] : Array Value) = cz 33 nul := rfl
theorem bld_jo (x y z : Int) : Tryd.prog.built 59 [(0, .agg #[.int .i64 x, .int .i64 y, .int .i64 z])] = some (cz 33 (put nul 0 3 (l3 x y z))) := by kernel_rfl
/-- The numbers of both sides in memory. -/
structure Sds (w : World) : Prop where
  at_ : ∀ k, k < 8 → w.cell? ⟨1, k, none⟩ = some (.int .i64 (sdF k))
theorem Sds.own {w w' : World} (h : Sds w) (hg : Own w w') : Sds w' := ⟨fun k hk => hg.cell (h.at_ k hk)⟩
theorem idxS {k : Nat} (hk : k < 2) (w : World) : (Instr.index 96 (.agg #[.int .i64 (-1), .int .i64 0, .int .i64 3, .int .i64 1, .int .i64 1, .int .i64 1, .int .i64 4, .int .i64 2]) (.int .i64 (k : Int))).run Tryd.prog w = .ok (.agg #[.int .i64 (sg k), .int .i64 (k : Int), .int .i64 ((3 + k : Nat) : Int), .int .i64 ((1 + k : Nat) : Int)]) w := by
  have h := index_num (n := 2) (m := 4) Tryd.underlying96 (fun w => by go_simp) (fun w => by go_simp) hk sdF w
  rw [sdF_at hk] at h
  exact h
theorem bit_on {s : Int} (h : 0 ≤ s ∧ s ≤ 3) {k : Nat} (hk : k < 2) : bits .and .i64 s ((1 + k : Nat) : Int) = if on s k = true then ((1 + k : Nat) : Int) else 0 := by
  have t : s = 0 ∨ s = 1 ∨ s = 2 ∨ s = 3 := by omega
  have t2 : k = 0 ∨ k = 1 := by omega
  rcases t with rfl | rfl | rfl | rfl <;> rcases t2 with rfl | rfl <;> rfl
theorem bit_yes {s : Int} (h : 0 ≤ s ∧ s ≤ 3) {k : Nat} (hk : k < 2) (ho : on s k = true) : ∃ r, bits .and .i64 s ((1 + k : Nat) : Int) = r ∧ (r != 0) = true := ⟨_, by rw [bit_on h hk, if_pos ho], bne_iff_ne.2 (by omega)⟩
theorem bit_not {s : Int} (h : 0 ≤ s ∧ s ≤ 3) {k : Nat} (hk : k < 2) (ho : on s k = false) : ∃ r, bits .and .i64 s ((1 + k : Nat) : Int) = r ∧ (r != 0) = false := ⟨0, by rw [bit_on h hk, ho]; rfl, rfl⟩
set_option maxRecDepth 100000 in
set_option maxHeartbeats 40000000 in
theorem jof_any (b p : Vl) (s : Int) (w : World) (HT : Hid (AngW.Tab w)) (HBT : Hid (BuiW.Tab w)) (HS : Hid (Sds w)) :
    Calls Tryd.prog 19 #[.agg (cz 15 b), .agg (cz 22 p), .int .i64 s] w fun r w' => r = .returned (.tuple #[.agg (cz 33 (joV b p s)), .int .i64 (joE b p s)]) ∧ Own w w' := by
  by_cases hc : BuiP.chk b = 0
  · by_cases hv : vaE p = 0
    · by_cases hs : 0 ≤ s ∧ s ≤ 3
      · have hj := jo_ok hc hv hs
        have HJE := Lib.hid (joV_yes hj)
        rw [hj]
        have HSP := Lib.hid ((sp_iff s).2 hs)
        have HSU := Lib.hid hs
        have HC := Lib.hid hc
        have HC0 := Lib.hid hc
        have HV := Lib.hid hv
        have HV0 := Lib.hid hv
        have HAL1 := Lib.hid (show alo (b 1) (p 10) (p 11) (p 12) (p 2) (alX (b 1) p 2) (alY (b 1) p 2) (alZ (b 1) p 2) from al_ok hc hv (i := 1) (k := 2) (by omega) (by omega))
        have HSM1 := Lib.hid (sm_neck hc hv)
        have HAL2 := Lib.hid (show alo (b 2) (p 19) (p 20) (p 21) (p 2) (alX (b 2) p 5) (alY (b 2) p 5) (alZ (b 2) p 5) from al_ok hc hv (i := 2) (k := 5) (by omega) (by omega))
        have HSM2 := Lib.hid (sm_head hc hv)
        clear hc hv hs hj
        go_enter Tryd.func19, Tryd.ntmps19
        go_upto_region 1 with (fail)
        obtain ⟨W0, B, P, R, hW, hR, hP, hB, hb1, hp1, hr1, g0, -, -, hR0, -⟩ := three_new w (cz 15 b) 24 (cz 22 p) 31 (cz 33 nul) 59
        rw [← cz33_nul] at hW
        rw [hW, hR, hP, hB]
        have HB := Lib.hid hb1
        have HP := Lib.hid hp1
        have HR := Lib.hid hr1
        clear hW hR hP hB hb1 hp1 hr1
        go_upto_region 9 with (first | ((with_reducible show wpList _ _ _ (⟨_, .load 24 (.tmp 3), _, _, _, none⟩ :: _) _ _); refine wpList_load_row rfl 24 (.tmp 3) rfl B rfl 24 _ (0, 0) _ HB.out.raw Tryd.underlying24 rfl infoB ?_) | ((with_reducible show wpList _ _ _ (⟨_, .load 31 (.tmp 4), _, _, _, none⟩ :: _) _ _); refine wpList_load_row rfl 31 (.tmp 4) rfl P rfl 31 _ (0, 0) _ HP.out.raw Tryd.underlying31 rfl infoP ?_) | (go_at_call 17; with_reducible refine (jbc_at b 0 _ (Lib.hid (HBT.out.own g0)) HC).mono ?_; rintro r w1 ⟨rfl, hg⟩; replace g0 := g0.trans hg; replace HB := Lib.hid (HB.out.own hg); replace HP := Lib.hid (HP.out.own hg); replace HR := Lib.hid (HR.out.own hg); clear hg) | (go_at_call 16; with_reducible refine (qvalid_at p 0 _ HV).mono ?_; rintro r w2 ⟨rfl, hg⟩; replace g0 := g0.trans hg; replace HB := Lib.hid (HB.out.own hg); replace HP := Lib.hid (HP.out.own hg); replace HR := Lib.hid (HR.out.own hg); clear hg) | (go_at_call 43; with_reducible refine (jsu_at s true _ HSP).mono ?_; rintro r w1 ⟨rfl, rfl⟩))
        go_upto_region 10 with (first | ((with_reducible show wpList _ _ _ (⟨_, .load 24 (.tmp 3), _, _, _, none⟩ :: _) _ _); refine wpList_load_row rfl 24 (.tmp 3) rfl B rfl 24 _ (0, 0) _ HB.out.raw Tryd.underlying24 rfl infoB ?_) | ((with_reducible show wpList _ _ _ (⟨_, .load 31 (.tmp 4), _, _, _, none⟩ :: _) _ _); refine wpList_load_row rfl 31 (.tmp 4) rfl P rfl 31 _ (0, 0) _ HP.out.raw Tryd.underlying31 rfl infoP ?_) | (go_at_call 44; with_reducible refine (jhip_at b p (hpZ b p) _ HC0.out HV0.out (Lib.hid rfl)).mono ?_; rintro r w3 ⟨rfl, hg⟩; replace g0 := g0.trans hg; replace HB := Lib.hid (HB.out.own hg); replace HP := Lib.hid (HP.out.own hg); replace HR := Lib.hid (HR.out.own hg); clear hg) | ((with_reducible show wpList _ _ _ (⟨_, .build 59 _, _, _, _, _⟩ :: _) _ _); refine wpList_build_as rfl 59 [(0, .tmp 31)] rfl [(0, .agg #[.int .i64 (p 0), .int .i64 (p 1), .int .i64 (hpZ b p)])] rfl (cz 33 (put nul 0 3 (l3 (p 0) (p 1) (hpZ b p)))) (bld_jo _ _ _) ?_) | ((with_reducible show wpList _ _ _ (⟨_, .store 59 (.tmp 10) (.tmp 32), _, _, _, none⟩ :: _) _ _); refine wpList_store_row rfl 59 (.tmp 10) (.tmp 32) rfl _ (cz 33 (put nul 0 3 (l3 (p 0) (p 1) (hpZ b p)))) rfl rfl 59 _ (heap_new _ _) infoJ rfl (cz_one _ _) ?_; rw [World.setRow_alloc_new]))
        obtain ⟨w4, J, hW, hBq, hb, hg, Jg⟩ := blk_new w3 (cz 33 (put nul 0 3 (l3 (p 0) (p 1) (hpZ b p)))) 59
        have HNE := Lib.hid (show B ≠ J ∧ P ≠ J ∧ R ≠ J from ⟨Nat.ne_of_lt (Nat.lt_of_lt_of_le HB.out.lt Jg), Nat.ne_of_lt (Nat.lt_of_lt_of_le HP.out.lt Jg), Nat.ne_of_lt (Nat.lt_of_lt_of_le HR.out.lt Jg)⟩)
        have hJ0 : w.heap.size ≤ J := Nat.le_trans g0.size Jg
        rw [hW, hBq]
        have HJ := Lib.hid hb
        replace g0 := g0.trans hg
        replace HB := Lib.hid (HB.out.own hg)
        replace HP := Lib.hid (HP.out.own hg)
        replace HR := Lib.hid (HR.out.own hg)
        clear hW hBq hb hg
        clear Jg
        go_frame
        refine RegD.region_dutyJ [33, 34, 35, 36, 37, 38, 39, 40, 41, 42, 43, 44] 12 33 (3) 3 (put nul 0 3 (l3 (p 0) (p 1) (hpZ b p))) (l3 (nkX b p) (nkY b p) (nkZ b p)) (RegI.upd (RegI.upd (RegI.upd (RegI.upd (RegI.upd (RegI.upd (RegI.upd (RegI.upd (RegI.upd (RegI.upd (RegI.upd (RegI.upd (fun _ => undef) 33 (.pointer (some ⟨J, 0, none⟩))) 34 (.agg #[.int .i64 (p 0), .int .i64 (p 1), .int .i64 (hpZ b p)])) 35 (.pointer (some ⟨B, 1, none⟩))) 36 (.int .i64 (b 1))) 37 (.pointer (some ⟨P, 4, none⟩))) 38 (.pointer (some ⟨P, 10, none⟩))) 39 (.agg #[.int .i64 (p 10), .int .i64 (p 11), .int .i64 (p 12)])) 40 (.pointer (some ⟨P, 2, none⟩))) 41 (.int .i64 (p 2))) 42 (.agg #[.int .i64 (alX (b 1) p 2), .int .i64 (alY (b 1) p 2), .int .i64 (alZ (b 1) p 2)])) 43 (.agg #[.int .i64 (nkX b p), .int .i64 (nkY b p), .int .i64 (nkZ b p)])) 44 (.pointer (some ⟨J, 3, none⟩))) J 59 (by kernel_rfl) (by kernel_rfl) (by decide) (by intro d hd; simp at hd; simp; omega) HJ.out ?_
        simp only [RegD.FF, RegI.FX, RegI.upd, List.foldl_cons, List.foldl_nil, List.not_mem_nil, if_true, if_false, Nat.reduceEqDiff]
        simp only [List.setIfInBounds_toArray, List.set_cons_succ, List.set_cons_zero]
        refine And.intro ?hs1 ?he1
        case hs1 =>
          refine And.intro ?s1_0 (And.intro ?s1_1 (And.intro ?s1_2 (And.intro ?s1_3 (And.intro ?s1_4 (And.intro ?s1_5 (And.intro ?s1_6 (And.intro ?s1_7 (And.intro ?s1_8 (And.intro ?s1_9 (And.intro ?s1_10 (And.intro ?s1_11 (And.intro ?s1_12 (trivial)))))))))))))
          case s1_0 =>
            refine RegD.stepJ_det (by decide) (fun u w1 h hO hJ hA => ?_)
            go_wp2
            exact ⟨rfl, rfl, rfl, Own.refl _⟩
          case s1_1 =>
            refine RegD.stepJ_det (by decide) (fun u w1 h hO hJ hA => ?_)
            have HJ9 := Lib.hid hJ
            have HA9 := Lib.hid hA
            clear hJ hA
            go_wp2_with ((with_reducible show wpList _ _ _ (⟨_, .load 56 (.tmp 33), _, _, _, none⟩ :: _) _ _); refine wpList_load_part rfl 56 (.tmp 33) rfl J (0) rfl 3 HJ9.out (by omega) (#[.int .i64 (p 0), .int .i64 (p 1), .int .i64 (hpZ b p)]) ((pt_cz (pt_put nul 0 _ _ _)).trans (apart_part HA9.out (by omega) (by omega)).symm) _ Tryd.underlying56 rfl infoV ?_)
            exact ⟨rfl, rfl, rfl, Own.refl _⟩
          case s1_2 =>
            refine RegD.stepJ_det (by decide) (fun u w1 h hO hJ hA => ?_)
            go_wp2
            exact ⟨rfl, rfl, rfl, Own.refl _⟩
          case s1_3 =>
            refine RegD.stepJ_det (by decide) (fun u w1 h hO hJ hA => ?_)
            have kk := blk_num (HB.out.ownx hO HNE.out.1) (i := 1) (by omega)
            go_wp2
            exact ⟨rfl, rfl, rfl, Own.refl _⟩
          case s1_4 =>
            refine RegD.stepJ_det (by decide) (fun u w1 h hO hJ hA => ?_)
            go_wp2
            exact ⟨rfl, rfl, rfl, Own.refl _⟩
          case s1_5 =>
            refine RegD.stepJ_det (by decide) (fun u w1 h hO hJ hA => ?_)
            go_wp2
            exact ⟨rfl, rfl, rfl, Own.refl _⟩
          case s1_6 =>
            refine RegD.stepJ_det (by decide) (fun u w1 h hO hJ hA => ?_)
            have HB9 := Lib.hid (HP.out.ownx hO HNE.out.2.1)
            go_wp2_with ((with_reducible show wpList _ _ _ (⟨_, .load 28 (.tmp 38), _, _, _, none⟩ :: _) _ _); refine wpList_load_part rfl 28 (.tmp 38) rfl P (10) rfl 3 HB9.out (by omega) (#[.int .i64 (p 10), .int .i64 (p 11), .int .i64 (p 12)]) rfl _ Tryd.underlying28 rfl infoA ?_)
            exact ⟨rfl, rfl, rfl, Own.refl _⟩
          case s1_7 =>
            refine RegD.stepJ_det (by decide) (fun u w1 h hO hJ hA => ?_)
            go_wp2
            exact ⟨rfl, rfl, rfl, Own.refl _⟩
          case s1_8 =>
            refine RegD.stepJ_det (by decide) (fun u w1 h hO hJ hA => ?_)
            have kk := blk_num (HP.out.ownx hO HNE.out.2.1) (i := 2) (by omega)
            go_wp2
            exact ⟨rfl, rfl, rfl, Own.refl _⟩
          case s1_9 =>
            refine RegD.stepJ_det (by decide) (fun u w1 h hO hJ hA => ?_)
            go_wp2_with (go_at_call 46; with_reducible refine (jalongH_at _ _ _ _ _ _ _ _ _ (Lib.hid (tab_own HT.out (own_x g0 hJ0 hO))) HAL1).mono ?_; rintro r w2 ⟨rfl, hg⟩)
            exact ⟨rfl, rfl, rfl, hg⟩
          case s1_10 =>
            refine RegD.stepJ_det (by decide) (fun u w1 h hO hJ hA => ?_)
            go_wp2_with (go_at_call 45; with_reducible refine (jsumH_at _ _ _ _ _ _ _ _ _ _ HSM1).mono ?_; rintro r w2 ⟨rfl, hg⟩)
            exact ⟨rfl, rfl, rfl, hg⟩
          case s1_11 =>
            refine RegD.stepJ_det (by decide) (fun u w1 h hO hJ hA => ?_)
            go_wp2
            exact ⟨rfl, rfl, rfl, Own.refl _⟩
          case s1_12 =>
            refine RegD.stepJ_store rfl (fun u w1 h hO hJ => ?_)
            have HN := Lib.hid hJ
            clear hJ
            go_wp2_with ((with_reducible show wpList _ _ _ (⟨_, .store 56 (.tmp 44) (.tmp 43), _, _, _, none⟩ :: _) _ _); refine wpList_store_part rfl 56 (.tmp 44) (.tmp 43) rfl J (3) 3 (l3 (nkX b p) (nkY b p) (nkZ b p)) rfl (#[.int .i64 (nkX b p), .int .i64 (nkY b p), .int .i64 (nkZ b p)]) rfl rfl HN.out (by omega) infoV ?_)
            exact ⟨rfl, rfl, rfl⟩
        intro u w5 hO hj
        replace g0 := own_x g0 hJ0 hO
        replace HB := Lib.hid (HB.out.ownx hO HNE.out.1)
        replace HP := Lib.hid (HP.out.ownx hO HNE.out.2.1)
        replace HR := Lib.hid (HR.out.ownx hO HNE.out.2.2)
        clear HJ
        have HJ := Lib.hid hj
        clear hj hO
        go_upto_region 11 with (fail)
        refine RegD.region_dutyJ [45, 46, 47, 48, 49, 50, 51, 52, 53, 54, 55, 56] 12 33 (6) 3 (put (put nul 0 3 (l3 (p 0) (p 1) (hpZ b p))) 3 3 (l3 (nkX b p) (nkY b p) (nkZ b p))) (l3 (hdX b p) (hdY b p) (hdZ b p)) (RegI.upd (RegI.upd (RegI.upd (RegI.upd (RegI.upd (RegI.upd (RegI.upd (RegI.upd (RegI.upd (RegI.upd (RegI.upd (RegI.upd (fun _ => undef) 45 (.pointer (some ⟨J, 3, none⟩))) 46 (.agg #[.int .i64 (nkX b p), .int .i64 (nkY b p), .int .i64 (nkZ b p)])) 47 (.pointer (some ⟨B, 2, none⟩))) 48 (.int .i64 (b 2))) 49 (.pointer (some ⟨P, 4, none⟩))) 50 (.pointer (some ⟨P, 19, none⟩))) 51 (.agg #[.int .i64 (p 19), .int .i64 (p 20), .int .i64 (p 21)])) 52 (.pointer (some ⟨P, 2, none⟩))) 53 (.int .i64 (p 2))) 54 (.agg #[.int .i64 (alX (b 2) p 5), .int .i64 (alY (b 2) p 5), .int .i64 (alZ (b 2) p 5)])) 55 (.agg #[.int .i64 (hdX b p), .int .i64 (hdY b p), .int .i64 (hdZ b p)])) 56 (.pointer (some ⟨J, 6, none⟩))) J 59 (by kernel_rfl) (by kernel_rfl) (by decide) (by intro d hd; simp at hd; simp; omega) HJ.out ?_
        simp only [RegD.FF, RegI.FX, RegI.upd, List.foldl_cons, List.foldl_nil, List.not_mem_nil, if_true, if_false, Nat.reduceEqDiff]
        simp only [List.setIfInBounds_toArray, List.set_cons_succ, List.set_cons_zero]
        refine And.intro ?hs2 ?he2
        case hs2 =>
          refine And.intro ?s2_0 (And.intro ?s2_1 (And.intro ?s2_2 (And.intro ?s2_3 (And.intro ?s2_4 (And.intro ?s2_5 (And.intro ?s2_6 (And.intro ?s2_7 (And.intro ?s2_8 (And.intro ?s2_9 (And.intro ?s2_10 (And.intro ?s2_11 (And.intro ?s2_12 (trivial)))))))))))))
          case s2_0 =>
            refine RegD.stepJ_det (by decide) (fun u w1 h hO hJ hA => ?_)
            go_wp2
            exact ⟨rfl, rfl, rfl, Own.refl _⟩
          case s2_1 =>
            refine RegD.stepJ_det (by decide) (fun u w1 h hO hJ hA => ?_)
            have HJ9 := Lib.hid hJ
            have HA9 := Lib.hid hA
            clear hJ hA
            go_wp2_with ((with_reducible show wpList _ _ _ (⟨_, .load 56 (.tmp 45), _, _, _, none⟩ :: _) _ _); refine wpList_load_part rfl 56 (.tmp 45) rfl J (3) rfl 3 HJ9.out (by omega) (#[.int .i64 (nkX b p), .int .i64 (nkY b p), .int .i64 (nkZ b p)]) ((pt_cz (pt_put _ 3 _ _ _)).trans (apart_part HA9.out (by omega) (by omega)).symm) _ Tryd.underlying56 rfl infoV ?_)
            exact ⟨rfl, rfl, rfl, Own.refl _⟩
          case s2_2 =>
            refine RegD.stepJ_det (by decide) (fun u w1 h hO hJ hA => ?_)
            go_wp2
            exact ⟨rfl, rfl, rfl, Own.refl _⟩
          case s2_3 =>
            refine RegD.stepJ_det (by decide) (fun u w1 h hO hJ hA => ?_)
            have kk := blk_num (HB.out.ownx hO HNE.out.1) (i := 2) (by omega)
            go_wp2
            exact ⟨rfl, rfl, rfl, Own.refl _⟩
          case s2_4 =>
            refine RegD.stepJ_det (by decide) (fun u w1 h hO hJ hA => ?_)
            go_wp2
            exact ⟨rfl, rfl, rfl, Own.refl _⟩
          case s2_5 =>
            refine RegD.stepJ_det (by decide) (fun u w1 h hO hJ hA => ?_)
            go_wp2
            exact ⟨rfl, rfl, rfl, Own.refl _⟩
          case s2_6 =>
            refine RegD.stepJ_det (by decide) (fun u w1 h hO hJ hA => ?_)
            have HB9 := Lib.hid (HP.out.ownx hO HNE.out.2.1)
            go_wp2_with ((with_reducible show wpList _ _ _ (⟨_, .load 28 (.tmp 50), _, _, _, none⟩ :: _) _ _); refine wpList_load_part rfl 28 (.tmp 50) rfl P (19) rfl 3 HB9.out (by omega) (#[.int .i64 (p 19), .int .i64 (p 20), .int .i64 (p 21)]) rfl _ Tryd.underlying28 rfl infoA ?_)
            exact ⟨rfl, rfl, rfl, Own.refl _⟩
          case s2_7 =>
            refine RegD.stepJ_det (by decide) (fun u w1 h hO hJ hA => ?_)
            go_wp2
            exact ⟨rfl, rfl, rfl, Own.refl _⟩
          case s2_8 =>
            refine RegD.stepJ_det (by decide) (fun u w1 h hO hJ hA => ?_)
            have kk := blk_num (HP.out.ownx hO HNE.out.2.1) (i := 2) (by omega)
            go_wp2
            exact ⟨rfl, rfl, rfl, Own.refl _⟩
          case s2_9 =>
            refine RegD.stepJ_det (by decide) (fun u w1 h hO hJ hA => ?_)
            go_wp2_with (go_at_call 46; with_reducible refine (jalongH_at _ _ _ _ _ _ _ _ _ (Lib.hid (tab_own HT.out (own_x g0 hJ0 hO))) HAL2).mono ?_; rintro r w2 ⟨rfl, hg⟩)
            exact ⟨rfl, rfl, rfl, hg⟩
          case s2_10 =>
            refine RegD.stepJ_det (by decide) (fun u w1 h hO hJ hA => ?_)
            go_wp2_with (go_at_call 45; with_reducible refine (jsumH_at _ _ _ _ _ _ _ _ _ _ HSM2).mono ?_; rintro r w2 ⟨rfl, hg⟩)
            exact ⟨rfl, rfl, rfl, hg⟩
          case s2_11 =>
            refine RegD.stepJ_det (by decide) (fun u w1 h hO hJ hA => ?_)
            go_wp2
            exact ⟨rfl, rfl, rfl, Own.refl _⟩
          case s2_12 =>
            refine RegD.stepJ_store rfl (fun u w1 h hO hJ => ?_)
            have HN := Lib.hid hJ
            clear hJ
            go_wp2_with ((with_reducible show wpList _ _ _ (⟨_, .store 56 (.tmp 56) (.tmp 55), _, _, _, none⟩ :: _) _ _); refine wpList_store_part rfl 56 (.tmp 56) (.tmp 55) rfl J (6) 3 (l3 (hdX b p) (hdY b p) (hdZ b p)) rfl (#[.int .i64 (hdX b p), .int .i64 (hdY b p), .int .i64 (hdZ b p)]) rfl rfl HN.out (by omega) infoV ?_)
            exact ⟨rfl, rfl, rfl⟩
        intro u w6 hO hj
        replace g0 := own_x g0 hJ0 hO
        replace HB := Lib.hid (HB.out.ownx hO HNE.out.1)
        replace HP := Lib.hid (HP.out.ownx hO HNE.out.2.1)
        replace HR := Lib.hid (HR.out.ownx hO HNE.out.2.2)
        clear HJ
        have HJ := Lib.hid hj
        clear hj hO
        have HF := Lib.hid (jk_start b p s)
        have s0 : w6.cell? ⟨1, 0, none⟩ = some (.int .i64 (-1)) := (HS.out.own g0).at_ 0 (by omega)
        have s1 : w6.cell? ⟨1, 1, none⟩ = some (.int .i64 0) := (HS.out.own g0).at_ 1 (by omega)
        have s2 : w6.cell? ⟨1, 2, none⟩ = some (.int .i64 3) := (HS.out.own g0).at_ 2 (by omega)
        have s3 : w6.cell? ⟨1, 3, none⟩ = some (.int .i64 1) := (HS.out.own g0).at_ 3 (by omega)
        have s4 : w6.cell? ⟨1, 4, none⟩ = some (.int .i64 1) := (HS.out.own g0).at_ 4 (by omega)
        have s5 : w6.cell? ⟨1, 5, none⟩ = some (.int .i64 1) := (HS.out.own g0).at_ 5 (by omega)
        have s6 : w6.cell? ⟨1, 6, none⟩ = some (.int .i64 4) := (HS.out.own g0).at_ 6 (by omega)
        have s7 : w6.cell? ⟨1, 7, none⟩ = some (.int .i64 2) := (HS.out.own g0).at_ 7 (by omega)
        go_wp2
        have HX := Lib.hid (fun (k : Nat) (h : k < 2) => idxS h)
        generalize (#[.int .i64 (-1), .int .i64 0, .int .i64 3, .int .i64 1, .int .i64 1, .int .i64 1, .int .i64 4, .int .i64 2] : Array Value) = TT at *
        clear s0 s1 s2 s3 s4 s5 s6 s7
        go_loopw [11, 12, 58] (fun _ _ vi wr => ∃ k : Nat, vi = .int .i64 (k : Int) ∧ k ≤ 2 ∧ Own w wr ∧ Blk wr B (cz 15 b) 24 ∧ Blk wr P (cz 22 p) 31 ∧ Blk wr R (cz 33 nul) 59 ∧ ∃ f, Blk wr J (cz 33 f) 59 ∧ Jk b p s k f) (fun _ _ vi _ => 2 - (intOf vi).toNat)
        case atStart => exact ⟨0, rfl, by omega, g0, HB.out, HP.out, HR.out, _, HJ.out, HF.out⟩
        case round =>
          clear HB HP HR HJ HF g0
          obtain ⟨k, rfl, hk, g0, hb1, hp1, hr1, f, hj1, hf1⟩ := hrel
          have HB := Lib.hid hb1
          have HP := Lib.hid hp1
          have HR := Lib.hid hr1
          have HJ := Lib.hid hj1
          have HF := Lib.hid hf1
          clear hb1 hp1 hr1 hj1 hf1
          by_cases hlt : k < 2
          · have ix := HX.out k hlt
            have hs4 := sd_ok HC0.out HV0.out (i := 4) (k := k) (.inl rfl) hlt
            have hm4 := sm_hips HC0.out HV0.out hlt
            have hs5 := sd_ok HC0.out HV0.out (i := 5) (k := k) (.inr rfl) hlt
            have hm5 := sm_shoulders HC0.out HV0.out hlt
            have ha3 := al_ok HC0.out HV0.out (i := 3) (k := 3 + k) (by omega) (by omega)
            have hm3 := sm_hands HC0.out HV0.out hlt
            obtain ⟨m, hm⟩ : ∃ m, 3 + k = m := ⟨_, rfl⟩
            have hmn : (m : Int) < 6 := by omega
            have hkn : (k : Int) < 2 := by omega
            obtain ⟨fo, hfo⟩ : ∃ x : Int, ((1 + k : Nat) : Int) = x := ⟨_, rfl⟩
            obtain ⟨sk, hsk⟩ : ∃ x, sg k = x := ⟨_, rfl⟩
            obtain ⟨d4, hd4⟩ : ∃ x, sk * b 4 = x := ⟨_, rfl⟩
            obtain ⟨d5, hd5⟩ : ∃ x, sk * b 5 = x := ⟨_, rfl⟩
            rw [hm, hfo, hsk] at ix
            rw [hsk, hd4] at hs4 hm4
            rw [hsk, hd5] at hs5 hm5
            rw [hm] at ha3 hm3
            have i4 : IntKind.i64.wrap (sk * b 4) = d4 := by rw [hd4]; have := hs4.1; exact IntWalk.i64_in _ (by omega)
            have i5 : IntKind.i64.wrap (sk * b 5) = d5 := by rw [hd5]; have := hs5.1; exact IntWalk.i64_in _ (by omega)
            have HS4 := Lib.hid hs4
            have HSM4 := Lib.hid hm4
            have HS5 := Lib.hid hs5
            have HSM5 := Lib.hid hm5
            have HAL3 := Lib.hid ha3
            have HSM3 := Lib.hid hm3
            have hbm : m < 6 := by omega
            clear hs4 hm4 hs5 hm5 ha3 hm3 hsk hd4 hd5 hm
            go_upto_region 15 with (fail)
            obtain ⟨w1, E, hW, hBq, hb, hg, Eg⟩ := blk_new wr (#[.int .i64 sk, .int .i64 (k : Int), .int .i64 (m : Int), .int .i64 fo]) 95
            have hEJ : E ≠ J := Nat.ne_of_gt (Nat.lt_of_lt_of_le HJ.out.lt Eg)
            rw [hW, hBq]
            have HE := Lib.hid hb
            replace g0 := g0.trans hg
            replace HB := Lib.hid (HB.out.own hg)
            replace HP := Lib.hid (HP.out.own hg)
            replace HR := Lib.hid (HR.out.own hg)
            replace HJ := Lib.hid (HJ.out.own hg)
            clear hW hBq hb hg
            clear Eg ix
            refine RegD.region_dutyJ [62, 63, 64, 65, 66, 67, 68, 69, 70, 71, 72, 73, 74, 75] 14 33 ((9 + k * 3)) 3 (f) (l3 (hiX b p k) (hiY b p k) (hpZ b p)) (RegI.upd (RegI.upd (RegI.upd (RegI.upd (RegI.upd (RegI.upd (RegI.upd (RegI.upd (RegI.upd (RegI.upd (RegI.upd (RegI.upd (RegI.upd (RegI.upd (fun _ => undef) 62 (.int .i64 (k : Int))) 63 (.pointer (some ⟨J, 0, none⟩))) 64 (.agg #[.int .i64 (p 0), .int .i64 (p 1), .int .i64 (hpZ b p)])) 65 (.pointer (some ⟨E, 0, none⟩))) 66 (.int .i64 sk)) 67 (.pointer (some ⟨B, 4, none⟩))) 68 (.int .i64 (b 4))) 69 (.int .i64 d4)) 70 (.pointer (some ⟨P, 2, none⟩))) 71 (.int .i64 (p 2))) 72 (.agg #[.int .i64 (AngP.turX d4 0 (p 2)), .int .i64 (AngP.turY d4 0 (p 2)), .int .i64 0])) 73 (.agg #[.int .i64 (hiX b p k), .int .i64 (hiY b p k), .int .i64 (hpZ b p)])) 74 (.pointer (some ⟨J, 9, none⟩))) 75 (.pointer (some ⟨J, 9 + k * 3, none⟩))) J 59 (by kernel_rfl) (by kernel_rfl) (by decide) (by intro d hd; simp at hd; simp; omega) HJ.out ?_
            simp only [RegD.FF, RegI.FX, RegI.upd, List.foldl_cons, List.foldl_nil, List.not_mem_nil, if_true, if_false, Nat.reduceEqDiff]
            simp only [List.setIfInBounds_toArray, List.set_cons_succ, List.set_cons_zero]
            refine And.intro ?hs3 ?he3
            case hs3 =>
              refine And.intro ?s3_0 (And.intro ?s3_1 (And.intro ?s3_2 (And.intro ?s3_3 (And.intro ?s3_4 (And.intro ?s3_5 (And.intro ?s3_6 (And.intro ?s3_7 (And.intro ?s3_8 (And.intro ?s3_9 (And.intro ?s3_10 (And.intro ?s3_11 (And.intro ?s3_12 (And.intro ?s3_13 (And.intro ?s3_14 (trivial)))))))))))))))
              case s3_0 =>
                refine RegD.stepJ_det (by decide) (fun u w1 h hO hJ hA => ?_)
                go_wp2
                exact ⟨rfl, rfl, rfl, Own.refl _⟩
              case s3_1 =>
                refine RegD.stepJ_det (by decide) (fun u w1 h hO hJ hA => ?_)
                go_wp2
                exact ⟨rfl, rfl, rfl, Own.refl _⟩
              case s3_2 =>
                refine RegD.stepJ_det (by decide) (fun u w1 h hO hJ hA => ?_)
                have HJ9 := Lib.hid hJ
                have HA9 := Lib.hid hA
                clear hJ hA
                go_wp2_with ((with_reducible show wpList _ _ _ (⟨_, .load 56 (.tmp 63), _, _, _, none⟩ :: _) _ _); refine wpList_load_part rfl 56 (.tmp 63) rfl J (0) rfl 3 HJ9.out (by omega) (#[.int .i64 (p 0), .int .i64 (p 1), .int .i64 (hpZ b p)]) ((pt_cz HF.out.hip).trans (apart_part HA9.out (by omega) (by omega)).symm) _ Tryd.underlying56 rfl infoV ?_)
                exact ⟨rfl, rfl, rfl, Own.refl _⟩
              case s3_3 =>
                refine RegD.stepJ_det (by decide) (fun u w1 h hO hJ hA => ?_)
                go_wp2
                exact ⟨rfl, rfl, rfl, Own.refl _⟩
              case s3_4 =>
                refine RegD.stepJ_det (by decide) (fun u w1 h hO hJ hA => ?_)
                have kk := (HE.out.ownx hO hEJ).cell 0
                go_wp2
                exact ⟨rfl, rfl, rfl, Own.refl _⟩
              case s3_5 =>
                refine RegD.stepJ_det (by decide) (fun u w1 h hO hJ hA => ?_)
                go_wp2
                exact ⟨rfl, rfl, rfl, Own.refl _⟩
              case s3_6 =>
                refine RegD.stepJ_det (by decide) (fun u w1 h hO hJ hA => ?_)
                have kk := blk_num (HB.out.ownx hO HNE.out.1) (i := 4) (by omega)
                go_wp2
                exact ⟨rfl, rfl, rfl, Own.refl _⟩
              case s3_7 =>
                refine RegD.stepJ_det (by decide) (fun u w1 h hO hJ hA => ?_)
                go_wp2
                exact ⟨rfl, rfl, rfl, Own.refl _⟩
              case s3_8 =>
                refine RegD.stepJ_det (by decide) (fun u w1 h hO hJ hA => ?_)
                go_wp2
                exact ⟨rfl, rfl, rfl, Own.refl _⟩
              case s3_9 =>
                refine RegD.stepJ_det (by decide) (fun u w1 h hO hJ hA => ?_)
                have kk := blk_num (HP.out.ownx hO HNE.out.2.1) (i := 2) (by omega)
                go_wp2
                exact ⟨rfl, rfl, rfl, Own.refl _⟩
              case s3_10 =>
                refine RegD.stepJ_det (by decide) (fun u w1 h hO hJ hA => ?_)
                go_wp2_with (go_at_call 47; with_reducible refine (jasideH_at _ _ _ _ _ (Lib.hid (tab_own HT.out (own_x g0 hJ0 hO))) HS4).mono ?_; rintro r w2 ⟨rfl, hg⟩)
                exact ⟨rfl, rfl, rfl, hg⟩
              case s3_11 =>
                refine RegD.stepJ_det (by decide) (fun u w1 h hO hJ hA => ?_)
                go_wp2_with (go_at_call 45; with_reducible refine (jsumH_at _ _ _ _ _ _ _ _ _ _ HSM4).mono ?_; rintro r w2 ⟨rfl, hg⟩)
                exact ⟨rfl, rfl, rfl, hg⟩
              case s3_12 =>
                refine RegD.stepJ_det (by decide) (fun u w1 h hO hJ hA => ?_)
                go_wp2
                exact ⟨rfl, rfl, rfl, Own.refl _⟩
              case s3_13 =>
                refine RegD.stepJ_det (by decide) (fun u w1 h hO hJ hA => ?_)
                go_wp2
                exact ⟨rfl, rfl, rfl, Own.refl _⟩
              case s3_14 =>
                refine RegD.stepJ_store rfl (fun u w1 h hO hJ => ?_)
                have HN := Lib.hid hJ
                clear hJ
                go_wp2_with ((with_reducible show wpList _ _ _ (⟨_, .store 56 (.tmp 75) (.tmp 73), _, _, _, none⟩ :: _) _ _); refine wpList_store_part rfl 56 (.tmp 75) (.tmp 73) rfl J (9 + k * 3) 3 (l3 (hiX b p k) (hiY b p k) (hpZ b p)) rfl (#[.int .i64 (hiX b p k), .int .i64 (hiY b p k), .int .i64 (hpZ b p)]) rfl rfl HN.out (by omega) infoV ?_)
                exact ⟨rfl, rfl, rfl⟩
            intro u w2 hO hj
            replace g0 := own_x g0 hJ0 hO
            replace HB := Lib.hid (HB.out.ownx hO HNE.out.1)
            replace HP := Lib.hid (HP.out.ownx hO HNE.out.2.1)
            replace HR := Lib.hid (HR.out.ownx hO HNE.out.2.2)
            replace HE := Lib.hid (HE.out.ownx hO hEJ)
            clear HJ
            have HJ := Lib.hid hj
            clear hj hO
            obtain ⟨f1, hf⟩ : ∃ ff9 : Vl, put f (9 + k * 3) 3 (l3 (hiX b p k) (hiY b p k) (hpZ b p)) = ff9 := ⟨_, rfl⟩
            have HG := Lib.hid (show Pt f1 3 (nkX b p) (nkY b p) (nkZ b p) from hf ▸ (pt_far HF.out.neck _ (by omega)))
            have HI1 := Lib.hid (show Pt f1 (9 + k * 3) (hiX b p k) (hiY b p k) (hpZ b p) from hf ▸ (pt_put ..))
            have HF1 := Lib.hid (show put f (9 + k * 3) 3 (l3 (hiX b p k) (hiY b p k) (hpZ b p)) = f1 from hf ▸ rfl)
            rw [hf] at HJ
            clear hf i4
            go_upto_region 16 with (fail)
            refine RegD.region_dutyJ [76, 77, 78, 79, 80, 81, 82, 83, 84, 85, 86, 87, 88, 89] 14 33 ((15 + k * 3)) 3 (f1) (l3 (shX b p k) (shY b p k) (nkZ b p)) (RegI.upd (RegI.upd (RegI.upd (RegI.upd (RegI.upd (RegI.upd (RegI.upd (RegI.upd (RegI.upd (RegI.upd (RegI.upd (RegI.upd (RegI.upd (RegI.upd (fun _ => undef) 76 (.int .i64 (k : Int))) 77 (.pointer (some ⟨J, 3, none⟩))) 78 (.agg #[.int .i64 (nkX b p), .int .i64 (nkY b p), .int .i64 (nkZ b p)])) 79 (.pointer (some ⟨E, 0, none⟩))) 80 (.int .i64 sk)) 81 (.pointer (some ⟨B, 5, none⟩))) 82 (.int .i64 (b 5))) 83 (.int .i64 d5)) 84 (.pointer (some ⟨P, 2, none⟩))) 85 (.int .i64 (p 2))) 86 (.agg #[.int .i64 (AngP.turX d5 0 (p 2)), .int .i64 (AngP.turY d5 0 (p 2)), .int .i64 0])) 87 (.agg #[.int .i64 (shX b p k), .int .i64 (shY b p k), .int .i64 (nkZ b p)])) 88 (.pointer (some ⟨J, 15, none⟩))) 89 (.pointer (some ⟨J, 15 + k * 3, none⟩))) J 59 (by kernel_rfl) (by kernel_rfl) (by decide) (by intro d hd; simp at hd; simp; omega) HJ.out ?_
            simp only [RegD.FF, RegI.FX, RegI.upd, List.foldl_cons, List.foldl_nil, List.not_mem_nil, if_true, if_false, Nat.reduceEqDiff]
            simp only [List.setIfInBounds_toArray, List.set_cons_succ, List.set_cons_zero]
            refine And.intro ?hs4 ?he4
            case hs4 =>
              refine And.intro ?s4_0 (And.intro ?s4_1 (And.intro ?s4_2 (And.intro ?s4_3 (And.intro ?s4_4 (And.intro ?s4_5 (And.intro ?s4_6 (And.intro ?s4_7 (And.intro ?s4_8 (And.intro ?s4_9 (And.intro ?s4_10 (And.intro ?s4_11 (And.intro ?s4_12 (And.intro ?s4_13 (And.intro ?s4_14 (trivial)))))))))))))))
              case s4_0 =>
                refine RegD.stepJ_det (by decide) (fun u w1 h hO hJ hA => ?_)
                go_wp2
                exact ⟨rfl, rfl, rfl, Own.refl _⟩
              case s4_1 =>
                refine RegD.stepJ_det (by decide) (fun u w1 h hO hJ hA => ?_)
                go_wp2
                exact ⟨rfl, rfl, rfl, Own.refl _⟩
              case s4_2 =>
                refine RegD.stepJ_det (by decide) (fun u w1 h hO hJ hA => ?_)
                have HJ9 := Lib.hid hJ
                have HA9 := Lib.hid hA
                clear hJ hA
                go_wp2_with ((with_reducible show wpList _ _ _ (⟨_, .load 56 (.tmp 77), _, _, _, none⟩ :: _) _ _); refine wpList_load_part rfl 56 (.tmp 77) rfl J (3) rfl 3 HJ9.out (by omega) (#[.int .i64 (nkX b p), .int .i64 (nkY b p), .int .i64 (nkZ b p)]) ((pt_cz HG.out).trans (apart_part HA9.out (by omega) (by omega)).symm) _ Tryd.underlying56 rfl infoV ?_)
                exact ⟨rfl, rfl, rfl, Own.refl _⟩
              case s4_3 =>
                refine RegD.stepJ_det (by decide) (fun u w1 h hO hJ hA => ?_)
                go_wp2
                exact ⟨rfl, rfl, rfl, Own.refl _⟩
              case s4_4 =>
                refine RegD.stepJ_det (by decide) (fun u w1 h hO hJ hA => ?_)
                have kk := (HE.out.ownx hO hEJ).cell 0
                go_wp2
                exact ⟨rfl, rfl, rfl, Own.refl _⟩
              case s4_5 =>
                refine RegD.stepJ_det (by decide) (fun u w1 h hO hJ hA => ?_)
                go_wp2
                exact ⟨rfl, rfl, rfl, Own.refl _⟩
              case s4_6 =>
                refine RegD.stepJ_det (by decide) (fun u w1 h hO hJ hA => ?_)
                have kk := blk_num (HB.out.ownx hO HNE.out.1) (i := 5) (by omega)
                go_wp2
                exact ⟨rfl, rfl, rfl, Own.refl _⟩
              case s4_7 =>
                refine RegD.stepJ_det (by decide) (fun u w1 h hO hJ hA => ?_)
                go_wp2
                exact ⟨rfl, rfl, rfl, Own.refl _⟩
              case s4_8 =>
                refine RegD.stepJ_det (by decide) (fun u w1 h hO hJ hA => ?_)
                go_wp2
                exact ⟨rfl, rfl, rfl, Own.refl _⟩
              case s4_9 =>
                refine RegD.stepJ_det (by decide) (fun u w1 h hO hJ hA => ?_)
                have kk := blk_num (HP.out.ownx hO HNE.out.2.1) (i := 2) (by omega)
                go_wp2
                exact ⟨rfl, rfl, rfl, Own.refl _⟩
              case s4_10 =>
                refine RegD.stepJ_det (by decide) (fun u w1 h hO hJ hA => ?_)
                go_wp2_with (go_at_call 47; with_reducible refine (jasideH_at _ _ _ _ _ (Lib.hid (tab_own HT.out (own_x g0 hJ0 hO))) HS5).mono ?_; rintro r w2 ⟨rfl, hg⟩)
                exact ⟨rfl, rfl, rfl, hg⟩
              case s4_11 =>
                refine RegD.stepJ_det (by decide) (fun u w1 h hO hJ hA => ?_)
                go_wp2_with (go_at_call 45; with_reducible refine (jsumH_at _ _ _ _ _ _ _ _ _ _ HSM5).mono ?_; rintro r w2 ⟨rfl, hg⟩)
                exact ⟨rfl, rfl, rfl, hg⟩
              case s4_12 =>
                refine RegD.stepJ_det (by decide) (fun u w1 h hO hJ hA => ?_)
                go_wp2
                exact ⟨rfl, rfl, rfl, Own.refl _⟩
              case s4_13 =>
                refine RegD.stepJ_det (by decide) (fun u w1 h hO hJ hA => ?_)
                go_wp2
                exact ⟨rfl, rfl, rfl, Own.refl _⟩
              case s4_14 =>
                refine RegD.stepJ_store rfl (fun u w1 h hO hJ => ?_)
                have HN := Lib.hid hJ
                clear hJ
                go_wp2_with ((with_reducible show wpList _ _ _ (⟨_, .store 56 (.tmp 89) (.tmp 87), _, _, _, none⟩ :: _) _ _); refine wpList_store_part rfl 56 (.tmp 89) (.tmp 87) rfl J (15 + k * 3) 3 (l3 (shX b p k) (shY b p k) (nkZ b p)) rfl (#[.int .i64 (shX b p k), .int .i64 (shY b p k), .int .i64 (nkZ b p)]) rfl rfl HN.out (by omega) infoV ?_)
                exact ⟨rfl, rfl, rfl⟩
            intro u w3 hO hj
            replace g0 := own_x g0 hJ0 hO
            replace HB := Lib.hid (HB.out.ownx hO HNE.out.1)
            replace HP := Lib.hid (HP.out.ownx hO HNE.out.2.1)
            replace HR := Lib.hid (HR.out.ownx hO HNE.out.2.2)
            replace HE := Lib.hid (HE.out.ownx hO hEJ)
            clear HJ
            have HJ := Lib.hid hj
            clear hj hO
            clear HG
            obtain ⟨f2, hf⟩ : ∃ ff9 : Vl, put f1 (15 + k * 3) 3 (l3 (shX b p k) (shY b p k) (nkZ b p)) = ff9 := ⟨_, rfl⟩
            have HG := Lib.hid (show Pt f2 (15 + k * 3) (shX b p k) (shY b p k) (nkZ b p) from hf ▸ (pt_put ..))
            have HI2 := Lib.hid (show Pt f2 (9 + k * 3) (hiX b p k) (hiY b p k) (hpZ b p) from hf ▸ (pt_far HI1.out _ (by omega)))
            have HF2 := Lib.hid (show put f1 (15 + k * 3) 3 (l3 (shX b p k) (shY b p k) (nkZ b p)) = f2 from hf ▸ rfl)
            rw [hf] at HJ
            clear hf i5 HI1
            go_upto_region 17 with (fail)
            refine RegD.region_dutyJ [90, 91, 92, 93, 94, 95, 96, 97, 98, 99, 100, 101, 102, 103, 104, 105, 106, 107] 18 33 ((21 + k * 3)) 3 (f2) (l3 (haX b p k) (haY b p k) (haZ b p k)) (RegI.upd (RegI.upd (RegI.upd (RegI.upd (RegI.upd (RegI.upd (RegI.upd (RegI.upd (RegI.upd (RegI.upd (RegI.upd (RegI.upd (RegI.upd (RegI.upd (RegI.upd (RegI.upd (RegI.upd (RegI.upd (fun _ => undef) 90 (.int .i64 (k : Int))) 91 (.int .i64 (k : Int))) 92 (.pointer (some ⟨J, 15, none⟩))) 93 (.pointer (some ⟨J, 15 + k * 3, none⟩))) 94 (.agg #[.int .i64 (shX b p k), .int .i64 (shY b p k), .int .i64 (nkZ b p)])) 95 (.pointer (some ⟨B, 3, none⟩))) 96 (.int .i64 (b 3))) 97 (.pointer (some ⟨E, 2, none⟩))) 98 (.int .i64 (m : Int))) 99 (.pointer (some ⟨P, 4, none⟩))) 100 (.pointer (some ⟨P, 4 + m * 3, none⟩))) 101 (.agg #[.int .i64 (p (4 + m * 3)), .int .i64 (p (4 + m * 3 + 1)), .int .i64 (p (4 + m * 3 + 2))])) 102 (.pointer (some ⟨P, 2, none⟩))) 103 (.int .i64 (p 2))) 104 (.agg #[.int .i64 (alX (b 3) p m), .int .i64 (alY (b 3) p m), .int .i64 (alZ (b 3) p m)])) 105 (.agg #[.int .i64 (haX b p k), .int .i64 (haY b p k), .int .i64 (haZ b p k)])) 106 (.pointer (some ⟨J, 21, none⟩))) 107 (.pointer (some ⟨J, 21 + k * 3, none⟩))) J 59 (by kernel_rfl) (by kernel_rfl) (by decide) (by intro d hd; simp at hd; simp; omega) HJ.out ?_
            simp only [RegD.FF, RegI.FX, RegI.upd, List.foldl_cons, List.foldl_nil, List.not_mem_nil, if_true, if_false, Nat.reduceEqDiff]
            simp only [List.setIfInBounds_toArray, List.set_cons_succ, List.set_cons_zero]
            refine And.intro ?hs5 ?he5
            case hs5 =>
              refine And.intro ?s5_0 (And.intro ?s5_1 (And.intro ?s5_2 (And.intro ?s5_3 (And.intro ?s5_4 (And.intro ?s5_5 (And.intro ?s5_6 (And.intro ?s5_7 (And.intro ?s5_8 (And.intro ?s5_9 (And.intro ?s5_10 (And.intro ?s5_11 (And.intro ?s5_12 (And.intro ?s5_13 (And.intro ?s5_14 (And.intro ?s5_15 (And.intro ?s5_16 (And.intro ?s5_17 (And.intro ?s5_18 (trivial)))))))))))))))))))
              case s5_0 =>
                refine RegD.stepJ_det (by decide) (fun u w1 h hO hJ hA => ?_)
                go_wp2
                exact ⟨rfl, rfl, rfl, Own.refl _⟩
              case s5_1 =>
                refine RegD.stepJ_det (by decide) (fun u w1 h hO hJ hA => ?_)
                go_wp2
                exact ⟨rfl, rfl, rfl, Own.refl _⟩
              case s5_2 =>
                refine RegD.stepJ_det (by decide) (fun u w1 h hO hJ hA => ?_)
                go_wp2
                exact ⟨rfl, rfl, rfl, Own.refl _⟩
              case s5_3 =>
                refine RegD.stepJ_det (by decide) (fun u w1 h hO hJ hA => ?_)
                go_wp2
                exact ⟨rfl, rfl, rfl, Own.refl _⟩
              case s5_4 =>
                refine RegD.stepJ_det (by decide) (fun u w1 h hO hJ hA => ?_)
                have HJ9 := Lib.hid hJ
                have HA9 := Lib.hid hA
                clear hJ hA
                go_wp2_with ((with_reducible show wpList _ _ _ (⟨_, .load 56 (.tmp 93), _, _, _, none⟩ :: _) _ _); refine wpList_load_part rfl 56 (.tmp 93) rfl J (15 + k * 3) rfl 3 HJ9.out (by omega) (#[.int .i64 (shX b p k), .int .i64 (shY b p k), .int .i64 (nkZ b p)]) ((pt_cz HG.out).trans (apart_part HA9.out (by omega) (by omega)).symm) _ Tryd.underlying56 rfl infoV ?_)
                exact ⟨rfl, rfl, rfl, Own.refl _⟩
              case s5_5 =>
                refine RegD.stepJ_det (by decide) (fun u w1 h hO hJ hA => ?_)
                go_wp2
                exact ⟨rfl, rfl, rfl, Own.refl _⟩
              case s5_6 =>
                refine RegD.stepJ_det (by decide) (fun u w1 h hO hJ hA => ?_)
                have kk := blk_num (HB.out.ownx hO HNE.out.1) (i := 3) (by omega)
                go_wp2
                exact ⟨rfl, rfl, rfl, Own.refl _⟩
              case s5_7 =>
                refine RegD.stepJ_det (by decide) (fun u w1 h hO hJ hA => ?_)
                go_wp2
                exact ⟨rfl, rfl, rfl, Own.refl _⟩
              case s5_8 =>
                refine RegD.stepJ_det (by decide) (fun u w1 h hO hJ hA => ?_)
                have kk := (HE.out.ownx hO hEJ).cell 2
                go_wp2
                exact ⟨rfl, rfl, rfl, Own.refl _⟩
              case s5_9 =>
                refine RegD.stepJ_det (by decide) (fun u w1 h hO hJ hA => ?_)
                go_wp2
                exact ⟨rfl, rfl, rfl, Own.refl _⟩
              case s5_10 =>
                refine RegD.stepJ_det (by decide) (fun u w1 h hO hJ hA => ?_)
                go_wp2
                exact ⟨rfl, rfl, rfl, Own.refl _⟩
              case s5_11 =>
                refine RegD.stepJ_det (by decide) (fun u w1 h hO hJ hA => ?_)
                have HB9 := Lib.hid (HP.out.ownx hO HNE.out.2.1)
                go_wp2_with ((with_reducible show wpList _ _ _ (⟨_, .load 28 (.tmp 100), _, _, _, none⟩ :: _) _ _); refine wpList_load_part rfl 28 (.tmp 100) rfl P (4 + m * 3) rfl 3 HB9.out (by omega) (#[.int .i64 (p (4 + m * 3)), .int .i64 (p (4 + m * 3 + 1)), .int .i64 (p (4 + m * 3 + 2))]) rfl _ Tryd.underlying28 rfl infoA ?_)
                exact ⟨rfl, rfl, rfl, Own.refl _⟩
              case s5_12 =>
                refine RegD.stepJ_det (by decide) (fun u w1 h hO hJ hA => ?_)
                go_wp2
                exact ⟨rfl, rfl, rfl, Own.refl _⟩
              case s5_13 =>
                refine RegD.stepJ_det (by decide) (fun u w1 h hO hJ hA => ?_)
                have kk := blk_num (HP.out.ownx hO HNE.out.2.1) (i := 2) (by omega)
                go_wp2
                exact ⟨rfl, rfl, rfl, Own.refl _⟩
              case s5_14 =>
                refine RegD.stepJ_det (by decide) (fun u w1 h hO hJ hA => ?_)
                go_wp2_with (go_at_call 46; with_reducible refine (jalongH_at _ _ _ _ _ _ _ _ _ (Lib.hid (tab_own HT.out (own_x g0 hJ0 hO))) HAL3).mono ?_; rintro r w2 ⟨rfl, hg⟩)
                exact ⟨rfl, rfl, rfl, hg⟩
              case s5_15 =>
                refine RegD.stepJ_det (by decide) (fun u w1 h hO hJ hA => ?_)
                go_wp2_with (go_at_call 45; with_reducible refine (jsumH_at _ _ _ _ _ _ _ _ _ _ HSM3).mono ?_; rintro r w2 ⟨rfl, hg⟩)
                exact ⟨rfl, rfl, rfl, hg⟩
              case s5_16 =>
                refine RegD.stepJ_det (by decide) (fun u w1 h hO hJ hA => ?_)
                go_wp2
                exact ⟨rfl, rfl, rfl, Own.refl _⟩
              case s5_17 =>
                refine RegD.stepJ_det (by decide) (fun u w1 h hO hJ hA => ?_)
                go_wp2
                exact ⟨rfl, rfl, rfl, Own.refl _⟩
              case s5_18 =>
                refine RegD.stepJ_store rfl (fun u w1 h hO hJ => ?_)
                have HN := Lib.hid hJ
                clear hJ
                go_wp2_with ((with_reducible show wpList _ _ _ (⟨_, .store 56 (.tmp 107) (.tmp 105), _, _, _, none⟩ :: _) _ _); refine wpList_store_part rfl 56 (.tmp 107) (.tmp 105) rfl J (21 + k * 3) 3 (l3 (haX b p k) (haY b p k) (haZ b p k)) rfl (#[.int .i64 (haX b p k), .int .i64 (haY b p k), .int .i64 (haZ b p k)]) rfl rfl HN.out (by omega) infoV ?_)
                exact ⟨rfl, rfl, rfl⟩
            intro u w4 hO hj
            replace g0 := own_x g0 hJ0 hO
            replace HB := Lib.hid (HB.out.ownx hO HNE.out.1)
            replace HP := Lib.hid (HP.out.ownx hO HNE.out.2.1)
            replace HR := Lib.hid (HR.out.ownx hO HNE.out.2.2)
            replace HE := Lib.hid (HE.out.ownx hO hEJ)
            clear HJ
            have HJ := Lib.hid hj
            clear hj hO
            clear HG
            obtain ⟨f3, hf⟩ : ∃ ff9 : Vl, put f2 (21 + k * 3) 3 (l3 (haX b p k) (haY b p k) (haZ b p k)) = ff9 := ⟨_, rfl⟩
            have HG := Lib.hid (show Pt f3 (9 + k * 3) (hiX b p k) (hiY b p k) (hpZ b p) from hf ▸ (pt_far HI2.out _ (by omega)))
            have HF3 := Lib.hid (show put f2 (21 + k * 3) 3 (l3 (haX b p k) (haY b p k) (haZ b p k)) = f3 from hf ▸ rfl)
            rw [hf] at HJ
            clear hf HI2
            cases ho : on s k with
            | true =>
              obtain ⟨r, hr1, hr2⟩ := bit_yes HSU.out hlt ho
              rw [hfo] at hr1
              have HFE := Lib.hid (fe_on (b := b) (p := p) ho)
              clear ho
              have e3 := HE.out.cell 3
              go_upto_region 19 with (fail)
              clear e3 hr1 hr2
              refine RegD.region_dutyJ [113, 114, 115, 116, 117, 118, 119, 120, 121, 122, 123, 124, 125, 126] 14 33 ((27 + k * 3)) 3 (f3) (l3 (hiX b p k) (hiY b p k) 0) (RegI.upd (RegI.upd (RegI.upd (RegI.upd (RegI.upd (RegI.upd (RegI.upd (RegI.upd (RegI.upd (RegI.upd (RegI.upd (RegI.upd (RegI.upd (RegI.upd (fun _ => undef) 113 (.int .i64 (k : Int))) 114 (.int .i64 (k : Int))) 115 (.pointer (some ⟨J, 9, none⟩))) 116 (.pointer (some ⟨J, 9 + k * 3, none⟩))) 117 (.pointer (some ⟨J, 9 + k * 3, none⟩))) 118 (.int .i64 (hiX b p k))) 119 (.int .i64 (k : Int))) 120 (.pointer (some ⟨J, 9, none⟩))) 121 (.pointer (some ⟨J, 9 + k * 3, none⟩))) 122 (.pointer (some ⟨J, 9 + k * 3 + 1, none⟩))) 123 (.int .i64 (hiY b p k))) 124 (.agg #[.int .i64 (hiX b p k), .int .i64 (hiY b p k), .int .i64 0])) 125 (.pointer (some ⟨J, 27, none⟩))) 126 (.pointer (some ⟨J, 27 + k * 3, none⟩))) J 59 (by kernel_rfl) (by kernel_rfl) (by decide) (by intro d hd; simp at hd; simp; omega) HJ.out ?_
              simp only [RegD.FF, RegI.FX, RegI.upd, List.foldl_cons, List.foldl_nil, List.not_mem_nil, if_true, if_false, Nat.reduceEqDiff]
              simp only [List.setIfInBounds_toArray, List.set_cons_succ, List.set_cons_zero]
              refine And.intro ?hs6 ?he6
              case hs6 =>
                refine And.intro ?s6_0 (And.intro ?s6_1 (And.intro ?s6_2 (And.intro ?s6_3 (And.intro ?s6_4 (And.intro ?s6_5 (And.intro ?s6_6 (And.intro ?s6_7 (And.intro ?s6_8 (And.intro ?s6_9 (And.intro ?s6_10 (And.intro ?s6_11 (And.intro ?s6_12 (And.intro ?s6_13 (And.intro ?s6_14 (trivial)))))))))))))))
                case s6_0 =>
                  refine RegD.stepJ_det (by decide) (fun u w1 h hO hJ hA => ?_)
                  go_wp2
                  exact ⟨rfl, rfl, rfl, Own.refl _⟩
                case s6_1 =>
                  refine RegD.stepJ_det (by decide) (fun u w1 h hO hJ hA => ?_)
                  go_wp2
                  exact ⟨rfl, rfl, rfl, Own.refl _⟩
                case s6_2 =>
                  refine RegD.stepJ_det (by decide) (fun u w1 h hO hJ hA => ?_)
                  go_wp2
                  exact ⟨rfl, rfl, rfl, Own.refl _⟩
                case s6_3 =>
                  refine RegD.stepJ_det (by decide) (fun u w1 h hO hJ hA => ?_)
                  go_wp2
                  exact ⟨rfl, rfl, rfl, Own.refl _⟩
                case s6_4 =>
                  refine RegD.stepJ_det (by decide) (fun u w1 h hO hJ hA => ?_)
                  go_wp2
                  exact ⟨rfl, rfl, rfl, Own.refl _⟩
                case s6_5 =>
                  refine RegD.stepJ_det (by decide) (fun u w1 h hO hJ hA => ?_)
                  have kj := blk_num hJ (i := 9 + k * 3) (by omega)
                  rw [hA (9 + k * 3) (by omega) (by omega), HG.out.1] at kj
                  go_wp2
                  exact ⟨rfl, rfl, rfl, Own.refl _⟩
                case s6_6 =>
                  refine RegD.stepJ_det (by decide) (fun u w1 h hO hJ hA => ?_)
                  go_wp2
                  exact ⟨rfl, rfl, rfl, Own.refl _⟩
                case s6_7 =>
                  refine RegD.stepJ_det (by decide) (fun u w1 h hO hJ hA => ?_)
                  go_wp2
                  exact ⟨rfl, rfl, rfl, Own.refl _⟩
                case s6_8 =>
                  refine RegD.stepJ_det (by decide) (fun u w1 h hO hJ hA => ?_)
                  go_wp2
                  exact ⟨rfl, rfl, rfl, Own.refl _⟩
                case s6_9 =>
                  refine RegD.stepJ_det (by decide) (fun u w1 h hO hJ hA => ?_)
                  go_wp2
                  exact ⟨rfl, rfl, rfl, Own.refl _⟩
                case s6_10 =>
                  refine RegD.stepJ_det (by decide) (fun u w1 h hO hJ hA => ?_)
                  have kj := blk_num hJ (i := 9 + k * 3 + 1) (by omega)
                  rw [hA (9 + k * 3 + 1) (by omega) (by omega), HG.out.2.1] at kj
                  go_wp2
                  exact ⟨rfl, rfl, rfl, Own.refl _⟩
                case s6_11 =>
                  refine RegD.stepJ_det (by decide) (fun u w1 h hO hJ hA => ?_)
                  go_wp2
                  exact ⟨rfl, rfl, rfl, Own.refl _⟩
                case s6_12 =>
                  refine RegD.stepJ_det (by decide) (fun u w1 h hO hJ hA => ?_)
                  go_wp2
                  exact ⟨rfl, rfl, rfl, Own.refl _⟩
                case s6_13 =>
                  refine RegD.stepJ_det (by decide) (fun u w1 h hO hJ hA => ?_)
                  go_wp2
                  exact ⟨rfl, rfl, rfl, Own.refl _⟩
                case s6_14 =>
                  refine RegD.stepJ_store rfl (fun u w1 h hO hJ => ?_)
                  have HN := Lib.hid hJ
                  clear hJ
                  go_wp2_with ((with_reducible show wpList _ _ _ (⟨_, .store 56 (.tmp 126) (.tmp 124), _, _, _, none⟩ :: _) _ _); refine wpList_store_part rfl 56 (.tmp 126) (.tmp 124) rfl J (27 + k * 3) 3 (l3 (hiX b p k) (hiY b p k) 0) rfl (#[.int .i64 (hiX b p k), .int .i64 (hiY b p k), .int .i64 0]) rfl rfl HN.out (by omega) infoV ?_)
                  exact ⟨rfl, rfl, rfl⟩
              intro u w5 hO hj
              replace g0 := own_x g0 hJ0 hO
              replace HB := Lib.hid (HB.out.ownx hO HNE.out.1)
              replace HP := Lib.hid (HP.out.ownx hO HNE.out.2.1)
              replace HR := Lib.hid (HR.out.ownx hO HNE.out.2.2)
              replace HE := Lib.hid (HE.out.ownx hO hEJ)
              clear HJ
              have HJ := Lib.hid hj
              clear hj hO
              have HN := Lib.hid (show Jk b p s (k + 1) (put f3 (27 + k * 3) 3 (l3 (hiX b p k) (hiY b p k) 0)) by
                have h := HF.out.next hlt (s := s) ⟨rfl, rfl, rfl⟩ ⟨rfl, rfl, rfl⟩ ⟨rfl, rfl, rfl⟩ HFE.out
                rw [HF1.out, HF2.out, HF3.out] at h
                exact h)
              go_wp2
              go_roundw
              case rel => exact ⟨k + 1, by go_num, hlt, g0, HB.out, HP.out, HR.out, _, HJ.out, HN.out⟩
              case measure => simp [intOf]; omega
            | false =>
              obtain ⟨r, hr1, hr2⟩ := bit_not HSU.out hlt ho
              rw [hfo] at hr1
              have HAL0 := Lib.hid (al_ok HC0.out HV0.out (i := 0) (k := k) (by omega) (by omega))
              have HSM0 := Lib.hid (sm_feet HC0.out HV0.out (s := s) hlt ho)
              clear ho
              have e3 := HE.out.cell 3
              go_upto_region 20 with (fail)
              clear e3 hr1 hr2
              refine RegD.region_dutyJ [127, 128, 129, 130, 131, 132, 133, 134, 135, 136, 137, 138, 139, 140, 141, 142, 143, 144] 18 33 ((27 + k * 3)) 3 (f3) (l3 (feX b p s k) (feY b p s k) (feZ b p s k)) (RegI.upd (RegI.upd (RegI.upd (RegI.upd (RegI.upd (RegI.upd (RegI.upd (RegI.upd (RegI.upd (RegI.upd (RegI.upd (RegI.upd (RegI.upd (RegI.upd (RegI.upd (RegI.upd (RegI.upd (RegI.upd (fun _ => undef) 127 (.int .i64 (k : Int))) 128 (.int .i64 (k : Int))) 129 (.pointer (some ⟨J, 9, none⟩))) 130 (.pointer (some ⟨J, 9 + k * 3, none⟩))) 131 (.agg #[.int .i64 (hiX b p k), .int .i64 (hiY b p k), .int .i64 (hpZ b p)])) 132 (.pointer (some ⟨B, 0, none⟩))) 133 (.int .i64 (b 0))) 134 (.pointer (some ⟨E, 1, none⟩))) 135 (.int .i64 (k : Int))) 136 (.pointer (some ⟨P, 4, none⟩))) 137 (.pointer (some ⟨P, 4 + k * 3, none⟩))) 138 (.agg #[.int .i64 (p (4 + k * 3)), .int .i64 (p (4 + k * 3 + 1)), .int .i64 (p (4 + k * 3 + 2))])) 139 (.pointer (some ⟨P, 2, none⟩))) 140 (.int .i64 (p 2))) 141 (.agg #[.int .i64 (alX (b 0) p k), .int .i64 (alY (b 0) p k), .int .i64 (alZ (b 0) p k)])) 142 (.agg #[.int .i64 (feX b p s k), .int .i64 (feY b p s k), .int .i64 (feZ b p s k)])) 143 (.pointer (some ⟨J, 27, none⟩))) 144 (.pointer (some ⟨J, 27 + k * 3, none⟩))) J 59 (by kernel_rfl) (by kernel_rfl) (by decide) (by intro d hd; simp at hd; simp; omega) HJ.out ?_
              simp only [RegD.FF, RegI.FX, RegI.upd, List.foldl_cons, List.foldl_nil, List.not_mem_nil, if_true, if_false, Nat.reduceEqDiff]
              simp only [List.setIfInBounds_toArray, List.set_cons_succ, List.set_cons_zero]
              refine And.intro ?hs7 ?he7
              case hs7 =>
                refine And.intro ?s7_0 (And.intro ?s7_1 (And.intro ?s7_2 (And.intro ?s7_3 (And.intro ?s7_4 (And.intro ?s7_5 (And.intro ?s7_6 (And.intro ?s7_7 (And.intro ?s7_8 (And.intro ?s7_9 (And.intro ?s7_10 (And.intro ?s7_11 (And.intro ?s7_12 (And.intro ?s7_13 (And.intro ?s7_14 (And.intro ?s7_15 (And.intro ?s7_16 (And.intro ?s7_17 (And.intro ?s7_18 (trivial)))))))))))))))))))
                case s7_0 =>
                  refine RegD.stepJ_det (by decide) (fun u w1 h hO hJ hA => ?_)
                  go_wp2
                  exact ⟨rfl, rfl, rfl, Own.refl _⟩
                case s7_1 =>
                  refine RegD.stepJ_det (by decide) (fun u w1 h hO hJ hA => ?_)
                  go_wp2
                  exact ⟨rfl, rfl, rfl, Own.refl _⟩
                case s7_2 =>
                  refine RegD.stepJ_det (by decide) (fun u w1 h hO hJ hA => ?_)
                  go_wp2
                  exact ⟨rfl, rfl, rfl, Own.refl _⟩
                case s7_3 =>
                  refine RegD.stepJ_det (by decide) (fun u w1 h hO hJ hA => ?_)
                  go_wp2
                  exact ⟨rfl, rfl, rfl, Own.refl _⟩
                case s7_4 =>
                  refine RegD.stepJ_det (by decide) (fun u w1 h hO hJ hA => ?_)
                  have HJ9 := Lib.hid hJ
                  have HA9 := Lib.hid hA
                  clear hJ hA
                  go_wp2_with ((with_reducible show wpList _ _ _ (⟨_, .load 56 (.tmp 130), _, _, _, none⟩ :: _) _ _); refine wpList_load_part rfl 56 (.tmp 130) rfl J (9 + k * 3) rfl 3 HJ9.out (by omega) (#[.int .i64 (hiX b p k), .int .i64 (hiY b p k), .int .i64 (hpZ b p)]) ((pt_cz HG.out).trans (apart_part HA9.out (by omega) (by omega)).symm) _ Tryd.underlying56 rfl infoV ?_)
                  exact ⟨rfl, rfl, rfl, Own.refl _⟩
                case s7_5 =>
                  refine RegD.stepJ_det (by decide) (fun u w1 h hO hJ hA => ?_)
                  go_wp2
                  exact ⟨rfl, rfl, rfl, Own.refl _⟩
                case s7_6 =>
                  refine RegD.stepJ_det (by decide) (fun u w1 h hO hJ hA => ?_)
                  have kk := blk_num (HB.out.ownx hO HNE.out.1) (i := 0) (by omega)
                  go_wp2
                  exact ⟨rfl, rfl, rfl, Own.refl _⟩
                case s7_7 =>
                  refine RegD.stepJ_det (by decide) (fun u w1 h hO hJ hA => ?_)
                  go_wp2
                  exact ⟨rfl, rfl, rfl, Own.refl _⟩
                case s7_8 =>
                  refine RegD.stepJ_det (by decide) (fun u w1 h hO hJ hA => ?_)
                  have kk := (HE.out.ownx hO hEJ).cell 1
                  go_wp2
                  exact ⟨rfl, rfl, rfl, Own.refl _⟩
                case s7_9 =>
                  refine RegD.stepJ_det (by decide) (fun u w1 h hO hJ hA => ?_)
                  go_wp2
                  exact ⟨rfl, rfl, rfl, Own.refl _⟩
                case s7_10 =>
                  refine RegD.stepJ_det (by decide) (fun u w1 h hO hJ hA => ?_)
                  go_wp2
                  exact ⟨rfl, rfl, rfl, Own.refl _⟩
                case s7_11 =>
                  refine RegD.stepJ_det (by decide) (fun u w1 h hO hJ hA => ?_)
                  have HB9 := Lib.hid (HP.out.ownx hO HNE.out.2.1)
                  go_wp2_with ((with_reducible show wpList _ _ _ (⟨_, .load 28 (.tmp 137), _, _, _, none⟩ :: _) _ _); refine wpList_load_part rfl 28 (.tmp 137) rfl P (4 + k * 3) rfl 3 HB9.out (by omega) (#[.int .i64 (p (4 + k * 3)), .int .i64 (p (4 + k * 3 + 1)), .int .i64 (p (4 + k * 3 + 2))]) rfl _ Tryd.underlying28 rfl infoA ?_)
                  exact ⟨rfl, rfl, rfl, Own.refl _⟩
                case s7_12 =>
                  refine RegD.stepJ_det (by decide) (fun u w1 h hO hJ hA => ?_)
                  go_wp2
                  exact ⟨rfl, rfl, rfl, Own.refl _⟩
                case s7_13 =>
                  refine RegD.stepJ_det (by decide) (fun u w1 h hO hJ hA => ?_)
                  have kk := blk_num (HP.out.ownx hO HNE.out.2.1) (i := 2) (by omega)
                  go_wp2
                  exact ⟨rfl, rfl, rfl, Own.refl _⟩
                case s7_14 =>
                  refine RegD.stepJ_det (by decide) (fun u w1 h hO hJ hA => ?_)
                  go_wp2_with (go_at_call 46; with_reducible refine (jalongH_at _ _ _ _ _ _ _ _ _ (Lib.hid (tab_own HT.out (own_x g0 hJ0 hO))) HAL0).mono ?_; rintro r w2 ⟨rfl, hg⟩)
                  exact ⟨rfl, rfl, rfl, hg⟩
                case s7_15 =>
                  refine RegD.stepJ_det (by decide) (fun u w1 h hO hJ hA => ?_)
                  go_wp2_with (go_at_call 45; with_reducible refine (jsumH_at _ _ _ _ _ _ _ _ _ _ HSM0).mono ?_; rintro r w2 ⟨rfl, hg⟩)
                  exact ⟨rfl, rfl, rfl, hg⟩
                case s7_16 =>
                  refine RegD.stepJ_det (by decide) (fun u w1 h hO hJ hA => ?_)
                  go_wp2
                  exact ⟨rfl, rfl, rfl, Own.refl _⟩
                case s7_17 =>
                  refine RegD.stepJ_det (by decide) (fun u w1 h hO hJ hA => ?_)
                  go_wp2
                  exact ⟨rfl, rfl, rfl, Own.refl _⟩
                case s7_18 =>
                  refine RegD.stepJ_store rfl (fun u w1 h hO hJ => ?_)
                  have HN := Lib.hid hJ
                  clear hJ
                  go_wp2_with ((with_reducible show wpList _ _ _ (⟨_, .store 56 (.tmp 144) (.tmp 142), _, _, _, none⟩ :: _) _ _); refine wpList_store_part rfl 56 (.tmp 144) (.tmp 142) rfl J (27 + k * 3) 3 (l3 (feX b p s k) (feY b p s k) (feZ b p s k)) rfl (#[.int .i64 (feX b p s k), .int .i64 (feY b p s k), .int .i64 (feZ b p s k)]) rfl rfl HN.out (by omega) infoV ?_)
                  exact ⟨rfl, rfl, rfl⟩
              intro u w5 hO hj
              replace g0 := own_x g0 hJ0 hO
              replace HB := Lib.hid (HB.out.ownx hO HNE.out.1)
              replace HP := Lib.hid (HP.out.ownx hO HNE.out.2.1)
              replace HR := Lib.hid (HR.out.ownx hO HNE.out.2.2)
              replace HE := Lib.hid (HE.out.ownx hO hEJ)
              clear HJ
              have HJ := Lib.hid hj
              clear hj hO
              have HN := Lib.hid (show Jk b p s (k + 1) (put f3 (27 + k * 3) 3 (l3 (feX b p s k) (feY b p s k) (feZ b p s k))) by
                have h := HF.out.next hlt (s := s) ⟨rfl, rfl, rfl⟩ ⟨rfl, rfl, rfl⟩ ⟨rfl, rfl, rfl⟩ ⟨rfl, rfl, rfl⟩
                rw [HF1.out, HF2.out, HF3.out] at h
                exact h)
              go_wp2
              go_roundw
              case rel => exact ⟨k + 1, by go_num, hlt, g0, HB.out, HP.out, HR.out, _, HJ.out, HN.out⟩
              case measure => simp [intOf]; omega
          · obtain rfl : k = 2 := by omega
            have HV2 := Lib.hid (show cz 33 f = cz 33 (joV b p s) by rw [HJE.out]; exact HF.out.done)
            go_wp2_with (first | ((with_reducible show wpList _ _ _ (⟨_, .load 59 (.tmp 10), _, _, _, none⟩ :: _) _ _); refine wpList_load_row rfl 59 (.tmp 10) rfl J rfl 59 _ (0, 0) _ HJ.out.raw Tryd.underlying59 rfl infoJ ?_) | ((with_reducible show wpList _ _ _ (⟨_, .store 59 (.tmp 6) (.tmp 146), _, _, _, none⟩ :: _) _ _); refine wpList_store_row rfl 59 (.tmp 6) (.tmp 146) rfl R (cz 33 (f)) rfl rfl 59 _ HR.out.raw infoJ rfl (cz_one _ _) ?_))
            have hr := HR.out.row (cz 33 f)
            rw [← HV2.out]
            exact bodyPost_ret (blk_results rfl rfl rfl hr Tryd.underlying59 rfl infoJ) rfl ⟨rfl, own_setRow g0 hR0 _⟩

      · have hj := jo_range hc hv hs
        have HJE := Lib.hid (joV_no (b := b) (p := p) (s := s) (by rw [hj]; decide))
        rw [HJE.out, hj]
        have HC := Lib.hid hc
        have HV := Lib.hid hv
        have HSP := Lib.hid ((sp_no s).2 (by omega))
        clear hc hv hs hj HJE
        go_enter Tryd.func19, Tryd.ntmps19
        go_upto_region 1 with (fail)
        obtain ⟨W0, B, P, R, hW, hR, hP, hB, hb1, hp1, hr1, g0, -, -, hR0, -⟩ := three_new w (cz 15 b) 24 (cz 22 p) 31 (cz 33 nul) 59
        rw [← cz33_nul] at hW
        rw [hW, hR, hP, hB]
        have HB := Lib.hid hb1
        have HP := Lib.hid hp1
        have HR := Lib.hid hr1
        clear hW hR hP hB hb1 hp1 hr1
        go_wp2_with (first | ((with_reducible show wpList _ _ _ (⟨_, .load 24 (.tmp 3), _, _, _, none⟩ :: _) _ _); refine wpList_load_row rfl 24 (.tmp 3) rfl B rfl 24 _ (0, 0) _ HB.out.raw Tryd.underlying24 rfl infoB ?_) | ((with_reducible show wpList _ _ _ (⟨_, .load 31 (.tmp 4), _, _, _, none⟩ :: _) _ _); refine wpList_load_row rfl 31 (.tmp 4) rfl P rfl 31 _ (0, 0) _ HP.out.raw Tryd.underlying31 rfl infoP ?_) | (go_at_call 17; with_reducible refine (jbc_at b 0 _ (Lib.hid (HBT.out.own g0)) HC).mono ?_; rintro r w1 ⟨rfl, hg⟩; replace g0 := g0.trans hg; replace HB := Lib.hid (HB.out.own hg); replace HP := Lib.hid (HP.out.own hg); replace HR := Lib.hid (HR.out.own hg); clear hg) | (go_at_call 16; with_reducible refine (qvalid_at p 0 _ HV).mono ?_; rintro r w2 ⟨rfl, hg⟩; replace g0 := g0.trans hg; replace HB := Lib.hid (HB.out.own hg); replace HP := Lib.hid (HP.out.own hg); replace HR := Lib.hid (HR.out.own hg); clear hg) | (go_at_call 43; with_reducible refine (jsu_at s false _ HSP).mono ?_; rintro r w1 ⟨rfl, rfl⟩) | ((with_reducible show wpList _ _ _ (⟨_, .store 59 (.tmp 6) (.tmp 28), _, _, _, none⟩ :: _) _ _); refine wpList_store_row rfl 59 (.tmp 6) (.tmp 28) rfl R (cz 33 (nul)) rfl rfl 59 _ HR.out.raw infoJ rfl (cz_one _ _) ?_))
        have hr := HR.out.row (cz 33 nul)
        exact bodyPost_ret (blk_results rfl rfl rfl hr Tryd.underlying59 rfl infoJ) rfl ⟨rfl, own_setRow g0 hR0 _⟩
    · obtain ⟨c, hcc⟩ : ∃ c, vaE p = c := ⟨_, rfl⟩
      have hj := jo_pose (s := s) hc hv
      have HJE := Lib.hid (joV_no (b := b) (p := p) (s := s) (by rw [hj]; exact hv))
      rw [HJE.out, hj, hcc]
      rw [hcc] at hv
      have kc : (c != 0) = true := bne_iff_ne.2 hv
      have HC := Lib.hid hc
      have HV := Lib.hid hcc
      clear hc hv hj HJE hcc
      go_enter Tryd.func19, Tryd.ntmps19
      go_upto_region 1 with (fail)
      obtain ⟨W0, B, P, R, hW, hR, hP, hB, hb1, hp1, hr1, g0, -, -, hR0, -⟩ := three_new w (cz 15 b) 24 (cz 22 p) 31 (cz 33 nul) 59
      rw [← cz33_nul] at hW
      rw [hW, hR, hP, hB]
      have HB := Lib.hid hb1
      have HP := Lib.hid hp1
      have HR := Lib.hid hr1
      clear hW hR hP hB hb1 hp1 hr1
      go_wp2_with (first | ((with_reducible show wpList _ _ _ (⟨_, .load 24 (.tmp 3), _, _, _, none⟩ :: _) _ _); refine wpList_load_row rfl 24 (.tmp 3) rfl B rfl 24 _ (0, 0) _ HB.out.raw Tryd.underlying24 rfl infoB ?_) | ((with_reducible show wpList _ _ _ (⟨_, .load 31 (.tmp 4), _, _, _, none⟩ :: _) _ _); refine wpList_load_row rfl 31 (.tmp 4) rfl P rfl 31 _ (0, 0) _ HP.out.raw Tryd.underlying31 rfl infoP ?_) | (go_at_call 17; with_reducible refine (jbc_at b 0 _ (Lib.hid (HBT.out.own g0)) HC).mono ?_; rintro r w1 ⟨rfl, hg⟩; replace g0 := g0.trans hg; replace HB := Lib.hid (HB.out.own hg); replace HP := Lib.hid (HP.out.own hg); replace HR := Lib.hid (HR.out.own hg); clear hg) | (go_at_call 16; with_reducible refine (qvalid_at p c _ HV).mono ?_; rintro r w2 ⟨rfl, hg⟩; replace g0 := g0.trans hg; replace HB := Lib.hid (HB.out.own hg); replace HP := Lib.hid (HP.out.own hg); replace HR := Lib.hid (HR.out.own hg); clear hg) | ((with_reducible show wpList _ _ _ (⟨_, .store 59 (.tmp 6) (.tmp 23), _, _, _, none⟩ :: _) _ _); refine wpList_store_row rfl 59 (.tmp 6) (.tmp 23) rfl R (cz 33 (nul)) rfl rfl 59 _ HR.out.raw infoJ rfl (cz_one _ _) ?_))
      have hr := HR.out.row (cz 33 nul)
      exact bodyPost_ret (blk_results rfl rfl rfl hr Tryd.underlying59 rfl infoJ) rfl ⟨rfl, own_setRow g0 hR0 _⟩
  · obtain ⟨c, hcc⟩ : ∃ c, BuiP.chk b = c := ⟨_, rfl⟩
    have hj := jo_build (p := p) (s := s) hc
    have HJE := Lib.hid (joV_no (b := b) (p := p) (s := s) (by rw [hj]; exact hc))
    rw [HJE.out, hj, hcc]
    rw [hcc] at hc
    have kc : (c != 0) = true := bne_iff_ne.2 hc
    have HC := Lib.hid hcc
    clear hc hj HJE hcc
    go_enter Tryd.func19, Tryd.ntmps19
    go_upto_region 1 with (fail)
    obtain ⟨W0, B, P, R, hW, hR, hP, hB, hb1, hp1, hr1, g0, -, -, hR0, -⟩ := three_new w (cz 15 b) 24 (cz 22 p) 31 (cz 33 nul) 59
    rw [← cz33_nul] at hW
    rw [hW, hR, hP, hB]
    have HB := Lib.hid hb1
    have HP := Lib.hid hp1
    have HR := Lib.hid hr1
    clear hW hR hP hB hb1 hp1 hr1
    go_wp2_with (first | ((with_reducible show wpList _ _ _ (⟨_, .load 24 (.tmp 3), _, _, _, none⟩ :: _) _ _); refine wpList_load_row rfl 24 (.tmp 3) rfl B rfl 24 _ (0, 0) _ HB.out.raw Tryd.underlying24 rfl infoB ?_) | ((with_reducible show wpList _ _ _ (⟨_, .load 31 (.tmp 4), _, _, _, none⟩ :: _) _ _); refine wpList_load_row rfl 31 (.tmp 4) rfl P rfl 31 _ (0, 0) _ HP.out.raw Tryd.underlying31 rfl infoP ?_) | (go_at_call 17; with_reducible refine (jbc_at b c _ (Lib.hid (HBT.out.own g0)) HC).mono ?_; rintro r w1 ⟨rfl, hg⟩; replace g0 := g0.trans hg; replace HB := Lib.hid (HB.out.own hg); replace HP := Lib.hid (HP.out.own hg); replace HR := Lib.hid (HR.out.own hg); clear hg) | ((with_reducible show wpList _ _ _ (⟨_, .store 59 (.tmp 6) (.tmp 17), _, _, _, none⟩ :: _) _ _); refine wpList_store_row rfl 59 (.tmp 6) (.tmp 17) rfl R (cz 33 (nul)) rfl rfl 59 _ HR.out.raw infoJ rfl (cz_one _ _) ?_))
    have hr := HR.out.row (cz 33 nul)
    exact bodyPost_ret (blk_results rfl rfl rfl hr Tryd.underlying59 rfl infoJ) rfl ⟨rfl, own_setRow g0 hR0 _⟩
theorem jof_at (b p j : Vl) (s c : Int) (w : World) (HT : Hid (AngW.Tab w)) (HBT : Hid (BuiW.Tab w)) (HS : Hid (Sds w)) (H : Hid (cz 33 (joV b p s) = cz 33 j ∧ joE b p s = c)) :
    Calls Tryd.prog 19 #[.agg (cz 15 b), .agg (cz 22 p), .int .i64 s] w fun r w' => r = .returned (.tuple #[.agg (cz 33 j), .int .i64 c]) ∧ Own w w' := by
  rw [← H.out.1, ← H.out.2]
  exact jof_any b p s w HT HBT HS
end Go.Proofs.YtighpjhipgobiaaDoor.JntW
