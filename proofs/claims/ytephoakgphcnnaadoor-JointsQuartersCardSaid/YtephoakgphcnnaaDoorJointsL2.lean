/-
  Walks of the laws of package joints: JointsMirror, JointsQuarters. Condition: the table of sines, the table of bounds and the numbers of both sides lie in memory.
-/
import Derived.Test.YtephoakgphcnnaaDoorJointsT
namespace Go.Proofs.YtephoakgphcnnaaDoor.JntL
open Go.ChangeShapes Go.WideShapes Go.ChangeAt Go.RowKit
open JntW PairW AimP AimW BlkW PrtW PstP PstW JntP RegD
/-- The parts of joints that are built of seven parts. -/
def j7 (a b c d e f g h i : Int) (f3 f4 f5 f6 : Vl) : Vl := put (put (put (put (put (put (put nul 0 3 (l3 a b c)) 3 3 (l3 d e f)) 6 3 (l3 g h i)) 9 6 f3) 15 6 f4) 21 6 f5) 27 6 f6
theorem bld_j7 (a b c d e f g h i : Int) (f3 f4 f5 f6 : Vl) : Tryd.prog.built 36 [(0, .agg #[.int .i64 a, .int .i64 b, .int .i64 c]), (1, .agg #[.int .i64 d, .int .i64 e, .int .i64 f]), (2, .agg #[.int .i64 g, .int .i64 h, .int .i64 i]), (3, .agg (cz 6 f3)), (4, .agg (cz 6 f4)), (5, .agg (cz 6 f5)), (6, .agg (cz 6 f6))] = some (cz 33 (j7 a b c d e f g h i f3 f4 f5 f6)) := by kernel_rfl
def pr (j : Vl) (o : Nat) : Vl := put (put nul 0 3 (l3 (-j (o + 3)) (j (o + 4)) (j (o + 5)))) 3 3 (l3 (-j o) (j (o + 1)) (j (o + 2)))
def bo (j : Vl) (o : Nat) : Vl := put (put nul 0 3 (l3 (j (o + 1)) (-j o) (j (o + 2)))) 3 3 (l3 (j (o + 4)) (-j (o + 3)) (j (o + 5)))
theorem pairo_at (j : Vl) (o : Nat) (w : World) (h0 : -1000000 ≤ j o ∧ j o ≤ 1000000) (h3 : -1000000 ≤ j (o + 3) ∧ j (o + 3) ≤ 1000000) :
    Calls Tryd.prog 15 #[.agg (cz 6 (fun i => j (o + i)))] w fun r w' => r = .returned (.agg (cz 6 (pr j o))) ∧ Own w w' := pair_at (fun i => j (o + i)) w h0 h3
theorem botho_at (j : Vl) (o : Nat) (w : World) (h0 : -1000000 ≤ j o ∧ j o ≤ 1000000) (h3 : -1000000 ≤ j (o + 3) ∧ j (o + 3) ≤ 1000000) :
    Calls Tryd.prog 19 #[.agg (cz 6 (fun i => j (o + i)))] w fun r w' => r = .returned (.agg (cz 6 (bo j o))) ∧ Own w w' := both_at (fun i => j (o + i)) w h0 h3
theorem j7_mir (j : Vl) : ∀ i, i < 33 → j7 (-j 0) (j 1) (j 2) (-j 3) (j 4) (j 5) (-j 6) (j 7) (j 8) (pr j 9) (pr j 15) (pr j 21) (pr j 27) i = mjS j i := by
  intro i hi
  match i, hi with
  | 0, _ => rfl
  | 1, _ => rfl
  | 2, _ => rfl
  | 3, _ => rfl
  | 4, _ => rfl
  | 5, _ => rfl
  | 6, _ => rfl
  | 7, _ => rfl
  | 8, _ => rfl
  | 9, _ => rfl
  | 10, _ => rfl
  | 11, _ => rfl
  | 12, _ => rfl
  | 13, _ => rfl
  | 14, _ => rfl
  | 15, _ => rfl
  | 16, _ => rfl
  | 17, _ => rfl
  | 18, _ => rfl
  | 19, _ => rfl
  | 20, _ => rfl
  | 21, _ => rfl
  | 22, _ => rfl
  | 23, _ => rfl
  | 24, _ => rfl
  | 25, _ => rfl
  | 26, _ => rfl
  | 27, _ => rfl
  | 28, _ => rfl
  | 29, _ => rfl
  | 30, _ => rfl
  | 31, _ => rfl
  | 32, _ => rfl
  | n + 33, h => omega
theorem j7_turn (j : Vl) : ∀ i, i < 33 → j7 (j 1) (-j 0) (j 2) (j 4) (-j 3) (j 5) (j 7) (-j 6) (j 8) (bo j 9) (bo j 15) (bo j 21) (bo j 27) i = tjS j i := by
  intro i hi
  match i, hi with
  | 0, _ => rfl
  | 1, _ => rfl
  | 2, _ => rfl
  | 3, _ => rfl
  | 4, _ => rfl
  | 5, _ => rfl
  | 6, _ => rfl
  | 7, _ => rfl
  | 8, _ => rfl
  | 9, _ => rfl
  | 10, _ => rfl
  | 11, _ => rfl
  | 12, _ => rfl
  | 13, _ => rfl
  | 14, _ => rfl
  | 15, _ => rfl
  | 16, _ => rfl
  | 17, _ => rfl
  | 18, _ => rfl
  | 19, _ => rfl
  | 20, _ => rfl
  | 21, _ => rfl
  | 22, _ => rfl
  | 23, _ => rfl
  | 24, _ => rfl
  | 25, _ => rfl
  | 26, _ => rfl
  | 27, _ => rfl
  | 28, _ => rfl
  | 29, _ => rfl
  | 30, _ => rfl
  | 31, _ => rfl
  | 32, _ => rfl
  | n + 33, h => omega
theorem lo_mjS (j : Vl) : loZ (mjS j) = loZ j := by
  rw [lo_is, lo_is]
  show min (min (min (min (min (j 32) (j 29)) (j 26)) (j 23)) (j 5)) (j 8) = _
  omega
set_option maxRecDepth 100000 in
set_option maxHeartbeats 40000000 in
theorem JointsMirror_walk (b p : Vl) (e : Int) (he : 0 ≤ e ∧ e ≤ 255) (w : World) (HT : Hid (AngW.Tab w)) (HBT : Hid (BuiW.Tab w)) (HS : Hid (Sds w)) :
    Calls Tryd.prog 4 #[.agg (cz 15 b), .agg (cz 22 p), .int .u8 e] w fun r w' => r = .returned (.bool true) ∧ Own w w' := by
  obtain ⟨s, hs⟩ : ∃ s, e % 4 = s := ⟨_, rfl⟩
  have hs3 : 0 ≤ s ∧ s ≤ 3 := by omega
  by_cases h : joE b p s = 0
  · obtain ⟨hm1, hm2⟩ := jo_mir h
    have hv := (jo_yes h).2.1
    obtain ⟨q, hq⟩ : ∃ f, mpV p = f := ⟨_, rfl⟩
    have HQ := Lib.hid (show cz 22 (mpV p) = cz 22 q ∧ vaE p = 0 from ⟨by rw [hq], hv⟩)
    rw [hq] at hm1 hm2
    have hbd := jo_bd h
    obtain ⟨j, hj⟩ : ∃ f, joV b p s = f := ⟨_, rfl⟩
    have HJ := Lib.hid (show cz 33 (joV b p s) = cz 33 j ∧ joE b p s = 0 from ⟨by rw [hj], h⟩)
    rw [hj] at hm2 hbd
    have HBL := Lib.hid ((bld_j7 (-j 0) (j 1) (j 2) (-j 3) (j 4) (j 5) (-j 6) (j 7) (j 8) (pr j 9) (pr j 15) (pr j 21) (pr j 27)).trans (congrArg some (cz_congr (j7_mir j))))
    obtain ⟨lo, hlo⟩ : ∃ x, loZ j = x := ⟨_, rfl⟩
    have HL1 := Lib.hid hlo
    have HL2 := Lib.hid (show loZ (mjS j) = lo from (lo_mjS j).trans hlo)
    obtain ⟨m, hm⟩ : ∃ f, mjS j = f := ⟨_, rfl⟩
    rw [hm] at hm2 HBL HL2
    obtain ⟨t, ht⟩ : ∃ t, xs s = t := ⟨_, rfl⟩
    rw [ht] at hm1 hm2
    unfold xs at ht
    obtain ⟨sa, hsa⟩ : ∃ x, s / 2 = x := ⟨_, rfl⟩
    obtain ⟨sr, hsr⟩ : ∃ x, s % 2 = x := ⟨_, rfl⟩
    rw [hsa, hsr] at ht
    obtain ⟨se, hse⟩ : ∃ x, 2 * sr = x := ⟨_, rfl⟩
    rw [hse] at ht
    have i1 : IntKind.i64.wrap (2 * sr) = se := (IntWalk.i64_in _ (by omega)).trans hse
    have i2 : IntKind.i64.wrap (sa + se) = t := (IntWalk.i64_in _ (by omega)).trans ht
    clear hse ht
    have HK := Lib.hid (show cz 33 (joV b q t) = cz 33 m ∧ joE b q t = 0 from ⟨cz_congr hm2, hm1⟩)
    have HBJ := Lib.hid (show ∀ i, i < 33 → -1000000 ≤ j i ∧ j i ≤ 1000000 from fun i hi => by have := hbd i hi; omega)
    clear hm1 hm2 hv hq hbd hj hm h hlo
    go_enter Tryd.func4, Tryd.ntmps4
    go_upto_region 1 with (fail)
    obtain ⟨W0, B, P, hW, hC, hBq, hb, hc, g0, -, -, -⟩ := two_new w (cz 15 b) 24 (cz 22 p) 31
    rw [hW, hC, hBq]
    have HB := Lib.hid hb
    have HP := Lib.hid hc
    clear hW hC hBq hb hc
    go_upto_region 5 with (first | ((with_reducible show wpList _ _ _ (⟨_, .load 24 (.tmp 3), _, _, _, none⟩ :: _) _ _); refine wpList_load_row rfl 24 (.tmp 3) rfl B rfl 24 _ (0, 0) _ HB.out.raw Tryd.underlying24 rfl infoB ?_) | ((with_reducible show wpList _ _ _ (⟨_, .load 31 (.tmp 4), _, _, _, none⟩ :: _) _ _); refine wpList_load_row rfl 31 (.tmp 4) rfl P rfl 31 _ (0, 0) _ HP.out.raw Tryd.underlying31 rfl infoP ?_) | (go_at_call 10; with_reducible refine (jof_at b p j s 0 _ (Lib.hid (tab_own HT.out g0)) (Lib.hid (HBT.out.own g0)) (Lib.hid (HS.out.own g0)) HJ).mono ?_; rintro r w1 ⟨rfl, hg⟩; replace g0 := g0.trans hg; replace HB := Lib.hid (HB.out.own hg); replace HP := Lib.hid (HP.out.own hg); clear hg) | ((with_reducible show wpList _ _ _ (⟨_, .store 36 (.tmp 8) (.tmp 23), _, _, _, none⟩ :: _) _ _); refine wpList_store_row rfl 36 (.tmp 8) (.tmp 23) rfl _ (cz 33 (j)) rfl rfl 36 _ (heap_new _ _) infoJ rfl (cz_one _ _) ?_; rw [World.setRow_alloc_new]))
    obtain ⟨w2, J1, hW, hBq, hb, hg, J1g⟩ := blk_new w1 (cz 33 j) 36
    rw [hW, hBq]
    have HJ1 := Lib.hid hb
    replace g0 := g0.trans hg
    replace HB := Lib.hid (HB.out.own hg)
    replace HP := Lib.hid (HP.out.own hg)
    clear hW hBq hb hg
    clear J1g
    go_upto_region 6 with (first | ((with_reducible show wpList _ _ _ (⟨_, .load 31 (.tmp 4), _, _, _, none⟩ :: _) _ _); refine wpList_load_row rfl 31 (.tmp 4) rfl P rfl 31 _ (0, 0) _ HP.out.raw Tryd.underlying31 rfl infoP ?_) | (go_at_call 13; with_reducible refine (qmirp_at p q 0 _ HQ).mono ?_; rintro r w3 ⟨rfl, hg⟩; replace g0 := g0.trans hg; replace HB := Lib.hid (HB.out.own hg); replace HJ1 := Lib.hid (HJ1.out.own hg); clear hg) | ((with_reducible show wpList _ _ _ (⟨_, .store 31 (.tmp 10) (.tmp 36), _, _, _, none⟩ :: _) _ _); refine wpList_store_row rfl 31 (.tmp 10) (.tmp 36) rfl _ (cz 22 (q)) rfl rfl 31 _ (heap_new _ _) infoP rfl (cz_one _ _) ?_; rw [World.setRow_alloc_new]))
    obtain ⟨w4, Q1, hW, hBq, hb, hg, Q1g⟩ := blk_new w3 (cz 22 q) 31
    rw [hW, hBq]
    have HQ1 := Lib.hid hb
    replace g0 := g0.trans hg
    replace HB := Lib.hid (HB.out.own hg)
    replace HJ1 := Lib.hid (HJ1.out.own hg)
    clear hW hBq hb hg
    clear Q1g
    clear HP
    go_upto_region 7 with (first | ((with_reducible show wpList _ _ _ (⟨_, .load 24 (.tmp 3), _, _, _, none⟩ :: _) _ _); refine wpList_load_row rfl 24 (.tmp 3) rfl B rfl 24 _ (0, 0) _ HB.out.raw Tryd.underlying24 rfl infoB ?_) | ((with_reducible show wpList _ _ _ (⟨_, .load 31 (.tmp 10), _, _, _, none⟩ :: _) _ _); refine wpList_load_row rfl 31 (.tmp 10) rfl Q1 rfl 31 _ (0, 0) _ HQ1.out.raw Tryd.underlying31 rfl infoP ?_) | (go_at_call 10; with_reducible refine (jof_at b q m t 0 _ (Lib.hid (tab_own HT.out g0)) (Lib.hid (HBT.out.own g0)) (Lib.hid (HS.out.own g0)) HK).mono ?_; rintro r w5 ⟨rfl, hg⟩; replace g0 := g0.trans hg; replace HJ1 := Lib.hid (HJ1.out.own hg); clear hg) | ((with_reducible show wpList _ _ _ (⟨_, .store 36 (.tmp 12) (.tmp 48), _, _, _, none⟩ :: _) _ _); refine wpList_store_row rfl 36 (.tmp 12) (.tmp 48) rfl _ (cz 33 (m)) rfl rfl 36 _ (heap_new _ _) infoJ rfl (cz_one _ _) ?_; rw [World.setRow_alloc_new]))
    obtain ⟨w6, K1, hW, hBq, hb, hg, K1g⟩ := blk_new w5 (cz 33 m) 36
    rw [hW, hBq]
    have HK1 := Lib.hid hb
    replace g0 := g0.trans hg
    replace HJ1 := Lib.hid (HJ1.out.own hg)
    clear hW hBq hb hg
    clear K1g
    clear HB HQ1
    go_upto_region 9 with (fail)
    refine RegD.region_dutyN [56, 57, 58, 59, 60, 61, 62, 63, 64, 65, 66, 67, 68, 69, 70, 71, 72, 73, 74, 75, 76, 77, 14] 14 22 23 (RegI.upd (RegI.upd (RegI.upd (RegI.upd (RegI.upd (RegI.upd (RegI.upd (RegI.upd (RegI.upd (RegI.upd (RegI.upd (RegI.upd (RegI.upd (RegI.upd (RegI.upd (RegI.upd (RegI.upd (RegI.upd (RegI.upd (RegI.upd (RegI.upd (RegI.upd (fun _ => undef) 56 (.pointer (some ⟨J1, 0, none⟩))) 57 (.agg #[.int .i64 (j 0), .int .i64 (j 1), .int .i64 (j 2)])) 58 (.agg #[.int .i64 (-j 0), .int .i64 (j 1), .int .i64 (j 2)])) 59 (.pointer (some ⟨J1, 3, none⟩))) 60 (.agg #[.int .i64 (j 3), .int .i64 (j 4), .int .i64 (j 5)])) 61 (.agg #[.int .i64 (-j 3), .int .i64 (j 4), .int .i64 (j 5)])) 62 (.pointer (some ⟨J1, 6, none⟩))) 63 (.agg #[.int .i64 (j 6), .int .i64 (j 7), .int .i64 (j 8)])) 64 (.agg #[.int .i64 (-j 6), .int .i64 (j 7), .int .i64 (j 8)])) 65 (.pointer (some ⟨J1, 9, none⟩))) 66 (.agg (cz 6 (fun i => j (9 + i))))) 67 (.agg (cz 6 (pr j 9)))) 68 (.pointer (some ⟨J1, 15, none⟩))) 69 (.agg (cz 6 (fun i => j (15 + i))))) 70 (.agg (cz 6 (pr j 15)))) 71 (.pointer (some ⟨J1, 21, none⟩))) 72 (.agg (cz 6 (fun i => j (21 + i))))) 73 (.agg (cz 6 (pr j 21)))) 74 (.pointer (some ⟨J1, 27, none⟩))) 75 (.agg (cz 6 (fun i => j (27 + i))))) 76 (.agg (cz 6 (pr j 27)))) 77 (.agg (cz 33 m))) (cz 33 nul) (cz 33 m) 36 (by kernel_rfl) (by kernel_rfl) (by decide) (by intro d hd; simp at hd; simp; omega) ?_
    simp only [RegD.FF, RegI.FX, RegI.upd, List.foldl_cons, List.foldl_nil, List.mem_cons, List.not_mem_nil, if_true, if_false, Nat.reduceEqDiff, or_false]
    simp only [List.setIfInBounds_toArray, List.set_cons_succ, List.set_cons_zero]
    refine And.intro ?hs2 ?he2
    case hs2 =>
      refine And.intro ?s2_0 (And.intro ?s2_1 (And.intro ?s2_2 (And.intro ?s2_3 (And.intro ?s2_4 (And.intro ?s2_5 (And.intro ?s2_6 (And.intro ?s2_7 (And.intro ?s2_8 (And.intro ?s2_9 (And.intro ?s2_10 (And.intro ?s2_11 (And.intro ?s2_12 (And.intro ?s2_13 (And.intro ?s2_14 (And.intro ?s2_15 (And.intro ?s2_16 (And.intro ?s2_17 (And.intro ?s2_18 (And.intro ?s2_19 (And.intro ?s2_20 (And.intro ?s2_21 (And.intro ?s2_22 (And.intro ?s2_23 (trivial))))))))))))))))))))))))
      case s2_0 =>
        refine RegD.stepN_det (by decide) (by decide) (by simp) (fun u w1 hO => ?_)
        go_wp2
        exact ⟨rfl, rfl, rfl, Own.refl _⟩
      case s2_1 =>
        refine RegD.stepN_det (by decide) (by decide) (by simp) (fun u w1 hO => ?_)
        have HB9 := Lib.hid (HJ1.out.own hO)
        go_wp2_with ((with_reducible show wpList _ _ _ (⟨_, .load 33 (.tmp 56), _, _, _, none⟩ :: _) _ _); refine wpList_load_part rfl 33 (.tmp 56) rfl J1 (0) rfl 3 HB9.out (by omega) (#[.int .i64 (j 0), .int .i64 (j 1), .int .i64 (j 2)]) rfl _ Tryd.underlying33 rfl infoV ?_)
        exact ⟨rfl, rfl, rfl, Own.refl _⟩
      case s2_2 =>
        refine RegD.stepN_det (by decide) (by decide) (by simp) (fun u w1 hO => ?_)
        go_wp2_with (go_at_call 14; with_reducible refine (flip_at _ _ _ _ (HBJ.out 0 (by omega))).mono ?_; rintro r w2 ⟨rfl, hg⟩)
        exact ⟨rfl, rfl, rfl, hg⟩
      case s2_3 =>
        refine RegD.stepN_det (by decide) (by decide) (by simp) (fun u w1 hO => ?_)
        go_wp2
        exact ⟨rfl, rfl, rfl, Own.refl _⟩
      case s2_4 =>
        refine RegD.stepN_det (by decide) (by decide) (by simp) (fun u w1 hO => ?_)
        have HB9 := Lib.hid (HJ1.out.own hO)
        go_wp2_with ((with_reducible show wpList _ _ _ (⟨_, .load 33 (.tmp 59), _, _, _, none⟩ :: _) _ _); refine wpList_load_part rfl 33 (.tmp 59) rfl J1 (3) rfl 3 HB9.out (by omega) (#[.int .i64 (j 3), .int .i64 (j 4), .int .i64 (j 5)]) rfl _ Tryd.underlying33 rfl infoV ?_)
        exact ⟨rfl, rfl, rfl, Own.refl _⟩
      case s2_5 =>
        refine RegD.stepN_det (by decide) (by decide) (by simp) (fun u w1 hO => ?_)
        go_wp2_with (go_at_call 14; with_reducible refine (flip_at _ _ _ _ (HBJ.out 3 (by omega))).mono ?_; rintro r w2 ⟨rfl, hg⟩)
        exact ⟨rfl, rfl, rfl, hg⟩
      case s2_6 =>
        refine RegD.stepN_det (by decide) (by decide) (by simp) (fun u w1 hO => ?_)
        go_wp2
        exact ⟨rfl, rfl, rfl, Own.refl _⟩
      case s2_7 =>
        refine RegD.stepN_det (by decide) (by decide) (by simp) (fun u w1 hO => ?_)
        have HB9 := Lib.hid (HJ1.out.own hO)
        go_wp2_with ((with_reducible show wpList _ _ _ (⟨_, .load 33 (.tmp 62), _, _, _, none⟩ :: _) _ _); refine wpList_load_part rfl 33 (.tmp 62) rfl J1 (6) rfl 3 HB9.out (by omega) (#[.int .i64 (j 6), .int .i64 (j 7), .int .i64 (j 8)]) rfl _ Tryd.underlying33 rfl infoV ?_)
        exact ⟨rfl, rfl, rfl, Own.refl _⟩
      case s2_8 =>
        refine RegD.stepN_det (by decide) (by decide) (by simp) (fun u w1 hO => ?_)
        go_wp2_with (go_at_call 14; with_reducible refine (flip_at _ _ _ _ (HBJ.out 6 (by omega))).mono ?_; rintro r w2 ⟨rfl, hg⟩)
        exact ⟨rfl, rfl, rfl, hg⟩
      case s2_9 =>
        refine RegD.stepN_det (by decide) (by decide) (by simp) (fun u w1 hO => ?_)
        go_wp2
        exact ⟨rfl, rfl, rfl, Own.refl _⟩
      case s2_10 =>
        refine RegD.stepN_det (by decide) (by decide) (by simp) (fun u w1 hO => ?_)
        have HB9 := Lib.hid (HJ1.out.own hO)
        go_wp2_with ((with_reducible show wpList _ _ _ (⟨_, .load 34 (.tmp 65), _, _, _, none⟩ :: _) _ _); refine wpList_load_part rfl 34 (.tmp 65) rfl J1 (9) rfl 6 HB9.out (by omega) (cz 6 (fun i => j (9 + i))) rfl _ Tryd.underlying34 rfl infoV2 ?_)
        exact ⟨rfl, rfl, rfl, Own.refl _⟩
      case s2_11 =>
        refine RegD.stepN_det (by decide) (by decide) (by simp) (fun u w1 hO => ?_)
        go_wp2_with (go_at_call 15; with_reducible refine (pairo_at j 9 _ (HBJ.out 9 (by omega)) (HBJ.out (9 + 3) (by omega))).mono ?_; rintro r w2 ⟨rfl, hg⟩)
        exact ⟨rfl, rfl, rfl, hg⟩
      case s2_12 =>
        refine RegD.stepN_det (by decide) (by decide) (by simp) (fun u w1 hO => ?_)
        go_wp2
        exact ⟨rfl, rfl, rfl, Own.refl _⟩
      case s2_13 =>
        refine RegD.stepN_det (by decide) (by decide) (by simp) (fun u w1 hO => ?_)
        have HB9 := Lib.hid (HJ1.out.own hO)
        go_wp2_with ((with_reducible show wpList _ _ _ (⟨_, .load 34 (.tmp 68), _, _, _, none⟩ :: _) _ _); refine wpList_load_part rfl 34 (.tmp 68) rfl J1 (15) rfl 6 HB9.out (by omega) (cz 6 (fun i => j (15 + i))) rfl _ Tryd.underlying34 rfl infoV2 ?_)
        exact ⟨rfl, rfl, rfl, Own.refl _⟩
      case s2_14 =>
        refine RegD.stepN_det (by decide) (by decide) (by simp) (fun u w1 hO => ?_)
        go_wp2_with (go_at_call 15; with_reducible refine (pairo_at j 15 _ (HBJ.out 15 (by omega)) (HBJ.out (15 + 3) (by omega))).mono ?_; rintro r w2 ⟨rfl, hg⟩)
        exact ⟨rfl, rfl, rfl, hg⟩
      case s2_15 =>
        refine RegD.stepN_det (by decide) (by decide) (by simp) (fun u w1 hO => ?_)
        go_wp2
        exact ⟨rfl, rfl, rfl, Own.refl _⟩
      case s2_16 =>
        refine RegD.stepN_det (by decide) (by decide) (by simp) (fun u w1 hO => ?_)
        have HB9 := Lib.hid (HJ1.out.own hO)
        go_wp2_with ((with_reducible show wpList _ _ _ (⟨_, .load 34 (.tmp 71), _, _, _, none⟩ :: _) _ _); refine wpList_load_part rfl 34 (.tmp 71) rfl J1 (21) rfl 6 HB9.out (by omega) (cz 6 (fun i => j (21 + i))) rfl _ Tryd.underlying34 rfl infoV2 ?_)
        exact ⟨rfl, rfl, rfl, Own.refl _⟩
      case s2_17 =>
        refine RegD.stepN_det (by decide) (by decide) (by simp) (fun u w1 hO => ?_)
        go_wp2_with (go_at_call 15; with_reducible refine (pairo_at j 21 _ (HBJ.out 21 (by omega)) (HBJ.out (21 + 3) (by omega))).mono ?_; rintro r w2 ⟨rfl, hg⟩)
        exact ⟨rfl, rfl, rfl, hg⟩
      case s2_18 =>
        refine RegD.stepN_det (by decide) (by decide) (by simp) (fun u w1 hO => ?_)
        go_wp2
        exact ⟨rfl, rfl, rfl, Own.refl _⟩
      case s2_19 =>
        refine RegD.stepN_det (by decide) (by decide) (by simp) (fun u w1 hO => ?_)
        have HB9 := Lib.hid (HJ1.out.own hO)
        go_wp2_with ((with_reducible show wpList _ _ _ (⟨_, .load 34 (.tmp 74), _, _, _, none⟩ :: _) _ _); refine wpList_load_part rfl 34 (.tmp 74) rfl J1 (27) rfl 6 HB9.out (by omega) (cz 6 (fun i => j (27 + i))) rfl _ Tryd.underlying34 rfl infoV2 ?_)
        exact ⟨rfl, rfl, rfl, Own.refl _⟩
      case s2_20 =>
        refine RegD.stepN_det (by decide) (by decide) (by simp) (fun u w1 hO => ?_)
        go_wp2_with (go_at_call 15; with_reducible refine (pairo_at j 27 _ (HBJ.out 27 (by omega)) (HBJ.out (27 + 3) (by omega))).mono ?_; rintro r w2 ⟨rfl, hg⟩)
        exact ⟨rfl, rfl, rfl, hg⟩
      case s2_21 =>
        refine RegD.stepN_det (by decide) (by decide) (by simp) (fun u w1 hO => ?_)
        go_wp2_with ((with_reducible show wpList _ _ _ (⟨_, .build 36 _, _, _, _, _⟩ :: _) _ _); refine wpList_build_as rfl 36 [(0, .tmp 58), (1, .tmp 61), (2, .tmp 64), (3, .tmp 67), (4, .tmp 70), (5, .tmp 73), (6, .tmp 76)] rfl [(0, .agg #[.int .i64 (-j 0), .int .i64 (j 1), .int .i64 (j 2)]), (1, .agg #[.int .i64 (-j 3), .int .i64 (j 4), .int .i64 (j 5)]), (2, .agg #[.int .i64 (-j 6), .int .i64 (j 7), .int .i64 (j 8)]), (3, .agg (cz 6 (pr j 9))), (4, .agg (cz 6 (pr j 15))), (5, .agg (cz 6 (pr j 21))), (6, .agg (cz 6 (pr j 27)))] rfl (cz 33 m) (HBL.out) ?_)
        exact ⟨rfl, rfl, rfl, Own.refl _⟩
      case s2_22 =>
        refine RegD.stepN_alloc rfl (fun u w1 hO => ?_)
        go_wp2
        exact ⟨rfl, rfl, rfl, rfl⟩
      case s2_23 =>
        refine RegD.stepN_store (by decide) rfl (by kernel_rfl) (fun u w1 N hO hu hN => ?_)
        have HN := Lib.hid hN
        simp only [hu]
        clear hN
        go_wp2_with ((with_reducible show wpList _ _ _ (⟨_, .store 36 (.tmp 14) (.tmp 77), _, _, _, none⟩ :: _) _ _); refine wpList_store_row rfl 36 (.tmp 14) (.tmp 77) rfl N (cz 33 (m)) rfl rfl 36 _ HN.out.raw infoJ rfl (cz_one _ _) ?_)
        exact ⟨rfl, rfl, rfl⟩
    intro u w7 M1 hO hu hN0 hN
    simp only [hu]
    replace g0 := g0.trans hO
    replace HJ1 := Lib.hid (HJ1.out.own hO)
    replace HK1 := Lib.hid (HK1.out.own hO)
    have HM1 := Lib.hid hN
    clear hO hu hN0 hN HBL
    go_upto_region 10 with (fail)
    refine RegD.region_duty [78, 79, 80, 81, 82, 83, 84, 85, 86, 87, 88, 89, 90, 6] (RegI.upd (RegI.upd (RegI.upd (RegI.upd (RegI.upd (RegI.upd (RegI.upd (RegI.upd (RegI.upd (RegI.upd (RegI.upd (RegI.upd (RegI.upd (RegI.upd (fun _ => undef) 78 (.agg (cz 33 m))) 79 (.agg (cz 33 m))) 80 (.bool true)) 81 (.bool true)) 82 (.agg (cz 33 m))) 83 (.int .i64 lo)) 84 (.agg (cz 33 j))) 85 (.int .i64 lo)) 86 (.bool true)) 87 (.bool true)) 88 (.bool true)) 89 (.bool true)) 90 (.bool true)) 6 (.bool true)) (by kernel_rfl) (by kernel_rfl) (by intro d hd; simp at hd; simp; omega) ?_
    simp only [RegD.FF, RegI.FX, RegI.upd, List.foldl_cons, List.foldl_nil, List.not_mem_nil, if_true, if_false, Nat.reduceEqDiff]
    simp only [List.setIfInBounds_toArray, List.set_cons_succ, List.set_cons_zero]
    refine And.intro ?hs3 ?he3
    case hs3 =>
      refine And.intro ?s3_0 (And.intro ?s3_1 (And.intro ?s3_2 (And.intro ?s3_3 (And.intro ?s3_4 (And.intro ?s3_5 (And.intro ?s3_6 (And.intro ?s3_7 (And.intro ?s3_8 (And.intro ?s3_9 (And.intro ?s3_10 (And.intro ?s3_11 (And.intro ?s3_12 (And.intro ?s3_13 (trivial))))))))))))))
      case s3_0 =>
        intro u w1 hO
        have HB9 := Lib.hid (HK1.out.own hO)
        go_wp2_with ((with_reducible show wpList _ _ _ (⟨_, .load 36 (.tmp 12), _, _, _, none⟩ :: _) _ _); refine wpList_load_row rfl 36 (.tmp 12) rfl K1 rfl 36 _ (0, 0) _ HB9.out.raw Tryd.underlying36 rfl infoJ ?_)
        exact ⟨rfl, rfl, rfl, Own.refl _⟩
      case s3_1 =>
        intro u w1 hO
        have HB9 := Lib.hid (HM1.out.own hO)
        go_wp2_with ((with_reducible show wpList _ _ _ (⟨_, .load 36 (.tmp 14), _, _, _, none⟩ :: _) _ _); refine wpList_load_row rfl 36 (.tmp 14) rfl M1 rfl 36 _ (0, 0) _ HB9.out.raw Tryd.underlying36 rfl infoJ ?_)
        exact ⟨rfl, rfl, rfl, Own.refl _⟩
      case s3_2 =>
        intro u w1 hO
        go_wp2
        exact ⟨rfl, rfl, rfl, Own.refl _⟩
      case s3_3 =>
        intro u w1 hO
        go_wp2
        exact ⟨rfl, rfl, rfl, Own.refl _⟩
      case s3_4 =>
        intro u w1 hO
        have HB9 := Lib.hid (HK1.out.own hO)
        go_wp2_with ((with_reducible show wpList _ _ _ (⟨_, .load 36 (.tmp 12), _, _, _, some _⟩ :: _) _ _); refine wpList_load_row_g rfl 36 (.tmp 12) rfl K1 rfl 36 _ (0, 0) _ HB9.out.raw Tryd.underlying36 rfl infoJ ?_)
        exact ⟨rfl, rfl, rfl, Own.refl _⟩
      case s3_5 =>
        intro u w1 hO
        go_wp2_with (go_at_call 16; with_reducible refine (jlow_at m lo _ (Lib.hid (HS.out.own (g0.trans hO))) HL2).mono ?_; rintro r w2 ⟨rfl, hg⟩)
        exact ⟨rfl, rfl, rfl, hg⟩
      case s3_6 =>
        intro u w1 hO
        have HB9 := Lib.hid (HJ1.out.own hO)
        go_wp2_with ((with_reducible show wpList _ _ _ (⟨_, .load 36 (.tmp 8), _, _, _, some _⟩ :: _) _ _); refine wpList_load_row_g rfl 36 (.tmp 8) rfl J1 rfl 36 _ (0, 0) _ HB9.out.raw Tryd.underlying36 rfl infoJ ?_)
        exact ⟨rfl, rfl, rfl, Own.refl _⟩
      case s3_7 =>
        intro u w1 hO
        go_wp2_with (go_at_call 16; with_reducible refine (jlow_at j lo _ (Lib.hid (HS.out.own (g0.trans hO))) HL1).mono ?_; rintro r w2 ⟨rfl, hg⟩)
        exact ⟨rfl, rfl, rfl, hg⟩
      case s3_8 =>
        intro u w1 hO
        go_wp2
        exact ⟨rfl, rfl, rfl, Own.refl _⟩
      case s3_9 =>
        intro u w1 hO
        go_wp2
        exact ⟨rfl, rfl, rfl, Own.refl _⟩
      case s3_10 =>
        intro u w1 hO
        go_wp2
        exact ⟨rfl, rfl, rfl, Own.refl _⟩
      case s3_11 =>
        intro u w1 hO
        go_wp2_with (go_at_call 12; with_reducible refine (awake_at _ (Lib.hid (tab_own HT.out (g0.trans hO))) (Lib.hid (HBT.out.own (g0.trans hO))) (Lib.hid (HS.out.own (g0.trans hO)))).mono ?_; rintro r w2 ⟨rfl, hg⟩)
        exact ⟨rfl, rfl, rfl, hg⟩
      case s3_12 =>
        intro u w1 hO
        go_wp2
        exact ⟨rfl, rfl, rfl, Own.refl _⟩
      case s3_13 =>
        intro u w1 hO
        go_wp2
        exact ⟨rfl, rfl, rfl, Own.refl _⟩
    intro u w9 hO
    replace g0 := g0.trans hO
    clear hO
    go_wp2
    go_ret
    exact ⟨by first | rfl | (exact ret_bool (by simp)), g0⟩
  · obtain ⟨c, hc⟩ : ∃ c, joE b p s = c := ⟨_, rfl⟩
    have HJ := Lib.hid (show cz 33 (joV b p s) = cz 33 nul ∧ joE b p s = c from ⟨by rw [joV_no h], hc⟩)
    rw [hc] at h
    have kc : (c != 0) = true := bne_iff_ne.2 h
    clear h hc
    go_enter Tryd.func4, Tryd.ntmps4
    go_upto_region 1 with (fail)
    obtain ⟨W0, B, P, hW, hC, hBq, hb, hc, g0, -, -, -⟩ := two_new w (cz 15 b) 24 (cz 22 p) 31
    rw [hW, hC, hBq]
    have HB := Lib.hid hb
    have HP := Lib.hid hc
    clear hW hC hBq hb hc
    go_upto_region 3 with (first | ((with_reducible show wpList _ _ _ (⟨_, .load 24 (.tmp 3), _, _, _, none⟩ :: _) _ _); refine wpList_load_row rfl 24 (.tmp 3) rfl B rfl 24 _ (0, 0) _ HB.out.raw Tryd.underlying24 rfl infoB ?_) | ((with_reducible show wpList _ _ _ (⟨_, .load 31 (.tmp 4), _, _, _, none⟩ :: _) _ _); refine wpList_load_row rfl 31 (.tmp 4) rfl P rfl 31 _ (0, 0) _ HP.out.raw Tryd.underlying31 rfl infoP ?_) | (go_at_call 10; with_reducible refine (jof_at b p nul s c _ (Lib.hid (tab_own HT.out g0)) (Lib.hid (HBT.out.own g0)) (Lib.hid (HS.out.own g0)) HJ).mono ?_; rintro r w1 ⟨rfl, hg⟩; replace g0 := g0.trans hg; clear hg) | ((with_reducible show wpList _ _ _ (⟨_, .store 36 (.tmp 8) (.tmp 23), _, _, _, none⟩ :: _) _ _); refine wpList_store_row rfl 36 (.tmp 8) (.tmp 23) rfl _ (cz 33 (nul)) rfl rfl 36 _ (heap_new _ _) infoJ rfl (cz_one _ _) ?_; rw [World.setRow_alloc_new]))
    obtain ⟨w2, J1, hW, hBq, hb, hg, J1g⟩ := blk_new w1 (cz 33 nul) 36
    rw [hW, hBq]
    have HJ1 := Lib.hid hb
    replace g0 := g0.trans hg
    clear hW hBq hb hg
    clear J1g
    clear HB HP
    go_wp2_with (first | ((with_reducible show wpList _ _ _ (⟨_, .load 36 (.tmp 8), _, _, _, none⟩ :: _) _ _); refine wpList_load_row rfl 36 (.tmp 8) rfl J1 rfl 36 _ (0, 0) _ HJ1.out.raw Tryd.underlying36 rfl infoJ ?_) | (go_at_call 12; with_reducible refine (awake_at _ (Lib.hid (tab_own HT.out g0)) (Lib.hid (HBT.out.own g0)) (Lib.hid (HS.out.own g0))).mono ?_; rintro r w99 ⟨rfl, hg⟩; replace g0 := g0.trans hg; clear hg))
    go_ret
    exact ⟨by first | rfl | (exact ret_bool (by simp)), g0⟩
set_option maxRecDepth 100000 in
set_option maxHeartbeats 40000000 in
theorem JointsQuarters_walk (b p : Vl) (e : Int) (he : 0 ≤ e ∧ e ≤ 255) (w : World) (HT : Hid (AngW.Tab w)) (HBT : Hid (BuiW.Tab w)) (HS : Hid (Sds w)) :
    Calls Tryd.prog 5 #[.agg (cz 15 b), .agg (cz 22 p), .int .u8 e] w fun r w' => r = .returned (.bool true) ∧ Own w w' := by
  obtain ⟨s, hs⟩ : ∃ s, e % 4 = s := ⟨_, rfl⟩
  have hs3 : 0 ≤ s ∧ s ≤ 3 := by omega
  by_cases h : joE b p s = 0
  · obtain ⟨hm1, hm2⟩ := jo_q h
    have hv := (jo_yes h).2.1
    obtain ⟨q, hq⟩ : ∃ f, rpV p 1 = f := ⟨_, rfl⟩
    have HQ := Lib.hid (show cz 22 (rpV p 1) = cz 22 q ∧ vaE p = 0 from ⟨by rw [hq], hv⟩)
    rw [hq] at hm1 hm2
    have hbd := jo_bd h
    obtain ⟨j, hj⟩ : ∃ f, joV b p s = f := ⟨_, rfl⟩
    have HJ := Lib.hid (show cz 33 (joV b p s) = cz 33 j ∧ joE b p s = 0 from ⟨by rw [hj], h⟩)
    rw [hj] at hm2 hbd
    have HBL := Lib.hid ((bld_j7 (j 1) (-j 0) (j 2) (j 4) (-j 3) (j 5) (j 7) (-j 6) (j 8) (bo j 9) (bo j 15) (bo j 21) (bo j 27)).trans (congrArg some (cz_congr (j7_turn j))))
    obtain ⟨m, hm⟩ : ∃ f, tjS j = f := ⟨_, rfl⟩
    rw [hm] at hm2 HBL
    have HK := Lib.hid (show cz 33 (joV b q s) = cz 33 m ∧ joE b q s = 0 from ⟨cz_congr hm2, hm1⟩)
    have HBJ := Lib.hid (show ∀ i, i < 33 → -1000000 ≤ j i ∧ j i ≤ 1000000 from fun i hi => by have := hbd i hi; omega)
    clear hm1 hm2 hv hq hbd hj hm h
    go_enter Tryd.func5, Tryd.ntmps5
    go_upto_region 1 with (fail)
    obtain ⟨W0, B, P, hW, hC, hBq, hb, hc, g0, -, -, -⟩ := two_new w (cz 15 b) 24 (cz 22 p) 31
    rw [hW, hC, hBq]
    have HB := Lib.hid hb
    have HP := Lib.hid hc
    clear hW hC hBq hb hc
    go_upto_region 5 with (first | ((with_reducible show wpList _ _ _ (⟨_, .load 24 (.tmp 3), _, _, _, none⟩ :: _) _ _); refine wpList_load_row rfl 24 (.tmp 3) rfl B rfl 24 _ (0, 0) _ HB.out.raw Tryd.underlying24 rfl infoB ?_) | ((with_reducible show wpList _ _ _ (⟨_, .load 31 (.tmp 4), _, _, _, none⟩ :: _) _ _); refine wpList_load_row rfl 31 (.tmp 4) rfl P rfl 31 _ (0, 0) _ HP.out.raw Tryd.underlying31 rfl infoP ?_) | (go_at_call 10; with_reducible refine (jof_at b p j s 0 _ (Lib.hid (tab_own HT.out g0)) (Lib.hid (HBT.out.own g0)) (Lib.hid (HS.out.own g0)) HJ).mono ?_; rintro r w1 ⟨rfl, hg⟩; replace g0 := g0.trans hg; replace HB := Lib.hid (HB.out.own hg); replace HP := Lib.hid (HP.out.own hg); clear hg) | ((with_reducible show wpList _ _ _ (⟨_, .store 36 (.tmp 8) (.tmp 23), _, _, _, none⟩ :: _) _ _); refine wpList_store_row rfl 36 (.tmp 8) (.tmp 23) rfl _ (cz 33 (j)) rfl rfl 36 _ (heap_new _ _) infoJ rfl (cz_one _ _) ?_; rw [World.setRow_alloc_new]))
    obtain ⟨w2, J1, hW, hBq, hb, hg, J1g⟩ := blk_new w1 (cz 33 j) 36
    rw [hW, hBq]
    have HJ1 := Lib.hid hb
    replace g0 := g0.trans hg
    replace HB := Lib.hid (HB.out.own hg)
    replace HP := Lib.hid (HP.out.own hg)
    clear hW hBq hb hg
    clear J1g
    go_upto_region 6 with (first | ((with_reducible show wpList _ _ _ (⟨_, .load 31 (.tmp 4), _, _, _, none⟩ :: _) _ _); refine wpList_load_row rfl 31 (.tmp 4) rfl P rfl 31 _ (0, 0) _ HP.out.raw Tryd.underlying31 rfl infoP ?_) | (go_at_call 17; with_reducible refine (qrotp_at p q 1 0 _ (Lib.hid (tab_own HT.out g0)) HQ).mono ?_; rintro r w3 ⟨rfl, hg⟩; replace g0 := g0.trans hg; replace HB := Lib.hid (HB.out.own hg); replace HJ1 := Lib.hid (HJ1.out.own hg); clear hg) | ((with_reducible show wpList _ _ _ (⟨_, .store 31 (.tmp 10) (.tmp 36), _, _, _, none⟩ :: _) _ _); refine wpList_store_row rfl 31 (.tmp 10) (.tmp 36) rfl _ (cz 22 (q)) rfl rfl 31 _ (heap_new _ _) infoP rfl (cz_one _ _) ?_; rw [World.setRow_alloc_new]))
    obtain ⟨w4, Q1, hW, hBq, hb, hg, Q1g⟩ := blk_new w3 (cz 22 q) 31
    rw [hW, hBq]
    have HQ1 := Lib.hid hb
    replace g0 := g0.trans hg
    replace HB := Lib.hid (HB.out.own hg)
    replace HJ1 := Lib.hid (HJ1.out.own hg)
    clear hW hBq hb hg
    clear Q1g
    clear HP
    go_upto_region 7 with (first | ((with_reducible show wpList _ _ _ (⟨_, .load 24 (.tmp 3), _, _, _, none⟩ :: _) _ _); refine wpList_load_row rfl 24 (.tmp 3) rfl B rfl 24 _ (0, 0) _ HB.out.raw Tryd.underlying24 rfl infoB ?_) | ((with_reducible show wpList _ _ _ (⟨_, .load 31 (.tmp 10), _, _, _, none⟩ :: _) _ _); refine wpList_load_row rfl 31 (.tmp 10) rfl Q1 rfl 31 _ (0, 0) _ HQ1.out.raw Tryd.underlying31 rfl infoP ?_) | (go_at_call 10; with_reducible refine (jof_at b q m s 0 _ (Lib.hid (tab_own HT.out g0)) (Lib.hid (HBT.out.own g0)) (Lib.hid (HS.out.own g0)) HK).mono ?_; rintro r w5 ⟨rfl, hg⟩; replace g0 := g0.trans hg; replace HJ1 := Lib.hid (HJ1.out.own hg); clear hg) | ((with_reducible show wpList _ _ _ (⟨_, .store 36 (.tmp 12) (.tmp 43), _, _, _, none⟩ :: _) _ _); refine wpList_store_row rfl 36 (.tmp 12) (.tmp 43) rfl _ (cz 33 (m)) rfl rfl 36 _ (heap_new _ _) infoJ rfl (cz_one _ _) ?_; rw [World.setRow_alloc_new]))
    obtain ⟨w6, K1, hW, hBq, hb, hg, K1g⟩ := blk_new w5 (cz 33 m) 36
    rw [hW, hBq]
    have HK1 := Lib.hid hb
    replace g0 := g0.trans hg
    replace HJ1 := Lib.hid (HJ1.out.own hg)
    clear hW hBq hb hg
    clear K1g
    clear HB HQ1
    go_upto_region 9 with (fail)
    refine RegD.region_dutyN [51, 52, 53, 54, 55, 56, 57, 58, 59, 60, 61, 62, 63, 64, 65, 66, 67, 68, 69, 70, 71, 72, 14] 14 22 23 (RegI.upd (RegI.upd (RegI.upd (RegI.upd (RegI.upd (RegI.upd (RegI.upd (RegI.upd (RegI.upd (RegI.upd (RegI.upd (RegI.upd (RegI.upd (RegI.upd (RegI.upd (RegI.upd (RegI.upd (RegI.upd (RegI.upd (RegI.upd (RegI.upd (RegI.upd (fun _ => undef) 51 (.pointer (some ⟨J1, 0, none⟩))) 52 (.agg #[.int .i64 (j 0), .int .i64 (j 1), .int .i64 (j 2)])) 53 (.agg #[.int .i64 (j 1), .int .i64 (-j 0), .int .i64 (j 2)])) 54 (.pointer (some ⟨J1, 3, none⟩))) 55 (.agg #[.int .i64 (j 3), .int .i64 (j 4), .int .i64 (j 5)])) 56 (.agg #[.int .i64 (j 4), .int .i64 (-j 3), .int .i64 (j 5)])) 57 (.pointer (some ⟨J1, 6, none⟩))) 58 (.agg #[.int .i64 (j 6), .int .i64 (j 7), .int .i64 (j 8)])) 59 (.agg #[.int .i64 (j 7), .int .i64 (-j 6), .int .i64 (j 8)])) 60 (.pointer (some ⟨J1, 9, none⟩))) 61 (.agg (cz 6 (fun i => j (9 + i))))) 62 (.agg (cz 6 (bo j 9)))) 63 (.pointer (some ⟨J1, 15, none⟩))) 64 (.agg (cz 6 (fun i => j (15 + i))))) 65 (.agg (cz 6 (bo j 15)))) 66 (.pointer (some ⟨J1, 21, none⟩))) 67 (.agg (cz 6 (fun i => j (21 + i))))) 68 (.agg (cz 6 (bo j 21)))) 69 (.pointer (some ⟨J1, 27, none⟩))) 70 (.agg (cz 6 (fun i => j (27 + i))))) 71 (.agg (cz 6 (bo j 27)))) 72 (.agg (cz 33 m))) (cz 33 nul) (cz 33 m) 36 (by kernel_rfl) (by kernel_rfl) (by decide) (by intro d hd; simp at hd; simp; omega) ?_
    simp only [RegD.FF, RegI.FX, RegI.upd, List.foldl_cons, List.foldl_nil, List.mem_cons, List.not_mem_nil, if_true, if_false, Nat.reduceEqDiff, or_false]
    simp only [List.setIfInBounds_toArray, List.set_cons_succ, List.set_cons_zero]
    refine And.intro ?hs4 ?he4
    case hs4 =>
      refine And.intro ?s4_0 (And.intro ?s4_1 (And.intro ?s4_2 (And.intro ?s4_3 (And.intro ?s4_4 (And.intro ?s4_5 (And.intro ?s4_6 (And.intro ?s4_7 (And.intro ?s4_8 (And.intro ?s4_9 (And.intro ?s4_10 (And.intro ?s4_11 (And.intro ?s4_12 (And.intro ?s4_13 (And.intro ?s4_14 (And.intro ?s4_15 (And.intro ?s4_16 (And.intro ?s4_17 (And.intro ?s4_18 (And.intro ?s4_19 (And.intro ?s4_20 (And.intro ?s4_21 (And.intro ?s4_22 (And.intro ?s4_23 (trivial))))))))))))))))))))))))
      case s4_0 =>
        refine RegD.stepN_det (by decide) (by decide) (by simp) (fun u w1 hO => ?_)
        go_wp2
        exact ⟨rfl, rfl, rfl, Own.refl _⟩
      case s4_1 =>
        refine RegD.stepN_det (by decide) (by decide) (by simp) (fun u w1 hO => ?_)
        have HB9 := Lib.hid (HJ1.out.own hO)
        go_wp2_with ((with_reducible show wpList _ _ _ (⟨_, .load 33 (.tmp 51), _, _, _, none⟩ :: _) _ _); refine wpList_load_part rfl 33 (.tmp 51) rfl J1 (0) rfl 3 HB9.out (by omega) (#[.int .i64 (j 0), .int .i64 (j 1), .int .i64 (j 2)]) rfl _ Tryd.underlying33 rfl infoV ?_)
        exact ⟨rfl, rfl, rfl, Own.refl _⟩
      case s4_2 =>
        refine RegD.stepN_det (by decide) (by decide) (by simp) (fun u w1 hO => ?_)
        go_wp2_with (go_at_call 18; with_reducible refine (turn_at _ _ _ _ (HBJ.out 0 (by omega))).mono ?_; rintro r w2 ⟨rfl, hg⟩)
        exact ⟨rfl, rfl, rfl, hg⟩
      case s4_3 =>
        refine RegD.stepN_det (by decide) (by decide) (by simp) (fun u w1 hO => ?_)
        go_wp2
        exact ⟨rfl, rfl, rfl, Own.refl _⟩
      case s4_4 =>
        refine RegD.stepN_det (by decide) (by decide) (by simp) (fun u w1 hO => ?_)
        have HB9 := Lib.hid (HJ1.out.own hO)
        go_wp2_with ((with_reducible show wpList _ _ _ (⟨_, .load 33 (.tmp 54), _, _, _, none⟩ :: _) _ _); refine wpList_load_part rfl 33 (.tmp 54) rfl J1 (3) rfl 3 HB9.out (by omega) (#[.int .i64 (j 3), .int .i64 (j 4), .int .i64 (j 5)]) rfl _ Tryd.underlying33 rfl infoV ?_)
        exact ⟨rfl, rfl, rfl, Own.refl _⟩
      case s4_5 =>
        refine RegD.stepN_det (by decide) (by decide) (by simp) (fun u w1 hO => ?_)
        go_wp2_with (go_at_call 18; with_reducible refine (turn_at _ _ _ _ (HBJ.out 3 (by omega))).mono ?_; rintro r w2 ⟨rfl, hg⟩)
        exact ⟨rfl, rfl, rfl, hg⟩
      case s4_6 =>
        refine RegD.stepN_det (by decide) (by decide) (by simp) (fun u w1 hO => ?_)
        go_wp2
        exact ⟨rfl, rfl, rfl, Own.refl _⟩
      case s4_7 =>
        refine RegD.stepN_det (by decide) (by decide) (by simp) (fun u w1 hO => ?_)
        have HB9 := Lib.hid (HJ1.out.own hO)
        go_wp2_with ((with_reducible show wpList _ _ _ (⟨_, .load 33 (.tmp 57), _, _, _, none⟩ :: _) _ _); refine wpList_load_part rfl 33 (.tmp 57) rfl J1 (6) rfl 3 HB9.out (by omega) (#[.int .i64 (j 6), .int .i64 (j 7), .int .i64 (j 8)]) rfl _ Tryd.underlying33 rfl infoV ?_)
        exact ⟨rfl, rfl, rfl, Own.refl _⟩
      case s4_8 =>
        refine RegD.stepN_det (by decide) (by decide) (by simp) (fun u w1 hO => ?_)
        go_wp2_with (go_at_call 18; with_reducible refine (turn_at _ _ _ _ (HBJ.out 6 (by omega))).mono ?_; rintro r w2 ⟨rfl, hg⟩)
        exact ⟨rfl, rfl, rfl, hg⟩
      case s4_9 =>
        refine RegD.stepN_det (by decide) (by decide) (by simp) (fun u w1 hO => ?_)
        go_wp2
        exact ⟨rfl, rfl, rfl, Own.refl _⟩
      case s4_10 =>
        refine RegD.stepN_det (by decide) (by decide) (by simp) (fun u w1 hO => ?_)
        have HB9 := Lib.hid (HJ1.out.own hO)
        go_wp2_with ((with_reducible show wpList _ _ _ (⟨_, .load 34 (.tmp 60), _, _, _, none⟩ :: _) _ _); refine wpList_load_part rfl 34 (.tmp 60) rfl J1 (9) rfl 6 HB9.out (by omega) (cz 6 (fun i => j (9 + i))) rfl _ Tryd.underlying34 rfl infoV2 ?_)
        exact ⟨rfl, rfl, rfl, Own.refl _⟩
      case s4_11 =>
        refine RegD.stepN_det (by decide) (by decide) (by simp) (fun u w1 hO => ?_)
        go_wp2_with (go_at_call 19; with_reducible refine (botho_at j 9 _ (HBJ.out 9 (by omega)) (HBJ.out (9 + 3) (by omega))).mono ?_; rintro r w2 ⟨rfl, hg⟩)
        exact ⟨rfl, rfl, rfl, hg⟩
      case s4_12 =>
        refine RegD.stepN_det (by decide) (by decide) (by simp) (fun u w1 hO => ?_)
        go_wp2
        exact ⟨rfl, rfl, rfl, Own.refl _⟩
      case s4_13 =>
        refine RegD.stepN_det (by decide) (by decide) (by simp) (fun u w1 hO => ?_)
        have HB9 := Lib.hid (HJ1.out.own hO)
        go_wp2_with ((with_reducible show wpList _ _ _ (⟨_, .load 34 (.tmp 63), _, _, _, none⟩ :: _) _ _); refine wpList_load_part rfl 34 (.tmp 63) rfl J1 (15) rfl 6 HB9.out (by omega) (cz 6 (fun i => j (15 + i))) rfl _ Tryd.underlying34 rfl infoV2 ?_)
        exact ⟨rfl, rfl, rfl, Own.refl _⟩
      case s4_14 =>
        refine RegD.stepN_det (by decide) (by decide) (by simp) (fun u w1 hO => ?_)
        go_wp2_with (go_at_call 19; with_reducible refine (botho_at j 15 _ (HBJ.out 15 (by omega)) (HBJ.out (15 + 3) (by omega))).mono ?_; rintro r w2 ⟨rfl, hg⟩)
        exact ⟨rfl, rfl, rfl, hg⟩
      case s4_15 =>
        refine RegD.stepN_det (by decide) (by decide) (by simp) (fun u w1 hO => ?_)
        go_wp2
        exact ⟨rfl, rfl, rfl, Own.refl _⟩
      case s4_16 =>
        refine RegD.stepN_det (by decide) (by decide) (by simp) (fun u w1 hO => ?_)
        have HB9 := Lib.hid (HJ1.out.own hO)
        go_wp2_with ((with_reducible show wpList _ _ _ (⟨_, .load 34 (.tmp 66), _, _, _, none⟩ :: _) _ _); refine wpList_load_part rfl 34 (.tmp 66) rfl J1 (21) rfl 6 HB9.out (by omega) (cz 6 (fun i => j (21 + i))) rfl _ Tryd.underlying34 rfl infoV2 ?_)
        exact ⟨rfl, rfl, rfl, Own.refl _⟩
      case s4_17 =>
        refine RegD.stepN_det (by decide) (by decide) (by simp) (fun u w1 hO => ?_)
        go_wp2_with (go_at_call 19; with_reducible refine (botho_at j 21 _ (HBJ.out 21 (by omega)) (HBJ.out (21 + 3) (by omega))).mono ?_; rintro r w2 ⟨rfl, hg⟩)
        exact ⟨rfl, rfl, rfl, hg⟩
      case s4_18 =>
        refine RegD.stepN_det (by decide) (by decide) (by simp) (fun u w1 hO => ?_)
        go_wp2
        exact ⟨rfl, rfl, rfl, Own.refl _⟩
      case s4_19 =>
        refine RegD.stepN_det (by decide) (by decide) (by simp) (fun u w1 hO => ?_)
        have HB9 := Lib.hid (HJ1.out.own hO)
        go_wp2_with ((with_reducible show wpList _ _ _ (⟨_, .load 34 (.tmp 69), _, _, _, none⟩ :: _) _ _); refine wpList_load_part rfl 34 (.tmp 69) rfl J1 (27) rfl 6 HB9.out (by omega) (cz 6 (fun i => j (27 + i))) rfl _ Tryd.underlying34 rfl infoV2 ?_)
        exact ⟨rfl, rfl, rfl, Own.refl _⟩
      case s4_20 =>
        refine RegD.stepN_det (by decide) (by decide) (by simp) (fun u w1 hO => ?_)
        go_wp2_with (go_at_call 19; with_reducible refine (botho_at j 27 _ (HBJ.out 27 (by omega)) (HBJ.out (27 + 3) (by omega))).mono ?_; rintro r w2 ⟨rfl, hg⟩)
        exact ⟨rfl, rfl, rfl, hg⟩
      case s4_21 =>
        refine RegD.stepN_det (by decide) (by decide) (by simp) (fun u w1 hO => ?_)
        go_wp2_with ((with_reducible show wpList _ _ _ (⟨_, .build 36 _, _, _, _, _⟩ :: _) _ _); refine wpList_build_as rfl 36 [(0, .tmp 53), (1, .tmp 56), (2, .tmp 59), (3, .tmp 62), (4, .tmp 65), (5, .tmp 68), (6, .tmp 71)] rfl [(0, .agg #[.int .i64 (j 1), .int .i64 (-j 0), .int .i64 (j 2)]), (1, .agg #[.int .i64 (j 4), .int .i64 (-j 3), .int .i64 (j 5)]), (2, .agg #[.int .i64 (j 7), .int .i64 (-j 6), .int .i64 (j 8)]), (3, .agg (cz 6 (bo j 9))), (4, .agg (cz 6 (bo j 15))), (5, .agg (cz 6 (bo j 21))), (6, .agg (cz 6 (bo j 27)))] rfl (cz 33 m) (HBL.out) ?_)
        exact ⟨rfl, rfl, rfl, Own.refl _⟩
      case s4_22 =>
        refine RegD.stepN_alloc rfl (fun u w1 hO => ?_)
        go_wp2
        exact ⟨rfl, rfl, rfl, rfl⟩
      case s4_23 =>
        refine RegD.stepN_store (by decide) rfl (by kernel_rfl) (fun u w1 N hO hu hN => ?_)
        have HN := Lib.hid hN
        simp only [hu]
        clear hN
        go_wp2_with ((with_reducible show wpList _ _ _ (⟨_, .store 36 (.tmp 14) (.tmp 72), _, _, _, none⟩ :: _) _ _); refine wpList_store_row rfl 36 (.tmp 14) (.tmp 72) rfl N (cz 33 (m)) rfl rfl 36 _ HN.out.raw infoJ rfl (cz_one _ _) ?_)
        exact ⟨rfl, rfl, rfl⟩
    intro u w7 M1 hO hu hN0 hN
    simp only [hu]
    replace g0 := g0.trans hO
    replace HJ1 := Lib.hid (HJ1.out.own hO)
    replace HK1 := Lib.hid (HK1.out.own hO)
    have HM1 := Lib.hid hN
    clear hO hu hN0 hN HBL
    go_wp2_with (first | ((with_reducible show wpList _ _ _ (⟨_, .load 36 (.tmp 12), _, _, _, none⟩ :: _) _ _); refine wpList_load_row rfl 36 (.tmp 12) rfl K1 rfl 36 _ (0, 0) _ HK1.out.raw Tryd.underlying36 rfl infoJ ?_) | ((with_reducible show wpList _ _ _ (⟨_, .load 36 (.tmp 14), _, _, _, none⟩ :: _) _ _); refine wpList_load_row rfl 36 (.tmp 14) rfl M1 rfl 36 _ (0, 0) _ HM1.out.raw Tryd.underlying36 rfl infoJ ?_) | (go_at_call 12; with_reducible refine (awake_at _ (Lib.hid (tab_own HT.out g0)) (Lib.hid (HBT.out.own g0)) (Lib.hid (HS.out.own g0))).mono ?_; rintro r w99 ⟨rfl, hg⟩; replace g0 := g0.trans hg; clear hg))
    go_ret
    exact ⟨by first | rfl | (exact ret_bool (by simp)), g0⟩
  · obtain ⟨c, hc⟩ : ∃ c, joE b p s = c := ⟨_, rfl⟩
    have HJ := Lib.hid (show cz 33 (joV b p s) = cz 33 nul ∧ joE b p s = c from ⟨by rw [joV_no h], hc⟩)
    rw [hc] at h
    have kc : (c != 0) = true := bne_iff_ne.2 h
    clear h hc
    go_enter Tryd.func5, Tryd.ntmps5
    go_upto_region 1 with (fail)
    obtain ⟨W0, B, P, hW, hC, hBq, hb, hc, g0, -, -, -⟩ := two_new w (cz 15 b) 24 (cz 22 p) 31
    rw [hW, hC, hBq]
    have HB := Lib.hid hb
    have HP := Lib.hid hc
    clear hW hC hBq hb hc
    go_upto_region 3 with (first | ((with_reducible show wpList _ _ _ (⟨_, .load 24 (.tmp 3), _, _, _, none⟩ :: _) _ _); refine wpList_load_row rfl 24 (.tmp 3) rfl B rfl 24 _ (0, 0) _ HB.out.raw Tryd.underlying24 rfl infoB ?_) | ((with_reducible show wpList _ _ _ (⟨_, .load 31 (.tmp 4), _, _, _, none⟩ :: _) _ _); refine wpList_load_row rfl 31 (.tmp 4) rfl P rfl 31 _ (0, 0) _ HP.out.raw Tryd.underlying31 rfl infoP ?_) | (go_at_call 10; with_reducible refine (jof_at b p nul s c _ (Lib.hid (tab_own HT.out g0)) (Lib.hid (HBT.out.own g0)) (Lib.hid (HS.out.own g0)) HJ).mono ?_; rintro r w1 ⟨rfl, hg⟩; replace g0 := g0.trans hg; clear hg) | ((with_reducible show wpList _ _ _ (⟨_, .store 36 (.tmp 8) (.tmp 23), _, _, _, none⟩ :: _) _ _); refine wpList_store_row rfl 36 (.tmp 8) (.tmp 23) rfl _ (cz 33 (nul)) rfl rfl 36 _ (heap_new _ _) infoJ rfl (cz_one _ _) ?_; rw [World.setRow_alloc_new]))
    obtain ⟨w2, J1, hW, hBq, hb, hg, J1g⟩ := blk_new w1 (cz 33 nul) 36
    rw [hW, hBq]
    have HJ1 := Lib.hid hb
    replace g0 := g0.trans hg
    clear hW hBq hb hg
    clear J1g
    clear HB HP
    go_wp2_with (first | ((with_reducible show wpList _ _ _ (⟨_, .load 36 (.tmp 8), _, _, _, none⟩ :: _) _ _); refine wpList_load_row rfl 36 (.tmp 8) rfl J1 rfl 36 _ (0, 0) _ HJ1.out.raw Tryd.underlying36 rfl infoJ ?_) | (go_at_call 12; with_reducible refine (awake_at _ (Lib.hid (tab_own HT.out g0)) (Lib.hid (HBT.out.own g0)) (Lib.hid (HS.out.own g0))).mono ?_; rintro r w99 ⟨rfl, hg⟩; replace g0 := g0.trans hg; clear hg))
    go_ret
    exact ⟨by first | rfl | (exact ret_bool (by simp)), g0⟩
end Go.Proofs.YtephoakgphcnnaaDoor.JntL
