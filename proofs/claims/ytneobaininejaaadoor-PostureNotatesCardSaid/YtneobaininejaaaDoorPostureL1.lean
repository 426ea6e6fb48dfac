/-
  Walks of the laws of package posture: PostureChecks, PostureNotates. Condition: the target straight down and the table of sines lie in memory (Dn, Tab).
-/
import Derived.Test.YtneobaininejaaaDoorPostureT
namespace Go.Proofs.YtneobaininejaaaDoor.PstL
open Go.ChangeShapes Go.WideShapes Go.ChangeAt Go.RowKit
open PstW PstQ PairW AimP AimW BlkW PrtW PstP
set_option maxRecDepth 100000 in
set_option maxHeartbeats 40000000 in
theorem PostureChecks_walk (s : Vl) (w : World) (HD : Hid (Dn w)) (HT : Hid (AngW.Tab w)) :
    Calls Tryd.prog 3 #[.agg (cz 23 s)] w fun r w' => r = .returned (.bool true) ∧ Own w w' := by
  obtain ⟨p, hp⟩ : ∃ p, poV s = p := ⟨_, rfl⟩
  obtain ⟨c, hc⟩ : ∃ c, stE s = c := ⟨_, rfl⟩
  have HP := Lib.hid (show cz 22 (poV s) = cz 22 p ∧ stE s = c from ⟨by rw [hp], hc⟩)
  have HC := Lib.hid hc
  clear hp hc
  go_enter Tryd.func3, Tryd.ntmps3
  go_upto_region 1 with (fail)
  obtain ⟨W0, B, hW, hBq, hb, g0, -⟩ := blk_new w (cz 23 s) 28
  rw [hW, hBq]
  have HB := Lib.hid hb
  clear hW hBq hb
  go_upto_region 2 with (first | ((with_reducible show wpList _ _ _ (⟨_, .load 28 (.tmp 1), _, _, _, none⟩ :: _) _ _); refine wpList_load_row rfl 28 (.tmp 1) rfl B rfl 28 _ (0, 0) _ HB.out.raw Tryd.underlying28 rfl infoS ?_) | (go_at_call 11; with_reducible refine (qpose_at s p c _ (Lib.hid (HD.out.own g0)) HP).mono ?_; rintro r w1 ⟨rfl, hg⟩; replace g0 := g0.trans hg; replace HB := Lib.hid (HB.out.own hg); clear hg) | ((with_reducible show wpList _ _ _ (⟨_, .store 33 (.tmp 3) (.tmp 10), _, _, _, none⟩ :: _) _ _); refine wpList_store_row rfl 33 (.tmp 3) (.tmp 10) rfl _ (cz 22 (p)) rfl rfl 33 _ (heap_new _ _) infoP rfl (cz_one _ _) ?_; rw [World.setRow_alloc_new]))
  obtain ⟨w2, B3, hW, hBq, hb, hg, B3g⟩ := blk_new w1 (cz 22 p) 33
  rw [hW, hBq]
  have H3 := Lib.hid hb
  replace g0 := g0.trans hg
  replace HB := Lib.hid (HB.out.own hg)
  clear hW hBq hb hg
  clear B3g
  go_upto_region 3 with (first | ((with_reducible show wpList _ _ _ (⟨_, .load 28 (.tmp 1), _, _, _, none⟩ :: _) _ _); refine wpList_load_row rfl 28 (.tmp 1) rfl B rfl 28 _ (0, 0) _ HB.out.raw Tryd.underlying28 rfl infoS ?_) | (go_at_call 12; with_reducible refine (rpose_at s p c _ HP).mono ?_; rintro r w3 ⟨rfl, hg⟩; replace g0 := g0.trans hg; replace HB := Lib.hid (HB.out.own hg); replace H3 := Lib.hid (H3.out.own hg); clear hg) | ((with_reducible show wpList _ _ _ (⟨_, .store 33 (.tmp 5) (.tmp 15), _, _, _, none⟩ :: _) _ _); refine wpList_store_row rfl 33 (.tmp 5) (.tmp 15) rfl _ (cz 22 (p)) rfl rfl 33 _ (heap_new _ _) infoP rfl (cz_one _ _) ?_; rw [World.setRow_alloc_new]))
  obtain ⟨w4, B5, hW, hBq, hb, hg, B5g⟩ := blk_new w3 (cz 22 p) 33
  rw [hW, hBq]
  have H5 := Lib.hid hb
  replace g0 := g0.trans hg
  replace HB := Lib.hid (HB.out.own hg)
  replace H3 := Lib.hid (H3.out.own hg)
  clear hW hBq hb hg
  clear B5g
  refine RegD.region_duty [17, 18, 19, 20, 21, 22, 23, 24, 25, 26, 27, 28, 29, 30, 31, 32, 33, 34, 2] (RegI.upd (RegI.upd (RegI.upd (RegI.upd (RegI.upd (RegI.upd (RegI.upd (RegI.upd (RegI.upd (RegI.upd (RegI.upd (RegI.upd (RegI.upd (RegI.upd (RegI.upd (RegI.upd (RegI.upd (RegI.upd (RegI.upd (fun _ => undef) 17 (.agg (cz 23 s))) 18 (.int .i64 c)) 19 (.agg (cz 23 s))) 20 (.int .i64 c)) 21 (.bool true)) 22 (.bool true)) 23 (.agg (cz 22 p))) 24 (.agg (cz 22 p))) 25 (.bool true)) 26 (.bool true)) 27 (.bool true)) 28 (.int .i64 c)) 29 (.int .i64 c)) 30 (.bool true)) 31 (.bool true)) 32 (.bool true)) 33 (.bool true)) 34 (.bool true)) 2 (.bool true)) (by kernel_rfl) (by kernel_rfl) (by intro d hd; simp at hd; simp; omega) ?_
  simp only [RegD.FF, RegI.FX, RegI.upd, List.foldl_cons, List.foldl_nil, List.not_mem_nil, if_true, if_false, Nat.reduceEqDiff]
  simp only [List.setIfInBounds_toArray, List.set_cons_succ, List.set_cons_zero]
  refine And.intro ?hs ?he
  case hs =>
    refine And.intro ?s0 (And.intro ?s1 (And.intro ?s2 (And.intro ?s3 (And.intro ?s4 (And.intro ?s5 (And.intro ?s6 (And.intro ?s7 (And.intro ?s8 (And.intro ?s9 (And.intro ?s10 (And.intro ?s11 (And.intro ?s12 (And.intro ?s13 (And.intro ?s14 (And.intro ?s15 (And.intro ?s16 (And.intro ?s17 (And.intro ?s18 (trivial)))))))))))))))))))
    case s0 =>
      intro u w1 hO
      have HB9 := Lib.hid (HB.out.own hO)
      go_wp2_with ((with_reducible show wpList _ _ _ (⟨_, .load 28 (.tmp 1), _, _, _, none⟩ :: _) _ _); refine wpList_load_row rfl 28 (.tmp 1) rfl B rfl 28 _ (0, 0) _ HB9.out.raw Tryd.underlying28 rfl infoS ?_)
      exact ⟨rfl, rfl, rfl, Own.refl _⟩
    case s1 =>
      intro u w1 hO
      go_wp2_with (go_at_call 13; with_reducible refine (pcheck_at s c _ (Lib.hid (HD.out.own (g0.trans hO))) HC).mono ?_; rintro r w2 ⟨rfl, hg⟩)
      exact ⟨rfl, rfl, rfl, hg⟩
    case s2 =>
      intro u w1 hO
      have HB9 := Lib.hid (HB.out.own hO)
      go_wp2_with ((with_reducible show wpList _ _ _ (⟨_, .load 28 (.tmp 1), _, _, _, none⟩ :: _) _ _); refine wpList_load_row rfl 28 (.tmp 1) rfl B rfl 28 _ (0, 0) _ HB9.out.raw Tryd.underlying28 rfl infoS ?_)
      exact ⟨rfl, rfl, rfl, Own.refl _⟩
    case s3 =>
      intro u w1 hO
      go_wp2_with (go_at_call 14; with_reducible refine (rcheck_at s c _ HC).mono ?_; rintro r w2 ⟨rfl, hg⟩)
      exact ⟨rfl, rfl, rfl, hg⟩
    case s4 =>
      intro u w1 hO
      go_wp2
      exact ⟨rfl, rfl, rfl, Own.refl _⟩
    case s5 =>
      intro u w1 hO
      go_wp2
      exact ⟨rfl, rfl, rfl, Own.refl _⟩
    case s6 =>
      intro u w1 hO
      have HB9 := Lib.hid (H3.out.own hO)
      go_wp2_with ((with_reducible show wpList _ _ _ (⟨_, .load 33 (.tmp 3), _, _, _, some _⟩ :: _) _ _); refine wpList_load_row_g rfl 33 (.tmp 3) rfl B3 rfl 33 _ (0, 0) _ HB9.out.raw Tryd.underlying33 rfl infoP ?_)
      exact ⟨rfl, rfl, rfl, Own.refl _⟩
    case s7 =>
      intro u w1 hO
      have HB9 := Lib.hid (H5.out.own hO)
      go_wp2_with ((with_reducible show wpList _ _ _ (⟨_, .load 33 (.tmp 5), _, _, _, some _⟩ :: _) _ _); refine wpList_load_row_g rfl 33 (.tmp 5) rfl B5 rfl 33 _ (0, 0) _ HB9.out.raw Tryd.underlying33 rfl infoP ?_)
      exact ⟨rfl, rfl, rfl, Own.refl _⟩
    case s8 =>
      intro u w1 hO
      go_wp2
      exact ⟨rfl, rfl, rfl, Own.refl _⟩
    case s9 =>
      intro u w1 hO
      go_wp2
      exact ⟨rfl, rfl, rfl, Own.refl _⟩
    case s10 =>
      intro u w1 hO
      go_wp2
      exact ⟨rfl, rfl, rfl, Own.refl _⟩
    case s11 =>
      intro u w1 hO
      go_wp2
      exact ⟨rfl, rfl, rfl, Own.refl _⟩
    case s12 =>
      intro u w1 hO
      go_wp2
      exact ⟨rfl, rfl, rfl, Own.refl _⟩
    case s13 =>
      intro u w1 hO
      go_wp2
      exact ⟨rfl, rfl, rfl, Own.refl _⟩
    case s14 =>
      intro u w1 hO
      go_wp2
      exact ⟨rfl, rfl, rfl, Own.refl _⟩
    case s15 =>
      intro u w1 hO
      go_wp2
      exact ⟨rfl, rfl, rfl, Own.refl _⟩
    case s16 =>
      intro u w1 hO
      go_wp2_with (go_at_call 15; with_reducible refine (awake_at _ (Lib.hid (HD.out.own (g0.trans hO))) (Lib.hid (AimW.tab_own HT.out (g0.trans hO)))).mono ?_; rintro r w2 ⟨rfl, hg⟩)
      exact ⟨rfl, rfl, rfl, hg⟩
    case s17 =>
      intro u w1 hO
      go_wp2
      exact ⟨rfl, rfl, rfl, Own.refl _⟩
    case s18 =>
      intro u w1 hO
      go_wp2
      exact ⟨rfl, rfl, rfl, Own.refl _⟩
  case he =>
    intro u w9 hO
    replace g0 := g0.trans hO
    go_wp2
    go_ret
    exact ⟨by first | rfl | (exact ret_bool (by simp)), g0⟩
set_option maxRecDepth 100000 in
set_option maxHeartbeats 40000000 in
theorem PostureNotates_walk (p : Vl) (u : Int) (w : World) (HD : Hid (Dn w)) (HT : Hid (AngW.Tab w)) :
    Calls Tryd.prog 4 #[.agg (cz 22 p), .int .i64 u] w fun r w' => r = .returned (.bool true) ∧ Own w w' := by
  obtain ⟨s, hs⟩ : ∃ s, ntV p u = s := ⟨_, rfl⟩
  obtain ⟨c, hc⟩ : ∃ c, ntE p u = c := ⟨_, rfl⟩
  obtain ⟨e, he⟩ : ∃ c, vaE p = c := ⟨_, rfl⟩
  have HP := Lib.hid (show cz 23 (ntV p u) = cz 23 s ∧ ntE p u = c from ⟨by rw [hs], hc⟩)
  have HC := Lib.hid he
  clear hs hc he
  go_enter Tryd.func4, Tryd.ntmps4
  go_upto_region 1 with (fail)
  obtain ⟨W0, B, hW, hBq, hb, g0, -⟩ := blk_new w (cz 22 p) 33
  rw [hW, hBq]
  have HB := Lib.hid hb
  clear hW hBq hb
  go_upto_region 2 with (first | ((with_reducible show wpList _ _ _ (⟨_, .load 33 (.tmp 2), _, _, _, none⟩ :: _) _ _); refine wpList_load_row rfl 33 (.tmp 2) rfl B rfl 33 _ (0, 0) _ HB.out.raw Tryd.underlying33 rfl infoP ?_) | (go_at_call 16; with_reducible refine (qnot_at p s u c _ (Lib.hid (HD.out.own g0)) HP).mono ?_; rintro r w1 ⟨rfl, hg⟩; replace g0 := g0.trans hg; replace HB := Lib.hid (HB.out.own hg); clear hg) | ((with_reducible show wpList _ _ _ (⟨_, .store 28 (.tmp 5) (.tmp 13), _, _, _, none⟩ :: _) _ _); refine wpList_store_row rfl 28 (.tmp 5) (.tmp 13) rfl _ (cz 23 (s)) rfl rfl 28 _ (heap_new _ _) infoS rfl (cz_one _ _) ?_; rw [World.setRow_alloc_new]))
  obtain ⟨w2, B3, hW, hBq, hb, hg, B3g⟩ := blk_new w1 (cz 23 s) 28
  rw [hW, hBq]
  have H3 := Lib.hid hb
  replace g0 := g0.trans hg
  replace HB := Lib.hid (HB.out.own hg)
  clear hW hBq hb hg
  clear B3g
  go_upto_region 3 with (first | ((with_reducible show wpList _ _ _ (⟨_, .load 33 (.tmp 2), _, _, _, none⟩ :: _) _ _); refine wpList_load_row rfl 33 (.tmp 2) rfl B rfl 33 _ (0, 0) _ HB.out.raw Tryd.underlying33 rfl infoP ?_) | (go_at_call 17; with_reducible refine (rnot_at p s u c _ HP).mono ?_; rintro r w3 ⟨rfl, hg⟩; replace g0 := g0.trans hg; replace HB := Lib.hid (HB.out.own hg); replace H3 := Lib.hid (H3.out.own hg); clear hg) | ((with_reducible show wpList _ _ _ (⟨_, .store 28 (.tmp 7) (.tmp 19), _, _, _, none⟩ :: _) _ _); refine wpList_store_row rfl 28 (.tmp 7) (.tmp 19) rfl _ (cz 23 (s)) rfl rfl 28 _ (heap_new _ _) infoS rfl (cz_one _ _) ?_; rw [World.setRow_alloc_new]))
  obtain ⟨w4, B5, hW, hBq, hb, hg, B5g⟩ := blk_new w3 (cz 23 s) 28
  rw [hW, hBq]
  have H5 := Lib.hid hb
  replace g0 := g0.trans hg
  replace HB := Lib.hid (HB.out.own hg)
  replace H3 := Lib.hid (H3.out.own hg)
  clear hW hBq hb hg
  clear B5g
  refine RegD.region_duty [21, 22, 23, 24, 25, 26, 27, 28, 29, 30, 31, 32, 33, 34, 35, 36, 37, 38, 4] (RegI.upd (RegI.upd (RegI.upd (RegI.upd (RegI.upd (RegI.upd (RegI.upd (RegI.upd (RegI.upd (RegI.upd (RegI.upd (RegI.upd (RegI.upd (RegI.upd (RegI.upd (RegI.upd (RegI.upd (RegI.upd (RegI.upd (fun _ => undef) 21 (.agg (cz 22 p))) 22 (.int .i64 e)) 23 (.agg (cz 22 p))) 24 (.int .i64 e)) 25 (.bool true)) 26 (.bool true)) 27 (.agg (cz 23 s))) 28 (.agg (cz 23 s))) 29 (.bool true)) 30 (.bool true)) 31 (.bool true)) 32 (.int .i64 c)) 33 (.int .i64 c)) 34 (.bool true)) 35 (.bool true)) 36 (.bool true)) 37 (.bool true)) 38 (.bool true)) 4 (.bool true)) (by kernel_rfl) (by kernel_rfl) (by intro d hd; simp at hd; simp; omega) ?_
  simp only [RegD.FF, RegI.FX, RegI.upd, List.foldl_cons, List.foldl_nil, List.not_mem_nil, if_true, if_false, Nat.reduceEqDiff]
  simp only [List.setIfInBounds_toArray, List.set_cons_succ, List.set_cons_zero]
  refine And.intro ?hs ?he
  case hs =>
    refine And.intro ?s0 (And.intro ?s1 (And.intro ?s2 (And.intro ?s3 (And.intro ?s4 (And.intro ?s5 (And.intro ?s6 (And.intro ?s7 (And.intro ?s8 (And.intro ?s9 (And.intro ?s10 (And.intro ?s11 (And.intro ?s12 (And.intro ?s13 (And.intro ?s14 (And.intro ?s15 (And.intro ?s16 (And.intro ?s17 (And.intro ?s18 (trivial)))))))))))))))))))
    case s0 =>
      intro u w1 hO
      have HB9 := Lib.hid (HB.out.own hO)
      go_wp2_with ((with_reducible show wpList _ _ _ (⟨_, .load 33 (.tmp 2), _, _, _, none⟩ :: _) _ _); refine wpList_load_row rfl 33 (.tmp 2) rfl B rfl 33 _ (0, 0) _ HB9.out.raw Tryd.underlying33 rfl infoP ?_)
      exact ⟨rfl, rfl, rfl, Own.refl _⟩
    case s1 =>
      intro u w1 hO
      go_wp2_with (go_at_call 18; with_reducible refine (qvalid_at p e _ HC).mono ?_; rintro r w2 ⟨rfl, hg⟩)
      exact ⟨rfl, rfl, rfl, hg⟩
    case s2 =>
      intro u w1 hO
      have HB9 := Lib.hid (HB.out.own hO)
      go_wp2_with ((with_reducible show wpList _ _ _ (⟨_, .load 33 (.tmp 2), _, _, _, none⟩ :: _) _ _); refine wpList_load_row rfl 33 (.tmp 2) rfl B rfl 33 _ (0, 0) _ HB9.out.raw Tryd.underlying33 rfl infoP ?_)
      exact ⟨rfl, rfl, rfl, Own.refl _⟩
    case s3 =>
      intro u w1 hO
      go_wp2_with (go_at_call 19; with_reducible refine (rvalid_at p e _ HC).mono ?_; rintro r w2 ⟨rfl, hg⟩)
      exact ⟨rfl, rfl, rfl, hg⟩
    case s4 =>
      intro u w1 hO
      go_wp2
      exact ⟨rfl, rfl, rfl, Own.refl _⟩
    case s5 =>
      intro u w1 hO
      go_wp2
      exact ⟨rfl, rfl, rfl, Own.refl _⟩
    case s6 =>
      intro u w1 hO
      have HB9 := Lib.hid (H3.out.own hO)
      go_wp2_with ((with_reducible show wpList _ _ _ (⟨_, .load 28 (.tmp 5), _, _, _, some _⟩ :: _) _ _); refine wpList_load_row_g rfl 28 (.tmp 5) rfl B3 rfl 28 _ (0, 0) _ HB9.out.raw Tryd.underlying28 rfl infoS ?_)
      exact ⟨rfl, rfl, rfl, Own.refl _⟩
    case s7 =>
      intro u w1 hO
      have HB9 := Lib.hid (H5.out.own hO)
      go_wp2_with ((with_reducible show wpList _ _ _ (⟨_, .load 28 (.tmp 7), _, _, _, some _⟩ :: _) _ _); refine wpList_load_row_g rfl 28 (.tmp 7) rfl B5 rfl 28 _ (0, 0) _ HB9.out.raw Tryd.underlying28 rfl infoS ?_)
      exact ⟨rfl, rfl, rfl, Own.refl _⟩
    case s8 =>
      intro u w1 hO
      go_wp2
      exact ⟨rfl, rfl, rfl, Own.refl _⟩
    case s9 =>
      intro u w1 hO
      go_wp2
      exact ⟨rfl, rfl, rfl, Own.refl _⟩
    case s10 =>
      intro u w1 hO
      go_wp2
      exact ⟨rfl, rfl, rfl, Own.refl _⟩
    case s11 =>
      intro u w1 hO
      go_wp2
      exact ⟨rfl, rfl, rfl, Own.refl _⟩
    case s12 =>
      intro u w1 hO
      go_wp2
      exact ⟨rfl, rfl, rfl, Own.refl _⟩
    case s13 =>
      intro u w1 hO
      go_wp2
      exact ⟨rfl, rfl, rfl, Own.refl _⟩
    case s14 =>
      intro u w1 hO
      go_wp2
      exact ⟨rfl, rfl, rfl, Own.refl _⟩
    case s15 =>
      intro u w1 hO
      go_wp2
      exact ⟨rfl, rfl, rfl, Own.refl _⟩
    case s16 =>
      intro u w1 hO
      go_wp2_with (go_at_call 15; with_reducible refine (awake_at _ (Lib.hid (HD.out.own (g0.trans hO))) (Lib.hid (AimW.tab_own HT.out (g0.trans hO)))).mono ?_; rintro r w2 ⟨rfl, hg⟩)
      exact ⟨rfl, rfl, rfl, hg⟩
    case s17 =>
      intro u w1 hO
      go_wp2
      exact ⟨rfl, rfl, rfl, Own.refl _⟩
    case s18 =>
      intro u w1 hO
      go_wp2
      exact ⟨rfl, rfl, rfl, Own.refl _⟩
  case he =>
    intro u w9 hO
    replace g0 := g0.trans hO
    go_wp2
    go_ret
    exact ⟨by first | rfl | (exact ret_bool (by simp)), g0⟩
end Go.Proofs.YtneobaininejaaaDoor.PstL
