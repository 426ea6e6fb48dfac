/-
  Walks of the laws of package joints: JointsOf, JointsEnd, JointsDist. Condition: the table of sines, the table of bounds and the numbers of both sides lie in memory.
-/
import Derived.Test.YtephoakgphcnnaaDoorJointsT
import Derived.Test.YtephoakgphcnnaaDoorJointsB
namespace Go.Proofs.YtephoakgphcnnaaDoor.JntL
open Go.ChangeShapes Go.WideShapes Go.ChangeAt Go.RowKit
open JntW PairW AimP AimW BlkW PrtW PstP PstW JntP RegD
set_option maxRecDepth 100000 in
set_option maxHeartbeats 40000000 in
theorem JointsOf_walk (b p : Vl) (s : Int) (w : World) (HT : Hid (AngW.Tab w)) (HBT : Hid (BuiW.Tab w)) (HS : Hid (Sds w)) :
    Calls Tryd.prog 3 #[.agg (cz 15 b), .agg (cz 22 p), .int .i64 s] w fun r w' => r = .returned (.bool true) ∧ Own w w' := by
  obtain ⟨j, hj⟩ : ∃ f, joV b p s = f := ⟨_, rfl⟩
  obtain ⟨c, hc⟩ : ∃ c, joE b p s = c := ⟨_, rfl⟩
  have HJ := Lib.hid (show cz 33 (joV b p s) = cz 33 j ∧ joE b p s = c from ⟨by rw [hj], hc⟩)
  clear hj hc
  go_enter Tryd.func3, Tryd.ntmps3
  go_upto_region 1 with (fail)
  obtain ⟨W0, B, P, hW, hC, hBq, hb, hc, g0, -, -, -⟩ := two_new w (cz 15 b) 24 (cz 22 p) 31
  rw [hW, hC, hBq]
  have HB := Lib.hid hb
  have HP := Lib.hid hc
  clear hW hC hBq hb hc
  go_upto_region 2 with (first | ((with_reducible show wpList _ _ _ (⟨_, .load 24 (.tmp 3), _, _, _, none⟩ :: _) _ _); refine wpList_load_row rfl 24 (.tmp 3) rfl B rfl 24 _ (0, 0) _ HB.out.raw Tryd.underlying24 rfl infoB ?_) | ((with_reducible show wpList _ _ _ (⟨_, .load 31 (.tmp 4), _, _, _, none⟩ :: _) _ _); refine wpList_load_row rfl 31 (.tmp 4) rfl P rfl 31 _ (0, 0) _ HP.out.raw Tryd.underlying31 rfl infoP ?_) | (go_at_call 10; with_reducible refine (jof_at b p j s c _ (Lib.hid (tab_own HT.out g0)) (Lib.hid (HBT.out.own g0)) (Lib.hid (HS.out.own g0)) HJ).mono ?_; rintro r w1 ⟨rfl, hg⟩; replace g0 := g0.trans hg; replace HB := Lib.hid (HB.out.own hg); replace HP := Lib.hid (HP.out.own hg); clear hg) | ((with_reducible show wpList _ _ _ (⟨_, .store 36 (.tmp 7) (.tmp 16), _, _, _, none⟩ :: _) _ _); refine wpList_store_row rfl 36 (.tmp 7) (.tmp 16) rfl _ (cz 33 (j)) rfl rfl 36 _ (heap_new _ _) infoJ rfl (cz_one _ _) ?_; rw [World.setRow_alloc_new]))
  obtain ⟨w2, J1, hW, hBq, hb, hg, J1g⟩ := blk_new w1 (cz 33 j) 36
  rw [hW, hBq]
  have HJ1 := Lib.hid hb
  replace g0 := g0.trans hg
  replace HB := Lib.hid (HB.out.own hg)
  replace HP := Lib.hid (HP.out.own hg)
  clear hW hBq hb hg
  clear J1g
  go_upto_region 3 with (first | ((with_reducible show wpList _ _ _ (⟨_, .load 24 (.tmp 3), _, _, _, none⟩ :: _) _ _); refine wpList_load_row rfl 24 (.tmp 3) rfl B rfl 24 _ (0, 0) _ HB.out.raw Tryd.underlying24 rfl infoB ?_) | ((with_reducible show wpList _ _ _ (⟨_, .load 31 (.tmp 4), _, _, _, none⟩ :: _) _ _); refine wpList_load_row rfl 31 (.tmp 4) rfl P rfl 31 _ (0, 0) _ HP.out.raw Tryd.underlying31 rfl infoP ?_) | (go_at_call 11; with_reducible refine (rof_at b p j s c _ HJ).mono ?_; rintro r w3 ⟨rfl, hg⟩; replace g0 := g0.trans hg; replace HJ1 := Lib.hid (HJ1.out.own hg); clear hg) | ((with_reducible show wpList _ _ _ (⟨_, .store 36 (.tmp 9) (.tmp 23), _, _, _, none⟩ :: _) _ _); refine wpList_store_row rfl 36 (.tmp 9) (.tmp 23) rfl _ (cz 33 (j)) rfl rfl 36 _ (heap_new _ _) infoJ rfl (cz_one _ _) ?_; rw [World.setRow_alloc_new]))
  obtain ⟨w4, J2, hW, hBq, hb, hg, J2g⟩ := blk_new w3 (cz 33 j) 36
  rw [hW, hBq]
  have HJ2 := Lib.hid hb
  replace g0 := g0.trans hg
  replace HJ1 := Lib.hid (HJ1.out.own hg)
  clear hW hBq hb hg
  clear J2g
  clear HB HP
  go_wp2_with (first | ((with_reducible show wpList _ _ _ (⟨_, .load 36 (.tmp 7), _, _, _, none⟩ :: _) _ _); refine wpList_load_row rfl 36 (.tmp 7) rfl J1 rfl 36 _ (0, 0) _ HJ1.out.raw Tryd.underlying36 rfl infoJ ?_) | ((with_reducible show wpList _ _ _ (⟨_, .load 36 (.tmp 9), _, _, _, none⟩ :: _) _ _); refine wpList_load_row rfl 36 (.tmp 9) rfl J2 rfl 36 _ (0, 0) _ HJ2.out.raw Tryd.underlying36 rfl infoJ ?_) | (go_at_call 12; with_reducible refine (awake_at _ (Lib.hid (tab_own HT.out g0)) (Lib.hid (HBT.out.own g0)) (Lib.hid (HS.out.own g0))).mono ?_; rintro r w99 ⟨rfl, hg⟩; replace g0 := g0.trans hg; clear hg))
  go_ret
  exact ⟨by first | rfl | (exact ret_bool (by simp)), g0⟩
set_option maxRecDepth 100000 in
set_option maxHeartbeats 40000000 in
theorem JointsEnd_walk (j : Vl) (l : Int) (w : World) (HT : Hid (AngW.Tab w)) (HBT : Hid (BuiW.Tab w)) (HS : Hid (Sds w)) :
    Calls Tryd.prog 8 #[.agg (cz 33 j), .int .i64 l] w fun r w' => r = .returned (.bool true) ∧ Own w w' := by
  obtain ⟨x, h1⟩ : ∃ x, enX j l = x := ⟨_, rfl⟩
  obtain ⟨y, h2⟩ : ∃ x, enY j l = x := ⟨_, rfl⟩
  obtain ⟨z, h3⟩ : ∃ x, enZ j l = x := ⟨_, rfl⟩
  obtain ⟨c, h4⟩ : ∃ x, enE l = x := ⟨_, rfl⟩
  obtain ⟨m, h5⟩ : ∃ x, loZ j = x := ⟨_, rfl⟩
  have HE := Lib.hid (And.intro h1 (And.intro h2 (And.intro h3 h4)))
  have HM := Lib.hid h5
  clear h1 h2 h3 h4 h5
  go_enter Tryd.func8, Tryd.ntmps8
  go_upto_region 1 with (fail)
  obtain ⟨W0, B, hW, hBq, hb, g0, -⟩ := blk_new w (cz 33 j) 36
  rw [hW, hBq]
  have HB := Lib.hid hb
  clear hW hBq hb
  go_upto_region 2 with (first | ((with_reducible show wpList _ _ _ (⟨_, .load 36 (.tmp 2), _, _, _, none⟩ :: _) _ _); refine wpList_load_row rfl 36 (.tmp 2) rfl B rfl 36 _ (0, 0) _ HB.out.raw Tryd.underlying36 rfl infoJ ?_) | (go_at_call 24; with_reducible refine (jend_at j l x y z c _ (Lib.hid (HS.out.own g0)) HE).mono ?_; rintro r w1 ⟨rfl, hg⟩; replace g0 := g0.trans hg; replace HB := Lib.hid (HB.out.own hg); clear hg) | ((with_reducible show wpList _ _ _ (⟨_, .store 33 (.tmp 5) (.tmp 13), _, _, _, none⟩ :: _) _ _); refine wpList_store_row rfl 33 (.tmp 5) (.tmp 13) rfl _ #[.int .i64 x, .int .i64 y, .int .i64 z] rfl rfl 33 _ (heap_new _ _) infoV rfl (by simp [Value.oneCell']) ?_; rw [World.setRow_alloc_new]))
  obtain ⟨w2, B5, hW, hBq, hb, hg, B5g⟩ := blk_new w1 (#[.int .i64 x, .int .i64 y, .int .i64 z]) 33
  rw [hW, hBq]
  have H5 := Lib.hid hb
  replace g0 := g0.trans hg
  replace HB := Lib.hid (HB.out.own hg)
  clear hW hBq hb hg
  clear B5g
  go_upto_region 3 with (first | ((with_reducible show wpList _ _ _ (⟨_, .load 36 (.tmp 2), _, _, _, none⟩ :: _) _ _); refine wpList_load_row rfl 36 (.tmp 2) rfl B rfl 36 _ (0, 0) _ HB.out.raw Tryd.underlying36 rfl infoJ ?_) | (go_at_call 25; with_reducible refine (rend_at j l x y z c _ HE).mono ?_; rintro r w3 ⟨rfl, hg⟩; replace g0 := g0.trans hg; replace HB := Lib.hid (HB.out.own hg); replace H5 := Lib.hid (H5.out.own hg); clear hg) | ((with_reducible show wpList _ _ _ (⟨_, .store 33 (.tmp 7) (.tmp 19), _, _, _, none⟩ :: _) _ _); refine wpList_store_row rfl 33 (.tmp 7) (.tmp 19) rfl _ #[.int .i64 x, .int .i64 y, .int .i64 z] rfl rfl 33 _ (heap_new _ _) infoV rfl (by simp [Value.oneCell']) ?_; rw [World.setRow_alloc_new]))
  obtain ⟨w4, B7, hW, hBq, hb, hg, B7g⟩ := blk_new w3 (#[.int .i64 x, .int .i64 y, .int .i64 z]) 33
  rw [hW, hBq]
  have H7 := Lib.hid hb
  replace g0 := g0.trans hg
  replace HB := Lib.hid (HB.out.own hg)
  replace H5 := Lib.hid (H5.out.own hg)
  clear hW hBq hb hg
  clear B7g
  (first | go_frame | skip)
  refine RegD.region_duty [21, 22, 23, 24, 25, 26, 27, 28, 29, 30, 31, 32, 33, 34, 35, 36, 37, 38, 4] (RegI.upd (RegI.upd (RegI.upd (RegI.upd (RegI.upd (RegI.upd (RegI.upd (RegI.upd (RegI.upd (RegI.upd (RegI.upd (RegI.upd (RegI.upd (RegI.upd (RegI.upd (RegI.upd (RegI.upd (RegI.upd (RegI.upd (fun _ => undef) 21 (.agg #[.int .i64 x, .int .i64 y, .int .i64 z])) 22 (.agg #[.int .i64 x, .int .i64 y, .int .i64 z])) 23 (.bool true)) 24 (.bool true)) 25 (.int .i64 c)) 26 (.int .i64 c)) 27 (.bool true)) 28 (.bool true)) 29 (.bool true)) 30 (.agg (cz 33 j))) 31 (.int .i64 m)) 32 (.agg (cz 33 j))) 33 (.int .i64 m)) 34 (.bool true)) 35 (.bool true)) 36 (.bool true)) 37 (.bool true)) 38 (.bool true)) 4 (.bool true)) (by kernel_rfl) (by kernel_rfl) (by intro d hd; simp at hd; simp; omega) ?_
  simp only [RegD.FF, RegI.FX, RegI.upd, List.foldl_cons, List.foldl_nil, List.not_mem_nil, if_true, if_false, Nat.reduceEqDiff]
  simp only [List.setIfInBounds_toArray, List.set_cons_succ, List.set_cons_zero]
  refine And.intro ?hs1 ?he1
  case hs1 =>
    refine And.intro ?s1_0 (And.intro ?s1_1 (And.intro ?s1_2 (And.intro ?s1_3 (And.intro ?s1_4 (And.intro ?s1_5 (And.intro ?s1_6 (And.intro ?s1_7 (And.intro ?s1_8 (And.intro ?s1_9 (And.intro ?s1_10 (And.intro ?s1_11 (And.intro ?s1_12 (And.intro ?s1_13 (And.intro ?s1_14 (And.intro ?s1_15 (And.intro ?s1_16 (And.intro ?s1_17 (And.intro ?s1_18 (trivial)))))))))))))))))))
    case s1_0 =>
      intro u w1 hO
      have HB9 := Lib.hid (H5.out.own hO)
      go_wp2_with ((with_reducible show wpList _ _ _ (⟨_, .load 33 (.tmp 5), _, _, _, none⟩ :: _) _ _); refine wpList_load_row rfl 33 (.tmp 5) rfl B5 rfl 33 _ (0, 0) _ HB9.out.raw Tryd.underlying33 rfl infoV ?_)
      exact ⟨rfl, rfl, rfl, Own.refl _⟩
    case s1_1 =>
      intro u w1 hO
      have HB9 := Lib.hid (H7.out.own hO)
      go_wp2_with ((with_reducible show wpList _ _ _ (⟨_, .load 33 (.tmp 7), _, _, _, none⟩ :: _) _ _); refine wpList_load_row rfl 33 (.tmp 7) rfl B7 rfl 33 _ (0, 0) _ HB9.out.raw Tryd.underlying33 rfl infoV ?_)
      exact ⟨rfl, rfl, rfl, Own.refl _⟩
    case s1_2 =>
      intro u w1 hO
      go_wp2
      exact ⟨rfl, rfl, rfl, Own.refl _⟩
    case s1_3 =>
      intro u w1 hO
      go_wp2
      exact ⟨rfl, rfl, rfl, Own.refl _⟩
    case s1_4 =>
      intro u w1 hO
      go_wp2
      exact ⟨rfl, rfl, rfl, Own.refl _⟩
    case s1_5 =>
      intro u w1 hO
      go_wp2
      exact ⟨rfl, rfl, rfl, Own.refl _⟩
    case s1_6 =>
      intro u w1 hO
      go_wp2
      exact ⟨rfl, rfl, rfl, Own.refl _⟩
    case s1_7 =>
      intro u w1 hO
      go_wp2
      exact ⟨rfl, rfl, rfl, Own.refl _⟩
    case s1_8 =>
      intro u w1 hO
      go_wp2
      exact ⟨rfl, rfl, rfl, Own.refl _⟩
    case s1_9 =>
      intro u w1 hO
      have HB9 := Lib.hid (HB.out.own hO)
      go_wp2_with ((with_reducible show wpList _ _ _ (⟨_, .load 36 (.tmp 2), _, _, _, some _⟩ :: _) _ _); refine wpList_load_row_g rfl 36 (.tmp 2) rfl B rfl 36 _ (0, 0) _ HB9.out.raw Tryd.underlying36 rfl infoJ ?_)
      exact ⟨rfl, rfl, rfl, Own.refl _⟩
    case s1_10 =>
      intro u w1 hO
      go_wp2_with (go_at_call 16; with_reducible refine (jlow_at j m _ (Lib.hid (HS.out.own (g0.trans hO))) HM).mono ?_; rintro r w2 ⟨rfl, hg⟩)
      exact ⟨rfl, rfl, rfl, hg⟩
    case s1_11 =>
      intro u w1 hO
      have HB9 := Lib.hid (HB.out.own hO)
      go_wp2_with ((with_reducible show wpList _ _ _ (⟨_, .load 36 (.tmp 2), _, _, _, some _⟩ :: _) _ _); refine wpList_load_row_g rfl 36 (.tmp 2) rfl B rfl 36 _ (0, 0) _ HB9.out.raw Tryd.underlying36 rfl infoJ ?_)
      exact ⟨rfl, rfl, rfl, Own.refl _⟩
    case s1_12 =>
      intro u w1 hO
      go_wp2_with (go_at_call 26; with_reducible refine (rlow_at j m _ HM).mono ?_; rintro r w2 ⟨rfl, hg⟩)
      exact ⟨rfl, rfl, rfl, hg⟩
    case s1_13 =>
      intro u w1 hO
      go_wp2
      exact ⟨rfl, rfl, rfl, Own.refl _⟩
    case s1_14 =>
      intro u w1 hO
      go_wp2
      exact ⟨rfl, rfl, rfl, Own.refl _⟩
    case s1_15 =>
      intro u w1 hO
      go_wp2
      exact ⟨rfl, rfl, rfl, Own.refl _⟩
    case s1_16 =>
      intro u w1 hO
      go_wp2_with (go_at_call 12; with_reducible refine (awake_at _ (Lib.hid (tab_own HT.out (g0.trans hO))) (Lib.hid (HBT.out.own (g0.trans hO))) (Lib.hid (HS.out.own (g0.trans hO)))).mono ?_; rintro r w2 ⟨rfl, hg⟩)
      exact ⟨rfl, rfl, rfl, hg⟩
    case s1_17 =>
      intro u w1 hO
      go_wp2
      exact ⟨rfl, rfl, rfl, Own.refl _⟩
    case s1_18 =>
      intro u w1 hO
      go_wp2
      exact ⟨rfl, rfl, rfl, Own.refl _⟩
  intro u w9 hO
  replace g0 := g0.trans hO
  clear hO
  go_wp2
  go_ret
  exact ⟨by first | rfl | (exact ret_bool (by simp)), g0⟩
set_option maxRecDepth 100000 in
set_option maxHeartbeats 40000000 in
theorem JointsDist_walk (x y z u v t : Int) (w : World) (HT : Hid (AngW.Tab w)) (HBT : Hid (BuiW.Tab w)) (HS : Hid (Sds w)) :
    Calls Tryd.prog 9 #[.agg #[.int .i64 x, .int .i64 y, .int .i64 z], .agg #[.int .i64 u, .int .i64 v, .int .i64 t]] w fun r w' => r = .returned (.bool true) ∧ Own w w' := by
  obtain ⟨m, h1⟩ : ∃ q, dsV x y z u v t = q := ⟨_, rfl⟩
  obtain ⟨c, h2⟩ : ∃ q, dsE x y z u v t = q := ⟨_, rfl⟩
  have H1 := Lib.hid (show dsV x y z u v t = m ∧ dsE x y z u v t = c from ⟨h1, h2⟩)
  have H2 := Lib.hid (show dsV u v t x y z = m ∧ dsE u v t x y z = c from ⟨(ds_flip x y z u v t).2.trans h1, (ds_flip x y z u v t).1.trans h2⟩)
  clear h1 h2
  go_enter Tryd.func9, Tryd.ntmps9
  go_upto_region 1 with (fail)
  obtain ⟨W0, B, C, hW, hC, hBq, hb, hc, g0, -, -, -⟩ := two_new w (#[.int .i64 x, .int .i64 y, .int .i64 z]) 33 (#[.int .i64 u, .int .i64 v, .int .i64 t]) 33
  rw [hW, hC, hBq]
  have HB := Lib.hid hb
  have HC := Lib.hid hc
  clear hW hC hBq hb hc
  go_wp2_with (first | ((with_reducible show wpList _ _ _ (⟨_, .load 33 (.tmp 2), _, _, _, none⟩ :: _) _ _); refine wpList_load_row rfl 33 (.tmp 2) rfl B rfl 33 _ (0, 0) _ HB.out.raw Tryd.underlying33 rfl infoV ?_) | ((with_reducible show wpList _ _ _ (⟨_, .load 33 (.tmp 3), _, _, _, none⟩ :: _) _ _); refine wpList_load_row rfl 33 (.tmp 3) rfl C rfl 33 _ (0, 0) _ HC.out.raw Tryd.underlying33 rfl infoV ?_) | (go_at_call 23; with_reducible refine (jds_at x y z u v t m c _ H1).mono ?_; rintro r w1 ⟨rfl, hg⟩; replace g0 := g0.trans hg; replace HB := Lib.hid (HB.out.own hg); replace HC := Lib.hid (HC.out.own hg); clear hg) | (go_at_call 23; with_reducible refine (jds_at u v t x y z m c _ H2).mono ?_; rintro r w1 ⟨rfl, hg⟩; replace g0 := g0.trans hg; replace HB := Lib.hid (HB.out.own hg); replace HC := Lib.hid (HC.out.own hg); clear hg) | (go_at_call 27; with_reducible refine (rds_at x y z u v t m c _ H1).mono ?_; rintro r w2 ⟨rfl, hg⟩; replace g0 := g0.trans hg; replace HB := Lib.hid (HB.out.own hg); replace HC := Lib.hid (HC.out.own hg); clear hg) | (go_at_call 12; with_reducible refine (awake_at _ (Lib.hid (tab_own HT.out g0)) (Lib.hid (HBT.out.own g0)) (Lib.hid (HS.out.own g0))).mono ?_; rintro r w99 ⟨rfl, hg⟩; replace g0 := g0.trans hg; clear hg))
  go_ret
  exact ⟨by first | rfl | (exact ret_bool (by simp)), g0⟩
end Go.Proofs.YtephoakgphcnnaaDoor.JntL
