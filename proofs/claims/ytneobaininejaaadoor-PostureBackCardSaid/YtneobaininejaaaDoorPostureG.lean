/-
  Walks of the specification of layer posture: Rotate, RotatePose. Condition: none.
-/
import Derived.Test.YtneobaininejaaaDoorPostureD
import Derived.Test.YtneobaininejaaaDoorRegBase
namespace Go.Proofs.YtneobaininejaaaDoor.PstW
open Go.ChangeShapes Go.WideShapes Go.ChangeAt Go.RowKit
open PairW AimP AimW BlkW PrtW PstP
theorem bld_rot23 (x y f l u : Int) (g : Vl) : Tryd.prog.built 28 [(0, .agg #[.int .i64 x, .int .i64 y]), (1, .int .i64 f), (2, .int .i64 l), (3, .int .i64 u), (4, .agg (cz 18 g))] = some (cz 23 (st5 x y f l u g)) := by kernel_rfl
theorem bld_rot22 (x y f l : Int) (g : Vl) : Tryd.prog.built 33 [(0, .agg #[.int .i64 x, .int .i64 y]), (1, .int .i64 f), (2, .int .i64 l), (3, .agg (cz 18 g))] = some (cz 22 (ps4 x y f l g)) := by kernel_rfl
/-- Two blocks, and the world between. -/
theorem two_newv (w : World) (c1 : Array Value) (T1 : TypeId) (c2 : Array Value) (T2 : TypeId) :
    ∃ W B C V, (w.alloc (.cells c1 T1)).alloc (.cells c2 T2) = W ∧ w.heap.size + 1 = C ∧ w.heap.size = B ∧ Blk V B c1 T1 ∧ Blk W C c2 T2 ∧ Own w V ∧ Own V W ∧ V.heap.size ≤ C := by
  refine ⟨_, _, _, w.alloc (.cells c1 T1), rfl, rfl, rfl, Blk.new w c1 T1, ?_, (Own.refl w).alloc _, (Own.refl _).alloc _, ?_⟩
  · have := Blk.new (w.alloc (.cells c1 T1)) c2 T2
    rw [size_alloc] at this
    exact this
  · rw [size_alloc]
    exact Nat.le_refl _
set_option maxRecDepth 100000 in
set_option maxHeartbeats 2000000 in
theorem rrotate_any (s : Vl) (n : Int) (w : World) :
    Calls Tryd.prog 25 #[.agg (cz 23 s), .int .i64 n] w fun r w' => r = .returned (.tuple #[.agg (cz 23 (roV s n)), .int .i64 (stE s)]) ∧ Own w w' := by
  by_cases h : stE s = 0
  · obtain ⟨⟨b0, b1, b2, b3, b4⟩, -, -⟩ := st_yes h
    have HC := Lib.hid h
    obtain ⟨q, hq⟩ : ∃ q, n % 4 = q := ⟨_, rfl⟩
    have bq : 0 ≤ q ∧ q ≤ 3 := by omega
    obtain ⟨X, hX⟩ : ∃ x, tuX q (s 0) (s 1) = x := ⟨_, rfl⟩
    obtain ⟨Y, hY⟩ : ∃ x, tuY q (s 0) (s 1) = x := ⟨_, rfl⟩
    obtain ⟨f8, hf8⟩ : ∃ x, (s 2 + 2 * q) % 8 = x := ⟨_, rfl⟩
    have bs : 0 ≤ s 2 + 2 * q := by omega
    have HF8 := Lib.hid (show (s 2 + 2 * q) % 8 = f8 ∧ (s 2 + 2 * q).tmod 8 = f8 from ⟨hf8, by rw [Int.tmod_eq_emod_of_nonneg bs]; exact hf8⟩)
    have HQ := Lib.hid hq
    have HXY := Lib.hid (And.intro hX hY)
    have HV := Lib.hid (show cz 23 (st5 X Y f8 (s 3) (s 4) (fun j => s (5 + j))) = cz 23 (roV s n) by rw [roV_yes h, ← hX, ← hY, ← hf8, ← hq]; rfl)
    rw [h]
    clear hq hX hY h hf8
    go_enter Tryd.func25, Tryd.ntmps25
    go_upto_region 1 with (fail)
    obtain ⟨W0, B, P, V, hW, hP, hB, hv, hp, g0, gv, hVP⟩ := two_newv w (cz 23 s) 28 (cz 23 nul) 28
    rw [← cz23_nul] at hW
    rw [hW, hP, hB]
    have HB := Lib.hid (hv.own gv)
    have HP := Lib.hid hp
    have HBV := Lib.hid hv
    have hP0 : w.heap.size ≤ P := Nat.le_trans g0.size hVP
    clear hW hP hB hv hp

    go_upto_region 4 with (first | ((with_reducible show wpList _ _ _ (⟨_, .load 28 (.tmp 2), _, _, _, none⟩ :: _) _ _); refine wpList_load_row rfl 28 (.tmp 2) rfl B rfl 28 _ (0, 0) _ HB.out.raw Tryd.underlying28 rfl infoS ?_) | (go_at_call 14; with_reducible refine (rcheck_at s 0 _ HC).mono ?_; rintro r w1 ⟨rfl, hg⟩; replace gv := gv.trans hg; replace HP := Lib.hid (HP.out.own hg); clear hg))
    refine RegD.region_put [13, 14, 15, 16, 17, 18, 19, 20, 21, 22, 23, 24, 25, 26, 27, 28, 29, 30, 5] 18 (RegI.upd (RegI.upd (RegI.upd (RegI.upd (RegI.upd (RegI.upd (RegI.upd (RegI.upd (RegI.upd (RegI.upd (RegI.upd (RegI.upd (RegI.upd (RegI.upd (RegI.upd (RegI.upd (RegI.upd (RegI.upd (RegI.upd (fun _ => undef) 13 (.pointer (some ⟨B, 0, none⟩))) 14 (.agg #[.int .i64 (s 0), .int .i64 (s 1)])) 15 (.int .i64 n)) 16 (.agg #[.int .i64 X, .int .i64 Y])) 17 (.pointer (some ⟨B, 2, none⟩))) 18 (.int .i64 (s 2))) 19 (.int .i64 n)) 20 (.int .i64 q)) 21 (.int .i64 (2 * q))) 22 (.int .i64 (s 2 + 2 * q))) 23 (.int .i64 f8)) 24 (.pointer (some ⟨B, 3, none⟩))) 25 (.int .i64 (s 3))) 26 (.pointer (some ⟨B, 4, none⟩))) 27 (.int .i64 (s 4))) 28 (.pointer (some ⟨B, 5, none⟩))) 29 (.agg (cz 18 (fun j => s (5 + j))))) 30 (.agg (cz 23 (st5 X Y f8 (s 3) (s 4) (fun j => s (5 + j)))))) 5 (.int .i64 0)) V P (cz 23 nul) (cz 23 (st5 X Y f8 (s 3) (s 4) (fun j => s (5 + j)))) 28 (by kernel_rfl) (by kernel_rfl) (by decide) (by intro d hd; simp at hd; simp; omega) gv HP.out ?hs ?he
    case hs =>
      refine And.intro ?s0 (And.intro ?s1 (And.intro ?s2 (And.intro ?s3 (And.intro ?s4 (And.intro ?s5 (And.intro ?s6 (And.intro ?s7 (And.intro ?s8 (And.intro ?s9 (And.intro ?s10 (And.intro ?s11 (And.intro ?s12 (And.intro ?s13 (And.intro ?s14 (And.intro ?s15 (And.intro ?s16 (And.intro ?s17 (And.intro ?s18 (And.intro ?s19 (trivial))))))))))))))))))))
      case s0 =>
        refine RegD.det_put (by decide) (fun u w1 hO => ?_)
        simp only [RegD.FF, RegI.FX, RegI.upd, List.foldl_cons, List.foldl_nil, List.not_mem_nil, if_true, if_false, Nat.reduceEqDiff]
        simp only [List.setIfInBounds_toArray, List.set_cons_succ, List.set_cons_zero]
        go_wp2
        exact ⟨rfl, rfl, rfl, Own.refl _⟩
      case s1 =>
        refine RegD.det_put (by decide) (fun u w1 hO => ?_)
        have HB9 := Lib.hid (HBV.out.own hO)
        simp only [RegD.FF, RegI.FX, RegI.upd, List.foldl_cons, List.foldl_nil, List.not_mem_nil, if_true, if_false, Nat.reduceEqDiff]
        simp only [List.setIfInBounds_toArray, List.set_cons_succ, List.set_cons_zero]
        go_wp2_with ((with_reducible show wpList _ _ _ (⟨_, .load 23 (.tmp 13), _, _, _, none⟩ :: _) _ _); refine wpList_load_part rfl 23 (.tmp 13) rfl B (0) rfl 2 HB9.out (by omega) (#[.int .i64 (s 0), .int .i64 (s 1)]) rfl _ Tryd.underlying23 rfl infoPt ?_)
        exact ⟨rfl, rfl, rfl, Own.refl _⟩
      case s2 =>
        refine RegD.det_put (by decide) (fun u w1 hO => ?_)
        simp only [RegD.FF, RegI.FX, RegI.upd, List.foldl_cons, List.foldl_nil, List.not_mem_nil, if_true, if_false, Nat.reduceEqDiff]
        simp only [List.setIfInBounds_toArray, List.set_cons_succ, List.set_cons_zero]
        go_wp2
        exact ⟨rfl, rfl, rfl, Own.refl _⟩
      case s3 =>
        refine RegD.det_put (by decide) (fun u w1 hO => ?_)
        simp only [RegD.FF, RegI.FX, RegI.upd, List.foldl_cons, List.foldl_nil, List.not_mem_nil, if_true, if_false, Nat.reduceEqDiff]
        simp only [List.setIfInBounds_toArray, List.set_cons_succ, List.set_cons_zero]
        go_wp2_with (go_at_call 59; with_reducible refine (rtur_at (s 0) (s 1) n q X Y _ b0 b1 HQ HXY).mono ?_; rintro r w2 ⟨rfl, hg⟩)
        exact ⟨rfl, rfl, rfl, hg⟩
      case s4 =>
        refine RegD.det_put (by decide) (fun u w1 hO => ?_)
        simp only [RegD.FF, RegI.FX, RegI.upd, List.foldl_cons, List.foldl_nil, List.not_mem_nil, if_true, if_false, Nat.reduceEqDiff]
        simp only [List.setIfInBounds_toArray, List.set_cons_succ, List.set_cons_zero]
        go_wp2
        exact ⟨rfl, rfl, rfl, Own.refl _⟩
      case s5 =>
        refine RegD.det_put (by decide) (fun u w1 hO => ?_)
        have k := blk_num (HBV.out.own hO) (i := 2) (by omega)
        simp only [RegD.FF, RegI.FX, RegI.upd, List.foldl_cons, List.foldl_nil, List.not_mem_nil, if_true, if_false, Nat.reduceEqDiff]
        simp only [List.setIfInBounds_toArray, List.set_cons_succ, List.set_cons_zero]
        go_wp2
        exact ⟨rfl, rfl, rfl, Own.refl _⟩
      case s6 =>
        refine RegD.det_put (by decide) (fun u w1 hO => ?_)
        simp only [RegD.FF, RegI.FX, RegI.upd, List.foldl_cons, List.foldl_nil, List.not_mem_nil, if_true, if_false, Nat.reduceEqDiff]
        simp only [List.setIfInBounds_toArray, List.set_cons_succ, List.set_cons_zero]
        go_wp2
        exact ⟨rfl, rfl, rfl, Own.refl _⟩
      case s7 =>
        refine RegD.det_put (by decide) (fun u w1 hO => ?_)
        simp only [RegD.FF, RegI.FX, RegI.upd, List.foldl_cons, List.foldl_nil, List.not_mem_nil, if_true, if_false, Nat.reduceEqDiff]
        simp only [List.setIfInBounds_toArray, List.set_cons_succ, List.set_cons_zero]
        go_wp2_with (go_at_call 60; with_reducible refine (rquar_at n q _ HQ).mono ?_; rintro r w1 ⟨rfl, rfl⟩)
        exact ⟨rfl, rfl, rfl, Own.refl _⟩
      case s8 =>
        refine RegD.det_put (by decide) (fun u w1 hO => ?_)
        simp only [RegD.FF, RegI.FX, RegI.upd, List.foldl_cons, List.foldl_nil, List.not_mem_nil, if_true, if_false, Nat.reduceEqDiff]
        simp only [List.setIfInBounds_toArray, List.set_cons_succ, List.set_cons_zero]
        go_wp2
        exact ⟨rfl, rfl, rfl, Own.refl _⟩
      case s9 =>
        refine RegD.det_put (by decide) (fun u w1 hO => ?_)
        simp only [RegD.FF, RegI.FX, RegI.upd, List.foldl_cons, List.foldl_nil, List.not_mem_nil, if_true, if_false, Nat.reduceEqDiff]
        simp only [List.setIfInBounds_toArray, List.set_cons_succ, List.set_cons_zero]
        go_wp2
        exact ⟨rfl, rfl, rfl, Own.refl _⟩
      case s10 =>
        refine RegD.det_put (by decide) (fun u w1 hO => ?_)
        have e1 := HF8.out.1
        have e3 := HF8.out.2
        simp only [RegD.FF, RegI.FX, RegI.upd, List.foldl_cons, List.foldl_nil, List.not_mem_nil, if_true, if_false, Nat.reduceEqDiff]
        simp only [List.setIfInBounds_toArray, List.set_cons_succ, List.set_cons_zero]
        go_wp2
        exact ⟨rfl, rfl, rfl, Own.refl _⟩
      case s11 =>
        refine RegD.det_put (by decide) (fun u w1 hO => ?_)
        simp only [RegD.FF, RegI.FX, RegI.upd, List.foldl_cons, List.foldl_nil, List.not_mem_nil, if_true, if_false, Nat.reduceEqDiff]
        simp only [List.setIfInBounds_toArray, List.set_cons_succ, List.set_cons_zero]
        go_wp2
        exact ⟨rfl, rfl, rfl, Own.refl _⟩
      case s12 =>
        refine RegD.det_put (by decide) (fun u w1 hO => ?_)
        have k := blk_num (HBV.out.own hO) (i := 3) (by omega)
        simp only [RegD.FF, RegI.FX, RegI.upd, List.foldl_cons, List.foldl_nil, List.not_mem_nil, if_true, if_false, Nat.reduceEqDiff]
        simp only [List.setIfInBounds_toArray, List.set_cons_succ, List.set_cons_zero]
        go_wp2
        exact ⟨rfl, rfl, rfl, Own.refl _⟩
      case s13 =>
        refine RegD.det_put (by decide) (fun u w1 hO => ?_)
        simp only [RegD.FF, RegI.FX, RegI.upd, List.foldl_cons, List.foldl_nil, List.not_mem_nil, if_true, if_false, Nat.reduceEqDiff]
        simp only [List.setIfInBounds_toArray, List.set_cons_succ, List.set_cons_zero]
        go_wp2
        exact ⟨rfl, rfl, rfl, Own.refl _⟩
      case s14 =>
        refine RegD.det_put (by decide) (fun u w1 hO => ?_)
        have k := blk_num (HBV.out.own hO) (i := 4) (by omega)
        simp only [RegD.FF, RegI.FX, RegI.upd, List.foldl_cons, List.foldl_nil, List.not_mem_nil, if_true, if_false, Nat.reduceEqDiff]
        simp only [List.setIfInBounds_toArray, List.set_cons_succ, List.set_cons_zero]
        go_wp2
        exact ⟨rfl, rfl, rfl, Own.refl _⟩
      case s15 =>
        refine RegD.det_put (by decide) (fun u w1 hO => ?_)
        simp only [RegD.FF, RegI.FX, RegI.upd, List.foldl_cons, List.foldl_nil, List.not_mem_nil, if_true, if_false, Nat.reduceEqDiff]
        simp only [List.setIfInBounds_toArray, List.set_cons_succ, List.set_cons_zero]
        go_wp2
        exact ⟨rfl, rfl, rfl, Own.refl _⟩
      case s16 =>
        refine RegD.det_put (by decide) (fun u w1 hO => ?_)
        have HB9 := Lib.hid (HBV.out.own hO)
        simp only [RegD.FF, RegI.FX, RegI.upd, List.foldl_cons, List.foldl_nil, List.not_mem_nil, if_true, if_false, Nat.reduceEqDiff]
        simp only [List.setIfInBounds_toArray, List.set_cons_succ, List.set_cons_zero]
        go_wp2_with ((with_reducible show wpList _ _ _ (⟨_, .load 26 (.tmp 28), _, _, _, none⟩ :: _) _ _); refine wpList_load_part rfl 26 (.tmp 28) rfl B (5) rfl 18 HB9.out (by omega) (cz 18 (fun j => s (5 + j))) rfl _ Tryd.underlying26 rfl infoT6 ?_)
        exact ⟨rfl, rfl, rfl, Own.refl _⟩
      case s17 =>
        refine RegD.det_put (by decide) (fun u w1 hO => ?_)
        simp only [RegD.FF, RegI.FX, RegI.upd, List.foldl_cons, List.foldl_nil, List.not_mem_nil, if_true, if_false, Nat.reduceEqDiff]
        simp only [List.setIfInBounds_toArray, List.set_cons_succ, List.set_cons_zero]
        go_wp2_with ((with_reducible show wpList _ _ _ (⟨_, .build 28 _, _, _, _, _⟩ :: _) _ _); refine wpList_build_as rfl 28 [(0, .tmp 16), (1, .tmp 23), (2, .tmp 25), (3, .tmp 27), (4, .tmp 29)] rfl [(0, .agg #[.int .i64 X, .int .i64 Y]), (1, .int .i64 f8), (2, .int .i64 (s 3)), (3, .int .i64 (s 4)), (4, .agg (cz 18 (fun j => s (5 + j))))] rfl (cz 23 (st5 X Y f8 (s 3) (s 4) (fun j => s (5 + j)))) (bld_rot23 _ _ _ _ _ _) ?_)
        exact ⟨rfl, rfl, rfl, Own.refl _⟩
      case s18 =>
        refine RegD.store_put rfl hVP (fun u w1 hO hN => ?_)
        have HN := Lib.hid hN
        simp only [RegD.FF, RegI.FX, RegI.upd, List.foldl_cons, List.foldl_nil, List.not_mem_nil, if_true, if_false, Nat.reduceEqDiff]
        simp only [List.setIfInBounds_toArray, List.set_cons_succ, List.set_cons_zero]
        clear hN
        go_wp2_with ((with_reducible show wpList _ _ _ (⟨_, .store 28 (.tmp 4) (.tmp 30), _, _, _, none⟩ :: _) _ _); refine wpList_store_row rfl 28 (.tmp 4) (.tmp 30) rfl P (cz 23 (st5 X Y f8 (s 3) (s 4) (fun j => s (5 + j)))) rfl rfl 28 _ HN.out.raw infoS rfl (cz_one _ _) ?_)
        exact ⟨rfl, rfl, rfl⟩
      case s19 =>
        refine RegD.det_put (by decide) (fun u w1 hO => ?_)
        simp only [RegD.FF, RegI.FX, RegI.upd, List.foldl_cons, List.foldl_nil, List.not_mem_nil, if_true, if_false, Nat.reduceEqDiff]
        simp only [List.setIfInBounds_toArray, List.set_cons_succ, List.set_cons_zero]
        go_wp2
        exact ⟨rfl, rfl, rfl, Own.refl _⟩
    case he =>
      intro u w2 g2 hN
      have hV := g2
      clear HP
      simp only [RegD.FF, RegI.FX, RegI.upd, List.foldl_cons, List.foldl_nil, List.not_mem_nil, if_true, if_false, Nat.reduceEqDiff]
      simp only [List.setIfInBounds_toArray, List.set_cons_succ, List.set_cons_zero]
      go_wp2
      rw [← HV.out]
      exact bodyPost_ret (blk_results rfl rfl rfl hN Tryd.underlying28 rfl infoS) rfl ⟨rfl, g0.trans hV⟩
  · obtain ⟨c, hc⟩ : ∃ c, stE s = c := ⟨_, rfl⟩
    rw [roV_no h, hc]
    rw [hc] at h
    have kc : (c != 0) = true := bne_iff_ne.2 h
    have HC := Lib.hid hc
    clear h hc
    go_enter Tryd.func25, Tryd.ntmps25
    go_upto_region 1 with (fail)
    obtain ⟨W0, B, P, V, hW, hP, hB, hv, hp, g0, gv, hVP⟩ := two_newv w (cz 23 s) 28 (cz 23 nul) 28
    rw [← cz23_nul] at hW
    rw [hW, hP, hB]
    have HB := Lib.hid (hv.own gv)
    have HP := Lib.hid hp
    have HBV := Lib.hid hv
    have hP0 : w.heap.size ≤ P := Nat.le_trans g0.size hVP
    clear hW hP hB hv hp

    replace g0 := g0.trans gv
    clear HBV gv
    go_wp2_with (first | ((with_reducible show wpList _ _ _ (⟨_, .load 28 (.tmp 2), _, _, _, none⟩ :: _) _ _); refine wpList_load_row rfl 28 (.tmp 2) rfl B rfl 28 _ (0, 0) _ HB.out.raw Tryd.underlying28 rfl infoS ?_) | (go_at_call 14; with_reducible refine (rcheck_at s c _ HC).mono ?_; rintro r w1 ⟨rfl, hg⟩; replace g0 := g0.trans hg; replace HB := Lib.hid (HB.out.own hg); replace HP := Lib.hid (HP.out.own hg); clear hg) | ((with_reducible show wpList _ _ _ (⟨_, .store 28 (.tmp 4) (.tmp 11), _, _, _, none⟩ :: _) _ _); refine wpList_store_row rfl 28 (.tmp 4) (.tmp 11) rfl P (cz 23 (nul)) rfl rfl 28 _ HP.out.raw infoS rfl (cz_one _ _) ?_))
    have hp := HP.out.row (cz 23 nul)
    exact bodyPost_ret (blk_results rfl rfl rfl hp Tryd.underlying28 rfl infoS) rfl ⟨rfl, own_setRow g0 hP0 _⟩
theorem rrotate_at (s r0 : Vl) (n c : Int) (w : World) (H : Hid (cz 23 (roV s n) = cz 23 r0 ∧ stE s = c)) :
    Calls Tryd.prog 25 #[.agg (cz 23 s), .int .i64 n] w fun r w' => r = .returned (.tuple #[.agg (cz 23 r0), .int .i64 c]) ∧ Own w w' := by
  rw [← H.out.1, ← H.out.2]
  exact rrotate_any s n w
set_option maxRecDepth 100000 in
set_option maxHeartbeats 2000000 in
theorem rrotp_any (s : Vl) (n : Int) (w : World) :
    Calls Tryd.prog 27 #[.agg (cz 22 s), .int .i64 n] w fun r w' => r = .returned (.tuple #[.agg (cz 22 (rpV s n)), .int .i64 (vaE s)]) ∧ Own w w' := by
  by_cases h : vaE s = 0
  · obtain ⟨⟨b0, b1, b2, b3⟩, -⟩ := va_yes h
    have HC := Lib.hid h
    obtain ⟨q, hq⟩ : ∃ q, n % 4 = q := ⟨_, rfl⟩
    have bq : 0 ≤ q ∧ q ≤ 3 := by omega
    obtain ⟨X, hX⟩ : ∃ x, tuX q (s 0) (s 1) = x := ⟨_, rfl⟩
    obtain ⟨Y, hY⟩ : ∃ x, tuY q (s 0) (s 1) = x := ⟨_, rfl⟩
    obtain ⟨f8, hf8⟩ : ∃ x, (s 2 + 64 * q) % 256 = x := ⟨_, rfl⟩
    have bs : 0 ≤ s 2 + 64 * q := by omega
    have HF8 := Lib.hid (show (s 2 + 64 * q) % 256 = f8 ∧ (s 2 + 64 * q).tmod 256 = f8 from ⟨hf8, by rw [Int.tmod_eq_emod_of_nonneg bs]; exact hf8⟩)
    have HQ := Lib.hid hq
    have HXY := Lib.hid (And.intro hX hY)
    have HV := Lib.hid (show cz 22 (ps4 X Y f8 (s 3) (fun j => s (4 + j))) = cz 22 (rpV s n) by rw [rpV_yes h, ← hX, ← hY, ← hf8, ← hq]; rfl)
    rw [h]
    clear hq hX hY h hf8
    go_enter Tryd.func27, Tryd.ntmps27
    go_upto_region 1 with (fail)
    obtain ⟨W0, B, P, V, hW, hP, hB, hv, hp, g0, gv, hVP⟩ := two_newv w (cz 22 s) 33 (cz 22 nul) 33
    rw [← cz22_nul] at hW
    rw [hW, hP, hB]
    have HB := Lib.hid (hv.own gv)
    have HP := Lib.hid hp
    have HBV := Lib.hid hv
    have hP0 : w.heap.size ≤ P := Nat.le_trans g0.size hVP
    clear hW hP hB hv hp

    go_upto_region 4 with (first | ((with_reducible show wpList _ _ _ (⟨_, .load 33 (.tmp 2), _, _, _, none⟩ :: _) _ _); refine wpList_load_row rfl 33 (.tmp 2) rfl B rfl 33 _ (0, 0) _ HB.out.raw Tryd.underlying33 rfl infoP ?_) | (go_at_call 19; with_reducible refine (rvalid_at s 0 _ HC).mono ?_; rintro r w1 ⟨rfl, hg⟩; replace gv := gv.trans hg; replace HP := Lib.hid (HP.out.own hg); clear hg))
    refine RegD.region_put [13, 14, 15, 16, 17, 18, 19, 20, 21, 22, 23, 24, 25, 26, 27, 28, 5] 16 (RegI.upd (RegI.upd (RegI.upd (RegI.upd (RegI.upd (RegI.upd (RegI.upd (RegI.upd (RegI.upd (RegI.upd (RegI.upd (RegI.upd (RegI.upd (RegI.upd (RegI.upd (RegI.upd (RegI.upd (fun _ => undef) 13 (.pointer (some ⟨B, 0, none⟩))) 14 (.agg #[.int .i64 (s 0), .int .i64 (s 1)])) 15 (.int .i64 n)) 16 (.agg #[.int .i64 X, .int .i64 Y])) 17 (.pointer (some ⟨B, 2, none⟩))) 18 (.int .i64 (s 2))) 19 (.int .i64 n)) 20 (.int .i64 q)) 21 (.int .i64 (64 * q))) 22 (.int .i64 (s 2 + 64 * q))) 23 (.int .i64 f8)) 24 (.pointer (some ⟨B, 3, none⟩))) 25 (.int .i64 (s 3))) 26 (.pointer (some ⟨B, 4, none⟩))) 27 (.agg (cz 18 (fun j => s (4 + j))))) 28 (.agg (cz 22 (ps4 X Y f8 (s 3) (fun j => s (4 + j)))))) 5 (.int .i64 0)) V P (cz 22 nul) (cz 22 (ps4 X Y f8 (s 3) (fun j => s (4 + j)))) 33 (by kernel_rfl) (by kernel_rfl) (by decide) (by intro d hd; simp at hd; simp; omega) gv HP.out ?hs ?he
    case hs =>
      refine And.intro ?s0 (And.intro ?s1 (And.intro ?s2 (And.intro ?s3 (And.intro ?s4 (And.intro ?s5 (And.intro ?s6 (And.intro ?s7 (And.intro ?s8 (And.intro ?s9 (And.intro ?s10 (And.intro ?s11 (And.intro ?s12 (And.intro ?s13 (And.intro ?s14 (And.intro ?s15 (And.intro ?s16 (And.intro ?s17 (trivial))))))))))))))))))
      case s0 =>
        refine RegD.det_put (by decide) (fun u w1 hO => ?_)
        simp only [RegD.FF, RegI.FX, RegI.upd, List.foldl_cons, List.foldl_nil, List.not_mem_nil, if_true, if_false, Nat.reduceEqDiff]
        simp only [List.setIfInBounds_toArray, List.set_cons_succ, List.set_cons_zero]
        go_wp2
        exact ⟨rfl, rfl, rfl, Own.refl _⟩
      case s1 =>
        refine RegD.det_put (by decide) (fun u w1 hO => ?_)
        have HB9 := Lib.hid (HBV.out.own hO)
        simp only [RegD.FF, RegI.FX, RegI.upd, List.foldl_cons, List.foldl_nil, List.not_mem_nil, if_true, if_false, Nat.reduceEqDiff]
        simp only [List.setIfInBounds_toArray, List.set_cons_succ, List.set_cons_zero]
        go_wp2_with ((with_reducible show wpList _ _ _ (⟨_, .load 23 (.tmp 13), _, _, _, none⟩ :: _) _ _); refine wpList_load_part rfl 23 (.tmp 13) rfl B (0) rfl 2 HB9.out (by omega) (#[.int .i64 (s 0), .int .i64 (s 1)]) rfl _ Tryd.underlying23 rfl infoPt ?_)
        exact ⟨rfl, rfl, rfl, Own.refl _⟩
      case s2 =>
        refine RegD.det_put (by decide) (fun u w1 hO => ?_)
        simp only [RegD.FF, RegI.FX, RegI.upd, List.foldl_cons, List.foldl_nil, List.not_mem_nil, if_true, if_false, Nat.reduceEqDiff]
        simp only [List.setIfInBounds_toArray, List.set_cons_succ, List.set_cons_zero]
        go_wp2
        exact ⟨rfl, rfl, rfl, Own.refl _⟩
      case s3 =>
        refine RegD.det_put (by decide) (fun u w1 hO => ?_)
        simp only [RegD.FF, RegI.FX, RegI.upd, List.foldl_cons, List.foldl_nil, List.not_mem_nil, if_true, if_false, Nat.reduceEqDiff]
        simp only [List.setIfInBounds_toArray, List.set_cons_succ, List.set_cons_zero]
        go_wp2_with (go_at_call 59; with_reducible refine (rtur_at (s 0) (s 1) n q X Y _ b0 b1 HQ HXY).mono ?_; rintro r w2 ⟨rfl, hg⟩)
        exact ⟨rfl, rfl, rfl, hg⟩
      case s4 =>
        refine RegD.det_put (by decide) (fun u w1 hO => ?_)
        simp only [RegD.FF, RegI.FX, RegI.upd, List.foldl_cons, List.foldl_nil, List.not_mem_nil, if_true, if_false, Nat.reduceEqDiff]
        simp only [List.setIfInBounds_toArray, List.set_cons_succ, List.set_cons_zero]
        go_wp2
        exact ⟨rfl, rfl, rfl, Own.refl _⟩
      case s5 =>
        refine RegD.det_put (by decide) (fun u w1 hO => ?_)
        have k := blk_num (HBV.out.own hO) (i := 2) (by omega)
        simp only [RegD.FF, RegI.FX, RegI.upd, List.foldl_cons, List.foldl_nil, List.not_mem_nil, if_true, if_false, Nat.reduceEqDiff]
        simp only [List.setIfInBounds_toArray, List.set_cons_succ, List.set_cons_zero]
        go_wp2
        exact ⟨rfl, rfl, rfl, Own.refl _⟩
      case s6 =>
        refine RegD.det_put (by decide) (fun u w1 hO => ?_)
        simp only [RegD.FF, RegI.FX, RegI.upd, List.foldl_cons, List.foldl_nil, List.not_mem_nil, if_true, if_false, Nat.reduceEqDiff]
        simp only [List.setIfInBounds_toArray, List.set_cons_succ, List.set_cons_zero]
        go_wp2
        exact ⟨rfl, rfl, rfl, Own.refl _⟩
      case s7 =>
        refine RegD.det_put (by decide) (fun u w1 hO => ?_)
        simp only [RegD.FF, RegI.FX, RegI.upd, List.foldl_cons, List.foldl_nil, List.not_mem_nil, if_true, if_false, Nat.reduceEqDiff]
        simp only [List.setIfInBounds_toArray, List.set_cons_succ, List.set_cons_zero]
        go_wp2_with (go_at_call 60; with_reducible refine (rquar_at n q _ HQ).mono ?_; rintro r w1 ⟨rfl, rfl⟩)
        exact ⟨rfl, rfl, rfl, Own.refl _⟩
      case s8 =>
        refine RegD.det_put (by decide) (fun u w1 hO => ?_)
        simp only [RegD.FF, RegI.FX, RegI.upd, List.foldl_cons, List.foldl_nil, List.not_mem_nil, if_true, if_false, Nat.reduceEqDiff]
        simp only [List.setIfInBounds_toArray, List.set_cons_succ, List.set_cons_zero]
        go_wp2
        exact ⟨rfl, rfl, rfl, Own.refl _⟩
      case s9 =>
        refine RegD.det_put (by decide) (fun u w1 hO => ?_)
        simp only [RegD.FF, RegI.FX, RegI.upd, List.foldl_cons, List.foldl_nil, List.not_mem_nil, if_true, if_false, Nat.reduceEqDiff]
        simp only [List.setIfInBounds_toArray, List.set_cons_succ, List.set_cons_zero]
        go_wp2
        exact ⟨rfl, rfl, rfl, Own.refl _⟩
      case s10 =>
        refine RegD.det_put (by decide) (fun u w1 hO => ?_)
        have e1 := HF8.out.1
        have e3 := HF8.out.2
        simp only [RegD.FF, RegI.FX, RegI.upd, List.foldl_cons, List.foldl_nil, List.not_mem_nil, if_true, if_false, Nat.reduceEqDiff]
        simp only [List.setIfInBounds_toArray, List.set_cons_succ, List.set_cons_zero]
        go_wp2
        exact ⟨rfl, rfl, rfl, Own.refl _⟩
      case s11 =>
        refine RegD.det_put (by decide) (fun u w1 hO => ?_)
        simp only [RegD.FF, RegI.FX, RegI.upd, List.foldl_cons, List.foldl_nil, List.not_mem_nil, if_true, if_false, Nat.reduceEqDiff]
        simp only [List.setIfInBounds_toArray, List.set_cons_succ, List.set_cons_zero]
        go_wp2
        exact ⟨rfl, rfl, rfl, Own.refl _⟩
      case s12 =>
        refine RegD.det_put (by decide) (fun u w1 hO => ?_)
        have k := blk_num (HBV.out.own hO) (i := 3) (by omega)
        simp only [RegD.FF, RegI.FX, RegI.upd, List.foldl_cons, List.foldl_nil, List.not_mem_nil, if_true, if_false, Nat.reduceEqDiff]
        simp only [List.setIfInBounds_toArray, List.set_cons_succ, List.set_cons_zero]
        go_wp2
        exact ⟨rfl, rfl, rfl, Own.refl _⟩
      case s13 =>
        refine RegD.det_put (by decide) (fun u w1 hO => ?_)
        simp only [RegD.FF, RegI.FX, RegI.upd, List.foldl_cons, List.foldl_nil, List.not_mem_nil, if_true, if_false, Nat.reduceEqDiff]
        simp only [List.setIfInBounds_toArray, List.set_cons_succ, List.set_cons_zero]
        go_wp2
        exact ⟨rfl, rfl, rfl, Own.refl _⟩
      case s14 =>
        refine RegD.det_put (by decide) (fun u w1 hO => ?_)
        have HB9 := Lib.hid (HBV.out.own hO)
        simp only [RegD.FF, RegI.FX, RegI.upd, List.foldl_cons, List.foldl_nil, List.not_mem_nil, if_true, if_false, Nat.reduceEqDiff]
        simp only [List.setIfInBounds_toArray, List.set_cons_succ, List.set_cons_zero]
        go_wp2_with ((with_reducible show wpList _ _ _ (⟨_, .load 31 (.tmp 26), _, _, _, none⟩ :: _) _ _); refine wpList_load_part rfl 31 (.tmp 26) rfl B (4) rfl 18 HB9.out (by omega) (cz 18 (fun j => s (4 + j))) rfl _ Tryd.underlying31 rfl infoA6 ?_)
        exact ⟨rfl, rfl, rfl, Own.refl _⟩
      case s15 =>
        refine RegD.det_put (by decide) (fun u w1 hO => ?_)
        simp only [RegD.FF, RegI.FX, RegI.upd, List.foldl_cons, List.foldl_nil, List.not_mem_nil, if_true, if_false, Nat.reduceEqDiff]
        simp only [List.setIfInBounds_toArray, List.set_cons_succ, List.set_cons_zero]
        go_wp2_with ((with_reducible show wpList _ _ _ (⟨_, .build 33 _, _, _, _, _⟩ :: _) _ _); refine wpList_build_as rfl 33 [(0, .tmp 16), (1, .tmp 23), (2, .tmp 25), (3, .tmp 27)] rfl [(0, .agg #[.int .i64 X, .int .i64 Y]), (1, .int .i64 f8), (2, .int .i64 (s 3)), (3, .agg (cz 18 (fun j => s (4 + j))))] rfl (cz 22 (ps4 X Y f8 (s 3) (fun j => s (4 + j)))) (bld_rot22 _ _ _ _ _) ?_)
        exact ⟨rfl, rfl, rfl, Own.refl _⟩
      case s16 =>
        refine RegD.store_put rfl hVP (fun u w1 hO hN => ?_)
        have HN := Lib.hid hN
        simp only [RegD.FF, RegI.FX, RegI.upd, List.foldl_cons, List.foldl_nil, List.not_mem_nil, if_true, if_false, Nat.reduceEqDiff]
        simp only [List.setIfInBounds_toArray, List.set_cons_succ, List.set_cons_zero]
        clear hN
        go_wp2_with ((with_reducible show wpList _ _ _ (⟨_, .store 33 (.tmp 4) (.tmp 28), _, _, _, none⟩ :: _) _ _); refine wpList_store_row rfl 33 (.tmp 4) (.tmp 28) rfl P (cz 22 (ps4 X Y f8 (s 3) (fun j => s (4 + j)))) rfl rfl 33 _ HN.out.raw infoP rfl (cz_one _ _) ?_)
        exact ⟨rfl, rfl, rfl⟩
      case s17 =>
        refine RegD.det_put (by decide) (fun u w1 hO => ?_)
        simp only [RegD.FF, RegI.FX, RegI.upd, List.foldl_cons, List.foldl_nil, List.not_mem_nil, if_true, if_false, Nat.reduceEqDiff]
        simp only [List.setIfInBounds_toArray, List.set_cons_succ, List.set_cons_zero]
        go_wp2
        exact ⟨rfl, rfl, rfl, Own.refl _⟩
    case he =>
      intro u w2 g2 hN
      have hV := g2
      clear HP
      simp only [RegD.FF, RegI.FX, RegI.upd, List.foldl_cons, List.foldl_nil, List.not_mem_nil, if_true, if_false, Nat.reduceEqDiff]
      simp only [List.setIfInBounds_toArray, List.set_cons_succ, List.set_cons_zero]
      go_wp2
      rw [← HV.out]
      exact bodyPost_ret (blk_results rfl rfl rfl hN Tryd.underlying33 rfl infoP) rfl ⟨rfl, g0.trans hV⟩
  · obtain ⟨c, hc⟩ : ∃ c, vaE s = c := ⟨_, rfl⟩
    rw [rpV_no h, hc]
    rw [hc] at h
    have kc : (c != 0) = true := bne_iff_ne.2 h
    have HC := Lib.hid hc
    clear h hc
    go_enter Tryd.func27, Tryd.ntmps27
    go_upto_region 1 with (fail)
    obtain ⟨W0, B, P, V, hW, hP, hB, hv, hp, g0, gv, hVP⟩ := two_newv w (cz 22 s) 33 (cz 22 nul) 33
    rw [← cz22_nul] at hW
    rw [hW, hP, hB]
    have HB := Lib.hid (hv.own gv)
    have HP := Lib.hid hp
    have HBV := Lib.hid hv
    have hP0 : w.heap.size ≤ P := Nat.le_trans g0.size hVP
    clear hW hP hB hv hp

    replace g0 := g0.trans gv
    clear HBV gv
    go_wp2_with (first | ((with_reducible show wpList _ _ _ (⟨_, .load 33 (.tmp 2), _, _, _, none⟩ :: _) _ _); refine wpList_load_row rfl 33 (.tmp 2) rfl B rfl 33 _ (0, 0) _ HB.out.raw Tryd.underlying33 rfl infoP ?_) | (go_at_call 19; with_reducible refine (rvalid_at s c _ HC).mono ?_; rintro r w1 ⟨rfl, hg⟩; replace g0 := g0.trans hg; replace HB := Lib.hid (HB.out.own hg); replace HP := Lib.hid (HP.out.own hg); clear hg) | ((with_reducible show wpList _ _ _ (⟨_, .store 33 (.tmp 4) (.tmp 11), _, _, _, none⟩ :: _) _ _); refine wpList_store_row rfl 33 (.tmp 4) (.tmp 11) rfl P (cz 22 (nul)) rfl rfl 33 _ HP.out.raw infoP rfl (cz_one _ _) ?_))
    have hp := HP.out.row (cz 22 nul)
    exact bodyPost_ret (blk_results rfl rfl rfl hp Tryd.underlying33 rfl infoP) rfl ⟨rfl, own_setRow g0 hP0 _⟩
theorem rrotp_at (s r0 : Vl) (n c : Int) (w : World) (H : Hid (cz 22 (rpV s n) = cz 22 r0 ∧ vaE s = c)) :
    Calls Tryd.prog 27 #[.agg (cz 22 s), .int .i64 n] w fun r w' => r = .returned (.tuple #[.agg (cz 22 r0), .int .i64 c]) ∧ Own w w' := by
  rw [← H.out.1, ← H.out.2]
  exact rrotp_any s n w
end Go.Proofs.YtneobaininejaaaDoor.PstW
