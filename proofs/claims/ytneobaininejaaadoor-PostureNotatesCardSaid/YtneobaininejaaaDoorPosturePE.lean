/-
  Walks of the program of package posture: reduced, rotated, Rotate, RotatePose. Condition: the target straight down and the table of sines lie in memory (Dn, Tab).
-/
import Derived.Test.YtneobaininejaaaDoorPosturePC
namespace Go.Proofs.YtneobaininejaaaDoor.PstW
open Go.ChangeShapes Go.WideShapes Go.ChangeAt Go.RowKit
open PairW AimP AimW BlkW PrtW PstP
theorem and3 (n : Int) : bits .and .i64 n 3 = n % 4 := by
  have h3 : (BitVec.ofInt 64 3).toNat = 2 ^ 2 - 1 := by decide
  have key : (BitVec.ofInt 64 n &&& BitVec.ofInt 64 3).toNat = (n % ((2 ^ 64 : Nat) : Int)).toNat % 2 ^ 2 := by
    rw [BitVec.toNat_and, BitVec.toNat_ofInt, h3, Nat.and_two_pow_sub_one_eq_mod]
  show IntKind.i64.wrap ((BitVec.ofInt 64 n &&& BitVec.ofInt 64 3).toNat : Nat) = n % 4
  rw [key, IntKind.wrap_i64]
  omega
theorem qred_at (n q : Int) (w : World) (H : Hid (n % 4 = q)) :
    Calls Tryd.prog 57 #[.int .i64 n] w fun r w' => r = .returned (.int .i64 q) ∧ w = w' := by
  have HA := Lib.hid ((and3 n).trans H.out)
  go_enter Tryd.func57, Tryd.ntmps57
  go_wp2
  go_ret
  exact ⟨ret_int HA.out, rfl⟩
theorem ups_st5 (x y f l u v : Int) (t : Vl) (i : Nat) : ups (st5 x y f l u t) 2 v i = st5 x y v l u t i := by
  unfold ups st5
  by_cases e : i = 2
  · subst e; rfl
  · rw [if_neg e, if_neg e, if_neg e]
theorem ups_ps4 (x y f l v : Int) (t : Vl) (i : Nat) : ups (ps4 x y f l t) 2 v i = ps4 x y v l t i := by
  unfold ups ps4
  by_cases e : i = 2
  · subst e; rfl
  · rw [if_neg e, if_neg e, if_neg e]
/-- Turning by quarters. -/
theorem tur_q {x y q : Int} (hx : -32768 ≤ x ∧ x ≤ 32768) (hy : -32768 ≤ y ∧ y ≤ 32768) (hq : 0 ≤ q ∧ q ≤ 3) :
    AngW.turU x y (64 * q) = tuX q x y ∧ AngW.turV x y (64 * q) = tuY q x y ∧ AngW.turE x y = 0 := by
  have h := (AngP.inMM_iff x y).2 ⟨hx, hy⟩
  obtain ⟨⟨q1, q2⟩, ⟨q3, q4⟩, ⟨q5, q6⟩, q7, q8⟩ := AngP.quarter x y
  have e1 : AngP.cosV 192 = AngP.cosV (-64) := by rw [AngP.cosV_sin, AngP.cosV_sin]; exact AngP.sinV_eq (by decide)
  have e2 : AngP.sinV 192 = AngP.sinV (-64) := AngP.sinV_eq (by decide)
  have e3 : AngP.turX x y 192 = AngP.turX x y (-64) := by unfold AngP.turX; rw [e1, e2]
  have e4 : AngP.turY x y 192 = AngP.turY x y (-64) := by unfold AngP.turY; rw [e1, e2]
  unfold AngW.turU AngW.turV AngW.turE
  rw [if_pos h, if_pos h, if_pos h]
  have t : q = 0 ∨ q = 1 ∨ q = 2 ∨ q = 3 := by omega
  rcases t with rfl | rfl | rfl | rfl
  · exact ⟨q1, q2, rfl⟩
  · exact ⟨q3, q4, rfl⟩
  · exact ⟨q5, q6, rfl⟩
  · exact ⟨e3.trans q7, e4.trans q8, rfl⟩
set_option maxRecDepth 100000 in
set_option maxHeartbeats 2000000 in
theorem qrot_at (x y q X Y : Int) (w : World) (HT : Hid (AngW.Tab w)) (hx : -32768 ≤ x ∧ x ≤ 32768) (hy : -32768 ≤ y ∧ y ≤ 32768) (hq : 0 ≤ q ∧ q ≤ 3) (H : Hid (tuX q x y = X ∧ tuY q x y = Y)) :
    Calls Tryd.prog 58 #[.agg #[.int .i64 x, .int .i64 y], .int .i64 q] w fun r w' => r = .returned (.agg #[.int .i64 X, .int .i64 Y]) ∧ Own w w' := by
  have HQ := Lib.hid (show AngW.turU x y (64 * q) = X ∧ AngW.turV x y (64 * q) = Y ∧ AngW.turE x y = 0 by
    obtain ⟨h1, h2, h3⟩ := tur_q hx hy hq
    exact ⟨h1.trans H.out.1, h2.trans H.out.2, h3⟩)
  clear hx hy H
  go_enter Tryd.func58, Tryd.ntmps58
  go_upto_region 1 with (fail)
  obtain ⟨W0, B, P, hW, hP, hB, hb, hp, g0, -, hP0, -⟩ := two_new w (#[.int .i64 x, .int .i64 y]) 23 (#[.int .i64 0, .int .i64 0]) 23
  rw [hW, hP, hB]
  have HB := Lib.hid hb
  have HP := Lib.hid hp
  clear hW hP hB hb hp
  go_upto_region 2 with (first | ((with_reducible show wpList _ _ _ (⟨_, .load 23 (.tmp 2), _, _, _, none⟩ :: _) _ _); refine wpList_load_row rfl 23 (.tmp 2) rfl B rfl 23 _ (0, 0) _ HB.out.raw Tryd.underlying23 rfl infoPt ?_) | (go_at_call 77; with_reducible refine (AngW.tur_at x y (64 * q) X Y 0 _ HQ (AimW.tab_own HT.out g0)).mono ?_; rintro r w1 ⟨rfl, hg⟩; replace hg := AimW.own_gr hg; replace g0 : Own w w1 := g0.trans hg; replace HP := Lib.hid (HP.out.own hg); clear hg) | ((with_reducible show wpList _ _ _ (⟨_, .store 23 (.tmp 5) (.tmp 12), _, _, _, none⟩ :: _) _ _); refine wpList_store_row rfl 23 (.tmp 5) (.tmp 12) rfl _ #[.int .i64 X, .int .i64 Y] rfl rfl 23 _ (heap_new _ _) infoPt rfl (by simp [Value.oneCell']) ?_; rw [World.setRow_alloc_new]))
  clear HB
  obtain ⟨w2, C, hW, hBq, hb, hg, Cg⟩ := blk_new w1 (#[.int .i64 X, .int .i64 Y]) 23
  rw [hW, hBq]
  have HC := Lib.hid hb
  replace g0 := g0.trans hg
  replace HP := Lib.hid (HP.out.own hg)
  clear hW hBq hb hg
  go_wp2_with (first | ((with_reducible show wpList _ _ _ (⟨_, .load 23 (.tmp 5), _, _, _, none⟩ :: _) _ _); refine wpList_load_row rfl 23 (.tmp 5) rfl C rfl 23 _ (0, 0) _ HC.out.raw Tryd.underlying23 rfl infoPt ?_) | ((with_reducible show wpList _ _ _ (⟨_, .store 23 (.tmp 4) (.tmp 14), _, _, _, none⟩ :: _) _ _); refine wpList_store_row rfl 23 (.tmp 4) (.tmp 14) rfl P #[.int .i64 X, .int .i64 Y] rfl rfl 23 _ HP.out.raw infoPt rfl (by simp [Value.oneCell']) ?_))
  have hp := HP.out.row #[.int .i64 X, .int .i64 Y]
  exact bodyPost_ret (blk_result rfl rfl hp Tryd.underlying23 rfl infoPt) rfl ⟨rfl, own_setRow g0 hP0 _⟩
set_option maxRecDepth 100000 in
set_option maxHeartbeats 2000000 in
theorem qrotate_any (s : Vl) (n : Int) (w : World) (HD : Hid (Dn w)) (HT : Hid (AngW.Tab w)) :
    Calls Tryd.prog 24 #[.agg (cz 23 s), .int .i64 n] w fun r w' => r = .returned (.tuple #[.agg (cz 23 (roV s n)), .int .i64 (stE s)]) ∧ Own w w' := by
  by_cases h : stE s = 0
  · obtain ⟨⟨b0, b1, b2, -, -⟩, -, -⟩ := st_yes h
    have HC := Lib.hid h
    obtain ⟨q, hq⟩ : ∃ q, n % 4 = q := ⟨_, rfl⟩
    have bq : 0 ≤ q ∧ q ≤ 3 := by omega
    obtain ⟨X, hX⟩ : ∃ x, tuX q (s 0) (s 1) = x := ⟨_, rfl⟩
    obtain ⟨Y, hY⟩ : ∃ x, tuY q (s 0) (s 1) = x := ⟨_, rfl⟩
    have HQ := Lib.hid hq
    have HXY := Lib.hid (And.intro hX hY)
    have HV := Lib.hid (show cz 23 (st5 X Y ((s 2 + 2 * q) % 8) (s 3) (s 4) (fun j => s (5 + j))) = cz 23 (roV s n) by rw [roV_yes h, ← hX, ← hY, ← hq]; rfl)
    rw [h]
    clear hq hX hY h
    go_enter Tryd.func24, Tryd.ntmps24
    go_upto_region 1 with (fail)
    obtain ⟨W0, B, P, hW, hP, hB, hb, hp, g0, hB0, hP0, hne⟩ := two_new w (cz 23 s) 28 (cz 23 nul) 28
    rw [← cz23_nul] at hW
    rw [hW, hP, hB]
    have HB := Lib.hid hb
    have HP := Lib.hid hp
    have HNE := Lib.hid hne
    clear hW hP hB hb hp hne

    go_upto_region 5 with (first | ((with_reducible show wpList _ _ _ (⟨_, .load 28 (.tmp 2), _, _, _, none⟩ :: _) _ _); refine wpList_load_row rfl 28 (.tmp 2) rfl B rfl 28 _ (0, 0) _ HB.out.raw Tryd.underlying28 rfl infoS ?_) | (go_at_call 13; with_reducible refine (pcheck_at s 0 _ (Lib.hid (HD.out.own g0)) HC).mono ?_; rintro r w1 ⟨rfl, hg⟩; replace g0 := g0.trans hg; replace HB := Lib.hid (HB.out.own hg); replace HP := Lib.hid (HP.out.own hg); clear hg) | (go_at_call 57; with_reducible refine (qred_at n q _ HQ).mono ?_; rintro r w1 ⟨rfl, rfl⟩))
    go_upto_region 6 with (first | ((with_reducible show wpList _ _ _ (⟨_, .load 23 (.tmp 15), _, _, _, none⟩ :: _) _ _); refine wpList_load_part rfl 23 (.tmp 15) rfl B (0) rfl 2 HB.out (by omega) (#[.int .i64 (s 0), .int .i64 (s 1)]) rfl _ Tryd.underlying23 rfl infoPt ?_) | (go_at_call 58; with_reducible refine (qrot_at _ _ q X Y _ (Lib.hid (AimW.tab_own HT.out g0)) b0 b1 bq HXY).mono ?_; rintro r w2 ⟨rfl, hg⟩; replace g0 := g0.trans hg; replace HB := Lib.hid (HB.out.own hg); replace HP := Lib.hid (HP.out.own hg); clear hg) | ((with_reducible show wpList _ _ _ (⟨_, .store 23 (.tmp 19) (.tmp 18), _, _, _, none⟩ :: _) _ _); refine wpList_store_part rfl 23 (.tmp 19) (.tmp 18) rfl B (0) 2 (l2 X Y) rfl (#[.int .i64 X, .int .i64 Y]) rfl rfl HB.out (by omega) infoPt ?_))
    have hb := blk_to (HB.out.row (cz 23 (put s 0 2 (l2 X Y)))) (g := st5 X Y (s 2) (s 3) (s 4) (fun j => s (5 + j))) (fun i hi => st5_eq (p := put s 0 2 (l2 X Y)) (n := 18) rfl rfl rfl rfl rfl (fun j _ => put_out s _ (by omega)) i (by omega))
    have hp := HP.out.rowfar HNE.out.symm (cz 23 (put s 0 2 (l2 X Y)))
    replace g0 := own_setRow g0 hB0 (cz 23 (put s 0 2 (l2 X Y)))
    clear HB HP
    generalize w2.setRow B (cz 23 (put s 0 2 (l2 X Y))) = w3 at *
    have k2 : w3.cell? ⟨B, 2, none⟩ = some (.int .i64 (s 2)) := blk_num hb (i := 2) (by omega)
    have f2 := hb.frozen 2
    have HB := Lib.hid hb
    have HP := Lib.hid hp
    clear hb hp
    go_upto_region 7 with (fail)
    have hb := blk_to (blk_ups HB.out (k := 2) (by omega) ((s 2 + 2 * q) % 8)) (g := st5 X Y ((s 2 + 2 * q) % 8) (s 3) (s 4) (fun j => s (5 + j))) (fun i _ => ups_st5 ..)
    have hp := HP.out.far (p := ⟨B, 2, none⟩) HNE.out.symm (.int .i64 ((s 2 + 2 * q) % 8))
    replace g0 := g0.setCell (p := ⟨B, 2, none⟩) hB0 (.int .i64 ((s 2 + 2 * q) % 8))
    clear HB HP k2 f2
    generalize w3.setCell ⟨B, 2, none⟩ (.int .i64 ((s 2 + 2 * q) % 8)) = w4 at *
    have HB := Lib.hid hb
    have HP := Lib.hid hp
    clear hb hp
    go_wp2_with (first | ((with_reducible show wpList _ _ _ (⟨_, .load 28 (.tmp 2), _, _, _, none⟩ :: _) _ _); refine wpList_load_row rfl 28 (.tmp 2) rfl B rfl 28 _ (0, 0) _ HB.out.raw Tryd.underlying28 rfl infoS ?_) | ((with_reducible show wpList _ _ _ (⟨_, .store 28 (.tmp 4) (.tmp 27), _, _, _, none⟩ :: _) _ _); refine wpList_store_row rfl 28 (.tmp 4) (.tmp 27) rfl P (cz 23 (st5 X Y ((s 2 + 2 * q) % 8) (s 3) (s 4) (fun j => s (5 + j)))) rfl rfl 28 _ HP.out.raw infoS rfl (cz_one _ _) ?_))
    have hp := HP.out.row (cz 23 (st5 X Y ((s 2 + 2 * q) % 8) (s 3) (s 4) (fun j => s (5 + j))))
    rw [← HV.out]
    exact bodyPost_ret (blk_results rfl rfl rfl hp Tryd.underlying28 rfl infoS) rfl ⟨rfl, own_setRow g0 hP0 _⟩
  · obtain ⟨c, hc⟩ : ∃ c, stE s = c := ⟨_, rfl⟩
    rw [roV_no h, hc]
    rw [hc] at h
    have kc : (c != 0) = true := bne_iff_ne.2 h
    have HC := Lib.hid hc
    clear h hc
    go_enter Tryd.func24, Tryd.ntmps24
    go_upto_region 1 with (fail)
    obtain ⟨W0, B, P, hW, hP, hB, hb, hp, g0, hB0, hP0, hne⟩ := two_new w (cz 23 s) 28 (cz 23 nul) 28
    rw [← cz23_nul] at hW
    rw [hW, hP, hB]
    have HB := Lib.hid hb
    have HP := Lib.hid hp
    have HNE := Lib.hid hne
    clear hW hP hB hb hp hne

    go_wp2_with (first | ((with_reducible show wpList _ _ _ (⟨_, .load 28 (.tmp 2), _, _, _, none⟩ :: _) _ _); refine wpList_load_row rfl 28 (.tmp 2) rfl B rfl 28 _ (0, 0) _ HB.out.raw Tryd.underlying28 rfl infoS ?_) | (go_at_call 13; with_reducible refine (pcheck_at s c _ (Lib.hid (HD.out.own g0)) HC).mono ?_; rintro r w1 ⟨rfl, hg⟩; replace g0 := g0.trans hg; replace HB := Lib.hid (HB.out.own hg); replace HP := Lib.hid (HP.out.own hg); clear hg) | ((with_reducible show wpList _ _ _ (⟨_, .store 28 (.tmp 4) (.tmp 11), _, _, _, none⟩ :: _) _ _); refine wpList_store_row rfl 28 (.tmp 4) (.tmp 11) rfl P (cz 23 (nul)) rfl rfl 28 _ HP.out.raw infoS rfl (cz_one _ _) ?_))
    have hp := HP.out.row (cz 23 nul)
    exact bodyPost_ret (blk_results rfl rfl rfl hp Tryd.underlying28 rfl infoS) rfl ⟨rfl, own_setRow g0 hP0 _⟩
theorem qrotate_at (s r0 : Vl) (n c : Int) (w : World) (HD : Hid (Dn w)) (HT : Hid (AngW.Tab w)) (H : Hid (cz 23 (roV s n) = cz 23 r0 ∧ stE s = c)) :
    Calls Tryd.prog 24 #[.agg (cz 23 s), .int .i64 n] w fun r w' => r = .returned (.tuple #[.agg (cz 23 r0), .int .i64 c]) ∧ Own w w' := by
  rw [← H.out.1, ← H.out.2]
  exact qrotate_any s n w HD HT
set_option maxRecDepth 100000 in
set_option maxHeartbeats 2000000 in
theorem qrotp_any (s : Vl) (n : Int) (w : World) (HT : Hid (AngW.Tab w)) :
    Calls Tryd.prog 26 #[.agg (cz 22 s), .int .i64 n] w fun r w' => r = .returned (.tuple #[.agg (cz 22 (rpV s n)), .int .i64 (vaE s)]) ∧ Own w w' := by
  by_cases h : vaE s = 0
  · obtain ⟨⟨b0, b1, b2, -⟩, -⟩ := va_yes h
    have HC := Lib.hid h
    obtain ⟨q, hq⟩ : ∃ q, n % 4 = q := ⟨_, rfl⟩
    have bq : 0 ≤ q ∧ q ≤ 3 := by omega
    obtain ⟨X, hX⟩ : ∃ x, tuX q (s 0) (s 1) = x := ⟨_, rfl⟩
    obtain ⟨Y, hY⟩ : ∃ x, tuY q (s 0) (s 1) = x := ⟨_, rfl⟩
    have HQ := Lib.hid hq
    have HXY := Lib.hid (And.intro hX hY)
    have HV := Lib.hid (show cz 22 (ps4 X Y ((s 2 + 64 * q) % 256) (s 3) (fun j => s (4 + j))) = cz 22 (rpV s n) by rw [rpV_yes h, ← hX, ← hY, ← hq]; rfl)
    rw [h]
    clear hq hX hY h
    go_enter Tryd.func26, Tryd.ntmps26
    go_upto_region 1 with (fail)
    obtain ⟨W0, B, P, hW, hP, hB, hb, hp, g0, hB0, hP0, hne⟩ := two_new w (cz 22 s) 33 (cz 22 nul) 33
    rw [← cz22_nul] at hW
    rw [hW, hP, hB]
    have HB := Lib.hid hb
    have HP := Lib.hid hp
    have HNE := Lib.hid hne
    clear hW hP hB hb hp hne

    go_upto_region 5 with (first | ((with_reducible show wpList _ _ _ (⟨_, .load 33 (.tmp 2), _, _, _, none⟩ :: _) _ _); refine wpList_load_row rfl 33 (.tmp 2) rfl B rfl 33 _ (0, 0) _ HB.out.raw Tryd.underlying33 rfl infoP ?_) | (go_at_call 18; with_reducible refine (qvalid_at s 0 _ HC).mono ?_; rintro r w1 ⟨rfl, hg⟩; replace g0 := g0.trans hg; replace HB := Lib.hid (HB.out.own hg); replace HP := Lib.hid (HP.out.own hg); clear hg) | (go_at_call 57; with_reducible refine (qred_at n q _ HQ).mono ?_; rintro r w1 ⟨rfl, rfl⟩))
    go_upto_region 6 with (first | ((with_reducible show wpList _ _ _ (⟨_, .load 23 (.tmp 15), _, _, _, none⟩ :: _) _ _); refine wpList_load_part rfl 23 (.tmp 15) rfl B (0) rfl 2 HB.out (by omega) (#[.int .i64 (s 0), .int .i64 (s 1)]) rfl _ Tryd.underlying23 rfl infoPt ?_) | (go_at_call 58; with_reducible refine (qrot_at _ _ q X Y _ (Lib.hid (AimW.tab_own HT.out g0)) b0 b1 bq HXY).mono ?_; rintro r w2 ⟨rfl, hg⟩; replace g0 := g0.trans hg; replace HB := Lib.hid (HB.out.own hg); replace HP := Lib.hid (HP.out.own hg); clear hg) | ((with_reducible show wpList _ _ _ (⟨_, .store 23 (.tmp 19) (.tmp 18), _, _, _, none⟩ :: _) _ _); refine wpList_store_part rfl 23 (.tmp 19) (.tmp 18) rfl B (0) 2 (l2 X Y) rfl (#[.int .i64 X, .int .i64 Y]) rfl rfl HB.out (by omega) infoPt ?_))
    have hb := blk_to (HB.out.row (cz 22 (put s 0 2 (l2 X Y)))) (g := ps4 X Y (s 2) (s 3) (fun j => s (4 + j))) (fun i hi => ps4_eq (p := put s 0 2 (l2 X Y)) (n := 18) rfl rfl rfl rfl (fun j _ => put_out s _ (by omega)) i (by omega))
    have hp := HP.out.rowfar HNE.out.symm (cz 22 (put s 0 2 (l2 X Y)))
    replace g0 := own_setRow g0 hB0 (cz 22 (put s 0 2 (l2 X Y)))
    clear HB HP
    generalize w2.setRow B (cz 22 (put s 0 2 (l2 X Y))) = w3 at *
    have k2 : w3.cell? ⟨B, 2, none⟩ = some (.int .i64 (s 2)) := blk_num hb (i := 2) (by omega)
    have f2 := hb.frozen 2
    have HB := Lib.hid hb
    have HP := Lib.hid hp
    clear hb hp
    go_upto_region 7 with (go_at_call 61; with_reducible refine (AngW.norm_any _ _).mono ?_; rintro r w9 ⟨rfl, rfl⟩)
    have hb := blk_to (blk_ups HB.out (k := 2) (by omega) ((s 2 + 64 * q) % 256)) (g := ps4 X Y ((s 2 + 64 * q) % 256) (s 3) (fun j => s (4 + j))) (fun i _ => ups_ps4 ..)
    have hp := HP.out.far (p := ⟨B, 2, none⟩) HNE.out.symm (.int .i64 ((s 2 + 64 * q) % 256))
    replace g0 := g0.setCell (p := ⟨B, 2, none⟩) hB0 (.int .i64 ((s 2 + 64 * q) % 256))
    clear HB HP k2 f2
    generalize w3.setCell ⟨B, 2, none⟩ (.int .i64 ((s 2 + 64 * q) % 256)) = w4 at *
    have HB := Lib.hid hb
    have HP := Lib.hid hp
    clear hb hp
    go_wp2_with (first | ((with_reducible show wpList _ _ _ (⟨_, .load 33 (.tmp 2), _, _, _, none⟩ :: _) _ _); refine wpList_load_row rfl 33 (.tmp 2) rfl B rfl 33 _ (0, 0) _ HB.out.raw Tryd.underlying33 rfl infoP ?_) | ((with_reducible show wpList _ _ _ (⟨_, .store 33 (.tmp 4) (.tmp 27), _, _, _, none⟩ :: _) _ _); refine wpList_store_row rfl 33 (.tmp 4) (.tmp 27) rfl P (cz 22 (ps4 X Y ((s 2 + 64 * q) % 256) (s 3) (fun j => s (4 + j)))) rfl rfl 33 _ HP.out.raw infoP rfl (cz_one _ _) ?_))
    have hp := HP.out.row (cz 22 (ps4 X Y ((s 2 + 64 * q) % 256) (s 3) (fun j => s (4 + j))))
    rw [← HV.out]
    exact bodyPost_ret (blk_results rfl rfl rfl hp Tryd.underlying33 rfl infoP) rfl ⟨rfl, own_setRow g0 hP0 _⟩
  · obtain ⟨c, hc⟩ : ∃ c, vaE s = c := ⟨_, rfl⟩
    rw [rpV_no h, hc]
    rw [hc] at h
    have kc : (c != 0) = true := bne_iff_ne.2 h
    have HC := Lib.hid hc
    clear h hc
    go_enter Tryd.func26, Tryd.ntmps26
    go_upto_region 1 with (fail)
    obtain ⟨W0, B, P, hW, hP, hB, hb, hp, g0, hB0, hP0, hne⟩ := two_new w (cz 22 s) 33 (cz 22 nul) 33
    rw [← cz22_nul] at hW
    rw [hW, hP, hB]
    have HB := Lib.hid hb
    have HP := Lib.hid hp
    have HNE := Lib.hid hne
    clear hW hP hB hb hp hne

    go_wp2_with (first | ((with_reducible show wpList _ _ _ (⟨_, .load 33 (.tmp 2), _, _, _, none⟩ :: _) _ _); refine wpList_load_row rfl 33 (.tmp 2) rfl B rfl 33 _ (0, 0) _ HB.out.raw Tryd.underlying33 rfl infoP ?_) | (go_at_call 18; with_reducible refine (qvalid_at s c _ HC).mono ?_; rintro r w1 ⟨rfl, hg⟩; replace g0 := g0.trans hg; replace HB := Lib.hid (HB.out.own hg); replace HP := Lib.hid (HP.out.own hg); clear hg) | ((with_reducible show wpList _ _ _ (⟨_, .store 33 (.tmp 4) (.tmp 11), _, _, _, none⟩ :: _) _ _); refine wpList_store_row rfl 33 (.tmp 4) (.tmp 11) rfl P (cz 22 (nul)) rfl rfl 33 _ HP.out.raw infoP rfl (cz_one _ _) ?_))
    have hp := HP.out.row (cz 22 nul)
    exact bodyPost_ret (blk_results rfl rfl rfl hp Tryd.underlying33 rfl infoP) rfl ⟨rfl, own_setRow g0 hP0 _⟩
theorem qrotp_at (s r0 : Vl) (n c : Int) (w : World) (HT : Hid (AngW.Tab w)) (H : Hid (cz 22 (rpV s n) = cz 22 r0 ∧ vaE s = c)) :
    Calls Tryd.prog 26 #[.agg (cz 22 s), .int .i64 n] w fun r w' => r = .returned (.tuple #[.agg (cz 22 r0), .int .i64 c]) ∧ Own w w' := by
  rw [← H.out.1, ← H.out.2]
  exact qrotp_any s n w HT
end Go.Proofs.YtneobaininejaaaDoor.PstW
