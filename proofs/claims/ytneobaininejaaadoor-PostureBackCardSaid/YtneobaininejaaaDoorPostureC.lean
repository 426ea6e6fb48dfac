/-
  Walks of the specification of layer posture: Pose, Valid. Condition: none.
-/
import Derived.Test.YtneobaininejaaaDoorPostureB
namespace Go.Proofs.YtneobaininejaaaDoor.PstW
open Go.ChangeShapes Go.WideShapes Go.ChangeAt Go.RowKit
open PairW AimP AimW BlkW PrtW PstP
theorem bld_pose3r (x y f l : Int) : Tryd.prog.built 33 [(0, .agg #[.int .i64 x, .int .i64 y]), (1, .int .i64 f), (2, .int .i64 l)] = some (cz 22 (ps4 x y f l nul)) := by kernel_rfl
set_option maxRecDepth 100000 in
set_option maxHeartbeats 2000000 in
theorem rpose_any (s : Vl) (w : World) :
    Calls Tryd.prog 12 #[.agg (cz 23 s)] w fun r w' => r = .returned (.tuple #[.agg (cz 22 (poV s)), .int .i64 (stE s)]) ∧ Own w w' := by
  by_cases h : stE s = 0
  · obtain ⟨⟨-, -, b2, b3, -⟩, hz, -⟩ := st_yes h
    have HC := Lib.hid h
    have HZ := Lib.hid hz
    have HVE := Lib.hid (show poV s = poS s from poV_yes h)
    rw [h]
    clear hz h
    go_enter Tryd.func12, Tryd.ntmps12
    go_upto_region 1 with (fail)
    obtain ⟨W0, B, P, hW, hP, hB, hb, hp, g0, -, hP0, hne⟩ := two_new w (cz 23 s) 28 (cz 22 nul) 33
    rw [← cz22_nul] at hW
    rw [hW, hP, hB]
    have HB := Lib.hid hb
    have HP := Lib.hid hp
    have HNE := Lib.hid hne
    clear hW hP hB hb hp hne

    go_upto_region 4 with (first | ((with_reducible show wpList _ _ _ (⟨_, .load 28 (.tmp 1), _, _, _, none⟩ :: _) _ _); refine wpList_load_row rfl 28 (.tmp 1) rfl B rfl 28 _ (0, 0) _ HB.out.raw Tryd.underlying28 rfl infoS ?_) | (go_at_call 14; with_reducible refine (rcheck_at s 0 _ HC).mono ?_; rintro r w1 ⟨rfl, hg⟩; replace g0 := g0.trans hg; replace HB := Lib.hid (HB.out.own hg); replace HP := Lib.hid (HP.out.own hg); clear hg))
    have k2 : w1.cell? ⟨B, 2, none⟩ = some (.int .i64 (s 2)) := blk_num HB.out (by omega)
    have k3 : w1.cell? ⟨B, 3, none⟩ = some (.int .i64 (s 3)) := blk_num HB.out (by omega)
    go_upto_region 5 with (first | ((with_reducible show wpList _ _ _ (⟨_, .load 23 (.tmp 15), _, _, _, none⟩ :: _) _ _); refine wpList_load_part rfl 23 (.tmp 15) rfl B (0) rfl 2 HB.out (by omega) (#[.int .i64 (s 0), .int .i64 (s 1)]) rfl _ Tryd.underlying23 rfl infoPt ?_) | ((with_reducible show wpList _ _ _ (⟨_, .build 33 _, _, _, _, _⟩ :: _) _ _); refine wpList_build_as rfl 33 [(0, .tmp 16), (1, .tmp 19), (2, .tmp 22)] rfl [(0, .agg #[.int .i64 (s 0), .int .i64 (s 1)]), (1, .int .i64 (32 * s 2)), (2, .int .i64 (8 * s 3))] rfl (cz 22 (ps4 (s 0) (s 1) (32 * s 2) (8 * s 3) nul)) (bld_pose3r _ _ _ _) ?_) | ((with_reducible show wpList _ _ _ (⟨_, .store 33 (.tmp 5) (.tmp 23), _, _, _, none⟩ :: _) _ _); refine wpList_store_row rfl 33 (.tmp 5) (.tmp 23) rfl _ (cz 22 (ps4 (s 0) (s 1) (32 * s 2) (8 * s 3) nul)) rfl rfl 33 _ (heap_new _ _) infoP rfl (cz_one _ _) ?_; rw [World.setRow_alloc_new]))
    clear k2 k3
    obtain ⟨w2, N, hW, hBq, hb, hg, Ng⟩ := blk_new w1 (cz 22 (ps4 (s 0) (s 1) (32 * s 2) (8 * s 3) nul)) 33
    have hPN := Lib.hid (Nat.ne_of_lt (Nat.lt_of_lt_of_le HP.out.lt Ng))
    have hBN := Lib.hid (Nat.ne_of_lt (Nat.lt_of_lt_of_le HB.out.lt Ng))
    have hN0 : w.heap.size ≤ N := Nat.le_trans g0.size Ng
    rw [hW, hBq]
    have HN := Lib.hid hb
    replace g0 := g0.trans hg
    replace HB := Lib.hid (HB.out.own hg)
    replace HP := Lib.hid (HP.out.own hg)
    clear hW hBq hb hg
    clear Ng
    go_wp2
    go_loopw [6, 7, 8] (fun vi _ _ wr => ∃ k : Nat, vi = .int .i64 (k : Int) ∧ k ≤ 6 ∧ Own w wr ∧ Blk wr B (cz 23 s) 28 ∧ Blk wr P (cz 22 nul) 33 ∧ ∃ f, Blk wr N (cz 22 f) 33 ∧ ∀ j, j < 4 + k * 3 → f j = poS s j) (fun vi _ _ _ => 6 - (intOf vi).toNat)
    case atStart =>
      refine ⟨0, rfl, by omega, g0, HB.out, HP.out, _, HN.out, fun j hj => ?_⟩
      have t : j = 0 ∨ j = 1 ∨ j = 2 ∨ j = 3 := by omega
      rcases t with rfl | rfl | rfl | rfl <;> rfl
    case round =>
      clear HP HN HB g0
      obtain ⟨k, rfl, hk, g0, hb, hp, f, hn, hf⟩ := hrel
      have HB := Lib.hid hb
      have HP := Lib.hid hp
      have HN := Lib.hid hn
      have HF := Lib.hid hf
      clear hb hp hn hf
      by_cases hlt : k < 6
      · obtain ⟨x, hx⟩ : ∃ x, aZ s k = x := ⟨_, rfl⟩
        obtain ⟨y, hy⟩ : ∃ x, aL s k = x := ⟨_, rfl⟩
        obtain ⟨u, hu⟩ : ∃ x, aB s k = x := ⟨_, rfl⟩
        have HO := Lib.hid (And.intro hx (And.intro hy hu))
        have HOF := Lib.hid (show ofZ k (s (5 + k * 3)) (s (5 + k * 3 + 1)) (s (5 + k * 3 + 2)) = x ∧ ofL k (s (5 + k * 3)) (s (5 + k * 3 + 1)) (s (5 + k * 3 + 2)) = y ∧ ofB k (s (5 + k * 3)) (s (5 + k * 3 + 1)) (s (5 + k * 3 + 2)) = u ∧ ofE k (s (5 + k * 3)) (s (5 + k * 3 + 1)) (s (5 + k * 3 + 2)) = 0 from ⟨hx, hy, hu, HZ.out k hlt⟩)
        clear hx hy hu
        have hkn : (k : Int) < 6 := by omega
        go_upto_region 9 with (first | ((with_reducible show wpList _ _ _ (⟨_, .load 25 (.tmp 32), _, _, _, none⟩ :: _) _ _); refine wpList_load_part rfl 25 (.tmp 32) rfl B (5 + k * 3) rfl 3 HB.out (by omega) (#[.int .i64 (s (5 + k * 3)), .int .i64 (s (5 + k * 3 + 1)), .int .i64 (s (5 + k * 3 + 2))]) rfl _ Tryd.underlying25 rfl infoT ?_) | (go_at_call 29; with_reducible refine (rof_at _ _ _ _ x y u 0 _ HOF).mono ?_; rintro r w3 ⟨rfl, hg⟩; replace g0 := g0.trans hg; replace HB := Lib.hid (HB.out.own hg); replace HP := Lib.hid (HP.out.own hg); replace HN := Lib.hid (HN.out.own hg); clear hg) | ((with_reducible show wpList _ _ _ (⟨_, .store 30 (.tmp 7) (.tmp 35), _, _, _, none⟩ :: _) _ _); refine wpList_store_row rfl 30 (.tmp 7) (.tmp 35) rfl _ #[.int .i64 x, .int .i64 y, .int .i64 u] rfl rfl 30 _ (heap_new _ _) infoA rfl (by simp [Value.oneCell']) ?_; rw [World.setRow_alloc_new]))
        clear HOF
        obtain ⟨w4, E, hW, hBq, hb, hg, Eg⟩ := blk_new w3 (#[.int .i64 x, .int .i64 y, .int .i64 u]) 30
        rw [hW, hBq]
        have HE2 := Lib.hid hb
        replace g0 := g0.trans hg
        replace HB := Lib.hid (HB.out.own hg)
        replace HP := Lib.hid (HP.out.own hg)
        replace HN := Lib.hid (HN.out.own hg)
        clear hW hBq hb hg
        go_upto_region 7 with (first | ((with_reducible show wpList _ _ _ (⟨_, .load 30 (.tmp 7), _, _, _, none⟩ :: _) _ _); refine wpList_load_row rfl 30 (.tmp 7) rfl E rfl 30 _ (0, 0) _ HE2.out.raw Tryd.underlying30 rfl infoA ?_) | ((with_reducible show wpList _ _ _ (⟨_, .store 30 (.tmp 40) (.tmp 38), _, _, _, none⟩ :: _) _ _); refine wpList_store_part rfl 30 (.tmp 40) (.tmp 38) rfl N (4 + k * 3) 3 (l3 x y u) rfl (#[.int .i64 x, .int .i64 y, .int .i64 u]) rfl rfl HN.out (by omega) infoA ?_))
        have hn := HN.out.row (cz 22 (put f (4 + k * 3) 3 (l3 x y u)))
        have hp := HP.out.rowfar hPN.out (cz 22 (put f (4 + k * 3) 3 (l3 x y u)))
        have hb := HB.out.rowfar hBN.out (cz 22 (put f (4 + k * 3) 3 (l3 x y u)))
        replace g0 := own_setRow g0 hN0 (cz 22 (put f (4 + k * 3) 3 (l3 x y u)))
        clear HP HN HB HE2 Eg
        generalize w4.setRow N (cz 22 (put f (4 + k * 3) 3 (l3 x y u))) = w5 at *
        have HR := Lib.hid (And.intro hb (And.intro hp hn))
        clear hp hn hb
        go_wp2
        go_roundw
        case rel =>
          refine ⟨k + 1, by go_num, hlt, g0, HR.out.1, HR.out.2.1, _, HR.out.2.2, fun j hj => ?_⟩
          obtain ⟨o1, o2, o3⟩ := HO.out
          obtain ⟨n1, n2, n3⟩ := po_cells s k
          exact put_next (g := poS s) HF.out (n1.trans o1) (n2.trans o2) (n3.trans o3) j (by omega)
        case measure => simp [intOf]; omega
      · obtain rfl : k = 6 := by omega
        have HV := Lib.hid (show cz 22 f = cz 22 (poV s) by rw [HVE.out]; exact cz_congr HF.out)
        clear HF HVE HZ
        go_wp2_with (first | ((with_reducible show wpList _ _ _ (⟨_, .load 33 (.tmp 5), _, _, _, none⟩ :: _) _ _); refine wpList_load_row rfl 33 (.tmp 5) rfl N rfl 33 _ (0, 0) _ HN.out.raw Tryd.underlying33 rfl infoP ?_) | ((with_reducible show wpList _ _ _ (⟨_, .store 33 (.tmp 2) (.tmp 41), _, _, _, none⟩ :: _) _ _); refine wpList_store_row rfl 33 (.tmp 2) (.tmp 41) rfl P (cz 22 (f)) rfl rfl 33 _ HP.out.raw infoP rfl (cz_one _ _) ?_))
        have hp := HP.out.row (cz 22 f)
        rw [← HV.out]
        exact bodyPost_ret (blk_results rfl rfl rfl hp Tryd.underlying33 rfl infoP) rfl ⟨rfl, own_setRow g0 hP0 _⟩
  · obtain ⟨c, hc⟩ : ∃ c, stE s = c := ⟨_, rfl⟩
    rw [poV_no h, hc]
    rw [hc] at h
    have kc : (c != 0) = true := bne_iff_ne.2 h
    have HC := Lib.hid hc
    clear h hc
    go_enter Tryd.func12, Tryd.ntmps12
    go_upto_region 1 with (fail)
    obtain ⟨W0, B, P, hW, hP, hB, hb, hp, g0, -, hP0, hne⟩ := two_new w (cz 23 s) 28 (cz 22 nul) 33
    rw [← cz22_nul] at hW
    rw [hW, hP, hB]
    have HB := Lib.hid hb
    have HP := Lib.hid hp
    have HNE := Lib.hid hne
    clear hW hP hB hb hp hne

    go_wp2_with (first | ((with_reducible show wpList _ _ _ (⟨_, .load 28 (.tmp 1), _, _, _, none⟩ :: _) _ _); refine wpList_load_row rfl 28 (.tmp 1) rfl B rfl 28 _ (0, 0) _ HB.out.raw Tryd.underlying28 rfl infoS ?_) | (go_at_call 14; with_reducible refine (rcheck_at s c _ HC).mono ?_; rintro r w1 ⟨rfl, hg⟩; replace g0 := g0.trans hg; replace HB := Lib.hid (HB.out.own hg); replace HP := Lib.hid (HP.out.own hg); clear hg) | ((with_reducible show wpList _ _ _ (⟨_, .store 33 (.tmp 2) (.tmp 13), _, _, _, none⟩ :: _) _ _); refine wpList_store_row rfl 33 (.tmp 2) (.tmp 13) rfl P (cz 22 (nul)) rfl rfl 33 _ HP.out.raw infoP rfl (cz_one _ _) ?_))
    have hp := HP.out.row (cz 22 nul)
    exact bodyPost_ret (blk_results rfl rfl rfl hp Tryd.underlying33 rfl infoP) rfl ⟨rfl, own_setRow g0 hP0 _⟩
theorem rpose_at (s p : Vl) (c : Int) (w : World) (H : Hid (cz 22 (poV s) = cz 22 p ∧ stE s = c)) :
    Calls Tryd.prog 12 #[.agg (cz 23 s)] w fun r w' => r = .returned (.tuple #[.agg (cz 22 p), .int .i64 c]) ∧ Own w w' := by
  rw [← H.out.1, ← H.out.2]
  exact rpose_any s w
set_option maxRecDepth 100000 in
set_option maxHeartbeats 2000000 in
theorem rvalid_any (p : Vl) (w : World) :
    Calls Tryd.prog 19 #[.agg (cz 22 p)] w fun r w' => r = .returned (.int .i64 (vaE p)) ∧ Own w w' := by
  by_cases h0 : -32768 ≤ p 0 ∧ p 0 ≤ 32768
  · have H0 := Lib.hid ((AngW.floor_iff (p 0)).2 h0)
    by_cases h1 : -32768 ≤ p 1 ∧ p 1 ≤ 32768
    · have H1 := Lib.hid ((AngW.floor_iff (p 1)).2 h1)
      by_cases hr : (0 ≤ p 2 ∧ p 2 ≤ 255) ∧ -8 ≤ p 3 ∧ p 3 ≤ 8
      · have hE : vaE p = fe (pE p) := if_pos (show paR p from ⟨h0, h1, hr⟩)
        rw [hE]
        have d0 : decide (p 2 < 0) = false := decide_eq_false (by omega)
        have d1 : decide (255 < p 2) = false := decide_eq_false (by omega)
        have d2 : decide (p 3 < -8) = false := decide_eq_false (by omega)
        have d3 : decide (8 < p 3) = false := decide_eq_false (by omega)
        clear hE h0 h1 hr
        go_enter Tryd.func19, Tryd.ntmps19
        go_upto_region 1 with (fail)
        obtain ⟨W0, B, hW, hBq, hb, g0, -⟩ := blk_new w (cz 22 p) 33
        rw [hW, hBq]
        have HB := Lib.hid hb
        have k0 : W0.cell? ⟨B, 0, none⟩ = some (.int .i64 (p 0)) := blk_num HB.out (by omega)
        have k1 : W0.cell? ⟨B, 1, none⟩ = some (.int .i64 (p 1)) := blk_num HB.out (by omega)
        have k2 : W0.cell? ⟨B, 2, none⟩ = some (.int .i64 (p 2)) := blk_num HB.out (by omega)
        have k3 : W0.cell? ⟨B, 3, none⟩ = some (.int .i64 (p 3)) := blk_num HB.out (by omega)
        clear hW hBq hb

        go_upto_region 3 with (first | (go_at_call 35; with_reducible refine (ron_at (p 0) true _ H0).mono ?_; rintro r w1 ⟨rfl, rfl⟩) | (go_at_call 35; with_reducible refine (ron_at (p 1) true _ H1).mono ?_; rintro r w1 ⟨rfl, rfl⟩))
        clear k0 k1 k2 k3 d0 d1 d2 d3 H0 H1
        go_wp2
        go_loopw [3, 4] (fun vi _ wr => ∃ k : Nat, vi = .int .i64 (k : Int) ∧ k ≤ 6 ∧ (∀ i, i < k → pE p i = 0) ∧ Own w wr ∧ Blk wr B (cz 22 p) 33) (fun vi _ _ => 6 - (intOf vi).toNat)
        case atStart => exact ⟨0, rfl, by omega, fun i hi => absurd hi (by omega), g0, HB.out⟩
        case round =>
          clear HB g0
          obtain ⟨k, rfl, hk, hz, g0, hb⟩ := hrel
          have HB := Lib.hid hb
          have HZ := Lib.hid hz
          clear hb hz
          by_cases hlt : k < 6
          · obtain ⟨c, hc⟩ : ∃ x, pE p k = x := ⟨_, rfl⟩
            have HO := Lib.hid hc
            have HOF := Lib.hid (show chk k (p (4 + k * 3)) (p (4 + k * 3 + 1)) (p (4 + k * 3 + 2)) = c from hc)
            clear hc
            have hkn : (k : Int) < 6 := by omega
            by_cases c0 : c = 0
            · subst c0
              go_wp2_with (first | ((with_reducible show wpList _ _ _ (⟨_, .load 30 (.tmp 44), _, _, _, none⟩ :: _) _ _); refine wpList_load_part rfl 30 (.tmp 44) rfl B (4 + k * 3) rfl 3 HB.out (by omega) (#[.int .i64 (p (4 + k * 3)), .int .i64 (p (4 + k * 3 + 1)), .int .i64 (p (4 + k * 3 + 2))]) rfl _ Tryd.underlying30 rfl infoA ?_) | (go_at_call 45; with_reducible refine (AimW.rcheck_at _ _ _ _ 0 _ HOF).mono ?_; rintro r w2 ⟨rfl, hg⟩; replace g0 := g0.trans hg; replace HB := Lib.hid (HB.out.own hg); clear hg))
              go_roundw
              case rel =>
                refine ⟨k + 1, by go_num, hlt, fun i hi => ?_, g0, HB.out⟩
                by_cases e : i = k
                · rw [e]; exact HO.out
                · exact HZ.out i (by omega)
              case measure => simp [intOf]; omega
            · have kc : (c != 0) = true := bne_iff_ne.2 c0
              have HV := Lib.hid (show c = fe (pE p) by rw [fe_at HZ.out (by rw [HO.out]; exact c0) hlt]; exact HO.out.symm)
              clear HO HZ c0
              go_wp2_with (first | ((with_reducible show wpList _ _ _ (⟨_, .load 30 (.tmp 44), _, _, _, none⟩ :: _) _ _); refine wpList_load_part rfl 30 (.tmp 44) rfl B (4 + k * 3) rfl 3 HB.out (by omega) (#[.int .i64 (p (4 + k * 3)), .int .i64 (p (4 + k * 3 + 1)), .int .i64 (p (4 + k * 3 + 2))]) rfl _ Tryd.underlying30 rfl infoA ?_) | (go_at_call 45; with_reducible refine (AimW.rcheck_at _ _ _ _ c _ HOF).mono ?_; rintro r w2 ⟨rfl, hg⟩; replace g0 := g0.trans hg; replace HB := Lib.hid (HB.out.own hg); clear hg))
              go_ret
              exact ⟨ret_int HV.out, g0⟩
          · obtain rfl : k = 6 := by omega
            have HV := Lib.hid (show 0 = fe (pE p) from (fe_ok HZ.out).symm)
            clear HZ
            go_wp2
            go_ret
            exact ⟨ret_int HV.out, g0⟩
      · have hn : vaE p = 1 := if_neg (fun x : paR p => hr x.2.2)
        rw [hn]
        clear h0 h1
        by_cases c0 : p 2 < 0
        · have d0 : decide (p 2 < 0) = true := decide_eq_true c0
          clear hn c0
          go_enter Tryd.func19, Tryd.ntmps19
          go_upto_region 1 with (fail)
          obtain ⟨W0, B, hW, hBq, hb, g0, -⟩ := blk_new w (cz 22 p) 33
          rw [hW, hBq]
          have HB := Lib.hid hb
          have k0 : W0.cell? ⟨B, 0, none⟩ = some (.int .i64 (p 0)) := blk_num HB.out (by omega)
          have k1 : W0.cell? ⟨B, 1, none⟩ = some (.int .i64 (p 1)) := blk_num HB.out (by omega)
          have k2 : W0.cell? ⟨B, 2, none⟩ = some (.int .i64 (p 2)) := blk_num HB.out (by omega)
          have k3 : W0.cell? ⟨B, 3, none⟩ = some (.int .i64 (p 3)) := blk_num HB.out (by omega)
          clear hW hBq hb
          go_wp2_with (first | (go_at_call 35; with_reducible refine (ron_at (p 0) true _ H0).mono ?_; rintro r w1 ⟨rfl, rfl⟩) | (go_at_call 35; with_reducible refine (ron_at (p 1) true _ H1).mono ?_; rintro r w1 ⟨rfl, rfl⟩))
          go_ret
          exact ⟨rfl, g0⟩
        have d0 : decide (p 2 < 0) = false := decide_eq_false c0
        by_cases c1 : 255 < p 2
        · have d1 : decide (255 < p 2) = true := decide_eq_true c1
          clear hn c0 c1
          go_enter Tryd.func19, Tryd.ntmps19
          go_upto_region 1 with (fail)
          obtain ⟨W0, B, hW, hBq, hb, g0, -⟩ := blk_new w (cz 22 p) 33
          rw [hW, hBq]
          have HB := Lib.hid hb
          have k0 : W0.cell? ⟨B, 0, none⟩ = some (.int .i64 (p 0)) := blk_num HB.out (by omega)
          have k1 : W0.cell? ⟨B, 1, none⟩ = some (.int .i64 (p 1)) := blk_num HB.out (by omega)
          have k2 : W0.cell? ⟨B, 2, none⟩ = some (.int .i64 (p 2)) := blk_num HB.out (by omega)
          have k3 : W0.cell? ⟨B, 3, none⟩ = some (.int .i64 (p 3)) := blk_num HB.out (by omega)
          clear hW hBq hb
          go_wp2_with (first | (go_at_call 35; with_reducible refine (ron_at (p 0) true _ H0).mono ?_; rintro r w1 ⟨rfl, rfl⟩) | (go_at_call 35; with_reducible refine (ron_at (p 1) true _ H1).mono ?_; rintro r w1 ⟨rfl, rfl⟩))
          go_ret
          exact ⟨rfl, g0⟩
        have d1 : decide (255 < p 2) = false := decide_eq_false c1
        by_cases c2 : p 3 < -8
        · have d2 : decide (p 3 < -8) = true := decide_eq_true c2
          clear hn c0 c1 c2
          go_enter Tryd.func19, Tryd.ntmps19
          go_upto_region 1 with (fail)
          obtain ⟨W0, B, hW, hBq, hb, g0, -⟩ := blk_new w (cz 22 p) 33
          rw [hW, hBq]
          have HB := Lib.hid hb
          have k0 : W0.cell? ⟨B, 0, none⟩ = some (.int .i64 (p 0)) := blk_num HB.out (by omega)
          have k1 : W0.cell? ⟨B, 1, none⟩ = some (.int .i64 (p 1)) := blk_num HB.out (by omega)
          have k2 : W0.cell? ⟨B, 2, none⟩ = some (.int .i64 (p 2)) := blk_num HB.out (by omega)
          have k3 : W0.cell? ⟨B, 3, none⟩ = some (.int .i64 (p 3)) := blk_num HB.out (by omega)
          clear hW hBq hb
          go_wp2_with (first | (go_at_call 35; with_reducible refine (ron_at (p 0) true _ H0).mono ?_; rintro r w1 ⟨rfl, rfl⟩) | (go_at_call 35; with_reducible refine (ron_at (p 1) true _ H1).mono ?_; rintro r w1 ⟨rfl, rfl⟩))
          go_ret
          exact ⟨rfl, g0⟩
        have d2 : decide (p 3 < -8) = false := decide_eq_false c2
        have d3 : decide (8 < p 3) = true := decide_eq_true (by omega)
        clear hn c0 c1 c2
        go_enter Tryd.func19, Tryd.ntmps19
        go_upto_region 1 with (fail)
        obtain ⟨W0, B, hW, hBq, hb, g0, -⟩ := blk_new w (cz 22 p) 33
        rw [hW, hBq]
        have HB := Lib.hid hb
        have k0 : W0.cell? ⟨B, 0, none⟩ = some (.int .i64 (p 0)) := blk_num HB.out (by omega)
        have k1 : W0.cell? ⟨B, 1, none⟩ = some (.int .i64 (p 1)) := blk_num HB.out (by omega)
        have k2 : W0.cell? ⟨B, 2, none⟩ = some (.int .i64 (p 2)) := blk_num HB.out (by omega)
        have k3 : W0.cell? ⟨B, 3, none⟩ = some (.int .i64 (p 3)) := blk_num HB.out (by omega)
        clear hW hBq hb
        go_wp2_with (first | (go_at_call 35; with_reducible refine (ron_at (p 0) true _ H0).mono ?_; rintro r w1 ⟨rfl, rfl⟩) | (go_at_call 35; with_reducible refine (ron_at (p 1) true _ H1).mono ?_; rintro r w1 ⟨rfl, rfl⟩))
        go_ret
        exact ⟨rfl, g0⟩
    · have H1 := Lib.hid ((fl_no (p 1)).2 (by omega))
      have hn : vaE p = 1 := if_neg (fun x : paR p => h1 x.2.1)
      rw [hn]
      clear hn h0 h1
      go_enter Tryd.func19, Tryd.ntmps19
      go_upto_region 1 with (fail)
      obtain ⟨W0, B, hW, hBq, hb, g0, -⟩ := blk_new w (cz 22 p) 33
      rw [hW, hBq]
      have HB := Lib.hid hb
      have k0 : W0.cell? ⟨B, 0, none⟩ = some (.int .i64 (p 0)) := blk_num HB.out (by omega)
      have k1 : W0.cell? ⟨B, 1, none⟩ = some (.int .i64 (p 1)) := blk_num HB.out (by omega)
      clear hW hBq hb
      go_wp2_with (first | (go_at_call 35; with_reducible refine (ron_at (p 0) true _ H0).mono ?_; rintro r w1 ⟨rfl, rfl⟩) | (go_at_call 35; with_reducible refine (ron_at (p 1) false _ H1).mono ?_; rintro r w1 ⟨rfl, rfl⟩))
      go_ret
      exact ⟨rfl, g0⟩
  · have H0 := Lib.hid ((fl_no (p 0)).2 (by omega))
    have hn : vaE p = 1 := if_neg (fun x : paR p => h0 x.1)
    rw [hn]
    clear hn h0
    go_enter Tryd.func19, Tryd.ntmps19
    go_upto_region 1 with (fail)
    obtain ⟨W0, B, hW, hBq, hb, g0, -⟩ := blk_new w (cz 22 p) 33
    rw [hW, hBq]
    have HB := Lib.hid hb
    have k0 : W0.cell? ⟨B, 0, none⟩ = some (.int .i64 (p 0)) := blk_num HB.out (by omega)
    have k1 : W0.cell? ⟨B, 1, none⟩ = some (.int .i64 (p 1)) := blk_num HB.out (by omega)
    clear hW hBq hb
    go_wp2_with (go_at_call 35; with_reducible refine (ron_at (p 0) false _ H0).mono ?_; rintro r w1 ⟨rfl, rfl⟩)
    go_ret
    exact ⟨rfl, g0⟩
theorem rvalid_at (p : Vl) (c : Int) (w : World) (H : Hid (vaE p = c)) :
    Calls Tryd.prog 19 #[.agg (cz 22 p)] w fun r w' => r = .returned (.int .i64 c) ∧ Own w w' := by
  rw [← H.out]
  exact rvalid_any p w
end Go.Proofs.YtneobaininejaaaDoor.PstW
