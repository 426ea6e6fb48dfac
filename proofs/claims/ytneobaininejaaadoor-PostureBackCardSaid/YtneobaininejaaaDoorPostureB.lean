/-
  Walks of the specification of layer posture: Check. Condition: none.
-/
import Derived.Test.YtneobaininejaaaDoorPostureA
namespace Go.Proofs.YtneobaininejaaaDoor.PstW
open Go.ChangeShapes Go.WideShapes Go.ChangeAt Go.RowKit
open PairW AimP AimW BlkW PrtW PstP
set_option maxRecDepth 100000 in
set_option maxHeartbeats 2000000 in
theorem rcheck_any (s : Vl) (w : World) :
    Calls Tryd.prog 14 #[.agg (cz 23 s)] w fun r w' => r = .returned (.int .i64 (stE s)) ∧ Own w w' := by
  by_cases h0 : -32768 ≤ s 0 ∧ s 0 ≤ 32768
  · have H0 := Lib.hid ((AngW.floor_iff (s 0)).2 h0)
    by_cases h1 : -32768 ≤ s 1 ∧ s 1 ≤ 32768
    · have H1 := Lib.hid ((AngW.floor_iff (s 1)).2 h1)
      by_cases hr : (0 ≤ s 2 ∧ s 2 ≤ 7) ∧ (-1 ≤ s 3 ∧ s 3 ≤ 1) ∧ 1 ≤ s 4 ∧ s 4 ≤ 3
      · have hE : stE s = if fe (tE s) = 0 then (if wtOk s then 0 else 19) else fe (tE s) := if_pos (show stR s from ⟨h0, h1, hr⟩)
        have HE := Lib.hid hE
        have d0 : decide (s 2 < 0) = false := decide_eq_false (by omega)
        have d1 : decide (7 < s 2) = false := decide_eq_false (by omega)
        have d2 : decide (s 3 < -1) = false := decide_eq_false (by omega)
        have d3 : decide (1 < s 3) = false := decide_eq_false (by omega)
        have d4 : decide (s 4 < 1) = false := decide_eq_false (by omega)
        have d5 : decide (3 < s 4) = false := decide_eq_false (by omega)
        have hu := hr.2.2
        clear hE h0 h1 hr
        go_enter Tryd.func14, Tryd.ntmps14
        go_upto_region 1 with (fail)
        obtain ⟨W0, B, hW, hBq, hb, g0, -⟩ := blk_new w (cz 23 s) 28
        rw [hW, hBq]
        have HB := Lib.hid hb
        have k0 : W0.cell? ⟨B, 0, none⟩ = some (.int .i64 (s 0)) := blk_num HB.out (by omega)
        have k1 : W0.cell? ⟨B, 1, none⟩ = some (.int .i64 (s 1)) := blk_num HB.out (by omega)
        have k2 : W0.cell? ⟨B, 2, none⟩ = some (.int .i64 (s 2)) := blk_num HB.out (by omega)
        have k3 : W0.cell? ⟨B, 3, none⟩ = some (.int .i64 (s 3)) := blk_num HB.out (by omega)
        have k4 : W0.cell? ⟨B, 4, none⟩ = some (.int .i64 (s 4)) := blk_num HB.out (by omega)
        clear hW hBq hb

        go_upto_region 3 with (first | (go_at_call 35; with_reducible refine (ron_at (s 0) true _ H0).mono ?_; rintro r w1 ⟨rfl, rfl⟩) | (go_at_call 35; with_reducible refine (ron_at (s 1) true _ H1).mono ?_; rintro r w1 ⟨rfl, rfl⟩))
        clear k0 k1 k2 k3 k4 d0 d1 d2 d3 d4 d5 H0 H1
        go_wp2
        go_loopw [3, 4, 5] (fun vi _ _ wr => ∃ k : Nat, vi = .int .i64 (k : Int) ∧ k ≤ 6 ∧ (∀ i, i < k → tE s i = 0) ∧ Own w wr ∧ Blk wr B (cz 23 s) 28) (fun vi _ _ _ => 6 - (intOf vi).toNat)
        case atStart => exact ⟨0, rfl, by omega, fun i hi => absurd hi (by omega), g0, HB.out⟩
        case round =>
          clear HB g0
          obtain ⟨k, rfl, hk, hz, g0, hb⟩ := hrel
          have HB := Lib.hid hb
          have HZ := Lib.hid hz
          clear hb hz
          by_cases hlt : k < 6
          · obtain ⟨x, hx⟩ : ∃ x, aZ s k = x := ⟨_, rfl⟩
            obtain ⟨y, hy⟩ : ∃ x, aL s k = x := ⟨_, rfl⟩
            obtain ⟨u, hu2⟩ : ∃ x, aB s k = x := ⟨_, rfl⟩
            obtain ⟨c, hc⟩ : ∃ x, tE s k = x := ⟨_, rfl⟩
            have HO := Lib.hid hc
            have HOF := Lib.hid (show ofZ k (s (5 + k * 3)) (s (5 + k * 3 + 1)) (s (5 + k * 3 + 2)) = x ∧ ofL k (s (5 + k * 3)) (s (5 + k * 3 + 1)) (s (5 + k * 3 + 2)) = y ∧ ofB k (s (5 + k * 3)) (s (5 + k * 3 + 1)) (s (5 + k * 3 + 2)) = u ∧ ofE k (s (5 + k * 3)) (s (5 + k * 3 + 1)) (s (5 + k * 3 + 2)) = c from ⟨hx, hy, hu2, hc⟩)
            clear hx hy hu2 hc
            have hkn : (k : Int) < 6 := by omega
            by_cases c0 : c = 0
            · subst c0
              go_upto_region 7 with (first | ((with_reducible show wpList _ _ _ (⟨_, .load 25 (.tmp 56), _, _, _, none⟩ :: _) _ _); refine wpList_load_part rfl 25 (.tmp 56) rfl B (5 + k * 3) rfl 3 HB.out (by omega) (#[.int .i64 (s (5 + k * 3)), .int .i64 (s (5 + k * 3 + 1)), .int .i64 (s (5 + k * 3 + 2))]) rfl _ Tryd.underlying25 rfl infoT ?_) | (go_at_call 29; with_reducible refine (rof_at _ _ _ _ x y u 0 _ HOF).mono ?_; rintro r w2 ⟨rfl, hg⟩; replace g0 := g0.trans hg; replace HB := Lib.hid (HB.out.own hg); clear hg) | ((with_reducible show wpList _ _ _ (⟨_, .store 30 (.tmp 4) (.tmp 59), _, _, _, none⟩ :: _) _ _); refine wpList_store_row rfl 30 (.tmp 4) (.tmp 59) rfl _ #[.int .i64 x, .int .i64 y, .int .i64 u] rfl rfl 30 _ (heap_new _ _) infoA rfl (by simp [Value.oneCell']) ?_; rw [World.setRow_alloc_new]))
              clear HOF
              obtain ⟨w3, E, hW, hBq, hb, hg, Eg⟩ := blk_new w2 (#[.int .i64 x, .int .i64 y, .int .i64 u]) 30
              rw [hW, hBq]
              have HE2 := Lib.hid hb
              replace g0 := g0.trans hg
              replace HB := Lib.hid (HB.out.own hg)
              clear hW hBq hb hg
              clear HE2 Eg
              go_wp2
              go_roundw
              case rel =>
                refine ⟨k + 1, by go_num, hlt, fun i hi => ?_, g0, HB.out⟩
                by_cases e : i = k
                · rw [e]; exact HO.out
                · exact HZ.out i (by omega)
              case measure => simp [intOf]; omega
            · have kc : (c != 0) = true := bne_iff_ne.2 c0
              have HV := Lib.hid (show c = stE s by
                have h1 : fe (tE s) = c := by rw [fe_at HZ.out (by rw [HO.out]; exact c0) hlt]; exact HO.out
                rw [HE.out, if_neg (by rw [h1]; exact c0), h1])
              clear HO HZ c0 HE
              go_wp2_with (first | ((with_reducible show wpList _ _ _ (⟨_, .load 25 (.tmp 56), _, _, _, none⟩ :: _) _ _); refine wpList_load_part rfl 25 (.tmp 56) rfl B (5 + k * 3) rfl 3 HB.out (by omega) (#[.int .i64 (s (5 + k * 3)), .int .i64 (s (5 + k * 3 + 1)), .int .i64 (s (5 + k * 3 + 2))]) rfl _ Tryd.underlying25 rfl infoT ?_) | (go_at_call 29; with_reducible refine (rof_at _ _ _ _ x y u c _ HOF).mono ?_; rintro r w2 ⟨rfl, hg⟩; replace g0 := g0.trans hg; replace HB := Lib.hid (HB.out.own hg); clear hg) | ((with_reducible show wpList _ _ _ (⟨_, .store 30 (.tmp 4) (.tmp 59), _, _, _, none⟩ :: _) _ _); refine wpList_store_row rfl 30 (.tmp 4) (.tmp 59) rfl _ #[.int .i64 x, .int .i64 y, .int .i64 u] rfl rfl 30 _ (heap_new _ _) infoA rfl (by simp [Value.oneCell']) ?_; rw [World.setRow_alloc_new]))
              go_ret
              exact ⟨ret_int HV.out, g0.alloc _⟩
          · obtain rfl : k = 6 := by omega
            obtain ⟨t0, h5⟩ : ∃ t, dwB (s 5) (s 6) (s 7) = t := ⟨_, rfl⟩
            obtain ⟨t1, h8⟩ : ∃ t, dwB (s 8) (s 9) (s 10) = t := ⟨_, rfl⟩
            have hv : stE s = if ((decide (s 4 = 2) || t0) && (decide (s 4 = 1) || t1)) = true then 0 else 19 := by
              have hw := wt_bool s
              rw [h5, h8] at hw
              rw [HE.out, if_pos (fe_ok HZ.out), ← hw]
              by_cases c : wtOk s
              · rw [if_pos c, if_pos (decide_eq_true c)]
              · rw [if_neg c, if_neg (fun x => c (of_decide_eq_true x))]
            go_upto_region 9 with (fail)
            have hq := HB.out
            have k4 : ∀ x : After wr, x.w.cell? ⟨B, 4, none⟩ = some (.int .i64 (s 4)) := fun x => x.o.cell (blk_num hq (by omega))
            have k5 : ∀ x : After wr, x.w.cell? ⟨B, 5, none⟩ = some (.int .i64 (s 5)) := fun x => x.o.cell (blk_num hq (by omega))
            have k6 : ∀ x : After wr, x.w.cell? ⟨B, 6, none⟩ = some (.int .i64 (s 6)) := fun x => x.o.cell (blk_num hq (by omega))
            have k7 : ∀ x : After wr, x.w.cell? ⟨B, 7, none⟩ = some (.int .i64 (s 7)) := fun x => x.o.cell (blk_num hq (by omega))
            have k8 : ∀ x : After wr, x.w.cell? ⟨B, 8, none⟩ = some (.int .i64 (s 8)) := fun x => x.o.cell (blk_num hq (by omega))
            have k9 : ∀ x : After wr, x.w.cell? ⟨B, 9, none⟩ = some (.int .i64 (s 9)) := fun x => x.o.cell (blk_num hq (by omega))
            have k10 : ∀ x : After wr, x.w.cell? ⟨B, 10, none⟩ = some (.int .i64 (s 10)) := fun x => x.o.cell (blk_num hq (by omega))
            clear hq HB HZ HE
            generalize s 4 = s4 at k4 h5 h8 hv hu
            generalize s 5 = s5 at k5 h5 h8 hv hu
            generalize s 6 = s6 at k6 h5 h8 hv hu
            generalize s 7 = s7 at k7 h5 h8 hv hu
            generalize s 8 = s8 at k8 h5 h8 hv hu
            generalize s 9 = s9 at k9 h5 h8 hv hu
            generalize s 10 = s10 at k10 h5 h8 hv hu
            have tu : s4 = 1 ∨ s4 = 2 ∨ s4 = 3 := by omega
            clear hu
            have q5 := g0
            rcases tu with rfl | rfl | rfl <;> cases t0 <;> cases t1
            all_goals
              have HV := Lib.hid hv
              clear hv
              refine region_after wr (by kernel_rfl) (by kernel_rfl) ?_
              repeat (first
                | go_big_quiet_step (((go_at_call 36; refine (rdown_at _).mono ?_; rintro e w3 ⟨rfl, hg⟩; exact ⟨rfl, ⟨w3, (After.o _).trans hg⟩, rfl⟩)))
                | quiet_step (((go_at_call 36; refine (rdown_at _).mono ?_; rintro e w3 ⟨rfl, hg⟩; exact ⟨rfl, ⟨w3, (After.o _).trans hg⟩, rfl⟩))))
              refine wpQuiet_nil ?_
              rintro _ ⟨xx, rfl⟩
              have d4 := xx.o
              clear k4 k5 k6 k7 k8 k9 k10
              generalize xx.w = w5 at *
              go_wp2
              go_ret
              exact ⟨ret_int HV.out.symm, q5.trans d4⟩
      · have hn : stE s = 1 := if_neg (fun x : stR s => hr x.2.2)
        rw [hn]
        clear h0 h1
        by_cases c0 : s 2 < 0
        · have d0 : decide (s 2 < 0) = true := decide_eq_true c0
          clear hn c0
          go_enter Tryd.func14, Tryd.ntmps14
          go_upto_region 1 with (fail)
          obtain ⟨W0, B, hW, hBq, hb, g0, -⟩ := blk_new w (cz 23 s) 28
          rw [hW, hBq]
          have HB := Lib.hid hb
          have k0 : W0.cell? ⟨B, 0, none⟩ = some (.int .i64 (s 0)) := blk_num HB.out (by omega)
          have k1 : W0.cell? ⟨B, 1, none⟩ = some (.int .i64 (s 1)) := blk_num HB.out (by omega)
          have k2 : W0.cell? ⟨B, 2, none⟩ = some (.int .i64 (s 2)) := blk_num HB.out (by omega)
          have k3 : W0.cell? ⟨B, 3, none⟩ = some (.int .i64 (s 3)) := blk_num HB.out (by omega)
          have k4 : W0.cell? ⟨B, 4, none⟩ = some (.int .i64 (s 4)) := blk_num HB.out (by omega)
          clear hW hBq hb
          go_wp2_with (first | (go_at_call 35; with_reducible refine (ron_at (s 0) true _ H0).mono ?_; rintro r w1 ⟨rfl, rfl⟩) | (go_at_call 35; with_reducible refine (ron_at (s 1) true _ H1).mono ?_; rintro r w1 ⟨rfl, rfl⟩))
          go_ret
          exact ⟨rfl, g0⟩
        have d0 : decide (s 2 < 0) = false := decide_eq_false c0
        by_cases c1 : 7 < s 2
        · have d1 : decide (7 < s 2) = true := decide_eq_true c1
          clear hn c0 c1
          go_enter Tryd.func14, Tryd.ntmps14
          go_upto_region 1 with (fail)
          obtain ⟨W0, B, hW, hBq, hb, g0, -⟩ := blk_new w (cz 23 s) 28
          rw [hW, hBq]
          have HB := Lib.hid hb
          have k0 : W0.cell? ⟨B, 0, none⟩ = some (.int .i64 (s 0)) := blk_num HB.out (by omega)
          have k1 : W0.cell? ⟨B, 1, none⟩ = some (.int .i64 (s 1)) := blk_num HB.out (by omega)
          have k2 : W0.cell? ⟨B, 2, none⟩ = some (.int .i64 (s 2)) := blk_num HB.out (by omega)
          have k3 : W0.cell? ⟨B, 3, none⟩ = some (.int .i64 (s 3)) := blk_num HB.out (by omega)
          have k4 : W0.cell? ⟨B, 4, none⟩ = some (.int .i64 (s 4)) := blk_num HB.out (by omega)
          clear hW hBq hb
          go_wp2_with (first | (go_at_call 35; with_reducible refine (ron_at (s 0) true _ H0).mono ?_; rintro r w1 ⟨rfl, rfl⟩) | (go_at_call 35; with_reducible refine (ron_at (s 1) true _ H1).mono ?_; rintro r w1 ⟨rfl, rfl⟩))
          go_ret
          exact ⟨rfl, g0⟩
        have d1 : decide (7 < s 2) = false := decide_eq_false c1
        by_cases c2 : s 3 < -1
        · have d2 : decide (s 3 < -1) = true := decide_eq_true c2
          clear hn c0 c1 c2
          go_enter Tryd.func14, Tryd.ntmps14
          go_upto_region 1 with (fail)
          obtain ⟨W0, B, hW, hBq, hb, g0, -⟩ := blk_new w (cz 23 s) 28
          rw [hW, hBq]
          have HB := Lib.hid hb
          have k0 : W0.cell? ⟨B, 0, none⟩ = some (.int .i64 (s 0)) := blk_num HB.out (by omega)
          have k1 : W0.cell? ⟨B, 1, none⟩ = some (.int .i64 (s 1)) := blk_num HB.out (by omega)
          have k2 : W0.cell? ⟨B, 2, none⟩ = some (.int .i64 (s 2)) := blk_num HB.out (by omega)
          have k3 : W0.cell? ⟨B, 3, none⟩ = some (.int .i64 (s 3)) := blk_num HB.out (by omega)
          have k4 : W0.cell? ⟨B, 4, none⟩ = some (.int .i64 (s 4)) := blk_num HB.out (by omega)
          clear hW hBq hb
          go_wp2_with (first | (go_at_call 35; with_reducible refine (ron_at (s 0) true _ H0).mono ?_; rintro r w1 ⟨rfl, rfl⟩) | (go_at_call 35; with_reducible refine (ron_at (s 1) true _ H1).mono ?_; rintro r w1 ⟨rfl, rfl⟩))
          go_ret
          exact ⟨rfl, g0⟩
        have d2 : decide (s 3 < -1) = false := decide_eq_false c2
        by_cases c3 : 1 < s 3
        · have d3 : decide (1 < s 3) = true := decide_eq_true c3
          clear hn c0 c1 c2 c3
          go_enter Tryd.func14, Tryd.ntmps14
          go_upto_region 1 with (fail)
          obtain ⟨W0, B, hW, hBq, hb, g0, -⟩ := blk_new w (cz 23 s) 28
          rw [hW, hBq]
          have HB := Lib.hid hb
          have k0 : W0.cell? ⟨B, 0, none⟩ = some (.int .i64 (s 0)) := blk_num HB.out (by omega)
          have k1 : W0.cell? ⟨B, 1, none⟩ = some (.int .i64 (s 1)) := blk_num HB.out (by omega)
          have k2 : W0.cell? ⟨B, 2, none⟩ = some (.int .i64 (s 2)) := blk_num HB.out (by omega)
          have k3 : W0.cell? ⟨B, 3, none⟩ = some (.int .i64 (s 3)) := blk_num HB.out (by omega)
          have k4 : W0.cell? ⟨B, 4, none⟩ = some (.int .i64 (s 4)) := blk_num HB.out (by omega)
          clear hW hBq hb
          go_wp2_with (first | (go_at_call 35; with_reducible refine (ron_at (s 0) true _ H0).mono ?_; rintro r w1 ⟨rfl, rfl⟩) | (go_at_call 35; with_reducible refine (ron_at (s 1) true _ H1).mono ?_; rintro r w1 ⟨rfl, rfl⟩))
          go_ret
          exact ⟨rfl, g0⟩
        have d3 : decide (1 < s 3) = false := decide_eq_false c3
        by_cases c4 : s 4 < 1
        · have d4 : decide (s 4 < 1) = true := decide_eq_true c4
          clear hn c0 c1 c2 c3 c4
          go_enter Tryd.func14, Tryd.ntmps14
          go_upto_region 1 with (fail)
          obtain ⟨W0, B, hW, hBq, hb, g0, -⟩ := blk_new w (cz 23 s) 28
          rw [hW, hBq]
          have HB := Lib.hid hb
          have k0 : W0.cell? ⟨B, 0, none⟩ = some (.int .i64 (s 0)) := blk_num HB.out (by omega)
          have k1 : W0.cell? ⟨B, 1, none⟩ = some (.int .i64 (s 1)) := blk_num HB.out (by omega)
          have k2 : W0.cell? ⟨B, 2, none⟩ = some (.int .i64 (s 2)) := blk_num HB.out (by omega)
          have k3 : W0.cell? ⟨B, 3, none⟩ = some (.int .i64 (s 3)) := blk_num HB.out (by omega)
          have k4 : W0.cell? ⟨B, 4, none⟩ = some (.int .i64 (s 4)) := blk_num HB.out (by omega)
          clear hW hBq hb
          go_wp2_with (first | (go_at_call 35; with_reducible refine (ron_at (s 0) true _ H0).mono ?_; rintro r w1 ⟨rfl, rfl⟩) | (go_at_call 35; with_reducible refine (ron_at (s 1) true _ H1).mono ?_; rintro r w1 ⟨rfl, rfl⟩))
          go_ret
          exact ⟨rfl, g0⟩
        have d4 : decide (s 4 < 1) = false := decide_eq_false c4
        have d5 : decide (3 < s 4) = true := decide_eq_true (by omega)
        clear hn c0 c1 c2 c3 c4
        go_enter Tryd.func14, Tryd.ntmps14
        go_upto_region 1 with (fail)
        obtain ⟨W0, B, hW, hBq, hb, g0, -⟩ := blk_new w (cz 23 s) 28
        rw [hW, hBq]
        have HB := Lib.hid hb
        have k0 : W0.cell? ⟨B, 0, none⟩ = some (.int .i64 (s 0)) := blk_num HB.out (by omega)
        have k1 : W0.cell? ⟨B, 1, none⟩ = some (.int .i64 (s 1)) := blk_num HB.out (by omega)
        have k2 : W0.cell? ⟨B, 2, none⟩ = some (.int .i64 (s 2)) := blk_num HB.out (by omega)
        have k3 : W0.cell? ⟨B, 3, none⟩ = some (.int .i64 (s 3)) := blk_num HB.out (by omega)
        have k4 : W0.cell? ⟨B, 4, none⟩ = some (.int .i64 (s 4)) := blk_num HB.out (by omega)
        clear hW hBq hb
        go_wp2_with (first | (go_at_call 35; with_reducible refine (ron_at (s 0) true _ H0).mono ?_; rintro r w1 ⟨rfl, rfl⟩) | (go_at_call 35; with_reducible refine (ron_at (s 1) true _ H1).mono ?_; rintro r w1 ⟨rfl, rfl⟩))
        go_ret
        exact ⟨rfl, g0⟩
    · have H1 := Lib.hid ((fl_no (s 1)).2 (by omega))
      have hn : stE s = 1 := if_neg (fun x : stR s => h1 x.2.1)
      rw [hn]
      clear hn h0 h1
      go_enter Tryd.func14, Tryd.ntmps14
      go_upto_region 1 with (fail)
      obtain ⟨W0, B, hW, hBq, hb, g0, -⟩ := blk_new w (cz 23 s) 28
      rw [hW, hBq]
      have HB := Lib.hid hb
      have k0 : W0.cell? ⟨B, 0, none⟩ = some (.int .i64 (s 0)) := blk_num HB.out (by omega)
      have k1 : W0.cell? ⟨B, 1, none⟩ = some (.int .i64 (s 1)) := blk_num HB.out (by omega)
      clear hW hBq hb
      go_wp2_with (first | (go_at_call 35; with_reducible refine (ron_at (s 0) true _ H0).mono ?_; rintro r w1 ⟨rfl, rfl⟩) | (go_at_call 35; with_reducible refine (ron_at (s 1) false _ H1).mono ?_; rintro r w1 ⟨rfl, rfl⟩))
      go_ret
      exact ⟨rfl, g0⟩
  · have H0 := Lib.hid ((fl_no (s 0)).2 (by omega))
    have hn : stE s = 1 := if_neg (fun x : stR s => h0 x.1)
    rw [hn]
    clear hn h0
    go_enter Tryd.func14, Tryd.ntmps14
    go_upto_region 1 with (fail)
    obtain ⟨W0, B, hW, hBq, hb, g0, -⟩ := blk_new w (cz 23 s) 28
    rw [hW, hBq]
    have HB := Lib.hid hb
    have k0 : W0.cell? ⟨B, 0, none⟩ = some (.int .i64 (s 0)) := blk_num HB.out (by omega)
    have k1 : W0.cell? ⟨B, 1, none⟩ = some (.int .i64 (s 1)) := blk_num HB.out (by omega)
    clear hW hBq hb
    go_wp2_with (go_at_call 35; with_reducible refine (ron_at (s 0) false _ H0).mono ?_; rintro r w1 ⟨rfl, rfl⟩)
    go_ret
    exact ⟨rfl, g0⟩
theorem rcheck_at (s : Vl) (c : Int) (w : World) (H : Hid (stE s = c)) :
    Calls Tryd.prog 14 #[.agg (cz 23 s)] w fun r w' => r = .returned (.int .i64 c) ∧ Own w w' := by
  rw [← H.out]
  exact rcheck_any s w
end Go.Proofs.YtneobaininejaaaDoor.PstW
