/-
  Walks of the specification of layers posture (Valid) and joints (all but Of). Condition: none.
-/
import Derived.Test.YtighpjhipgobiaaDoorJointsPB
import Derived.Test.YtighpjhipgobiaaDoorJointsMem
import Derived.Test.YtighpjhipgobiaaDoorAimB
namespace Go.Proofs.YtighpjhipgobiaaDoor.JntW
open Go.ChangeShapes Go.WideShapes Go.ChangeAt Go.RowKit
open PairW AimP AimW BlkW PrtW PstP PstW JntP RegD
section
open PstW
theorem ron_at (d : Int) (t : Bool) (w : World) (H : Hid (AngW.floorB d = t)) :
    Calls Tryd.prog 78 #[.int .i64 d] w fun r w' => r = .returned (.bool t) ∧ w = w' := by
  have hi := AngW.floor_iff d
  rw [H.out] at hi
  clear H
  by_cases h1 : -32768 ≤ d
  · by_cases h2 : d ≤ 32768
    · obtain rfl : t = true := hi.2 (by omega)
      clear hi
      go_enter Tryd.func78, Tryd.ntmps78
      go_wp2
      go_ret
      exact ⟨ret_bool (by simp), rfl⟩
    · obtain rfl : t = false := by cases t <;> simp at hi ⊢; omega
      clear hi
      go_enter Tryd.func78, Tryd.ntmps78
      go_wp2
      go_ret
      exact ⟨ret_bool (by simp), rfl⟩
  · obtain rfl : t = false := by cases t <;> simp at hi ⊢; omega
    clear hi
    go_enter Tryd.func78, Tryd.ntmps78
    go_wp2
    go_ret
    exact ⟨ret_bool (by simp), rfl⟩
set_option maxRecDepth 100000 in
set_option maxHeartbeats 2000000 in
theorem rvalid_any (p : Vl) (w : World) :
    Calls Tryd.prog 55 #[.agg (cz 22 p)] w fun r w' => r = .returned (.int .i64 (vaE p)) ∧ Own w w' := by
  by_cases h0 : -32768 ≤ p 0 ∧ p 0 ≤ 32768
  · have H0 := Lib.hid ((AngW.floor_iff (p 0)).2 h0)
    by_cases h1 : -32768 ≤ p 1 ∧ p 1 ≤ 32768
    · have H1 := Lib.hid ((AngW.floor_iff (p 1)).2 h1)
      by_cases hr : (0 ≤ p 2 ∧ p 2 ≤ 255) ∧ -8 ≤ p 3 ∧ p 3 ≤ 8
      · have hE : vaE p = fe (pE p) := if_pos (show paR p from ⟨h0, h1, hr⟩)
        rw [hE]
        have d0 : decide (p 2 < 0) = false := decide_eq_false (by omega)
        have d1 : decide (255 < p 2) = false := decide_eq_false (by omega)
        have d2 : decide (p 3 < -8) = false := decide_eq_false (by omega)
        have d3 : decide (8 < p 3) = false := decide_eq_false (by omega)
        clear hE h0 h1 hr
        go_enter Tryd.func55, Tryd.ntmps55
        go_upto_region 1 with (fail)
        obtain ⟨W0, B, hW, hBq, hb, g0, -⟩ := blk_new w (cz 22 p) 31
        rw [hW, hBq]
        have HB := Lib.hid hb
        have k0 : W0.cell? ⟨B, 0, none⟩ = some (.int .i64 (p 0)) := blk_num HB.out (by omega)
        have k1 : W0.cell? ⟨B, 1, none⟩ = some (.int .i64 (p 1)) := blk_num HB.out (by omega)
        have k2 : W0.cell? ⟨B, 2, none⟩ = some (.int .i64 (p 2)) := blk_num HB.out (by omega)
        have k3 : W0.cell? ⟨B, 3, none⟩ = some (.int .i64 (p 3)) := blk_num HB.out (by omega)
        clear hW hBq hb

        go_upto_region 3 with (first | (go_at_call 78; with_reducible refine (ron_at (p 0) true _ H0).mono ?_; rintro r w1 ⟨rfl, rfl⟩) | (go_at_call 78; with_reducible refine (ron_at (p 1) true _ H1).mono ?_; rintro r w1 ⟨rfl, rfl⟩))
        clear k0 k1 k2 k3 d0 d1 d2 d3 H0 H1
        go_wp2
        go_loopw [3, 4] (fun vi _ wr => ∃ k : Nat, vi = .int .i64 (k : Int) ∧ k ≤ 6 ∧ (∀ i, i < k → pE p i = 0) ∧ Own w wr ∧ Blk wr B (cz 22 p) 31) (fun vi _ _ => 6 - (intOf vi).toNat)
        case atStart => exact ⟨0, rfl, by omega, fun i hi => absurd hi (by omega), g0, HB.out⟩
        case round =>
          clear HB g0
          obtain ⟨k, rfl, hk, hz, g0, hb⟩ := hrel
          have HB := Lib.hid hb
          have HZ := Lib.hid hz
          clear hb hz
          by_cases hlt : k < 6
          · obtain ⟨c, hc⟩ : ∃ x, pE p k = x := ⟨_, rfl⟩
            have HO := Lib.hid hc
            have HOF := Lib.hid (show chk k (p (4 + k * 3)) (p (4 + k * 3 + 1)) (p (4 + k * 3 + 2)) = c from hc)
            clear hc
            have hkn : (k : Int) < 6 := by omega
            by_cases c0 : c = 0
            · subst c0
              go_wp2_with (first | ((with_reducible show wpList _ _ _ (⟨_, .load 28 (.tmp 44), _, _, _, none⟩ :: _) _ _); refine wpList_load_part rfl 28 (.tmp 44) rfl B (4 + k * 3) rfl 3 HB.out (by omega) (#[.int .i64 (p (4 + k * 3)), .int .i64 (p (4 + k * 3 + 1)), .int .i64 (p (4 + k * 3 + 2))]) rfl _ Tryd.underlying28 rfl infoA ?_) | (go_at_call 79; with_reducible refine (AimW.rcheck_at _ _ _ _ 0 _ HOF).mono ?_; rintro r w2 ⟨rfl, hg⟩; replace g0 := g0.trans hg; replace HB := Lib.hid (HB.out.own hg); clear hg))
              go_roundw
              case rel =>
                refine ⟨k + 1, by go_num, hlt, fun i hi => ?_, g0, HB.out⟩
                by_cases e : i = k
                · rw [e]; exact HO.out
                · exact HZ.out i (by omega)
              case measure => simp [intOf]; omega
            · have kc : (c != 0) = true := bne_iff_ne.2 c0
              have HV := Lib.hid (show c = fe (pE p) by rw [fe_at HZ.out (by rw [HO.out]; exact c0) hlt]; exact HO.out.symm)
              clear HO HZ c0
              go_wp2_with (first | ((with_reducible show wpList _ _ _ (⟨_, .load 28 (.tmp 44), _, _, _, none⟩ :: _) _ _); refine wpList_load_part rfl 28 (.tmp 44) rfl B (4 + k * 3) rfl 3 HB.out (by omega) (#[.int .i64 (p (4 + k * 3)), .int .i64 (p (4 + k * 3 + 1)), .int .i64 (p (4 + k * 3 + 2))]) rfl _ Tryd.underlying28 rfl infoA ?_) | (go_at_call 79; with_reducible refine (AimW.rcheck_at _ _ _ _ c _ HOF).mono ?_; rintro r w2 ⟨rfl, hg⟩; replace g0 := g0.trans hg; replace HB := Lib.hid (HB.out.own hg); clear hg))
              go_ret
              exact ⟨ret_int HV.out, g0⟩
          · obtain rfl : k = 6 := by omega
            have HV := Lib.hid (show 0 = fe (pE p) from (fe_ok HZ.out).symm)
            clear HZ
            go_wp2
            go_ret
            exact ⟨ret_int HV.out, g0⟩
      · have hn : vaE p = 1 := if_neg (fun x : paR p => hr x.2.2)
        rw [hn]
        clear h0 h1
        by_cases c0 : p 2 < 0
        · have d0 : decide (p 2 < 0) = true := decide_eq_true c0
          clear hn c0
          go_enter Tryd.func55, Tryd.ntmps55
          go_upto_region 1 with (fail)
          obtain ⟨W0, B, hW, hBq, hb, g0, -⟩ := blk_new w (cz 22 p) 31
          rw [hW, hBq]
          have HB := Lib.hid hb
          have k0 : W0.cell? ⟨B, 0, none⟩ = some (.int .i64 (p 0)) := blk_num HB.out (by omega)
          have k1 : W0.cell? ⟨B, 1, none⟩ = some (.int .i64 (p 1)) := blk_num HB.out (by omega)
          have k2 : W0.cell? ⟨B, 2, none⟩ = some (.int .i64 (p 2)) := blk_num HB.out (by omega)
          have k3 : W0.cell? ⟨B, 3, none⟩ = some (.int .i64 (p 3)) := blk_num HB.out (by omega)
          clear hW hBq hb
          go_wp2_with (first | (go_at_call 78; with_reducible refine (ron_at (p 0) true _ H0).mono ?_; rintro r w1 ⟨rfl, rfl⟩) | (go_at_call 78; with_reducible refine (ron_at (p 1) true _ H1).mono ?_; rintro r w1 ⟨rfl, rfl⟩))
          go_ret
          exact ⟨rfl, g0⟩
        have d0 : decide (p 2 < 0) = false := decide_eq_false c0
        by_cases c1 : 255 < p 2
        · have d1 : decide (255 < p 2) = true := decide_eq_true c1
          clear hn c0 c1
          go_enter Tryd.func55, Tryd.ntmps55
          go_upto_region 1 with (fail)
          obtain ⟨W0, B, hW, hBq, hb, g0, -⟩ := blk_new w (cz 22 p) 31
          rw [hW, hBq]
          have HB := Lib.hid hb
          have k0 : W0.cell? ⟨B, 0, none⟩ = some (.int .i64 (p 0)) := blk_num HB.out (by omega)
          have k1 : W0.cell? ⟨B, 1, none⟩ = some (.int .i64 (p 1)) := blk_num HB.out (by omega)
          have k2 : W0.cell? ⟨B, 2, none⟩ = some (.int .i64 (p 2)) := blk_num HB.out (by omega)
          have k3 : W0.cell? ⟨B, 3, none⟩ = some (.int .i64 (p 3)) := blk_num HB.out (by omega)
          clear hW hBq hb
          go_wp2_with (first | (go_at_call 78; with_reducible refine (ron_at (p 0) true _ H0).mono ?_; rintro r w1 ⟨rfl, rfl⟩) | (go_at_call 78; with_reducible refine (ron_at (p 1) true _ H1).mono ?_; rintro r w1 ⟨rfl, rfl⟩))
          go_ret
          exact ⟨rfl, g0⟩
        have d1 : decide (255 < p 2) = false := decide_eq_false c1
        by_cases c2 : p 3 < -8
        · have d2 : decide (p 3 < -8) = true := decide_eq_true c2
          clear hn c0 c1 c2
          go_enter Tryd.func55, Tryd.ntmps55
          go_upto_region 1 with (fail)
          obtain ⟨W0, B, hW, hBq, hb, g0, -⟩ := blk_new w (cz 22 p) 31
          rw [hW, hBq]
          have HB := Lib.hid hb
          have k0 : W0.cell? ⟨B, 0, none⟩ = some (.int .i64 (p 0)) := blk_num HB.out (by omega)
          have k1 : W0.cell? ⟨B, 1, none⟩ = some (.int .i64 (p 1)) := blk_num HB.out (by omega)
          have k2 : W0.cell? ⟨B, 2, none⟩ = some (.int .i64 (p 2)) := blk_num HB.out (by omega)
          have k3 : W0.cell? ⟨B, 3, none⟩ = some (.int .i64 (p 3)) := blk_num HB.out (by omega)
          clear hW hBq hb
          go_wp2_with (first | (go_at_call 78; with_reducible refine (ron_at (p 0) true _ H0).mono ?_; rintro r w1 ⟨rfl, rfl⟩) | (go_at_call 78; with_reducible refine (ron_at (p 1) true _ H1).mono ?_; rintro r w1 ⟨rfl, rfl⟩))
          go_ret
          exact ⟨rfl, g0⟩
        have d2 : decide (p 3 < -8) = false := decide_eq_false c2
        have d3 : decide (8 < p 3) = true := decide_eq_true (by omega)
        clear hn c0 c1 c2
        go_enter Tryd.func55, Tryd.ntmps55
        go_upto_region 1 with (fail)
        obtain ⟨W0, B, hW, hBq, hb, g0, -⟩ := blk_new w (cz 22 p) 31
        rw [hW, hBq]
        have HB := Lib.hid hb
        have k0 : W0.cell? ⟨B, 0, none⟩ = some (.int .i64 (p 0)) := blk_num HB.out (by omega)
        have k1 : W0.cell? ⟨B, 1, none⟩ = some (.int .i64 (p 1)) := blk_num HB.out (by omega)
        have k2 : W0.cell? ⟨B, 2, none⟩ = some (.int .i64 (p 2)) := blk_num HB.out (by omega)
        have k3 : W0.cell? ⟨B, 3, none⟩ = some (.int .i64 (p 3)) := blk_num HB.out (by omega)
        clear hW hBq hb
        go_wp2_with (first | (go_at_call 78; with_reducible refine (ron_at (p 0) true _ H0).mono ?_; rintro r w1 ⟨rfl, rfl⟩) | (go_at_call 78; with_reducible refine (ron_at (p 1) true _ H1).mono ?_; rintro r w1 ⟨rfl, rfl⟩))
        go_ret
        exact ⟨rfl, g0⟩
    · have H1 := Lib.hid ((fl_no (p 1)).2 (by omega))
      have hn : vaE p = 1 := if_neg (fun x : paR p => h1 x.2.1)
      rw [hn]
      clear hn h0 h1
      go_enter Tryd.func55, Tryd.ntmps55
      go_upto_region 1 with (fail)
      obtain ⟨W0, B, hW, hBq, hb, g0, -⟩ := blk_new w (cz 22 p) 31
      rw [hW, hBq]
      have HB := Lib.hid hb
      have k0 : W0.cell? ⟨B, 0, none⟩ = some (.int .i64 (p 0)) := blk_num HB.out (by omega)
      have k1 : W0.cell? ⟨B, 1, none⟩ = some (.int .i64 (p 1)) := blk_num HB.out (by omega)
      clear hW hBq hb
      go_wp2_with (first | (go_at_call 78; with_reducible refine (ron_at (p 0) true _ H0).mono ?_; rintro r w1 ⟨rfl, rfl⟩) | (go_at_call 78; with_reducible refine (ron_at (p 1) false _ H1).mono ?_; rintro r w1 ⟨rfl, rfl⟩))
      go_ret
      exact ⟨rfl, g0⟩
  · have H0 := Lib.hid ((fl_no (p 0)).2 (by omega))
    have hn : vaE p = 1 := if_neg (fun x : paR p => h0 x.1)
    rw [hn]
    clear hn h0
    go_enter Tryd.func55, Tryd.ntmps55
    go_upto_region 1 with (fail)
    obtain ⟨W0, B, hW, hBq, hb, g0, -⟩ := blk_new w (cz 22 p) 31
    rw [hW, hBq]
    have HB := Lib.hid hb
    have k0 : W0.cell? ⟨B, 0, none⟩ = some (.int .i64 (p 0)) := blk_num HB.out (by omega)
    have k1 : W0.cell? ⟨B, 1, none⟩ = some (.int .i64 (p 1)) := blk_num HB.out (by omega)
    clear hW hBq hb
    go_wp2_with (go_at_call 78; with_reducible refine (ron_at (p 0) false _ H0).mono ?_; rintro r w1 ⟨rfl, rfl⟩)
    go_ret
    exact ⟨rfl, g0⟩
theorem rvalid_at (p : Vl) (c : Int) (w : World) (H : Hid (vaE p = c)) :
    Calls Tryd.prog 55 #[.agg (cz 22 p)] w fun r w' => r = .returned (.int .i64 c) ∧ Own w w' := by
  rw [← H.out]
  exact rvalid_any p w
end
theorem rrd_at (s d v : Int) (w : World) (hd : 1 ≤ d ∧ d ≤ 1048576) (hs : -2147483648 ≤ s ∧ s ≤ 2147483648) (H : Hid (NumP.nearV s d = v)) :
    Calls Tryd.prog 56 #[.int .i64 s, .int .i64 d] w fun r w' => r = .returned (.int .i64 v) ∧ Own w w' := by
  have HRD := Lib.hid (show NumP.roundV s d = v ∧ NumP.roundE s d = 0 by have := near_rd hd hs; exact ⟨this.1.trans H.out, this.2⟩)
  clear H hd hs
  go_enter Tryd.func56, Tryd.ntmps56
  go_wp2_with (go_at_call 24; with_reducible refine (AngW.rround_at s d v 0 _ HRD).mono ?_; rintro r w1 ⟨rfl, hd⟩; have hg := own_dr hd; clear hd)
  go_ret
  exact ⟨rfl, hg⟩
theorem rtu_at (x y a u v f : Int) (w : World) (H : Hid (AngW.turU x y a = u ∧ AngW.turV x y a = v ∧ AngW.turE x y = f)) :
    Calls Tryd.prog 81 #[.agg #[.int .i64 x, .int .i64 y], .int .i64 a] w fun r w' => r = .returned (.tuple #[.agg #[.int .i64 u, .int .i64 v], .int .i64 f]) ∧ Own w w' := by
  obtain ⟨rfl, rfl, rfl⟩ := H.out
  exact (AngW.rtur_any x y a w).mono fun _ _ h => ⟨h.1, own_gr h.2⟩
set_option maxRecDepth 100000 in
set_option maxHeartbeats 2000000 in
theorem rplus_at (a b c d e f x y z : Int) (w : World) (ha : -1000000 ≤ a ∧ a ≤ 1000000) (hb : -1000000 ≤ b ∧ b ≤ 1000000) (hc : -1000000 ≤ c ∧ c ≤ 1000000) (hd : -1000000 ≤ d ∧ d ≤ 1000000) (he : -1000000 ≤ e ∧ e ≤ 1000000) (hf : -1000000 ≤ f ∧ f ≤ 1000000) (H : Hid (a + d = x ∧ b + e = y ∧ c + f = z)) :
    Calls Tryd.prog 57 #[.agg #[.int .i64 a, .int .i64 b, .int .i64 c], .agg #[.int .i64 d, .int .i64 e, .int .i64 f]] w fun r w' => r = .returned (.agg #[.int .i64 x, .int .i64 y, .int .i64 z]) ∧ Own w w' := by
  obtain ⟨rfl, rfl, rfl⟩ := H.out
  clear H
  go_enter Tryd.func57, Tryd.ntmps57
  go_upto_region 1 with (fail)
  obtain ⟨W0, B, C, R, hW, hR, hC, hB, hb1, hc1, hr, g0, -, -, hR0, -⟩ := three_new w (#[.int .i64 a, .int .i64 b, .int .i64 c]) 56 (#[.int .i64 d, .int .i64 e, .int .i64 f]) 56 (#[.int .i64 0, .int .i64 0, .int .i64 0]) 56
  rw [hW, hR, hC, hB]
  obtain ⟨b0, b1, b2⟩ := hb1.three
  obtain ⟨c0, c1, c2⟩ := hc1.three
  have HR := Lib.hid hr
  clear hW hR hC hB hb1 hc1 hr
  go_wp2_with ((with_reducible show wpList _ _ _ (⟨_, .store 56 (.tmp 4) (.tmp 20), _, _, _, none⟩ :: _) _ _); refine wpList_store_row rfl 56 (.tmp 4) (.tmp 20) rfl R #[.int .i64 (a + d), .int .i64 (b + e), .int .i64 (c + f)] rfl rfl 56 _ HR.out.raw infoV rfl (by simp [Value.oneCell']) ?_)
  have hp := HR.out.row #[.int .i64 (a + d), .int .i64 (b + e), .int .i64 (c + f)]
  exact bodyPost_ret (blk_result rfl rfl hp Tryd.underlying56 rfl infoV) rfl ⟨rfl, own_setRow g0 hR0 _⟩
set_option maxRecDepth 100000 in
set_option maxHeartbeats 2000000 in
theorem rside_at (n q d f x y : Int) (w : World) (H : Hid (q * n = d ∧ sdo d f x y)) :
    Calls Tryd.prog 59 #[.int .i64 n, .int .i64 q, .int .i64 f] w fun r w' => r = .returned (.agg #[.int .i64 x, .int .i64 y, .int .i64 0]) ∧ Own w w' := by
  obtain ⟨h1, hd, h2⟩ := H.out
  have HQ := Lib.hid (show AngW.turU d 0 f = x ∧ AngW.turV d 0 f = y ∧ AngW.turE d 0 = 0 by
    have h := sd_in hd
    unfold AngW.turU AngW.turV AngW.turE
    rw [if_pos h, if_pos h, if_pos h]
    exact ⟨h2.1, h2.2, rfl⟩)
  have i1 : IntKind.i64.wrap (q * n) = d := by rw [h1]; exact IntWalk.i64_in _ (by omega)
  clear hd H h1 h2
  go_enter Tryd.func59, Tryd.ntmps59
  go_upto_region 1 with (fail)
  obtain ⟨W0, R, hW, hRq, hr1, g0, hR0⟩ := blk_new w (#[.int .i64 0, .int .i64 0, .int .i64 0]) 56
  rw [hW, hRq]
  have HR := Lib.hid hr1
  clear hW hRq hr1
  go_upto_region 2 with (first | (go_at_call 81; with_reducible refine (rtu_at d 0 f x y 0 _ HQ).mono ?_; rintro r w1 ⟨rfl, hg⟩; replace g0 : Own w w1 := g0.trans hg; replace HR := Lib.hid (HR.out.own hg); clear hg) | ((with_reducible show wpList _ _ _ (⟨_, .store 26 (.tmp 7) (.tmp 16), _, _, _, none⟩ :: _) _ _); refine wpList_store_row rfl 26 (.tmp 7) (.tmp 16) rfl _ #[.int .i64 x, .int .i64 y] rfl rfl 26 _ (heap_new _ _) infoPt rfl (by simp [Value.oneCell']) ?_; rw [World.setRow_alloc_new]))
  obtain ⟨w2, V, hW, hBq, hb, hg, Vg⟩ := blk_new w1 (#[.int .i64 x, .int .i64 y]) 26
  rw [hW, hBq]
  have HV := Lib.hid hb
  replace g0 := g0.trans hg
  replace HR := Lib.hid (HR.out.own hg)
  clear hW hBq hb hg
  have k0 := HV.out.cell 0
  have k1 := HV.out.cell 1
  clear Vg HV
  go_wp2_with ((with_reducible show wpList _ _ _ (⟨_, .store 56 (.tmp 6) (.tmp 22), _, _, _, none⟩ :: _) _ _); refine wpList_store_row rfl 56 (.tmp 6) (.tmp 22) rfl R #[.int .i64 x, .int .i64 y, .int .i64 0] rfl rfl 56 _ HR.out.raw infoV rfl (by simp [Value.oneCell']) ?_)
  have hp := HR.out.row #[.int .i64 x, .int .i64 y, .int .i64 0]
  exact bodyPost_ret (blk_result rfl rfl hp Tryd.underlying56 rfl infoV) rfl ⟨rfl, own_setRow g0 hR0 _⟩
set_option maxRecDepth 100000 in
set_option maxHeartbeats 2000000 in
theorem ralong_at (n z e b f x y v : Int) (w : World) (H : Hid (alo n z e b f x y v)) :
    Calls Tryd.prog 58 #[.int .i64 n, .agg #[.int .i64 z, .int .i64 e, .int .i64 b], .int .i64 f] w fun r w' => r = .returned (.agg #[.int .i64 x, .int .i64 y, .int .i64 v]) ∧ Own w w' := by
  obtain ⟨hn, hc, h1, h2, h3⟩ := H.out
  obtain ⟨-, -, -, hb, -⟩ := chk_yes hc
  obtain ⟨e1, e2, e3⟩ := vc_yes f hc
  obtain ⟨hvx, hvy⟩ := v_bd z e f
  have hvz := AngP.sin_bd e
  obtain ⟨vx, q1⟩ : ∃ q, vX z e f = q := ⟨_, rfl⟩
  obtain ⟨vy, q2⟩ : ∃ q, vY z e f = q := ⟨_, rfl⟩
  obtain ⟨vz, q3⟩ : ∃ q, AngP.sinV e = q := ⟨_, rfl⟩
  rw [q1] at h1 e1 hvx
  rw [q2] at h2 e2 hvy
  rw [q3] at h3 e3 hvz
  have HVC := Lib.hid (show vcX z e b f = vx ∧ vcY z e b f = vy ∧ vcZ z e b = vz ∧ chk 0 z e b = 0 from ⟨e1, e2, e3, hc⟩)
  clear e1 e2 e3 q1 q2 q3 hc H
  unfold wy at h1 h2 h3
  obtain ⟨q, hq⟩ : ∃ x, n * (8 - b) = x := ⟨_, rfl⟩
  obtain ⟨-, c1, -⟩ := wy_bd hn hb hvx
  rw [hq] at c1
  obtain ⟨px, e1⟩ : ∃ x, q * vx = x := ⟨_, rfl⟩
  rw [e1] at c1
  have jpx : IntKind.i64.wrap (q * vx) = px := by rw [e1]; exact IntWalk.i64_in _ (by omega)
  have hpx : -2147483648 ≤ px ∧ px ≤ 2147483648 := by omega
  have HPX := Lib.hid (show NumP.nearV px 131072 = x by rw [← e1, ← hq]; exact h1)
  clear c1 e1
  obtain ⟨-, c1, -⟩ := wy_bd hn hb hvy
  rw [hq] at c1
  obtain ⟨py, e1⟩ : ∃ x, q * vy = x := ⟨_, rfl⟩
  rw [e1] at c1
  have jpy : IntKind.i64.wrap (q * vy) = py := by rw [e1]; exact IntWalk.i64_in _ (by omega)
  have hpy : -2147483648 ≤ py ∧ py ≤ 2147483648 := by omega
  have HPY := Lib.hid (show NumP.nearV py 131072 = y by rw [← e1, ← hq]; exact h2)
  clear c1 e1
  obtain ⟨-, c1, -⟩ := wy_bd hn hb hvz
  rw [hq] at c1
  obtain ⟨pz, e1⟩ : ∃ x, q * vz = x := ⟨_, rfl⟩
  rw [e1] at c1
  have jpz : IntKind.i64.wrap (q * vz) = pz := by rw [e1]; exact IntWalk.i64_in _ (by omega)
  have hpz : -2147483648 ≤ pz ∧ pz ≤ 2147483648 := by omega
  have HPZ := Lib.hid (show NumP.nearV pz 131072 = v by rw [← e1, ← hq]; exact h3)
  clear c1 e1
  obtain ⟨c1, -, -⟩ := wy_bd hn hb hvx
  rw [hq] at c1
  have jq : IntKind.i64.wrap (n * (8 - b)) = q := by rw [hq]; exact IntWalk.i64_in _ (by omega)
  clear h1 h2 h3 c1 hq hvx hvy hvz hn
  go_enter Tryd.func58, Tryd.ntmps58
  go_upto_region 1 with (fail)
  obtain ⟨W0, E, R, hW, hR, hE, he1, hr1, g0, -, hR0, hne⟩ := two_new w (#[.int .i64 z, .int .i64 e, .int .i64 b]) 28 (#[.int .i64 0, .int .i64 0, .int .i64 0]) 56
  rw [hW, hR, hE]
  have HE := Lib.hid he1
  have HR := Lib.hid (show Blk W0 R (cz 3 nul) 56 from hr1)
  have HDE := Lib.hid hne
  clear hW hR hE he1 hr1 hne
  go_upto_region 2 with (first | ((with_reducible show wpList _ _ _ (⟨_, .load 28 (.tmp 4), _, _, _, none⟩ :: _) _ _); refine wpList_load_row rfl 28 (.tmp 4) rfl E rfl 28 _ (0, 0) _ HE.out.raw Tryd.underlying28 rfl infoA ?_) | (go_at_call 80; with_reducible refine (rvec_at z e b f vx vy vz 0 _ HVC).mono ?_; rintro r w1 ⟨rfl, hg⟩; replace g0 := g0.trans hg; replace HE := Lib.hid (HE.out.own hg); replace HR := Lib.hid (HR.out.own hg); clear hg) | ((with_reducible show wpList _ _ _ (⟨_, .store 56 (.tmp 7) (.tmp 14), _, _, _, none⟩ :: _) _ _); refine wpList_store_row rfl 56 (.tmp 7) (.tmp 14) rfl _ #[.int .i64 vx, .int .i64 vy, .int .i64 vz] rfl rfl 56 _ (heap_new _ _) infoV rfl (by simp [Value.oneCell']) ?_; rw [World.setRow_alloc_new]))
  obtain ⟨w2, V, hW, hBq, hb, hg, Vg⟩ := blk_new w1 (#[.int .i64 vx, .int .i64 vy, .int .i64 vz]) 56
  have hRV := Nat.ne_of_gt (Nat.lt_of_lt_of_le HR.out.lt Vg)
  rw [hW, hBq]
  have HV := Lib.hid hb
  replace g0 := g0.trans hg
  replace HE := Lib.hid (HE.out.own hg)
  replace HR := Lib.hid (HR.out.own hg)
  clear hW hBq hb hg
  have HNE := Lib.hid (show E ≠ R ∧ V ≠ R from ⟨HDE.out, hRV⟩)
  have k2 := HE.out.three.2.2
  clear Vg hRV HDE
  go_upto_region 3 with (fail)
  clear k2 jq
  refine RegD.region_dutyJ [21, 22, 23, 24, 25, 26, 27, 28, 29, 30, 31, 32, 33, 34, 35, 36] 16 3 (0) 3 (nul) (l3 x y v) (RegI.upd (RegI.upd (RegI.upd (RegI.upd (RegI.upd (RegI.upd (RegI.upd (RegI.upd (RegI.upd (RegI.upd (RegI.upd (RegI.upd (RegI.upd (RegI.upd (RegI.upd (RegI.upd (fun _ => undef) 21 (.int .i64 q)) 22 (.pointer (some ⟨V, 0, none⟩))) 23 (.int .i64 vx)) 24 (.int .i64 px)) 25 (.int .i64 x)) 26 (.int .i64 q)) 27 (.pointer (some ⟨V, 1, none⟩))) 28 (.int .i64 vy)) 29 (.int .i64 py)) 30 (.int .i64 y)) 31 (.int .i64 q)) 32 (.pointer (some ⟨V, 2, none⟩))) 33 (.int .i64 vz)) 34 (.int .i64 pz)) 35 (.int .i64 v)) 36 (.agg #[.int .i64 x, .int .i64 y, .int .i64 v])) R 56 (by kernel_rfl) (by kernel_rfl) (by decide) (by intro d hd; simp at hd; simp; omega) HR.out ?_
  simp only [RegD.FF, RegI.FX, RegI.upd, List.foldl_cons, List.foldl_nil, List.not_mem_nil, if_true, if_false, Nat.reduceEqDiff]
  simp only [List.setIfInBounds_toArray, List.set_cons_succ, List.set_cons_zero]
  refine And.intro ?hs1 ?he1
  case hs1 =>
    refine And.intro ?s1_0 (And.intro ?s1_1 (And.intro ?s1_2 (And.intro ?s1_3 (And.intro ?s1_4 (And.intro ?s1_5 (And.intro ?s1_6 (And.intro ?s1_7 (And.intro ?s1_8 (And.intro ?s1_9 (And.intro ?s1_10 (And.intro ?s1_11 (And.intro ?s1_12 (And.intro ?s1_13 (And.intro ?s1_14 (And.intro ?s1_15 (And.intro ?s1_16 (trivial)))))))))))))))))
    case s1_0 =>
      refine RegD.stepJ_det (by decide) (fun u w1 h hO hJ hA => ?_)
      go_wp2
      exact ⟨rfl, rfl, rfl, Own.refl _⟩
    case s1_1 =>
      refine RegD.stepJ_det (by decide) (fun u w1 h hO hJ hA => ?_)
      go_wp2
      exact ⟨rfl, rfl, rfl, Own.refl _⟩
    case s1_2 =>
      refine RegD.stepJ_det (by decide) (fun u w1 h hO hJ hA => ?_)
      have kk := (HV.out.ownx hO HNE.out.2).cell 0
      go_wp2
      exact ⟨rfl, rfl, rfl, Own.refl _⟩
    case s1_3 =>
      refine RegD.stepJ_det (by decide) (fun u w1 h hO hJ hA => ?_)
      go_wp2
      exact ⟨rfl, rfl, rfl, Own.refl _⟩
    case s1_4 =>
      refine RegD.stepJ_det (by decide) (fun u w1 h hO hJ hA => ?_)
      go_wp2_with (go_at_call 56; with_reducible refine (rrd_at px 131072 x _ (by omega) hpx HPX).mono ?_; rintro r w2 ⟨rfl, hg⟩)
      exact ⟨rfl, rfl, rfl, hg⟩
    case s1_5 =>
      refine RegD.stepJ_det (by decide) (fun u w1 h hO hJ hA => ?_)
      go_wp2
      exact ⟨rfl, rfl, rfl, Own.refl _⟩
    case s1_6 =>
      refine RegD.stepJ_det (by decide) (fun u w1 h hO hJ hA => ?_)
      go_wp2
      exact ⟨rfl, rfl, rfl, Own.refl _⟩
    case s1_7 =>
      refine RegD.stepJ_det (by decide) (fun u w1 h hO hJ hA => ?_)
      have kk := (HV.out.ownx hO HNE.out.2).cell 1
      go_wp2
      exact ⟨rfl, rfl, rfl, Own.refl _⟩
    case s1_8 =>
      refine RegD.stepJ_det (by decide) (fun u w1 h hO hJ hA => ?_)
      go_wp2
      exact ⟨rfl, rfl, rfl, Own.refl _⟩
    case s1_9 =>
      refine RegD.stepJ_det (by decide) (fun u w1 h hO hJ hA => ?_)
      go_wp2_with (go_at_call 56; with_reducible refine (rrd_at py 131072 y _ (by omega) hpy HPY).mono ?_; rintro r w2 ⟨rfl, hg⟩)
      exact ⟨rfl, rfl, rfl, hg⟩
    case s1_10 =>
      refine RegD.stepJ_det (by decide) (fun u w1 h hO hJ hA => ?_)
      go_wp2
      exact ⟨rfl, rfl, rfl, Own.refl _⟩
    case s1_11 =>
      refine RegD.stepJ_det (by decide) (fun u w1 h hO hJ hA => ?_)
      go_wp2
      exact ⟨rfl, rfl, rfl, Own.refl _⟩
    case s1_12 =>
      refine RegD.stepJ_det (by decide) (fun u w1 h hO hJ hA => ?_)
      have kk := (HV.out.ownx hO HNE.out.2).cell 2
      go_wp2
      exact ⟨rfl, rfl, rfl, Own.refl _⟩
    case s1_13 =>
      refine RegD.stepJ_det (by decide) (fun u w1 h hO hJ hA => ?_)
      go_wp2
      exact ⟨rfl, rfl, rfl, Own.refl _⟩
    case s1_14 =>
      refine RegD.stepJ_det (by decide) (fun u w1 h hO hJ hA => ?_)
      go_wp2_with (go_at_call 56; with_reducible refine (rrd_at pz 131072 v _ (by omega) hpz HPZ).mono ?_; rintro r w2 ⟨rfl, hg⟩)
      exact ⟨rfl, rfl, rfl, hg⟩
    case s1_15 =>
      refine RegD.stepJ_det (by decide) (fun u w1 h hO hJ hA => ?_)
      go_wp2
      exact ⟨rfl, rfl, rfl, Own.refl _⟩
    case s1_16 =>
      refine RegD.stepJ_store rfl (fun u w1 h hO hJ => ?_)
      have HN := Lib.hid hJ
      clear hJ
      go_wp2_with ((with_reducible show wpList _ _ _ (⟨_, .store 56 (.tmp 6) (.tmp 36), _, _, _, none⟩ :: _) _ _); refine wpList_store_part rfl 56 (.tmp 6) (.tmp 36) rfl R (0) 3 (l3 x y v) rfl (#[.int .i64 x, .int .i64 y, .int .i64 v]) rfl rfl HN.out (by omega) infoV ?_)
      exact ⟨rfl, rfl, rfl⟩
  · intro u w3 hO hj
    replace g0 := own_x g0 hR0 hO
    rw [put_whole] at hj
    have HR := Lib.hid (show Blk w3 R #[.int .i64 x, .int .i64 y, .int .i64 v] 56 from hj)
    clear hO hj HE HV
    go_wp2
    exact bodyPost_ret (blk_result rfl rfl HR.out Tryd.underlying56 rfl infoV) rfl ⟨rfl, g0⟩
theorem min6_at {P : Program} (a b c d e f : Int) (w : World) (ts : Array TypeId) (t : TypeId) : (Builtin.min_ ts t #[.int .i64 a, .int .i64 b, .int .i64 c, .int .i64 d, .int .i64 e, .int .i64 f]).run P w = .ok (.int .i64 (min (min (min (min (min a b) c) d) e) f)) w := by
  simp [Builtin.min_, Builtin.min2, Int.min_def]
  omega
end Go.Proofs.YtighpjhipgobiaaDoor.JntW
