/-
  Walks of the specification of package limits: its small tests, may, Check, Allows. Condition: none.
-/
import Derived.Test.YtmjokgddhainlaaLimitsMem
import Derived.Test.YtmjokgddhainlaaAngleF
namespace Go.Proofs.Ytmjokgddhainlaa.LimW
open Go.ChangeShapes Go.WideShapes Go.ChangeAt Go.RowKit
open PairW AimP AimW BlkW PrtW PstP PstW RegD LimP
set_option maxRecDepth 100000 in
theorem ruv_at (z e b : Int) (t : Bool) (w : World) (H : Hid (poleB e = t)) :
    Calls Try.prog 59 #[.agg #[.int .i64 z, .int .i64 e, .int .i64 b]] w fun r w' => r = .returned (.bool t) ∧ Own w w' := by
  have hp := H.out
  clear H
  by_cases h1 : e = -64
  · obtain rfl : true = t := ((pole_iff e).2 (.inr h1)).symm.trans hp
    have c1 : (e == -64) = true := beq_iff_eq.2 h1
    clear hp h1
    go_enter Try.func59, Try.ntmps59
    go_wp2
    go_ret
    exact ⟨rfl, (Own.refl w).alloc _⟩
  · have c1 : (e == -64) = false := beq_eq_false_iff_ne.2 h1
    by_cases h2 : e = 64
    · obtain rfl : true = t := ((pole_iff e).2 (.inl h2)).symm.trans hp
      have c2 : (e == 64) = true := beq_iff_eq.2 h2
      clear hp h1 h2
      go_enter Try.func59, Try.ntmps59
      go_wp2
      go_ret
      exact ⟨rfl, (Own.refl w).alloc _⟩
    · obtain rfl : false = t := ((pole_no e).2 ⟨h2, h1⟩).symm.trans hp
      have c2 : (e == 64) = false := beq_eq_false_iff_ne.2 h2
      clear hp h1 h2
      go_enter Try.func59, Try.ntmps59
      go_wp2
      go_ret
      exact ⟨rfl, (Own.refl w).alloc _⟩
set_option maxRecDepth 100000 in
set_option maxHeartbeats 2000000 in
theorem ris_at (x : Vl) (z : Int) (t : Bool) (w : World) (hx : 0 ≤ x 2 ∧ x 2 ≤ 255) (hz : 0 ≤ z ∧ z ≤ 511) (H : Hid (inS x z = t)) :
    Calls Try.prog 60 #[.agg (cz 6 x), .int .i64 z] w fun r w' => r = .returned (.bool t) ∧ Own w w' := by
  have i1 : IntKind.i64.wrap (z + 256) = z + 256 := IntWalk.i64_in _ (by omega)
  obtain ⟨m, hm⟩ : ∃ m, z + 256 - x 2 = m := ⟨_, rfl⟩
  have i2 : IntKind.i64.wrap (z + 256 - x 2) = m := (IntWalk.i64_in _ (by omega)).trans hm
  obtain ⟨n, hn⟩ : ∃ n, (z - x 2) % 256 = n := ⟨_, rfl⟩
  have hr : m.tmod 256 = n := by rw [Int.tmod_eq_emod_of_nonneg (by omega)]; omega
  have hr2 : IntKind.i64.wrap (m.tmod 256) = n := by rw [hr]; exact IntWalk.i64_in _ (by omega)
  have HD := Lib.hid (show decide (n ≤ x 3) = t by rw [← hn]; exact H.out)
  clear hn hx hz H hm
  go_enter Try.func60, Try.ntmps60
  go_upto_region 1 with (fail)
  obtain ⟨W0, B, hW, hBq, hb, g0, hB0B⟩ := blk_new w (cz 6 x) 23
  rw [hW, hBq]
  have HB := Lib.hid hb
  have k2 := blk_num hb (i := 2) (by omega)
  have k3 := blk_num hb (i := 3) (by omega)
  clear hW hBq hb
  clear HB
  go_wp2
  go_ret
  exact ⟨ret_bool HD.out, g0⟩
set_option maxRecDepth 100000 in
set_option maxHeartbeats 2000000 in
theorem rmay_at (x : Vl) (z e b : Int) (t : Bool) (w : World) (hx : 0 ≤ x 2 ∧ x 2 ≤ 255) (hz : 0 ≤ z ∧ z ≤ 511) (H : Hid (mayB x z e b = t)) :
    Calls Try.prog 39 #[.agg (cz 6 x), .agg #[.int .i64 z, .int .i64 e, .int .i64 b]] w fun r w' => r = .returned (.bool t) ∧ Own w w' := by
  by_cases h1 : x 0 ≤ e
  · by_cases h2 : e ≤ x 1
    · by_cases h3 : b ≤ x 4
      · by_cases hp : poleB e = true
        · obtain rfl : true = t := ((may_iff x z e b).2 ⟨⟨h1, h2, h3⟩, .inl ((pole_iff e).1 hp)⟩).symm.trans H.out
          have HP := Lib.hid hp
          clear H hp hx hz
          go_enter Try.func39, Try.ntmps39
          go_upto_region 1 with (fail)
          obtain ⟨W0, B, C, hW, hC, hB, hb, hc, g0, hB0B, hB0C, hneBC⟩ := two_new w (cz 6 x) 23 (#[.int .i64 z, .int .i64 e, .int .i64 b]) 34
          rw [hW, hC, hB]
          have HB := Lib.hid hb
          have HC := Lib.hid hc
          have k0 := blk_num hb (i := 0) (by omega)
          have k1 := blk_num hb (i := 1) (by omega)
          have k4 := blk_num hb (i := 4) (by omega)
          obtain ⟨m0, m1, m2⟩ := hc.three
          clear hW hC hB hb hc
          go_wp2_with (first | ((with_reducible show wpList _ _ _ (⟨_, .load 34 (.tmp 3), _, _, _, some _⟩ :: _) _ _); refine wpList_load_row_g rfl 34 (.tmp 3) rfl C rfl 34 _ (0, 0) _ HC.out.raw Try.underlying34 rfl infoA ?_) | (go_at_call 59; with_reducible refine (ruv_at z e b true _ HP).mono ?_; rintro r w1 ⟨rfl, hg⟩; replace g0 := g0.trans hg; replace HB := Lib.hid (HB.out.own hg); replace HC := Lib.hid (HC.out.own hg); replace m0 := hg.cell m0; replace k0 := hg.cell k0; replace k1 := hg.cell k1; replace k4 := hg.cell k4; replace m1 := hg.cell m1; replace m2 := hg.cell m2; clear hg))
          go_ret
          exact ⟨rfl, g0⟩
        · have HP := Lib.hid (Bool.eq_false_iff.2 hp)
          have HS := Lib.hid (show inS x z = t by
            have := H.out
            unfold mayB at this
            rw [decide_eq_true h1, decide_eq_true h2, decide_eq_true h3, Bool.eq_false_iff.2 hp] at this
            simpa using this)
          clear H hp
          go_enter Try.func39, Try.ntmps39
          go_upto_region 1 with (fail)
          obtain ⟨W0, B, C, hW, hC, hB, hb, hc, g0, hB0B, hB0C, hneBC⟩ := two_new w (cz 6 x) 23 (#[.int .i64 z, .int .i64 e, .int .i64 b]) 34
          rw [hW, hC, hB]
          have HB := Lib.hid hb
          have HC := Lib.hid hc
          have k0 := blk_num hb (i := 0) (by omega)
          have k1 := blk_num hb (i := 1) (by omega)
          have k4 := blk_num hb (i := 4) (by omega)
          obtain ⟨m0, m1, m2⟩ := hc.three
          clear hW hC hB hb hc
          go_wp2_with (first | ((with_reducible show wpList _ _ _ (⟨_, .load 34 (.tmp 3), _, _, _, some _⟩ :: _) _ _); refine wpList_load_row_g rfl 34 (.tmp 3) rfl C rfl 34 _ (0, 0) _ HC.out.raw Try.underlying34 rfl infoA ?_) | ((with_reducible show wpList _ _ _ (⟨_, .load 23 (.tmp 2), _, _, _, some _⟩ :: _) _ _); refine wpList_load_row_g rfl 23 (.tmp 2) rfl B rfl 23 _ (0, 0) _ HB.out.raw Try.underlying23 rfl infoL ?_) | (go_at_call 59; with_reducible refine (ruv_at z e b false _ HP).mono ?_; rintro r w1 ⟨rfl, hg⟩; replace g0 := g0.trans hg; replace HB := Lib.hid (HB.out.own hg); replace HC := Lib.hid (HC.out.own hg); replace m0 := hg.cell m0; replace k0 := hg.cell k0; replace k1 := hg.cell k1; replace k4 := hg.cell k4; replace m1 := hg.cell m1; replace m2 := hg.cell m2; clear hg) | (go_at_call 60; with_reducible refine (ris_at x z t _ hx hz HS).mono ?_; rintro r w2 ⟨rfl, hg⟩; replace g0 := g0.trans hg; clear hg))
          go_ret
          exact ⟨rfl, g0⟩
      · obtain rfl : false = t := (Bool.eq_false_iff.2 (fun h => h3 ((may_iff x z e b).1 h).1.2.2)).symm.trans H.out
        clear H hx hz
        go_enter Try.func39, Try.ntmps39
        go_upto_region 1 with (fail)
        obtain ⟨W0, B, C, hW, hC, hB, hb, hc, g0, hB0B, hB0C, hneBC⟩ := two_new w (cz 6 x) 23 (#[.int .i64 z, .int .i64 e, .int .i64 b]) 34
        rw [hW, hC, hB]
        have HB := Lib.hid hb
        have HC := Lib.hid hc
        have k0 := blk_num hb (i := 0) (by omega)
        have k1 := blk_num hb (i := 1) (by omega)
        have k4 := blk_num hb (i := 4) (by omega)
        obtain ⟨m0, m1, m2⟩ := hc.three
        clear hW hC hB hb hc
        go_wp2
        go_ret
        exact ⟨rfl, g0⟩
    · obtain rfl : false = t := (Bool.eq_false_iff.2 (fun h => h2 ((may_iff x z e b).1 h).1.2.1)).symm.trans H.out
      clear H hx hz
      go_enter Try.func39, Try.ntmps39
      go_upto_region 1 with (fail)
      obtain ⟨W0, B, C, hW, hC, hB, hb, hc, g0, hB0B, hB0C, hneBC⟩ := two_new w (cz 6 x) 23 (#[.int .i64 z, .int .i64 e, .int .i64 b]) 34
      rw [hW, hC, hB]
      have HB := Lib.hid hb
      have HC := Lib.hid hc
      have k0 := blk_num hb (i := 0) (by omega)
      have k1 := blk_num hb (i := 1) (by omega)
      have k4 := blk_num hb (i := 4) (by omega)
      obtain ⟨m0, m1, m2⟩ := hc.three
      clear hW hC hB hb hc
      go_wp2
      go_ret
      exact ⟨rfl, g0⟩
  · obtain rfl : false = t := (Bool.eq_false_iff.2 (fun h => h1 ((may_iff x z e b).1 h).1.1)).symm.trans H.out
    clear H hx hz
    go_enter Try.func39, Try.ntmps39
    go_upto_region 1 with (fail)
    obtain ⟨W0, B, C, hW, hC, hB, hb, hc, g0, hB0B, hB0C, hneBC⟩ := two_new w (cz 6 x) 23 (#[.int .i64 z, .int .i64 e, .int .i64 b]) 34
    rw [hW, hC, hB]
    have HB := Lib.hid hb
    have HC := Lib.hid hc
    have k0 := blk_num hb (i := 0) (by omega)
    have k1 := blk_num hb (i := 1) (by omega)
    have k4 := blk_num hb (i := 4) (by omega)
    obtain ⟨m0, m1, m2⟩ := hc.three
    clear hW hC hB hb hc
    go_wp2
    go_ret
    exact ⟨rfl, g0⟩
set_option maxRecDepth 100000 in
set_option maxHeartbeats 8000000 in
theorem rck_at (l : Vl) (c : Int) (w : World) (H : Hid (chE l = c)) :
    Calls Try.prog 15 #[.agg (lz l)] w fun r w' => r = .returned (.int .i64 c) ∧ Own w w' := by
  go_enter Try.func15, Try.ntmps15
  go_upto_region 1 with (fail)
  obtain ⟨W0, B, hW, hBq, hb, g0, hB0B⟩ := blk_new w (lz l) 26
  rw [hW, hBq]
  have HB := Lib.hid hb
  clear hW hBq hb
  go_wp2
  go_loopw [3, 4] (fun vi _ wr => ∃ k : Nat, vi = .int .i64 (k : Int) ∧ k ≤ 6 ∧ (∀ i, i < k → okX (lim l i)) ∧ Own w wr ∧ Blk wr B (lz l) 26) (fun vi _ _ => 6 - (intOf vi).toNat)
  case atStart => exact ⟨0, rfl, by omega, fun i hi => absurd hi (by omega), g0, HB.out⟩
  case round =>
    clear g0 HB
    obtain ⟨k, rfl, hk, hz, g0, hb⟩ := hrel
    have HZ := Lib.hid hz
    have HB := Lib.hid hb
    clear hz hb
    by_cases hlt : k < 6
    · have HLIM := Lib.hid (lb_lim HB.out hlt)
      have hkn : (k : Int) < 6 := by omega
      obtain ⟨x, hx⟩ : ∃ x, lim l k = x := ⟨_, rfl⟩
      rw [hx] at HLIM
      have HXX := Lib.hid hx
      clear hx
      by_cases q0 : x 0 < -64
      · obtain rfl : 1 = c := (ch_lim hlt (by rw [HXX.out]; exact fun h => absurd h.1.1 (by omega))).symm.trans H.out
        clear H HZ HXX
        have d0 : decide (x 0 < -64) = true := decide_eq_true q0
        clear q0
        go_upto_region 5 with (first | ((with_reducible show wpList _ _ _ (⟨_, .load 23 (.tmp 11), _, _, _, none⟩ :: _) _ _); refine wpList_load_lie rfl 23 (.tmp 11) rfl B (k * 6) rfl (cz 6 x) HLIM.out _ Try.underlying23 rfl infoL ?_) | ((with_reducible show wpList _ _ _ (⟨_, .store 23 (.tmp 4) (.tmp 12), _, _, _, none⟩ :: _) _ _); refine wpList_store_row rfl 23 (.tmp 4) (.tmp 12) rfl _ (cz 6 (x)) rfl rfl 23 _ (heap_new _ _) infoL rfl (cz_one _ _) ?_; rw [World.setRow_alloc_new]))
        obtain ⟨w1, E, hW, hBq, hb, hg, Eg⟩ := blk_new wr (cz 6 x) 23
        rw [hW, hBq]
        have HE := Lib.hid hb
        replace g0 := g0.trans hg
        replace HB := Lib.hid (HB.out.own hg)
        clear hW hBq hb hg
        have k0 := blk_num HE.out (i := 0) (by omega)
        have k1 := blk_num HE.out (i := 1) (by omega)
        have k2 := blk_num HE.out (i := 2) (by omega)
        have k3 := blk_num HE.out (i := 3) (by omega)
        have k4 := blk_num HE.out (i := 4) (by omega)
        have k5 := blk_num HE.out (i := 5) (by omega)
        clear HLIM
        go_wp2
        go_ret
        exact ⟨rfl, g0⟩
      · by_cases q1 : x 1 < x 0
        · obtain rfl : 1 = c := (ch_lim hlt (by rw [HXX.out]; exact fun h => absurd h.1.2.1 (by omega))).symm.trans H.out
          clear H HZ HXX
          have d0 : decide (x 0 < -64) = false := decide_eq_false q0
          have d1 : decide (x 1 < x 0) = true := decide_eq_true q1
          clear q0 q1
          go_upto_region 5 with (first | ((with_reducible show wpList _ _ _ (⟨_, .load 23 (.tmp 11), _, _, _, none⟩ :: _) _ _); refine wpList_load_lie rfl 23 (.tmp 11) rfl B (k * 6) rfl (cz 6 x) HLIM.out _ Try.underlying23 rfl infoL ?_) | ((with_reducible show wpList _ _ _ (⟨_, .store 23 (.tmp 4) (.tmp 12), _, _, _, none⟩ :: _) _ _); refine wpList_store_row rfl 23 (.tmp 4) (.tmp 12) rfl _ (cz 6 (x)) rfl rfl 23 _ (heap_new _ _) infoL rfl (cz_one _ _) ?_; rw [World.setRow_alloc_new]))
          obtain ⟨w1, E, hW, hBq, hb, hg, Eg⟩ := blk_new wr (cz 6 x) 23
          rw [hW, hBq]
          have HE := Lib.hid hb
          replace g0 := g0.trans hg
          replace HB := Lib.hid (HB.out.own hg)
          clear hW hBq hb hg
          have k0 := blk_num HE.out (i := 0) (by omega)
          have k1 := blk_num HE.out (i := 1) (by omega)
          have k2 := blk_num HE.out (i := 2) (by omega)
          have k3 := blk_num HE.out (i := 3) (by omega)
          have k4 := blk_num HE.out (i := 4) (by omega)
          have k5 := blk_num HE.out (i := 5) (by omega)
          clear HLIM
          go_wp2
          go_ret
          exact ⟨rfl, g0⟩
        · by_cases q2 : 64 < x 1
          · obtain rfl : 1 = c := (ch_lim hlt (by rw [HXX.out]; exact fun h => absurd h.1.2.2 (by omega))).symm.trans H.out
            clear H HZ HXX
            have d0 : decide (x 0 < -64) = false := decide_eq_false q0
            have d1 : decide (x 1 < x 0) = false := decide_eq_false q1
            have d2 : decide (64 < x 1) = true := decide_eq_true q2
            clear q0 q1 q2
            go_upto_region 5 with (first | ((with_reducible show wpList _ _ _ (⟨_, .load 23 (.tmp 11), _, _, _, none⟩ :: _) _ _); refine wpList_load_lie rfl 23 (.tmp 11) rfl B (k * 6) rfl (cz 6 x) HLIM.out _ Try.underlying23 rfl infoL ?_) | ((with_reducible show wpList _ _ _ (⟨_, .store 23 (.tmp 4) (.tmp 12), _, _, _, none⟩ :: _) _ _); refine wpList_store_row rfl 23 (.tmp 4) (.tmp 12) rfl _ (cz 6 (x)) rfl rfl 23 _ (heap_new _ _) infoL rfl (cz_one _ _) ?_; rw [World.setRow_alloc_new]))
            obtain ⟨w1, E, hW, hBq, hb, hg, Eg⟩ := blk_new wr (cz 6 x) 23
            rw [hW, hBq]
            have HE := Lib.hid hb
            replace g0 := g0.trans hg
            replace HB := Lib.hid (HB.out.own hg)
            clear hW hBq hb hg
            have k0 := blk_num HE.out (i := 0) (by omega)
            have k1 := blk_num HE.out (i := 1) (by omega)
            have k2 := blk_num HE.out (i := 2) (by omega)
            have k3 := blk_num HE.out (i := 3) (by omega)
            have k4 := blk_num HE.out (i := 4) (by omega)
            have k5 := blk_num HE.out (i := 5) (by omega)
            clear HLIM
            go_wp2
            go_ret
            exact ⟨rfl, g0⟩
          · by_cases q3 : x 2 < 0
            · obtain rfl : 1 = c := (ch_lim hlt (by rw [HXX.out]; exact fun h => absurd h.2.1.1 (by omega))).symm.trans H.out
              clear H HZ HXX
              have d0 : decide (x 0 < -64) = false := decide_eq_false q0
              have d1 : decide (x 1 < x 0) = false := decide_eq_false q1
              have d2 : decide (64 < x 1) = false := decide_eq_false q2
              have d3 : decide (x 2 < 0) = true := decide_eq_true q3
              clear q0 q1 q2 q3
              go_upto_region 5 with (first | ((with_reducible show wpList _ _ _ (⟨_, .load 23 (.tmp 11), _, _, _, none⟩ :: _) _ _); refine wpList_load_lie rfl 23 (.tmp 11) rfl B (k * 6) rfl (cz 6 x) HLIM.out _ Try.underlying23 rfl infoL ?_) | ((with_reducible show wpList _ _ _ (⟨_, .store 23 (.tmp 4) (.tmp 12), _, _, _, none⟩ :: _) _ _); refine wpList_store_row rfl 23 (.tmp 4) (.tmp 12) rfl _ (cz 6 (x)) rfl rfl 23 _ (heap_new _ _) infoL rfl (cz_one _ _) ?_; rw [World.setRow_alloc_new]))
              obtain ⟨w1, E, hW, hBq, hb, hg, Eg⟩ := blk_new wr (cz 6 x) 23
              rw [hW, hBq]
              have HE := Lib.hid hb
              replace g0 := g0.trans hg
              replace HB := Lib.hid (HB.out.own hg)
              clear hW hBq hb hg
              have k0 := blk_num HE.out (i := 0) (by omega)
              have k1 := blk_num HE.out (i := 1) (by omega)
              have k2 := blk_num HE.out (i := 2) (by omega)
              have k3 := blk_num HE.out (i := 3) (by omega)
              have k4 := blk_num HE.out (i := 4) (by omega)
              have k5 := blk_num HE.out (i := 5) (by omega)
              clear HLIM
              go_wp2
              go_ret
              exact ⟨rfl, g0⟩
            · by_cases q4 : 255 < x 2
              · obtain rfl : 1 = c := (ch_lim hlt (by rw [HXX.out]; exact fun h => absurd h.2.1.2 (by omega))).symm.trans H.out
                clear H HZ HXX
                have d0 : decide (x 0 < -64) = false := decide_eq_false q0
                have d1 : decide (x 1 < x 0) = false := decide_eq_false q1
                have d2 : decide (64 < x 1) = false := decide_eq_false q2
                have d3 : decide (x 2 < 0) = false := decide_eq_false q3
                have d4 : decide (255 < x 2) = true := decide_eq_true q4
                clear q0 q1 q2 q3 q4
                go_upto_region 5 with (first | ((with_reducible show wpList _ _ _ (⟨_, .load 23 (.tmp 11), _, _, _, none⟩ :: _) _ _); refine wpList_load_lie rfl 23 (.tmp 11) rfl B (k * 6) rfl (cz 6 x) HLIM.out _ Try.underlying23 rfl infoL ?_) | ((with_reducible show wpList _ _ _ (⟨_, .store 23 (.tmp 4) (.tmp 12), _, _, _, none⟩ :: _) _ _); refine wpList_store_row rfl 23 (.tmp 4) (.tmp 12) rfl _ (cz 6 (x)) rfl rfl 23 _ (heap_new _ _) infoL rfl (cz_one _ _) ?_; rw [World.setRow_alloc_new]))
                obtain ⟨w1, E, hW, hBq, hb, hg, Eg⟩ := blk_new wr (cz 6 x) 23
                rw [hW, hBq]
                have HE := Lib.hid hb
                replace g0 := g0.trans hg
                replace HB := Lib.hid (HB.out.own hg)
                clear hW hBq hb hg
                have k0 := blk_num HE.out (i := 0) (by omega)
                have k1 := blk_num HE.out (i := 1) (by omega)
                have k2 := blk_num HE.out (i := 2) (by omega)
                have k3 := blk_num HE.out (i := 3) (by omega)
                have k4 := blk_num HE.out (i := 4) (by omega)
                have k5 := blk_num HE.out (i := 5) (by omega)
                clear HLIM
                go_wp2
                go_ret
                exact ⟨rfl, g0⟩
              · by_cases q5 : x 3 < 0
                · obtain rfl : 1 = c := (ch_lim hlt (by rw [HXX.out]; exact fun h => absurd h.2.2.1.1 (by omega))).symm.trans H.out
                  clear H HZ HXX
                  have d0 : decide (x 0 < -64) = false := decide_eq_false q0
                  have d1 : decide (x 1 < x 0) = false := decide_eq_false q1
                  have d2 : decide (64 < x 1) = false := decide_eq_false q2
                  have d3 : decide (x 2 < 0) = false := decide_eq_false q3
                  have d4 : decide (255 < x 2) = false := decide_eq_false q4
                  have d5 : decide (x 3 < 0) = true := decide_eq_true q5
                  clear q0 q1 q2 q3 q4 q5
                  go_upto_region 5 with (first | ((with_reducible show wpList _ _ _ (⟨_, .load 23 (.tmp 11), _, _, _, none⟩ :: _) _ _); refine wpList_load_lie rfl 23 (.tmp 11) rfl B (k * 6) rfl (cz 6 x) HLIM.out _ Try.underlying23 rfl infoL ?_) | ((with_reducible show wpList _ _ _ (⟨_, .store 23 (.tmp 4) (.tmp 12), _, _, _, none⟩ :: _) _ _); refine wpList_store_row rfl 23 (.tmp 4) (.tmp 12) rfl _ (cz 6 (x)) rfl rfl 23 _ (heap_new _ _) infoL rfl (cz_one _ _) ?_; rw [World.setRow_alloc_new]))
                  obtain ⟨w1, E, hW, hBq, hb, hg, Eg⟩ := blk_new wr (cz 6 x) 23
                  rw [hW, hBq]
                  have HE := Lib.hid hb
                  replace g0 := g0.trans hg
                  replace HB := Lib.hid (HB.out.own hg)
                  clear hW hBq hb hg
                  have k0 := blk_num HE.out (i := 0) (by omega)
                  have k1 := blk_num HE.out (i := 1) (by omega)
                  have k2 := blk_num HE.out (i := 2) (by omega)
                  have k3 := blk_num HE.out (i := 3) (by omega)
                  have k4 := blk_num HE.out (i := 4) (by omega)
                  have k5 := blk_num HE.out (i := 5) (by omega)
                  clear HLIM
                  go_wp2
                  go_ret
                  exact ⟨rfl, g0⟩
                · by_cases q6 : 255 < x 3
                  · obtain rfl : 1 = c := (ch_lim hlt (by rw [HXX.out]; exact fun h => absurd h.2.2.1.2 (by omega))).symm.trans H.out
                    clear H HZ HXX
                    have d0 : decide (x 0 < -64) = false := decide_eq_false q0
                    have d1 : decide (x 1 < x 0) = false := decide_eq_false q1
                    have d2 : decide (64 < x 1) = false := decide_eq_false q2
                    have d3 : decide (x 2 < 0) = false := decide_eq_false q3
                    have d4 : decide (255 < x 2) = false := decide_eq_false q4
                    have d5 : decide (x 3 < 0) = false := decide_eq_false q5
                    have d6 : decide (255 < x 3) = true := decide_eq_true q6
                    clear q0 q1 q2 q3 q4 q5 q6
                    go_upto_region 5 with (first | ((with_reducible show wpList _ _ _ (⟨_, .load 23 (.tmp 11), _, _, _, none⟩ :: _) _ _); refine wpList_load_lie rfl 23 (.tmp 11) rfl B (k * 6) rfl (cz 6 x) HLIM.out _ Try.underlying23 rfl infoL ?_) | ((with_reducible show wpList _ _ _ (⟨_, .store 23 (.tmp 4) (.tmp 12), _, _, _, none⟩ :: _) _ _); refine wpList_store_row rfl 23 (.tmp 4) (.tmp 12) rfl _ (cz 6 (x)) rfl rfl 23 _ (heap_new _ _) infoL rfl (cz_one _ _) ?_; rw [World.setRow_alloc_new]))
                    obtain ⟨w1, E, hW, hBq, hb, hg, Eg⟩ := blk_new wr (cz 6 x) 23
                    rw [hW, hBq]
                    have HE := Lib.hid hb
                    replace g0 := g0.trans hg
                    replace HB := Lib.hid (HB.out.own hg)
                    clear hW hBq hb hg
                    have k0 := blk_num HE.out (i := 0) (by omega)
                    have k1 := blk_num HE.out (i := 1) (by omega)
                    have k2 := blk_num HE.out (i := 2) (by omega)
                    have k3 := blk_num HE.out (i := 3) (by omega)
                    have k4 := blk_num HE.out (i := 4) (by omega)
                    have k5 := blk_num HE.out (i := 5) (by omega)
                    clear HLIM
                    go_wp2
                    go_ret
                    exact ⟨rfl, g0⟩
                  · by_cases q7 : x 4 < 0
                    · obtain rfl : 1 = c := (ch_lim hlt (by rw [HXX.out]; exact fun h => absurd h.2.2.2.1.1 (by omega))).symm.trans H.out
                      clear H HZ HXX
                      have d0 : decide (x 0 < -64) = false := decide_eq_false q0
                      have d1 : decide (x 1 < x 0) = false := decide_eq_false q1
                      have d2 : decide (64 < x 1) = false := decide_eq_false q2
                      have d3 : decide (x 2 < 0) = false := decide_eq_false q3
                      have d4 : decide (255 < x 2) = false := decide_eq_false q4
                      have d5 : decide (x 3 < 0) = false := decide_eq_false q5
                      have d6 : decide (255 < x 3) = false := decide_eq_false q6
                      have d7 : decide (x 4 < 0) = true := decide_eq_true q7
                      clear q0 q1 q2 q3 q4 q5 q6 q7
                      go_upto_region 5 with (first | ((with_reducible show wpList _ _ _ (⟨_, .load 23 (.tmp 11), _, _, _, none⟩ :: _) _ _); refine wpList_load_lie rfl 23 (.tmp 11) rfl B (k * 6) rfl (cz 6 x) HLIM.out _ Try.underlying23 rfl infoL ?_) | ((with_reducible show wpList _ _ _ (⟨_, .store 23 (.tmp 4) (.tmp 12), _, _, _, none⟩ :: _) _ _); refine wpList_store_row rfl 23 (.tmp 4) (.tmp 12) rfl _ (cz 6 (x)) rfl rfl 23 _ (heap_new _ _) infoL rfl (cz_one _ _) ?_; rw [World.setRow_alloc_new]))
                      obtain ⟨w1, E, hW, hBq, hb, hg, Eg⟩ := blk_new wr (cz 6 x) 23
                      rw [hW, hBq]
                      have HE := Lib.hid hb
                      replace g0 := g0.trans hg
                      replace HB := Lib.hid (HB.out.own hg)
                      clear hW hBq hb hg
                      have k0 := blk_num HE.out (i := 0) (by omega)
                      have k1 := blk_num HE.out (i := 1) (by omega)
                      have k2 := blk_num HE.out (i := 2) (by omega)
                      have k3 := blk_num HE.out (i := 3) (by omega)
                      have k4 := blk_num HE.out (i := 4) (by omega)
                      have k5 := blk_num HE.out (i := 5) (by omega)
                      clear HLIM
                      go_wp2
                      go_ret
                      exact ⟨rfl, g0⟩
                    · by_cases q8 : 6 < x 4
                      · obtain rfl : 1 = c := (ch_lim hlt (by rw [HXX.out]; exact fun h => absurd h.2.2.2.1.2 (by omega))).symm.trans H.out
                        clear H HZ HXX
                        have d0 : decide (x 0 < -64) = false := decide_eq_false q0
                        have d1 : decide (x 1 < x 0) = false := decide_eq_false q1
                        have d2 : decide (64 < x 1) = false := decide_eq_false q2
                        have d3 : decide (x 2 < 0) = false := decide_eq_false q3
                        have d4 : decide (255 < x 2) = false := decide_eq_false q4
                        have d5 : decide (x 3 < 0) = false := decide_eq_false q5
                        have d6 : decide (255 < x 3) = false := decide_eq_false q6
                        have d7 : decide (x 4 < 0) = false := decide_eq_false q7
                        have d8 : decide (6 < x 4) = true := decide_eq_true q8
                        clear q0 q1 q2 q3 q4 q5 q6 q7 q8
                        go_upto_region 5 with (first | ((with_reducible show wpList _ _ _ (⟨_, .load 23 (.tmp 11), _, _, _, none⟩ :: _) _ _); refine wpList_load_lie rfl 23 (.tmp 11) rfl B (k * 6) rfl (cz 6 x) HLIM.out _ Try.underlying23 rfl infoL ?_) | ((with_reducible show wpList _ _ _ (⟨_, .store 23 (.tmp 4) (.tmp 12), _, _, _, none⟩ :: _) _ _); refine wpList_store_row rfl 23 (.tmp 4) (.tmp 12) rfl _ (cz 6 (x)) rfl rfl 23 _ (heap_new _ _) infoL rfl (cz_one _ _) ?_; rw [World.setRow_alloc_new]))
                        obtain ⟨w1, E, hW, hBq, hb, hg, Eg⟩ := blk_new wr (cz 6 x) 23
                        rw [hW, hBq]
                        have HE := Lib.hid hb
                        replace g0 := g0.trans hg
                        replace HB := Lib.hid (HB.out.own hg)
                        clear hW hBq hb hg
                        have k0 := blk_num HE.out (i := 0) (by omega)
                        have k1 := blk_num HE.out (i := 1) (by omega)
                        have k2 := blk_num HE.out (i := 2) (by omega)
                        have k3 := blk_num HE.out (i := 3) (by omega)
                        have k4 := blk_num HE.out (i := 4) (by omega)
                        have k5 := blk_num HE.out (i := 5) (by omega)
                        clear HLIM
                        go_wp2
                        go_ret
                        exact ⟨rfl, g0⟩
                      · by_cases q9 : x 5 < 1
                        · obtain rfl : 1 = c := (ch_lim hlt (by rw [HXX.out]; exact fun h => absurd h.2.2.2.2.1 (by omega))).symm.trans H.out
                          clear H HZ HXX
                          have d0 : decide (x 0 < -64) = false := decide_eq_false q0
                          have d1 : decide (x 1 < x 0) = false := decide_eq_false q1
                          have d2 : decide (64 < x 1) = false := decide_eq_false q2
                          have d3 : decide (x 2 < 0) = false := decide_eq_false q3
                          have d4 : decide (255 < x 2) = false := decide_eq_false q4
                          have d5 : decide (x 3 < 0) = false := decide_eq_false q5
                          have d6 : decide (255 < x 3) = false := decide_eq_false q6
                          have d7 : decide (x 4 < 0) = false := decide_eq_false q7
                          have d8 : decide (6 < x 4) = false := decide_eq_false q8
                          have d9 : decide (x 5 < 1) = true := decide_eq_true q9
                          clear q0 q1 q2 q3 q4 q5 q6 q7 q8 q9
                          go_upto_region 5 with (first | ((with_reducible show wpList _ _ _ (⟨_, .load 23 (.tmp 11), _, _, _, none⟩ :: _) _ _); refine wpList_load_lie rfl 23 (.tmp 11) rfl B (k * 6) rfl (cz 6 x) HLIM.out _ Try.underlying23 rfl infoL ?_) | ((with_reducible show wpList _ _ _ (⟨_, .store 23 (.tmp 4) (.tmp 12), _, _, _, none⟩ :: _) _ _); refine wpList_store_row rfl 23 (.tmp 4) (.tmp 12) rfl _ (cz 6 (x)) rfl rfl 23 _ (heap_new _ _) infoL rfl (cz_one _ _) ?_; rw [World.setRow_alloc_new]))
                          obtain ⟨w1, E, hW, hBq, hb, hg, Eg⟩ := blk_new wr (cz 6 x) 23
                          rw [hW, hBq]
                          have HE := Lib.hid hb
                          replace g0 := g0.trans hg
                          replace HB := Lib.hid (HB.out.own hg)
                          clear hW hBq hb hg
                          have k0 := blk_num HE.out (i := 0) (by omega)
                          have k1 := blk_num HE.out (i := 1) (by omega)
                          have k2 := blk_num HE.out (i := 2) (by omega)
                          have k3 := blk_num HE.out (i := 3) (by omega)
                          have k4 := blk_num HE.out (i := 4) (by omega)
                          have k5 := blk_num HE.out (i := 5) (by omega)
                          clear HLIM
                          go_wp2
                          go_ret
                          exact ⟨rfl, g0⟩
                        · by_cases q10 : 128 < x 5
                          · obtain rfl : 1 = c := (ch_lim hlt (by rw [HXX.out]; exact fun h => absurd h.2.2.2.2.2 (by omega))).symm.trans H.out
                            clear H HZ HXX
                            have d0 : decide (x 0 < -64) = false := decide_eq_false q0
                            have d1 : decide (x 1 < x 0) = false := decide_eq_false q1
                            have d2 : decide (64 < x 1) = false := decide_eq_false q2
                            have d3 : decide (x 2 < 0) = false := decide_eq_false q3
                            have d4 : decide (255 < x 2) = false := decide_eq_false q4
                            have d5 : decide (x 3 < 0) = false := decide_eq_false q5
                            have d6 : decide (255 < x 3) = false := decide_eq_false q6
                            have d7 : decide (x 4 < 0) = false := decide_eq_false q7
                            have d8 : decide (6 < x 4) = false := decide_eq_false q8
                            have d9 : decide (x 5 < 1) = false := decide_eq_false q9
                            have d10 : decide (128 < x 5) = true := decide_eq_true q10
                            clear q0 q1 q2 q3 q4 q5 q6 q7 q8 q9 q10
                            go_upto_region 5 with (first | ((with_reducible show wpList _ _ _ (⟨_, .load 23 (.tmp 11), _, _, _, none⟩ :: _) _ _); refine wpList_load_lie rfl 23 (.tmp 11) rfl B (k * 6) rfl (cz 6 x) HLIM.out _ Try.underlying23 rfl infoL ?_) | ((with_reducible show wpList _ _ _ (⟨_, .store 23 (.tmp 4) (.tmp 12), _, _, _, none⟩ :: _) _ _); refine wpList_store_row rfl 23 (.tmp 4) (.tmp 12) rfl _ (cz 6 (x)) rfl rfl 23 _ (heap_new _ _) infoL rfl (cz_one _ _) ?_; rw [World.setRow_alloc_new]))
                            obtain ⟨w1, E, hW, hBq, hb, hg, Eg⟩ := blk_new wr (cz 6 x) 23
                            rw [hW, hBq]
                            have HE := Lib.hid hb
                            replace g0 := g0.trans hg
                            replace HB := Lib.hid (HB.out.own hg)
                            clear hW hBq hb hg
                            have k0 := blk_num HE.out (i := 0) (by omega)
                            have k1 := blk_num HE.out (i := 1) (by omega)
                            have k2 := blk_num HE.out (i := 2) (by omega)
                            have k3 := blk_num HE.out (i := 3) (by omega)
                            have k4 := blk_num HE.out (i := 4) (by omega)
                            have k5 := blk_num HE.out (i := 5) (by omega)
                            clear HLIM
                            go_wp2
                            go_ret
                            exact ⟨rfl, g0⟩
                          · have ho : okX x := by unfold okX; omega
                            have d0 : decide (x 0 < -64) = false := decide_eq_false q0
                            have d1 : decide (x 1 < x 0) = false := decide_eq_false q1
                            have d2 : decide (64 < x 1) = false := decide_eq_false q2
                            have d3 : decide (x 2 < 0) = false := decide_eq_false q3
                            have d4 : decide (255 < x 2) = false := decide_eq_false q4
                            have d5 : decide (x 3 < 0) = false := decide_eq_false q5
                            have d6 : decide (255 < x 3) = false := decide_eq_false q6
                            have d7 : decide (x 4 < 0) = false := decide_eq_false q7
                            have d8 : decide (6 < x 4) = false := decide_eq_false q8
                            have d9 : decide (x 5 < 1) = false := decide_eq_false q9
                            have d10 : decide (128 < x 5) = false := decide_eq_false q10
                            clear q0 q1 q2 q3 q4 q5 q6 q7 q8 q9 q10
                            go_upto_region 5 with (first | ((with_reducible show wpList _ _ _ (⟨_, .load 23 (.tmp 11), _, _, _, none⟩ :: _) _ _); refine wpList_load_lie rfl 23 (.tmp 11) rfl B (k * 6) rfl (cz 6 x) HLIM.out _ Try.underlying23 rfl infoL ?_) | ((with_reducible show wpList _ _ _ (⟨_, .store 23 (.tmp 4) (.tmp 12), _, _, _, none⟩ :: _) _ _); refine wpList_store_row rfl 23 (.tmp 4) (.tmp 12) rfl _ (cz 6 (x)) rfl rfl 23 _ (heap_new _ _) infoL rfl (cz_one _ _) ?_; rw [World.setRow_alloc_new]))
                            obtain ⟨w1, E, hW, hBq, hb, hg, Eg⟩ := blk_new wr (cz 6 x) 23
                            rw [hW, hBq]
                            have HE := Lib.hid hb
                            replace g0 := g0.trans hg
                            replace HB := Lib.hid (HB.out.own hg)
                            clear hW hBq hb hg
                            have k0 := blk_num HE.out (i := 0) (by omega)
                            have k1 := blk_num HE.out (i := 1) (by omega)
                            have k2 := blk_num HE.out (i := 2) (by omega)
                            have k3 := blk_num HE.out (i := 3) (by omega)
                            have k4 := blk_num HE.out (i := 4) (by omega)
                            have k5 := blk_num HE.out (i := 5) (by omega)
                            clear HLIM
                            go_wp2
                            go_roundw
                            case rel =>
                              refine ⟨k + 1, by go_num, hlt, fun i hi => ?_, g0, HB.out⟩
                              by_cases e : i = k
                              · rw [e, HXX.out]; exact ho
                              · exact HZ.out i (by omega)
                            case measure => simp [intOf]; omega
    · obtain rfl : k = 6 := by omega
      have k38 := lb_num HB.out (i := 38) (by omega) (by omega)
      have k39 := lb_num HB.out (i := 39) (by omega) (by omega)
      by_cases q0 : l 38 < 0
      · obtain rfl : 1 = c := (ch_tail (fun h => absurd h.1.1 (by omega))).symm.trans H.out
        clear H HZ
        have d0 : decide (l 38 < 0) = true := decide_eq_true q0
        clear q0
        go_wp2
        go_ret
        exact ⟨rfl, g0⟩
      · by_cases q1 : 8192 < l 38
        · obtain rfl : 1 = c := (ch_tail (fun h => absurd h.1.2 (by omega))).symm.trans H.out
          clear H HZ
          have d0 : decide (l 38 < 0) = false := decide_eq_false q0
          have d1 : decide (8192 < l 38) = true := decide_eq_true q1
          clear q0 q1
          go_wp2
          go_ret
          exact ⟨rfl, g0⟩
        · by_cases q2 : l 39 < 1
          · obtain rfl : 1 = c := (ch_tail (fun h => absurd h.2.1 (by omega))).symm.trans H.out
            clear H HZ
            have d0 : decide (l 38 < 0) = false := decide_eq_false q0
            have d1 : decide (8192 < l 38) = false := decide_eq_false q1
            have d2 : decide (l 39 < 1) = true := decide_eq_true q2
            clear q0 q1 q2
            go_wp2
            go_ret
            exact ⟨rfl, g0⟩
          · by_cases q3 : 128 < l 39
            · obtain rfl : 1 = c := (ch_tail (fun h => absurd h.2.2 (by omega))).symm.trans H.out
              clear H HZ
              have d0 : decide (l 38 < 0) = false := decide_eq_false q0
              have d1 : decide (8192 < l 38) = false := decide_eq_false q1
              have d2 : decide (l 39 < 1) = false := decide_eq_false q2
              have d3 : decide (128 < l 39) = true := decide_eq_true q3
              clear q0 q1 q2 q3
              go_wp2
              go_ret
              exact ⟨rfl, g0⟩
            · obtain rfl : 0 = c := (ch_ok HZ.out (by unfold okT; omega)).symm.trans H.out
              clear H HZ
              have d0 : decide (l 38 < 0) = false := decide_eq_false q0
              have d1 : decide (8192 < l 38) = false := decide_eq_false q1
              have d2 : decide (l 39 < 1) = false := decide_eq_false q2
              have d3 : decide (128 < l 39) = false := decide_eq_false q3
              clear q0 q1 q2 q3
              go_wp2
              go_ret
              exact ⟨rfl, g0⟩
set_option maxRecDepth 100000 in
set_option maxHeartbeats 2000000 in
theorem ral_at (l : Vl) (k z e b : Int) (t : Bool) (c : Int) (w : World) (H : Hid (alV l k z e b = t ∧ alE l k z e b = c)) :
    Calls Try.prog 18 #[.agg (lz l), .int .i64 k, .agg #[.int .i64 z, .int .i64 e, .int .i64 b]] w fun r w' => r = .returned (.tuple #[.bool t, .int .i64 c]) ∧ Own w w' := by
  obtain ⟨ht, hc⟩ := H.out
  clear H
  by_cases h1 : chE l = 0
  · have HC0 := Lib.hid h1
    by_cases h2 : chk k z e b = 0
    · have HK := Lib.hid h2
      obtain ⟨hk, hz', -⟩ := chk_yes h2
      obtain ⟨a1, a2⟩ := al_ok h1 h2
      obtain rfl : 0 = c := a1.symm.trans hc
      obtain ⟨n, rfl⟩ : ∃ n : Nat, k = n := ⟨k.toNat, by omega⟩
      have hn6 : n < 6 := by omega
      rw [Int.toNat_natCast] at a2
      have hx := ((ch_yes h1).1 n hn6).2.1
      have hz : 0 ≤ z ∧ z ≤ 511 := by omega
      have HM0 := Lib.hid (a2.symm.trans ht)
      have hn1 : (n : Int) < 6 := by omega
      clear ht hc a1 a2 h1 h2 hk hz'
      go_enter Try.func18, Try.ntmps18
      go_upto_region 1 with (fail)
      obtain ⟨W0, B, C, hW, hC, hB, hb, hc, g0, hB0B, hB0C, hneBC⟩ := two_new w (lz l) 26 (#[.int .i64 z, .int .i64 e, .int .i64 b]) 34
      rw [hW, hC, hB]
      have HB := Lib.hid hb
      have HC := Lib.hid hc
      clear hW hC hB hb hc
      go_upto_region 7 with (first | ((with_reducible show wpList _ _ _ (⟨_, .load 26 (.tmp 3), _, _, _, none⟩ :: _) _ _); refine wpList_load_row rfl 26 (.tmp 3) rfl B rfl 26 _ (0, 0) _ HB.out.raw Try.underlying26 rfl infoLs ?_) | (go_at_call 15; with_reducible refine (rck_at l 0 _ HC0).mono ?_; rintro r w1 ⟨rfl, hg⟩; replace g0 := g0.trans hg; replace HB := Lib.hid (HB.out.own hg); replace HC := Lib.hid (HC.out.own hg); clear hg) | ((with_reducible show wpList _ _ _ (⟨_, .load 34 (.tmp 5), _, _, _, none⟩ :: _) _ _); refine wpList_load_row rfl 34 (.tmp 5) rfl C rfl 34 _ (0, 0) _ HC.out.raw Try.underlying34 rfl infoA ?_) | (go_at_call 38; with_reducible refine (rcheck_at n z e b 0 _ HK).mono ?_; rintro r w2 ⟨rfl, hg⟩; replace g0 := g0.trans hg; replace HB := Lib.hid (HB.out.own hg); replace HC := Lib.hid (HC.out.own hg); clear hg))
      have HLIM := Lib.hid (lb_lim HB.out hn6)
      generalize lim l n = x at *
      have HM := Lib.hid HM0.out
      clear HM0
      refine RegD.region_duty [21, 22, 23, 24, 25, 26, 6, 7] (RegI.upd (RegI.upd (RegI.upd (RegI.upd (RegI.upd (RegI.upd (RegI.upd (RegI.upd (fun _ => undef) 21 (.int .i64 (n : Int))) 22 (.pointer (some ⟨B, 0, none⟩))) 23 (.pointer (some ⟨B, n * 6, none⟩))) 24 (.agg (cz 6 x))) 25 (.agg #[.int .i64 z, .int .i64 e, .int .i64 b])) 26 (.bool t)) 6 (.bool t)) 7 (.int .i64 0)) (by kernel_rfl) (by kernel_rfl) (by intro d hd; simp at hd; simp; omega) ?_
      simp only [RegD.FF, RegI.FX, RegI.upd, List.foldl_cons, List.foldl_nil, List.not_mem_nil, if_true, if_false, Nat.reduceEqDiff]
      simp only [List.setIfInBounds_toArray, List.set_cons_succ, List.set_cons_zero]
      refine And.intro ?hs1 ?he1
      case hs1 =>
        refine And.intro ?s1_0 (And.intro ?s1_1 (And.intro ?s1_2 (And.intro ?s1_3 (And.intro ?s1_4 (And.intro ?s1_5 (And.intro ?s1_6 (And.intro ?s1_7 (trivial))))))))
        case s1_0 =>
          intro u w1 hO
          go_wp2
          exact ⟨rfl, rfl, rfl, Own.refl _⟩
        case s1_1 =>
          intro u w1 hO
          go_wp2
          exact ⟨rfl, rfl, rfl, Own.refl _⟩
        case s1_2 =>
          intro u w1 hO
          go_wp2
          exact ⟨rfl, rfl, rfl, Own.refl _⟩
        case s1_3 =>
          intro u w1 hO
          have HB9 := Lib.hid (HLIM.out.own hO)
          go_wp2_with ((with_reducible show wpList _ _ _ (⟨_, .load 23 (.tmp 23), _, _, _, none⟩ :: _) _ _); refine wpList_load_lie rfl 23 (.tmp 23) rfl B (n * 6) rfl (cz 6 x) HB9.out _ Try.underlying23 rfl infoL ?_)
          exact ⟨rfl, rfl, rfl, Own.refl _⟩
        case s1_4 =>
          intro u w1 hO
          have HB9 := Lib.hid (HC.out.own hO)
          go_wp2_with ((with_reducible show wpList _ _ _ (⟨_, .load 34 (.tmp 5), _, _, _, none⟩ :: _) _ _); refine wpList_load_row rfl 34 (.tmp 5) rfl C rfl 34 _ (0, 0) _ HB9.out.raw Try.underlying34 rfl infoA ?_)
          exact ⟨rfl, rfl, rfl, Own.refl _⟩
        case s1_5 =>
          intro u w1 hO
          go_wp2_with (go_at_call 39; with_reducible refine (rmay_at x z e b t _ hx hz HM).mono ?_; rintro r w2 ⟨rfl, hg⟩)
          exact ⟨rfl, rfl, rfl, hg⟩
        case s1_6 =>
          intro u w1 hO
          go_wp2
          exact ⟨rfl, rfl, rfl, Own.refl _⟩
        case s1_7 =>
          intro u w1 hO
          go_wp2
          exact ⟨rfl, rfl, rfl, Own.refl _⟩
      intro u w9 hO
      replace g0 := g0.trans hO
      clear hO HB HC HM HLIM HK HC0
      go_wp2
      go_ret2
      exact ⟨rfl, g0⟩
    · obtain ⟨d, hd⟩ : ∃ d, chk k z e b = d := ⟨_, rfl⟩
      have e1 : alE l k z e b = d := by unfold alE; rw [if_pos h1]; exact hd
      rw [hd] at h2
      have e2 := al_no (l := l) (k := k) (z := z) (e := e) (b := b) (by rw [e1]; exact h2)
      obtain rfl : d = c := e1.symm.trans hc
      obtain rfl : false = t := e2.symm.trans ht
      have HK := Lib.hid hd
      have kd : (d != 0) = true := bne_iff_ne.2 h2
      clear ht hc e1 e2 h1 hd h2
      go_enter Try.func18, Try.ntmps18
      go_upto_region 1 with (fail)
      obtain ⟨W0, B, C, hW, hC, hB, hb, hc, g0, hB0B, hB0C, hneBC⟩ := two_new w (lz l) 26 (#[.int .i64 z, .int .i64 e, .int .i64 b]) 34
      rw [hW, hC, hB]
      have HB := Lib.hid hb
      have HC := Lib.hid hc
      clear hW hC hB hb hc
      go_wp2_with (first | ((with_reducible show wpList _ _ _ (⟨_, .load 26 (.tmp 3), _, _, _, none⟩ :: _) _ _); refine wpList_load_row rfl 26 (.tmp 3) rfl B rfl 26 _ (0, 0) _ HB.out.raw Try.underlying26 rfl infoLs ?_) | (go_at_call 15; with_reducible refine (rck_at l 0 _ HC0).mono ?_; rintro r w1 ⟨rfl, hg⟩; replace g0 := g0.trans hg; replace HB := Lib.hid (HB.out.own hg); replace HC := Lib.hid (HC.out.own hg); clear hg) | ((with_reducible show wpList _ _ _ (⟨_, .load 34 (.tmp 5), _, _, _, none⟩ :: _) _ _); refine wpList_load_row rfl 34 (.tmp 5) rfl C rfl 34 _ (0, 0) _ HC.out.raw Try.underlying34 rfl infoA ?_) | (go_at_call 38; with_reducible refine (rcheck_at k z e b d _ HK).mono ?_; rintro r w2 ⟨rfl, hg⟩; replace g0 := g0.trans hg; replace HB := Lib.hid (HB.out.own hg); replace HC := Lib.hid (HC.out.own hg); clear hg))
      go_ret2
      exact ⟨rfl, g0⟩
  · obtain ⟨d, hd⟩ : ∃ d, chE l = d := ⟨_, rfl⟩
    have e1 : alE l k z e b = d := by unfold alE; rw [if_neg h1]; exact hd
    rw [hd] at h1
    have e2 := al_no (l := l) (k := k) (z := z) (e := e) (b := b) (by rw [e1]; exact h1)
    obtain rfl : d = c := e1.symm.trans hc
    obtain rfl : false = t := e2.symm.trans ht
    have HC0 := Lib.hid hd
    have kd : (d != 0) = true := bne_iff_ne.2 h1
    clear ht hc e1 e2 hd h1
    go_enter Try.func18, Try.ntmps18
    go_upto_region 1 with (fail)
    obtain ⟨W0, B, C, hW, hC, hB, hb, hc, g0, hB0B, hB0C, hneBC⟩ := two_new w (lz l) 26 (#[.int .i64 z, .int .i64 e, .int .i64 b]) 34
    rw [hW, hC, hB]
    have HB := Lib.hid hb
    have HC := Lib.hid hc
    clear hW hC hB hb hc
    go_wp2_with (first | ((with_reducible show wpList _ _ _ (⟨_, .load 26 (.tmp 3), _, _, _, none⟩ :: _) _ _); refine wpList_load_row rfl 26 (.tmp 3) rfl B rfl 26 _ (0, 0) _ HB.out.raw Try.underlying26 rfl infoLs ?_) | (go_at_call 15; with_reducible refine (rck_at l d _ HC0).mono ?_; rintro r w1 ⟨rfl, hg⟩; replace g0 := g0.trans hg; replace HB := Lib.hid (HB.out.own hg); replace HC := Lib.hid (HC.out.own hg); clear hg))
    go_ret2
    exact ⟨rfl, g0⟩
end Go.Proofs.Ytmjokgddhainlaa.LimW
