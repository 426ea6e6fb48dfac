/-
  Walks of the laws of package build: BuildSteps, BuildLength. Condition: the table of bounds lies in memory (Tab).
-/
import Derived.Test.YtbmcompnhjbdkaaDoorBuildT
namespace Go.Proofs.YtbmcompnhjbdkaaDoor.BuiW
open Go.ChangeShapes Go.WideShapes Go.ChangeAt Go.RowKit
open PairW BuiP
theorem st_sq {s h : Int} (h1 : (s - 1) * (s - 1) < h * h + h * h) (h2 : h * h + h * h < (s + 1) * (s + 1)) (_hs : 100 ≤ s) : ∀ k, k < 8 → (s - 1) * (s - 1) < stX s h k * stX s h k + stY s h k * stY s h k ∧ stX s h k * stX s h k + stY s h k * stY s h k < (s + 1) * (s + 1) := by
  have e1 : (s - 1) * (s - 1) = s * s - 2 * s + 1 := by rw [Int.sub_mul, Int.mul_sub]; omega
  have e2 : (s + 1) * (s + 1) = s * s + 2 * s + 1 := by rw [Int.add_mul, Int.mul_add]; omega
  intro k hk
  match k, hk with
  | 0, _ => simp only [stX, stY, Int.mul_zero, Int.zero_add]; omega
  | 1, _ => simp only [stX, stY]; omega
  | 2, _ => simp only [stX, stY, Int.mul_zero, Int.add_zero]; omega
  | 3, _ => simp only [stX, stY, Int.neg_mul_neg]; omega
  | 4, _ => simp only [stX, stY, Int.neg_mul_neg, Int.mul_zero, Int.zero_add]; omega
  | 5, _ => simp only [stX, stY, Int.neg_mul_neg]; omega
  | 6, _ => simp only [stX, stY, Int.neg_mul_neg, Int.mul_zero, Int.add_zero]; omega
  | 7, _ => simp only [stX, stY, Int.neg_mul_neg]; omega
  | n + 8, h => omega
theorem sq_bd {x : Int} (h : -1200 ≤ x ∧ x ≤ 1200) : 0 ≤ x * x ∧ x * x ≤ 1440000 := by
  by_cases h0 : 0 ≤ x
  · have h1 := Int.mul_le_mul h.2 h.2 h0 (by omega)
    have h2 := Int.mul_nonneg h0 h0
    omega
  · have h1 := Int.mul_le_mul (a := -x) (b := -x) (c := 1200) (d := 1200) (by omega) (by omega) (by omega) (by omega)
    have h2 := Int.mul_nonneg (a := -x) (b := -x) (by omega) (by omega)
    rw [Int.neg_mul_neg] at h1 h2
    omega
/-- Where a step leads: to the right, to the front. -/
theorem st_sign {s h : Int} (hs : 0 < s) (hh : 0 < h) {k : Nat} (hk : k < 8) :
    (k = 0 ∧ decide (0 < stX s h k) = false ∧ decide (0 < stY s h k) = true) ∨ (k = 1 ∧ decide (0 < stX s h k) = true ∧ decide (0 < stY s h k) = true) ∨
    (k = 2 ∧ decide (0 < stX s h k) = true ∧ decide (0 < stY s h k) = false) ∨ (k = 3 ∧ decide (0 < stX s h k) = true ∧ decide (0 < stY s h k) = false) ∨
    (k = 4 ∧ decide (0 < stX s h k) = false ∧ decide (0 < stY s h k) = false) ∨ (k = 5 ∧ decide (0 < stX s h k) = false ∧ decide (0 < stY s h k) = false) ∨
    (k = 6 ∧ decide (0 < stX s h k) = false ∧ decide (0 < stY s h k) = false) ∨ (k = 7 ∧ decide (0 < stX s h k) = false ∧ decide (0 < stY s h k) = true) := by
  match k, hk with
  | 0, _ => exact .inl ⟨rfl, decide_eq_false (by simp only [stX]; omega), decide_eq_true (by simp only [stY]; omega)⟩
  | 1, _ => exact .inr (.inl ⟨rfl, decide_eq_true (by simp only [stX]; omega), decide_eq_true (by simp only [stY]; omega)⟩)
  | 2, _ => exact .inr (.inr (.inl ⟨rfl, decide_eq_true (by simp only [stX]; omega), decide_eq_false (by simp only [stY]; omega)⟩))
  | 3, _ => exact .inr (.inr (.inr (.inl ⟨rfl, decide_eq_true (by simp only [stX]; omega), decide_eq_false (by simp only [stY]; omega)⟩)))
  | 4, _ => exact .inr (.inr (.inr (.inr (.inl ⟨rfl, decide_eq_false (by simp only [stX]; omega), decide_eq_false (by simp only [stY]; omega)⟩))))
  | 5, _ => exact .inr (.inr (.inr (.inr (.inr (.inl ⟨rfl, decide_eq_false (by simp only [stX]; omega), decide_eq_false (by simp only [stY]; omega)⟩)))))
  | 6, _ => exact .inr (.inr (.inr (.inr (.inr (.inr (.inl ⟨rfl, decide_eq_false (by simp only [stX]; omega), decide_eq_false (by simp only [stY]; omega)⟩))))))
  | 7, _ => exact .inr (.inr (.inr (.inr (.inr (.inr (.inr (⟨rfl, decide_eq_false (by simp only [stX]; omega), decide_eq_true (by simp only [stY]; omega)⟩)))))))
  | n + 8, h => omega
set_option maxRecDepth 100000 in
set_option maxHeartbeats 4000000 in
theorem BuildSteps_walk (b : Bl) (e : Int) (he : 0 ≤ e ∧ e ≤ 255) (w : World) (HT : Hid (Tab w)) :
    Calls Tryd.prog 7 #[.agg #[.int .i64 (b 0), .int .i64 (b 1), .int .i64 (b 2), .int .i64 (b 3), .int .i64 (b 4), .int .i64 (b 5), .int .i64 (b 6), .int .i64 (b 7), .int .i64 (b 8), .int .i64 (b 9), .int .i64 (b 10), .int .i64 (b 11), .int .i64 (b 12), .int .i64 (b 13), .int .i64 (b 14)], .int .u8 e] w fun e w' => e = .returned (.bool true) ∧ Own w w' := by
  by_cases ho : Okb b
  · have HC := Lib.hid (chk_yes ho)
    obtain ⟨k, hk, km⟩ : ∃ k : Nat, k < 8 ∧ e % 8 = (k : Int) := ⟨(e % 8).toNat, by omega, by omega⟩
    obtain ⟨k2, hk2⟩ : ∃ j : Nat, (k + 2) % 8 = j := ⟨_, rfl⟩
    obtain ⟨k4, hk4⟩ : ∃ j : Nat, (k + 4) % 8 = j := ⟨_, rfl⟩
    obtain ⟨k8, hk8⟩ : ∃ j : Nat, (8 - k) % 8 = j := ⟨_, rfl⟩
    have r2 : ((k : Int) + 2) % 8 = (k2 : Int) := by omega
    have r4 : ((k : Int) + 4) % 8 = (k4 : Int) := by omega
    have r8 : (8 - (k : Int)) % 8 = (k8 : Int) := by omega
    have hn := hf_nice (step_bd ho)
    have hbd := st_bd (step_bd ho) ⟨hn.2.2.1, hn.2.2.2⟩ k
    have e0 := stp_ok ho hk
    have e2 := stp_ok (k := k2) ho (by omega)
    have e4 := stp_ok (k := k4) ho (by omega)
    have e8 := stp_ok (k := k8) ho (by omega)
    have t2 := st_two (b 6) (hf (b 6)) k hk
    have t4 := st_four (b 6) (hf (b 6)) k hk
    have t8 := st_mir (b 6) (hf (b 6)) k hk
    rw [hk2] at t2
    rw [hk4] at t4
    rw [hk8] at t8
    rw [t2.1, t2.2] at e2
    rw [t4.1, t4.2] at e4
    rw [t8.1, t8.2] at e8
    generalize stX (b 6) (hf (b 6)) k = x at *
    generalize stY (b 6) (hf (b 6)) k = y at *
    have HS0 := Lib.hid (show stpX b k = x ∧ stpY b k = y ∧ stpE b k = 0 from ⟨e0.2.1, e0.2.2, e0.1⟩)
    have HS2 := Lib.hid (show stpX b k2 = y ∧ stpY b k2 = -x ∧ stpE b k2 = 0 from ⟨e2.2.1, e2.2.2, e2.1⟩)
    have HS4 := Lib.hid (show stpX b k4 = -x ∧ stpY b k4 = -y ∧ stpE b k4 = 0 from ⟨e4.2.1, e4.2.2, e4.1⟩)
    have HS8 := Lib.hid (show stpX b k8 = -x ∧ stpY b k8 = y ∧ stpE b k8 = 0 from ⟨e8.2.1, e8.2.2, e8.1⟩)
    have i1 : wrap64 (-x) = -x := by unfold wrap64; omega
    have i2 : wrap64 (-y) = -y := by unfold wrap64; omega
    clear hk2 hk4 hk8 hn hbd e0 e2 e4 e8 t2 t4 t8 ho
    go_enter Tryd.func7, Tryd.ntmps7
    go_upto_region 1 with (fail)
    obtain ⟨W0, B, hW, hBq, hb, g0, hB⟩ := bx_new w b
    rw [hW, hBq]
    have HB := Lib.hid hb
    clear hW hBq hb
    go_upto_region 5 with (first | (refine wpList_load_row rfl 24 (.tmp 2) rfl B rfl 24 _ (0, 0) _ HB.out.raw Tryd.underlying24 rfl infoB ?_) | (go_at_call 11; with_reducible refine (pcheck_at b 0 _ (Lib.hid (HT.out.own g0)) HC).mono ?_; rintro e w2 ⟨rfl, hg⟩; replace g0 : Own w w2 := g0.trans hg; replace HB := Lib.hid (HB.out.own hg); clear hg) | (go_at_call 13; with_reducible refine (pstep_at b (k : Int) x y 0 _ (Lib.hid (HT.out.own g0)) HS0).mono ?_; rintro e w3 ⟨rfl, hg⟩; replace g0 : Own w w3 := g0.trans hg; replace HB := Lib.hid (HB.out.own hg); clear hg))
    obtain ⟨W3, P, hW, hBq, hb, hg⟩ := pt_made w3 (.int .i64 x) (.int .i64 y)
    rw [hW, hBq]
    have HP := Lib.hid hb
    replace g0 : Own w W3 := g0.trans hg
    replace HB := Lib.hid (HB.out.own hg)
    clear hW hBq hb hg
    go_upto_region 6 with (first | (refine wpList_load_row rfl 24 (.tmp 2) rfl B rfl 24 _ (0, 0) _ HB.out.raw Tryd.underlying24 rfl infoB ?_) | (go_at_call 13; with_reducible refine (pstep_at b (k4 : Int) (-x) (-y) 0 _ (Lib.hid (HT.out.own g0)) HS4).mono ?_; rintro e w4 ⟨rfl, hg⟩; replace g0 : Own w w4 := g0.trans hg; replace HB := Lib.hid (HB.out.own hg); replace HP := Lib.hid (HP.out.own hg); clear hg))
    obtain ⟨W4, Q, hW, hBq, hb, hg⟩ := pt_made w4 (.int .i64 (-x)) (.int .i64 (-y))
    rw [hW, hBq]
    have HQ := Lib.hid hb
    replace g0 : Own w W4 := g0.trans hg
    replace HB := Lib.hid (HB.out.own hg)
    replace HP := Lib.hid (HP.out.own hg)
    clear hW hBq hb hg
    go_upto_region 7 with (first | (refine wpList_load_row rfl 24 (.tmp 2) rfl B rfl 24 _ (0, 0) _ HB.out.raw Tryd.underlying24 rfl infoB ?_) | (go_at_call 13; with_reducible refine (pstep_at b (k2 : Int) y (-x) 0 _ (Lib.hid (HT.out.own g0)) HS2).mono ?_; rintro e w5 ⟨rfl, hg⟩; replace g0 : Own w w5 := g0.trans hg; replace HB := Lib.hid (HB.out.own hg); replace HP := Lib.hid (HP.out.own hg); replace HQ := Lib.hid (HQ.out.own hg); clear hg))
    obtain ⟨W5, R, hW, hBq, hb, hg⟩ := pt_made w5 (.int .i64 y) (.int .i64 (-x))
    rw [hW, hBq]
    have HR := Lib.hid hb
    replace g0 : Own w W5 := g0.trans hg
    replace HB := Lib.hid (HB.out.own hg)
    replace HP := Lib.hid (HP.out.own hg)
    replace HQ := Lib.hid (HQ.out.own hg)
    clear hW hBq hb hg
    go_upto_region 8 with (first | (refine wpList_load_row rfl 24 (.tmp 2) rfl B rfl 24 _ (0, 0) _ HB.out.raw Tryd.underlying24 rfl infoB ?_) | (go_at_call 13; with_reducible refine (pstep_at b (k8 : Int) (-x) y 0 _ (Lib.hid (HT.out.own g0)) HS8).mono ?_; rintro e w6 ⟨rfl, hg⟩; replace g0 : Own w w6 := g0.trans hg; replace HB := Lib.hid (HB.out.own hg); replace HP := Lib.hid (HP.out.own hg); replace HQ := Lib.hid (HQ.out.own hg); replace HR := Lib.hid (HR.out.own hg); clear hg))
    obtain ⟨W6, S, hW, hBq, hb, hg⟩ := pt_made w6 (.int .i64 (-x)) (.int .i64 y)
    rw [hW, hBq]
    have HS := Lib.hid hb
    replace g0 : Own w W6 := g0.trans hg
    replace HP := Lib.hid (HP.out.own hg)
    replace HQ := Lib.hid (HQ.out.own hg)
    replace HR := Lib.hid (HR.out.own hg)
    clear hW hBq hb hg
    obtain ⟨p0, p1⟩ := HP.out.two
    obtain ⟨q0, q1⟩ := HQ.out.two
    obtain ⟨u0, u1⟩ := HR.out.two
    obtain ⟨s0, s1⟩ := HS.out.two
    clear HB HP HQ HR HS HS0 HS2 HS4 HS8 r2 r4 r8 km
    go_wp2_with (go_at_call 12; with_reducible refine (awake_at _ (Lib.hid (HT.out.own g0))).mono ?_; rintro e w99 ⟨rfl, hg⟩; replace g0 : Own w w99 := g0.trans hg; clear hg)
    go_ret
    exact ⟨by first | rfl | (exact ret_bool (by simp)), g0⟩
  · have HC := Lib.hid (chk_no ho)
    clear ho
    go_enter Tryd.func7, Tryd.ntmps7
    go_upto_region 1 with (fail)
    obtain ⟨W0, B, hW, hBq, hb, g0, hB⟩ := bx_new w b
    rw [hW, hBq]
    have HB := Lib.hid hb
    clear hW hBq hb
    go_wp2_with (first | (refine wpList_load_row rfl 24 (.tmp 2) rfl B rfl 24 _ (0, 0) _ HB.out.raw Tryd.underlying24 rfl infoB ?_) | (go_at_call 11; with_reducible refine (pcheck_at b 23 _ (Lib.hid (HT.out.own g0)) HC).mono ?_; rintro e w2 ⟨rfl, hg⟩; replace g0 : Own w w2 := g0.trans hg; replace HB := Lib.hid (HB.out.own hg); clear hg) | (go_at_call 12; with_reducible refine (awake_at _ (Lib.hid (HT.out.own g0))).mono ?_; rintro e w99 ⟨rfl, hg⟩; replace g0 : Own w w99 := g0.trans hg; clear hg))
    go_ret
    exact ⟨by first | rfl | (exact ret_bool (by simp)), g0⟩
set_option maxRecDepth 100000 in
set_option maxHeartbeats 4000000 in
theorem BuildLength_walk (b : Bl) (e : Int) (he : 0 ≤ e ∧ e ≤ 255) (w : World) (HT : Hid (Tab w)) :
    Calls Tryd.prog 8 #[.agg #[.int .i64 (b 0), .int .i64 (b 1), .int .i64 (b 2), .int .i64 (b 3), .int .i64 (b 4), .int .i64 (b 5), .int .i64 (b 6), .int .i64 (b 7), .int .i64 (b 8), .int .i64 (b 9), .int .i64 (b 10), .int .i64 (b 11), .int .i64 (b 12), .int .i64 (b 13), .int .i64 (b 14)], .int .u8 e] w fun e w' => e = .returned (.bool true) ∧ Own w w' := by
  by_cases ho : Okb b
  · have HC := Lib.hid (chk_yes ho)
    obtain ⟨k, hk, km⟩ : ∃ k : Nat, k < 8 ∧ e % 8 = (k : Int) := ⟨(e % 8).toNat, by omega, by omega⟩
    have hs := step_bd ho
    have hn := hf_nice hs
    have hbd := st_bd hs ⟨hn.2.2.1, hn.2.2.2⟩ k
    have e0 := stp_ok ho hk
    have hq := st_sq hn.1 hn.2.1 hs.1 k hk
    have hg := st_sign (s := b 6) (by omega) hn.2.2.1 hk
    generalize stX (b 6) (hf (b 6)) k = x at *
    generalize stY (b 6) (hf (b 6)) k = y at *
    have HS0 := Lib.hid (show stpX b k = x ∧ stpY b k = y ∧ stpE b k = 0 from ⟨e0.2.1, e0.2.2, e0.1⟩)
    have HG := Lib.hid hg
    clear e0 ho hn hg
    go_enter Tryd.func8, Tryd.ntmps8
    go_upto_region 1 with (fail)
    obtain ⟨W0, B, hW, hBq, hb, g0, hB⟩ := bx_new w b
    rw [hW, hBq]
    have HB := Lib.hid hb
    clear hW hBq hb
    go_upto_region 5 with (first | (refine wpList_load_row rfl 24 (.tmp 2) rfl B rfl 24 _ (0, 0) _ HB.out.raw Tryd.underlying24 rfl infoB ?_) | (go_at_call 11; with_reducible refine (pcheck_at b 0 _ (Lib.hid (HT.out.own g0)) HC).mono ?_; rintro e w2 ⟨rfl, hg⟩; replace g0 : Own w w2 := g0.trans hg; replace HB := Lib.hid (HB.out.own hg); clear hg) | (go_at_call 13; with_reducible refine (pstep_at b (k : Int) x y 0 _ (Lib.hid (HT.out.own g0)) HS0).mono ?_; rintro e w3 ⟨rfl, hg⟩; replace g0 : Own w w3 := g0.trans hg; replace HB := Lib.hid (HB.out.own hg); clear hg))
    obtain ⟨W3, P, hW, hBq, hb, hg⟩ := pt_made w3 (.int .i64 x) (.int .i64 y)
    rw [hW, hBq]
    have HP := Lib.hid hb
    replace g0 : Own w W3 := g0.trans hg
    replace HB := Lib.hid (HB.out.own hg)
    clear hW hBq hb hg
    obtain ⟨p0, p1⟩ := HP.out.two
    have k6 : W3.cell? ⟨B, 6, none⟩ = some (.int .i64 (b 6)) := HB.out.at (by omega)
    generalize b 6 = s at *
    clear HB HP HS0 HC km
    have bx := sq_bd hbd.1
    have byy := sq_bd hbd.2
    have bs1 := sq_bd (x := s - 1) (by omega)
    have bs2 : 0 ≤ (s + 1) * (s + 1) ∧ (s + 1) * (s + 1) ≤ 1442401 := by
      have h1 := Int.mul_le_mul (a := s + 1) (b := s + 1) (c := 1201) (d := 1201) (by omega) (by omega) (by omega) (by omega)
      have h2 := Int.mul_nonneg (a := s + 1) (b := s + 1) (by omega) (by omega)
      omega
    have x1 : decide (x < -2000) = false := decide_eq_false (by omega)
    have x2 : decide (2000 < x) = false := decide_eq_false (by omega)
    have y1 : decide (y < -2000) = false := decide_eq_false (by omega)
    have y2 : decide (2000 < y) = false := decide_eq_false (by omega)
    have j1 : IntKind.i64.wrap (x * x) = x * x := IntWalk.i64_in _ (by omega)
    have j2 : IntKind.i64.wrap (y * y) = y * y := IntWalk.i64_in _ (by omega)
    have j3 : IntKind.i64.wrap (x * x + y * y) = x * x + y * y := IntWalk.i64_in _ (by omega)
    have j4 : IntKind.i64.wrap (s - 1) = s - 1 := IntWalk.i64_in _ (by omega)
    have j5 : IntKind.i64.wrap ((s - 1) * (s - 1)) = (s - 1) * (s - 1) := IntWalk.i64_in _ (by omega)
    have j6 : IntKind.i64.wrap (s + 1) = s + 1 := IntWalk.i64_in _ (by omega)
    have j7 : IntKind.i64.wrap ((s + 1) * (s + 1)) = (s + 1) * (s + 1) := IntWalk.i64_in _ (by omega)
    have d1 : decide (x * x + y * y ≤ (s - 1) * (s - 1)) = false := decide_eq_false (by omega)
    have d2 : decide ((s + 1) * (s + 1) ≤ x * x + y * y) = false := decide_eq_false (by omega)
    clear bx byy bs1 bs2 hq hs hbd
    go_upto_region 10 with (fail)
    clear x1 x2 y1 y2 j1 j2 j3 j4 j5 j6 j7 d1 d2 hk k6
    rcases HG.out with ⟨rfl, g1, g2⟩ | ⟨rfl, g1, g2⟩ | ⟨rfl, g1, g2⟩ | ⟨rfl, g1, g2⟩ | ⟨rfl, g1, g2⟩ | ⟨rfl, g1, g2⟩ | ⟨rfl, g1, g2⟩ | ⟨rfl, g1, g2⟩
    all_goals
      clear HG
      go_wp2_with (go_at_call 12; with_reducible refine (awake_at _ (Lib.hid (HT.out.own g0))).mono ?_; rintro e w99 ⟨rfl, hg⟩; replace g0 : Own w w99 := g0.trans hg; clear hg)
      go_ret
      exact ⟨by first | rfl | (exact ret_bool (by simp)), g0⟩
  · have HC := Lib.hid (chk_no ho)
    clear ho
    go_enter Tryd.func8, Tryd.ntmps8
    go_upto_region 1 with (fail)
    obtain ⟨W0, B, hW, hBq, hb, g0, hB⟩ := bx_new w b
    rw [hW, hBq]
    have HB := Lib.hid hb
    clear hW hBq hb
    go_wp2_with (first | (refine wpList_load_row rfl 24 (.tmp 2) rfl B rfl 24 _ (0, 0) _ HB.out.raw Tryd.underlying24 rfl infoB ?_) | (go_at_call 11; with_reducible refine (pcheck_at b 23 _ (Lib.hid (HT.out.own g0)) HC).mono ?_; rintro e w2 ⟨rfl, hg⟩; replace g0 : Own w w2 := g0.trans hg; replace HB := Lib.hid (HB.out.own hg); clear hg) | (go_at_call 12; with_reducible refine (awake_at _ (Lib.hid (HT.out.own g0))).mono ?_; rintro e w99 ⟨rfl, hg⟩; replace g0 : Own w w99 := g0.trans hg; clear hg))
    go_ret
    exact ⟨by first | rfl | (exact ret_bool (by simp)), g0⟩
end Go.Proofs.YtbmcompnhjbdkaaDoor.BuiW
