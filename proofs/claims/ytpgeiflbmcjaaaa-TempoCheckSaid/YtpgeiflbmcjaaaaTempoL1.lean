/-
  Walks of the laws TempoCheck, TempoWhen, TempoTick, TempoRamp and TempoForms. Condition: none.
-/
import Derived.Test.YtpgeiflbmcjaaaaTempoT
namespace Go.Proofs.Ytpgeiflbmcjaaaa.TemW
open Go.ChangeShapes Go.WideShapes Go.ChangeAt Go.RowKit
open PairW CelW TemP
set_option maxRecDepth 100000 in
set_option maxHeartbeats 1000000 in
theorem lcheck_at (l : List Pt) (sv : Value) (n : Int) (w : World) (HP : Hid (Pts w sv l)) :
    Calls Try.prog 3 #[sv, .int .i64 n] w fun e w' => e = .returned (.bool true) ∧ Own w w' := by
  obtain ⟨c, hc⟩ : ∃ c, chkE l = c := ⟨_, rfl⟩
  have HC := Lib.hid hc
  obtain ⟨N, hN⟩ : ∃ N, N = 8192 := ⟨8192, rfl⟩
  have HN := Lib.hid hN
  have g0 := Own.refl w
  have t1 : (c == c) = true := beq_self_eq_true c
  by_cases h0 : c = 0
  · subst h0
    clear hc hN
    go_enter Try.func3, Try.ntmps3
    go_wp2_with (first
      | (go_at_call 12; refine (pcheck_at l _ 0 _ (Lib.hid (HP.out.own g0)) HC).mono ?_; rintro e w1 ⟨rfl, hg⟩; replace g0 : Own w w1 := g0.trans hg; clear hg)
      | (go_at_call 11; refine (rcheck_at l _ 0 _ (Lib.hid (HP.out.own g0)) HC).mono ?_; rintro e w1 ⟨rfl, hg⟩; replace g0 : Own w w1 := g0.trans hg; clear hg)
      | (go_at_call 13; refine (awake_any _).mono ?_; rintro e w1 ⟨rfl, hg⟩; replace g0 : Own w w1 := g0.trans hg; clear hg))
    go_ret
    exact ⟨rfl, g0⟩
  · have hb : chkE l ≠ 0 := by rw [hc]; exact h0
    have HW := Lib.hid (show whE l n = c ∧ whV l n = 0 by have := wh_bad n hb; rw [hc] at this; exact this)
    have HT := Lib.hid (show tkE l n = c ∧ tkV l n N = 0 by have := tk_bad n N hb; rw [hc] at this; exact this)
    have HNM := Lib.hid (show chkE l = c ∧ nmV l = [] from ⟨hc, nm_bad hb⟩)
    have HS := Lib.hid (show scE l n n = c ∧ scV l n n = [] by have := sc_bad n n hb; rw [hc] at this; exact this)
    have d0 : (c == 0) = false := beq_eq_false_iff_ne.2 h0
    clear hc hN hb
    go_enter Try.func3, Try.ntmps3
    go_wp2_with (first
      | (go_at_call 12; refine (pcheck_at l _ c _ (Lib.hid (HP.out.own g0)) HC).mono ?_; rintro e w1 ⟨rfl, hg⟩; replace g0 : Own w w1 := g0.trans hg; clear hg)
      | (go_at_call 11; refine (rcheck_at l _ c _ (Lib.hid (HP.out.own g0)) HC).mono ?_; rintro e w1 ⟨rfl, hg⟩; replace g0 : Own w w1 := g0.trans hg; clear hg)
      | (go_at_call 14; refine (pWhen_at l _ n 0 c _ (Lib.hid (HP.out.own g0)) HW).mono ?_; rintro e w1 ⟨rfl, hg⟩; replace g0 : Own w w1 := g0.trans hg; clear hg)
      | (go_at_call 15; refine (pTick_at l _ n 0 c N _ (Lib.hid (HP.out.own g0)) HN HT).mono ?_; rintro e w1 ⟨rfl, hg⟩; replace g0 : Own w w1 := g0.trans hg; clear hg)
      | (go_at_call 16; refine (pnorm_at l _ [] c _ (Lib.hid (HP.out.own g0)) HNM).mono ?_; rintro e w1 ⟨s1, rfl, hr, hg⟩; obtain ⟨A1, c1, rfl⟩ := pair_shape hr; replace g0 : Own w w1 := g0.trans hg; clear hg hr)
      | (go_at_call 17; refine (pscaled_at l _ n n [] c _ (Lib.hid (HP.out.own g0)) HS).mono ?_; rintro e w1 ⟨s2, rfl, hr, hg⟩; obtain ⟨A2, c2, rfl⟩ := pair_shape hr; replace g0 : Own w w1 := g0.trans hg; clear hg hr)
      | (go_at_call 13; refine (awake_any _).mono ?_; rintro e w1 ⟨rfl, hg⟩; replace g0 : Own w w1 := g0.trans hg; clear hg))
    go_ret
    exact ⟨rfl, g0⟩
set_option maxRecDepth 100000 in
set_option maxHeartbeats 1000000 in
theorem lwhen_at (l : List Pt) (sv : Value) (t : Int) (w : World) (HP : Hid (Pts w sv l)) :
    Calls Try.prog 4 #[sv, .int .i64 t] w fun e w' => e = .returned (.bool true) ∧ Own w w' := by
  obtain ⟨c, hc⟩ : ∃ c, whE l t = c := ⟨_, rfl⟩
  obtain ⟨v, hv⟩ : ∃ v, whV l t = v := ⟨_, rfl⟩
  have HW := Lib.hid (And.intro hc hv)
  have g0 := Own.refl w
  have t1 : (c == c) = true := beq_self_eq_true c
  have t2 : (v == v) = true := beq_self_eq_true v
  clear hc hv
  go_enter Try.func4, Try.ntmps4
  go_wp2_with (first
    | (go_at_call 14; refine (pWhen_at l _ t v c _ (Lib.hid (HP.out.own g0)) HW).mono ?_; rintro e w1 ⟨rfl, hg⟩; replace g0 : Own w w1 := g0.trans hg; clear hg)
    | (go_at_call 18; refine (rWhen_at l _ t v c _ (Lib.hid (HP.out.own g0)) HW).mono ?_; rintro e w1 ⟨rfl, hg⟩; replace g0 : Own w w1 := g0.trans hg; clear hg)
    | (go_at_call 13; refine (awake_any _).mono ?_; rintro e w1 ⟨rfl, hg⟩; replace g0 : Own w w1 := g0.trans hg; clear hg))
  go_ret
  exact ⟨rfl, g0⟩
set_option maxRecDepth 100000 in
set_option maxHeartbeats 1000000 in
theorem ltick_at (l : List Pt) (sv : Value) (m : Int) (w : World) (HP : Hid (Pts w sv l)) :
    Calls Try.prog 5 #[sv, .int .i64 m] w fun e w' => e = .returned (.bool true) ∧ Own w w' := by
  obtain ⟨N, hN⟩ : ∃ N, N = 8192 := ⟨8192, rfl⟩
  have HN := Lib.hid hN
  obtain ⟨c, hc⟩ : ∃ c, tkE l m = c := ⟨_, rfl⟩
  obtain ⟨v, hv⟩ : ∃ v, tkV l m N = v := ⟨_, rfl⟩
  have HW := Lib.hid (And.intro hc hv)
  have g0 := Own.refl w
  have t1 : (c == c) = true := beq_self_eq_true c
  have t2 : (v == v) = true := beq_self_eq_true v
  clear hc hv hN
  go_enter Try.func5, Try.ntmps5
  go_wp2_with (first
    | (go_at_call 15; refine (pTick_at l _ m v c N _ (Lib.hid (HP.out.own g0)) HN HW).mono ?_; rintro e w1 ⟨rfl, hg⟩; replace g0 : Own w w1 := g0.trans hg; clear hg)
    | (go_at_call 19; refine (rTick_at l _ m v c N _ (Lib.hid (HP.out.own g0)) HN HW).mono ?_; rintro e w1 ⟨rfl, hg⟩; replace g0 : Own w w1 := g0.trans hg; clear hg)
    | (go_at_call 13; refine (awake_any _).mono ?_; rintro e w1 ⟨rfl, hg⟩; replace g0 : Own w w1 := g0.trans hg; clear hg))
  go_ret
  exact ⟨rfl, g0⟩
theorem four_new (w : World) (a b c d : Int) (t : TypeId) : (w.alloc (.cells #[.int .i64 a, .int .i64 b, .int .i64 c, .int .i64 d] t)).cell? ⟨w.heap.size, 0, none⟩ = some (.int .i64 a) ∧ (w.alloc (.cells #[.int .i64 a, .int .i64 b, .int .i64 c, .int .i64 d] t)).cell? ⟨w.heap.size, 1, none⟩ = some (.int .i64 b) ∧ (w.alloc (.cells #[.int .i64 a, .int .i64 b, .int .i64 c, .int .i64 d] t)).cell? ⟨w.heap.size, 2, none⟩ = some (.int .i64 c) ∧ (w.alloc (.cells #[.int .i64 a, .int .i64 b, .int .i64 c, .int .i64 d] t)).cell? ⟨w.heap.size, 3, none⟩ = some (.int .i64 d) :=
  ⟨by go_simp, by go_simp, by go_simp, by go_simp⟩
set_option maxRecDepth 100000 in
set_option maxHeartbeats 1000000 in
theorem lramp_at (a n e f g : Int) (w : World) :
    Calls Try.prog 6 #[.int .i64 a, .agg #[.int .i64 n, .int .i64 e, .int .i64 f, .int .i64 g]] w fun ee w' => ee = .returned (.bool true) ∧ Own w w' := by
  obtain ⟨c, hc⟩ : ∃ c, rpE a n e f g = c := ⟨_, rfl⟩
  obtain ⟨M, hv⟩ : ∃ v, rpV a n e f g = v := ⟨_, rfl⟩
  have HW := Lib.hid (And.intro hc hv)
  obtain ⟨k0, k1, k2, k3⟩ := four_new w n e f g 32
  have g0 : Own w (w.alloc (.cells #[.int .i64 n, .int .i64 e, .int .i64 f, .int .i64 g] 32)) := (Own.refl w).alloc _
  have t1 : (c == c) = true := beq_self_eq_true c
  clear hc hv
  go_enter Try.func6, Try.ntmps6
  go_upto_region 1 with (fail)
  generalize w.alloc (.cells #[.int .i64 n, .int .i64 e, .int .i64 f, .int .i64 g] 32) = W0 at *
  go_wp2_with (first
    | (go_at_call 20; refine (pramp_at a n e f g M c _ HW).mono ?_; rintro ee w1 ⟨s1, rfl, hr, hg⟩; have HX := Lib.hid (pts_of_row hr); replace g0 : Own w w1 := g0.trans hg; replace k0 := hg.cell k0; replace k1 := hg.cell k1; replace k2 := hg.cell k2; replace k3 := hg.cell k3; clear hg hr)
    | (go_at_call 21; refine (rramp_at a n e f g M c _ HW).mono ?_; rintro ee w1 ⟨s2, rfl, hr, hg⟩; have HY := Lib.hid (pts_of_row hr); replace HX := Lib.hid (HX.out.own hg); replace g0 : Own w w1 := g0.trans hg; clear hg hr)
    | (go_at_call 22; refine (rsame_yes M _ _ _ HX HY).mono ?_; rintro ee w1 ⟨rfl, hg⟩; replace g0 : Own w w1 := g0.trans hg; clear hg HX HY)
    | (go_at_call 13; refine (awake_any _).mono ?_; rintro ee w1 ⟨rfl, hg⟩; replace g0 : Own w w1 := g0.trans hg; clear hg))
  go_ret
  exact ⟨rfl, g0⟩
set_option maxRecDepth 100000 in
set_option maxHeartbeats 1000000 in
theorem lforms_at (l : List Pt) (sv : Value) (p q : Int) (w : World) (HP : Hid (Pts w sv l)) :
    Calls Try.prog 7 #[sv, .int .i64 p, .int .i64 q] w fun e w' => e = .returned (.bool true) ∧ Own w w' := by
  obtain ⟨c, hc⟩ : ∃ c, chkE l = c := ⟨_, rfl⟩
  obtain ⟨M, hv⟩ : ∃ v, nmV l = v := ⟨_, rfl⟩
  have HN := Lib.hid (And.intro hc hv)
  obtain ⟨d, hd⟩ : ∃ c, scE l p q = c := ⟨_, rfl⟩
  obtain ⟨K, hk⟩ : ∃ v, scV l p q = v := ⟨_, rfl⟩
  have HS := Lib.hid (And.intro hd hk)
  have g0 := Own.refl w
  have t1 : (c == c) = true := beq_self_eq_true c
  have t2 : (d == d) = true := beq_self_eq_true d
  have tok1 : True := trivial
  clear hc hv hd hk
  go_enter Try.func7, Try.ntmps7
  go_wp2_with (first
    | (go_at_call 16; refine (pnorm_at l _ M c _ (Lib.hid (HP.out.own g0)) HN).mono ?_; rintro e w1 ⟨s1, rfl, hr, hg⟩; have HX1 := Lib.hid (pts_of_row hr); replace g0 : Own w w1 := g0.trans hg; clear hg hr)
    | (go_at_call 23; refine (rnorm_at l _ M c _ (Lib.hid (HP.out.own g0)) HN).mono ?_; rintro e w1 ⟨s2, rfl, hr, hg⟩; have HX2 := Lib.hid (pts_of_row hr); replace HX1 := Lib.hid (HX1.out.own hg); replace g0 : Own w w1 := g0.trans hg; clear hg hr)
    | (go_at_call 17; refine (pscaled_at l _ p q K d _ (Lib.hid (HP.out.own g0)) HS).mono ?_; rintro e w1 ⟨s3, rfl, hr, hg⟩; have HY1 := Lib.hid (pts_of_row hr); replace HX1 := Lib.hid (HX1.out.own hg); replace HX2 := Lib.hid (HX2.out.own hg); replace g0 : Own w w1 := g0.trans hg; clear hg hr)
    | (go_at_call 24; refine (rscaled_at l _ p q K d _ (Lib.hid (HP.out.own g0)) HS).mono ?_; rintro e w1 ⟨s4, rfl, hr, hg⟩; have HY2 := Lib.hid (pts_of_row hr); replace HX1 := Lib.hid (HX1.out.own hg); replace HX2 := Lib.hid (HX2.out.own hg); replace HY1 := Lib.hid (HY1.out.own hg); replace g0 : Own w w1 := g0.trans hg; clear hg hr)
    | (go_at_call 22; have _t := tok1; refine (rsame_yes M _ _ _ HX1 HX2).mono ?_; rintro e w1 ⟨rfl, hg⟩; replace HY1 := Lib.hid (HY1.out.own hg); replace HY2 := Lib.hid (HY2.out.own hg); replace g0 : Own w w1 := g0.trans hg; clear hg HX1 HX2 tok1)
    | (go_at_call 22; refine (rsame_yes K _ _ _ HY1 HY2).mono ?_; rintro e w1 ⟨rfl, hg⟩; replace g0 : Own w w1 := g0.trans hg; clear hg HY1 HY2)
    | (go_at_call 13; refine (awake_any _).mono ?_; rintro e w1 ⟨rfl, hg⟩; replace g0 : Own w w1 := g0.trans hg; clear hg))
  go_ret
  exact ⟨rfl, g0⟩
end Go.Proofs.Ytpgeiflbmcjaaaa.TemW
