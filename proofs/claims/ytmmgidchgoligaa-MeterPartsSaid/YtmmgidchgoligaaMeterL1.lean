/-
  Walks of the laws MeterChecks, MeterPlaces and MeterParts. Condition: none.
-/
import Derived.Test.YtmmgidchgoligaaMeterT
namespace Go.Proofs.Ytmmgidchgoligaa.MetW
open Go.ChangeShapes Go.WideShapes Go.ChangeAt Go.RowKit
open PairW CelW MetP
set_option maxRecDepth 100000 in
set_option maxHeartbeats 1000000 in
theorem lchecks_at (l : List Pt) (sv : Value) (w : World) (HP : Hid (Pts w sv l)) :
    Calls Try.prog 3 #[sv] w fun e w' => e = .returned (.bool true) ∧ Own w w' := by
  obtain ⟨c, hc⟩ : ∃ c, chkE l = c := ⟨_, rfl⟩
  obtain ⟨v, hv⟩ : ∃ v, lenV l = v := ⟨_, rfl⟩
  have HC := Lib.hid (And.intro hc hv)
  have HC1 := Lib.hid hc
  have g0 := Own.refl w
  have t1 : (c == c) = true := beq_self_eq_true c
  have t2 : (v == v) = true := beq_self_eq_true v
  clear hc hv
  go_enter Try.func3, Try.ntmps3
  go_wp2_with (first
    | (go_at_call 10; refine (plength_at l _ v c _ (Lib.hid (HP.out.own g0)) HC).mono ?_; rintro e w1 ⟨rfl, hg⟩; replace g0 : Own w w1 := g0.trans hg; clear hg)
    | (go_at_call 11; refine (rlength_at l _ v c _ (Lib.hid (HP.out.own g0)) HC).mono ?_; rintro e w1 ⟨rfl, hg⟩; replace g0 : Own w w1 := g0.trans hg; clear hg)
    | (go_at_call 12; refine (pcheck_at l _ c _ (Lib.hid (HP.out.own g0)) HC1).mono ?_; rintro e w1 ⟨rfl, hg⟩; replace g0 : Own w w1 := g0.trans hg; clear hg)
    | (go_at_call 13; refine (rcheck_at l _ c _ (Lib.hid (HP.out.own g0)) HC1).mono ?_; rintro e w1 ⟨rfl, hg⟩; replace g0 : Own w w1 := g0.trans hg; clear hg)
    | (go_at_call 14; refine (awake_any _).mono ?_; rintro e w1 ⟨rfl, hg⟩; replace g0 : Own w w1 := g0.trans hg; clear hg))
  go_ret
  exact ⟨rfl, g0⟩
set_option maxRecDepth 100000 in
set_option maxHeartbeats 1000000 in
theorem lplaces_at (l : List Pt) (sv : Value) (i t : Int) (w : World) (HP : Hid (Pts w sv l)) :
    Calls Try.prog 4 #[sv, .int .i64 i, .int .i64 t] w fun e w' => e = .returned (.bool true) ∧ Own w w' := by
  obtain ⟨c, hc⟩ : ∃ c, mE l i = c := ⟨_, rfl⟩
  obtain ⟨⟨x, y⟩, hv⟩ : ∃ v, mV l i = v := ⟨_, rfl⟩
  have HM := Lib.hid (And.intro hc hv)
  obtain ⟨d, hd⟩ : ∃ c, wE l t = c := ⟨_, rfl⟩
  obtain ⟨⟨a, b, r⟩, hw⟩ : ∃ v, wV l t = v := ⟨_, rfl⟩
  have HW := Lib.hid (And.intro hd hw)
  have g0 := Own.refl w
  have t1 : (c == c) = true := beq_self_eq_true c
  have t2 : (d == d) = true := beq_self_eq_true d
  have t3 : (a == a) = true := beq_self_eq_true a
  have t4 : (b == b) = true := beq_self_eq_true b
  have t5 : (r == r) = true := beq_self_eq_true r
  have t6 : ptB x y x y = true := ptB_self x y
  clear hc hv hd hw
  go_enter Try.func4, Try.ntmps4
  go_upto_region 2 with (go_at_call 15; refine (pmeasure_at l _ i (x, y) c _ (Lib.hid (HP.out.own g0)) HM).mono ?_; rintro e w1 ⟨rfl, hg⟩; replace g0 : Own w w1 := g0.trans hg; clear hg)
  obtain ⟨k0, k1, _, _⟩ := pt_new w1 x y 30
  replace g0 := g0.alloc (.cells #[.int .i64 x, .int .i64 y] 30)
  generalize w1.alloc (.cells #[.int .i64 x, .int .i64 y] 30) = W1 at *
  generalize w1.heap.size = B1 at *
  go_upto_region 3 with (go_at_call 16; refine (rmeasure_at l _ i (x, y) c _ (Lib.hid (HP.out.own g0)) HM).mono ?_; rintro e w2 ⟨rfl, hg⟩; replace g0 : Own w w2 := g0.trans hg; replace k0 := hg.cell k0; replace k1 := hg.cell k1; clear hg)
  obtain ⟨m0, m1, _, _⟩ := pt_new w2 x y 30
  have q : Own w2 (w2.alloc (.cells #[.int .i64 x, .int .i64 y] 30)) := (Own.refl w2).alloc _
  replace g0 := g0.trans q
  replace k0 := q.cell k0
  replace k1 := q.cell k1
  clear q
  generalize w2.alloc (.cells #[.int .i64 x, .int .i64 y] 30) = W2 at *
  generalize w2.heap.size = B2 at *
  go_wp2_with (first
    | (go_at_call 17; refine (pwhere_at l _ t a b r d _ (Lib.hid (HP.out.own g0)) HW).mono ?_; rintro e w3 ⟨rfl, hg⟩; replace g0 : Own w w3 := g0.trans hg; replace k0 := hg.cell k0; replace k1 := hg.cell k1; replace m0 := hg.cell m0; replace m1 := hg.cell m1; clear hg)
    | (go_at_call 18; refine (rwhere_at l _ t a b r d _ (Lib.hid (HP.out.own g0)) HW).mono ?_; rintro e w3 ⟨rfl, hg⟩; replace g0 : Own w w3 := g0.trans hg; replace k0 := hg.cell k0; replace k1 := hg.cell k1; replace m0 := hg.cell m0; replace m1 := hg.cell m1; clear hg)
    | (go_at_call 14; refine (awake_any _).mono ?_; rintro e w1 ⟨rfl, hg⟩; replace g0 : Own w w1 := g0.trans hg; clear hg))
  go_ret
  exact ⟨rfl, g0⟩
set_option maxRecDepth 100000 in
set_option maxHeartbeats 1000000 in
theorem lparts_at (l : List Pt) (sv : Value) (s1 s2 m1 m2 : Int) (w : World) (HP : Hid (Pts w sv l)) :
    Calls Try.prog 5 #[sv, .agg #[.int .i64 s1, .int .i64 s2], .agg #[.int .i64 m1, .int .i64 m2]] w fun e w' => e = .returned (.bool true) ∧ Own w w' := by
  obtain ⟨c, hc⟩ : ∃ c, bE l (s1, s2) = c := ⟨_, rfl⟩
  obtain ⟨M, hv⟩ : ∃ v, bV l (s1, s2) = v := ⟨_, rfl⟩
  have HB := Lib.hid (And.intro hc hv)
  obtain ⟨d, hd⟩ : ∃ c, cE l (m1, m2) = c := ⟨_, rfl⟩
  obtain ⟨N, hw⟩ : ∃ v, cV l (m1, m2) = v := ⟨_, rfl⟩
  have HC := Lib.hid (And.intro hd hw)
  have t1 : (c == c) = true := beq_self_eq_true c
  have t2 : (d == d) = true := beq_self_eq_true d
  clear hc hv hd hw
  obtain ⟨k0, k1, _, _⟩ := pt_new w s1 s2 30
  have g0 : Own w (w.alloc (.cells #[.int .i64 s1, .int .i64 s2] 30)) := (Own.refl w).alloc _
  obtain ⟨n0, n1, _, _⟩ := pt_new (w.alloc (.cells #[.int .i64 s1, .int .i64 s2] 30)) m1 m2 30
  have q : Own (w.alloc (.cells #[.int .i64 s1, .int .i64 s2] 30)) ((w.alloc (.cells #[.int .i64 s1, .int .i64 s2] 30)).alloc (.cells #[.int .i64 m1, .int .i64 m2] 30)) := (Own.refl _).alloc _
  replace g0 := g0.trans q
  replace k0 := q.cell k0
  replace k1 := q.cell k1
  have hsz : (w.alloc (.cells #[.int .i64 s1, .int .i64 s2] 30)).heap.size = w.heap.size + 1 := by simp
  rw [hsz] at n0 n1
  clear q hsz
  go_enter Try.func5, Try.ntmps5
  go_upto_region 1 with (fail)
  generalize (w.alloc (.cells #[.int .i64 s1, .int .i64 s2] 30)).alloc (.cells #[.int .i64 m1, .int .i64 m2] 30) = W1 at *
  go_upto_region 2 with (go_at_call 19; refine (pbeats_at l _ s1 s2 M c _ (Lib.hid (HP.out.own g0)) HB).mono ?_; rintro e w1 ⟨va, rfl, hr, hg⟩; have HX1 := Lib.hid (cel_of_row hr); replace g0 : Own w w1 := g0.trans hg; replace k0 := hg.cell k0; replace k1 := hg.cell k1; replace n0 := hg.cell n0; replace n1 := hg.cell n1; clear hg hr)
  go_upto_region 3 with (go_at_call 20; refine (rbeats_at l _ s1 s2 M c _ (Lib.hid (HP.out.own g0)) HB).mono ?_; rintro e w2 ⟨vb, rfl, hr, hg⟩; have HX2 := Lib.hid (cel_of_row hr); replace HX1 := Lib.hid (HX1.out.own hg); replace g0 : Own w w2 := g0.trans hg; replace n0 := hg.cell n0; replace n1 := hg.cell n1; clear hg hr k0 k1)
  go_upto_region 4 with (go_at_call 21; refine (pcut_at l _ m1 m2 N d _ (Lib.hid (HP.out.own g0)) HC).mono ?_; rintro e w3 ⟨vc, rfl, hr, hg⟩; have HY1 := Lib.hid (pts_of_row hr); replace HX1 := Lib.hid (HX1.out.own hg); replace HX2 := Lib.hid (HX2.out.own hg); replace g0 : Own w w3 := g0.trans hg; replace n0 := hg.cell n0; replace n1 := hg.cell n1; clear hg hr)
  go_upto_region 5 with (go_at_call 22; refine (rcut_at l _ m1 m2 N d _ (Lib.hid (HP.out.own g0)) HC).mono ?_; rintro e w4 ⟨vd, rfl, hr, hg⟩; have HY2 := Lib.hid (pts_of_row hr); replace HX1 := Lib.hid (HX1.out.own hg); replace HX2 := Lib.hid (HX2.out.own hg); replace HY1 := Lib.hid (HY1.out.own hg); replace g0 : Own w w4 := g0.trans hg; clear hg hr n0 n1)
  go_wp2_with (first
    | (go_at_call 23; refine (rints_yes M _ _ _ HX1 HX2).mono ?_; rintro e w5 ⟨rfl, hg⟩; replace HY1 := Lib.hid (HY1.out.own hg); replace HY2 := Lib.hid (HY2.out.own hg); replace g0 : Own w w5 := g0.trans hg; clear hg HX1 HX2)
    | (go_at_call 24; refine (rsame_yes N _ _ _ HY1 HY2).mono ?_; rintro e w6 ⟨rfl, hg⟩; replace g0 : Own w w6 := g0.trans hg; clear hg HY1 HY2)
    | (go_at_call 14; refine (awake_any _).mono ?_; rintro e w7 ⟨rfl, hg⟩; replace g0 : Own w w7 := g0.trans hg; clear hg))
  go_ret
  exact ⟨rfl, g0⟩
end Go.Proofs.Ytmmgidchgoligaa.MetW
