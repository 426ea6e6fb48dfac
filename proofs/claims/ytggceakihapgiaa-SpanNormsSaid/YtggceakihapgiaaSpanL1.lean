/-
  Walks of the laws SpanChecks, SpanNorms and SpanTwo. Condition: none.
-/
import Derived.Test.YtggceakihapgiaaSpanI
namespace Go.Proofs.Ytggceakihapgiaa.SpaW
open Go.ChangeShapes Go.WideShapes Go.ChangeAt Go.RowKit
open PairW SpaP

set_option maxRecDepth 100000 in
set_option maxHeartbeats 4000000 in
theorem SpanChecks_walk (l : List Sp) (sv : Value) (x : Int) (w : World) (HP : Hid (Pts w sv l)) :
    Calls Try.prog 3 #[sv, .int .i64 x] w fun e w' => e = .returned (.bool true) ∧ Own w w' := by
  obtain ⟨f, hf⟩ : ∃ d, chkE l = d := ⟨_, rfl⟩
  obtain ⟨t, ht⟩ : ∃ d, hasB l x = d := ⟨_, rfl⟩
  have H1 := Lib.hid hf
  have H2 := Lib.hid ht
  clear hf ht
  have g0 := Own.refl w
  go_enter Try.func3, Try.ntmps3
  go_wp2_with (first
    | (go_at_call 12; refine (pcheck_at l _ f _ HP H1).mono ?_; rintro e w1 ⟨rfl, hg⟩; replace HP := Lib.hid (HP.out.own hg); replace g0 : Own w w1 := g0.trans hg; clear hg)
    | (go_at_call 13; refine (rcheck_at l _ f _ HP H1).mono ?_; rintro e w1 ⟨rfl, hg⟩; replace HP := Lib.hid (HP.out.own hg); replace g0 : Own w w1 := g0.trans hg; clear hg)
    | (go_at_call 14; refine (phas_at l _ x t _ HP H2).mono ?_; rintro e w1 ⟨rfl, hg⟩; replace HP := Lib.hid (HP.out.own hg); replace g0 : Own w w1 := g0.trans hg; clear hg)
    | (go_at_call 15; refine (in_at l _ x t _ HP H2).mono ?_; rintro e w1 ⟨rfl, hg⟩; replace HP := Lib.hid (HP.out.own hg); replace g0 : Own w w1 := g0.trans hg; clear hg)
    | (go_at_call 16; refine (awake_any _).mono ?_; rintro e w1 ⟨rfl, hg⟩; replace g0 : Own w w1 := g0.trans hg; clear hg))
  go_ret
  exact ⟨rfl, g0⟩
set_option maxRecDepth 100000 in
set_option maxHeartbeats 4000000 in
theorem SpanNorms_walk (l : List Sp) (sv : Value) (w : World) (HP : Hid (Pts w sv l)) :
    Calls Try.prog 4 #[sv] w fun e w' => e = .returned (.bool true) ∧ Own w w' := by
  have HT : ∃ t f, Hid (sumL (setV l [] 0) = t ∧ setE l [] 0 = f) := ⟨_, _, Lib.hid ⟨rfl, rfl⟩⟩
  obtain ⟨t, f, HT⟩ := HT
  obtain ⟨v, hv⟩ : ∃ d, setV l [] 0 = d := ⟨_, rfl⟩
  have H1 := Lib.hid (show setE l [] 0 = f ∧ setV l [] 0 = v from ⟨HT.out.2, hv⟩)
  clear hv
  have g0 := Own.refl w
  go_enter Try.func4, Try.ntmps4
  go_wp2_with (first
    | (go_at_call 17; refine (pnorm_at l v f _ _ H1 HP).mono ?_; rintro e w1 ⟨sa, rfl, hf, hg⟩; have HA := Lib.hid hf.pts; clear hf; replace HP := Lib.hid (HP.out.own hg); replace g0 : Own w w1 := g0.trans hg; clear hg)
    | (go_at_call 18; refine (rnorm_at l v f _ _ H1 HP).mono ?_; rintro e w1 ⟨sb, rfl, hf, hg⟩; have HB := Lib.hid hf.pts; clear hf; replace HP := Lib.hid (HP.out.own hg); replace HA := Lib.hid (HA.out.own hg); replace g0 : Own w w1 := g0.trans hg; clear hg)
    | (go_at_call 19; refine (ptotal_at l t f _ _ HT HP).mono ?_; rintro e w1 ⟨rfl, hg⟩; replace HP := Lib.hid (HP.out.own hg); replace HA := Lib.hid (HA.out.own hg); replace HB := Lib.hid (HB.out.own hg); replace g0 : Own w w1 := g0.trans hg; clear hg)
    | (go_at_call 20; refine (rtotal_at l t f _ _ HT HP).mono ?_; rintro e w1 ⟨rfl, hg⟩; replace HP := Lib.hid (HP.out.own hg); replace HA := Lib.hid (HA.out.own hg); replace HB := Lib.hid (HB.out.own hg); replace g0 : Own w w1 := g0.trans hg; clear hg)
    | (go_at_call 21; refine (rsame_at v v _ _ true _ HA HB (Lib.hid (decide_eq_true rfl))).mono ?_; rintro e w1 ⟨rfl, hg⟩; replace g0 : Own w w1 := g0.trans hg; clear hg)
    | (go_at_call 16; refine (awake_any _).mono ?_; rintro e w1 ⟨rfl, hg⟩; replace g0 : Own w w1 := g0.trans hg; clear hg))
  go_ret
  exact ⟨rfl, g0⟩
set_option maxRecDepth 100000 in
set_option maxHeartbeats 4000000 in
theorem SpanTwo_walk (a b : List Sp) (sa sb : Value) (w : World) (HA : Hid (Pts w sa a)) (HB : Hid (Pts w sb b)) :
    Calls Try.prog 5 #[sa, sb] w fun e w' => e = .returned (.bool true) ∧ Own w w' := by
  have H0 : ∃ f v, Hid (setE a b 0 = f ∧ setV a b 0 = v) := ⟨_, _, Lib.hid ⟨rfl, rfl⟩⟩
  have H1 : ∃ f v, Hid (setE a b 1 = f ∧ setV a b 1 = v) := ⟨_, _, Lib.hid ⟨rfl, rfl⟩⟩
  have H2 : ∃ f v, Hid (setE a b 2 = f ∧ setV a b 2 = v) := ⟨_, _, Lib.hid ⟨rfl, rfl⟩⟩
  obtain ⟨f0, v0, H0⟩ := H0
  obtain ⟨f1, v1, H1⟩ := H1
  obtain ⟨f2, v2, H2⟩ := H2
  have g0 := Own.refl w
  go_enter Try.func5, Try.ntmps5
  go_upto_region 5 with (first
    | (go_at_call 22; refine (punion_at a b v0 f0 _ _ _ H0 HA HB).mono ?_; rintro e w1 ⟨sx, rfl, hf, hg⟩; have HX := Lib.hid hf.pts; clear hf; replace HA := Lib.hid (HA.out.own hg); replace HB := Lib.hid (HB.out.own hg); replace g0 : Own w w1 := g0.trans hg; clear hg)
    | (go_at_call 23; refine (runion_at a b v0 f0 _ _ _ H0 HA HB).mono ?_; rintro e w1 ⟨sy, rfl, hf, hg⟩; have HY := Lib.hid hf.pts; clear hf; replace HA := Lib.hid (HA.out.own hg); replace HB := Lib.hid (HB.out.own hg); replace HX := Lib.hid (HX.out.own hg); replace g0 : Own w w1 := g0.trans hg; clear hg)
    | (go_at_call 21; refine (rsame_at v0 v0 _ _ true _ HX HY (Lib.hid (decide_eq_true rfl))).mono ?_; rintro e w1 ⟨rfl, hg⟩; replace HA := Lib.hid (HA.out.own hg); replace HB := Lib.hid (HB.out.own hg); replace g0 : Own w w1 := g0.trans hg; clear hg))
  clear HX HY
  go_upto_region 9 with (first
    | (go_at_call 24; refine (pcommon_at a b v1 f1 _ _ _ H1 HA HB).mono ?_; rintro e w1 ⟨sx, rfl, hf, hg⟩; have HX := Lib.hid hf.pts; clear hf; replace HA := Lib.hid (HA.out.own hg); replace HB := Lib.hid (HB.out.own hg); replace g0 : Own w w1 := g0.trans hg; clear hg)
    | (go_at_call 25; refine (rcommon_at a b v1 f1 _ _ _ H1 HA HB).mono ?_; rintro e w1 ⟨sy, rfl, hf, hg⟩; have HY := Lib.hid hf.pts; clear hf; replace HA := Lib.hid (HA.out.own hg); replace HB := Lib.hid (HB.out.own hg); replace HX := Lib.hid (HX.out.own hg); replace g0 : Own w w1 := g0.trans hg; clear hg)
    | (go_at_call 21; refine (rsame_at v1 v1 _ _ true _ HX HY (Lib.hid (decide_eq_true rfl))).mono ?_; rintro e w1 ⟨rfl, hg⟩; replace HA := Lib.hid (HA.out.own hg); replace HB := Lib.hid (HB.out.own hg); replace g0 : Own w w1 := g0.trans hg; clear hg))
  clear HX HY
  go_wp2_with (first
    | (go_at_call 26; refine (pminus_at a b v2 f2 _ _ _ H2 HA HB).mono ?_; rintro e w1 ⟨sx, rfl, hf, hg⟩; have HX := Lib.hid hf.pts; clear hf; replace HA := Lib.hid (HA.out.own hg); replace HB := Lib.hid (HB.out.own hg); replace g0 : Own w w1 := g0.trans hg; clear hg)
    | (go_at_call 27; refine (rminus_at a b v2 f2 _ _ _ H2 HA HB).mono ?_; rintro e w1 ⟨sy, rfl, hf, hg⟩; have HY := Lib.hid hf.pts; clear hf; replace HA := Lib.hid (HA.out.own hg); replace HB := Lib.hid (HB.out.own hg); replace HX := Lib.hid (HX.out.own hg); replace g0 : Own w w1 := g0.trans hg; clear hg)
    | (go_at_call 21; refine (rsame_at v2 v2 _ _ true _ HX HY (Lib.hid (decide_eq_true rfl))).mono ?_; rintro e w1 ⟨rfl, hg⟩; replace HA := Lib.hid (HA.out.own hg); replace HB := Lib.hid (HB.out.own hg); replace g0 : Own w w1 := g0.trans hg; clear hg)
    | (go_at_call 16; refine (awake_any _).mono ?_; rintro e w1 ⟨rfl, hg⟩; replace g0 : Own w w1 := g0.trans hg; clear hg))
  go_ret
  exact ⟨rfl, g0⟩
end Go.Proofs.Ytggceakihapgiaa.SpaW
