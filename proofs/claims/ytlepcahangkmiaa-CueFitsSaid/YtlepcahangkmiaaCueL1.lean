/-
  Walks of the laws CueChecks, CueFits, CueDrifts. Condition: none.
-/
import Derived.Test.YtlepcahangkmiaaCueT
namespace Go.Proofs.Ytlepcahangkmiaa.CueW
open Go.ChangeShapes Go.WideShapes Go.ChangeAt Go.RowKit
open PairW CelW CueP
set_option maxRecDepth 100000 in
set_option maxHeartbeats 1000000 in
theorem lchecks_at (l : List Pt) (sv : Value) (w : World) (HP : Hid (Pts w sv l)) :
    Calls Try.prog 3 #[sv] w fun e w' => e = .returned (.bool true) ∧ PairW.Own w w' := by
  obtain ⟨A, cap, rfl, ha1, ha2, _⟩ := HP.out.open
  unfold maxLen at ha2
  obtain ⟨n, hn⟩ : ∃ n, l.length = n := ⟨_, rfl⟩
  rw [hn] at ha1 HP ⊢
  obtain ⟨c, hc⟩ : ∃ c, ccE l = c := ⟨_, rfl⟩
  have HC := Lib.hid hc
  have g0 := PairW.Own.refl w
  have dc : (c == c) = true := beq_self_eq_true c
  clear hn hc
  by_cases h1 : 80 < n
  · have d1 : (80 : Int) < n := by omega
    go_enter Try.func3, Try.ntmps3
    go_wp2_with (go_at_call 12; refine (awake_at _).mono ?_; rintro e w1 ⟨rfl, hg⟩; replace g0 : PairW.Own w w1 := g0.trans hg; clear hg)
    go_ret
    exact ⟨rfl, g0⟩
  · have d1 : ¬ (80 : Int) < n := by omega
    have d2 : decide ((80 : Int) < n) = false := decide_eq_false d1
    go_enter Try.func3, Try.ntmps3
    go_wp2_with (first
      | (go_at_call 10; refine (pcheck_at l _ c _ (Lib.hid (HP.out.own g0)) HC).mono ?_; rintro e w1 ⟨rfl, hg⟩; replace g0 : PairW.Own w w1 := g0.trans hg; clear hg)
      | (go_at_call 11; refine (rcheck_at l _ c _ (Lib.hid (HP.out.own g0)) HC).mono ?_; rintro e w1 ⟨rfl, hg⟩; replace g0 : PairW.Own w w1 := g0.trans hg; clear hg)
      | (go_at_call 12; refine (awake_at _).mono ?_; rintro e w1 ⟨rfl, hg⟩; replace g0 : PairW.Own w w1 := g0.trans hg; clear hg))
    go_ret
    exact ⟨rfl, g0⟩
set_option maxRecDepth 100000 in
set_option maxHeartbeats 1000000 in
theorem lfits_at (l : List Pt) (sv : Value) (w : World) (HP : Hid (Pts w sv l)) :
    Calls Try.prog 4 #[sv] w fun e w' => e = .returned (.bool true) ∧ PairW.Own w w' := by
  obtain ⟨A, cap, rfl, ha1, ha2, _⟩ := HP.out.open
  unfold maxLen at ha2
  obtain ⟨n, hn⟩ : ∃ n, l.length = n := ⟨_, rfl⟩
  rw [hn] at ha1 HP ⊢
  obtain ⟨c, hc⟩ : ∃ c, fiE l = c := ⟨_, rfl⟩
  obtain ⟨M, hM⟩ : ∃ c, fiV l = c := ⟨_, rfl⟩
  have HF := Lib.hid (And.intro hc hM)
  have g0 := PairW.Own.refl w
  have dc : (c == c) = true := beq_self_eq_true c
  clear hn hc hM
  by_cases h1 : 80 < n
  · have d1 : (80 : Int) < n := by omega
    go_enter Try.func4, Try.ntmps4
    go_wp2_with (go_at_call 12; refine (awake_at _).mono ?_; rintro e w1 ⟨rfl, hg⟩; replace g0 : PairW.Own w w1 := g0.trans hg; clear hg)
    go_ret
    exact ⟨rfl, g0⟩
  · have d1 : ¬ (80 : Int) < n := by omega
    go_enter Try.func4, Try.ntmps4
    go_wp2_with (first
      | (go_at_call 13; refine (pfit_at l _ M c _ (Lib.hid (HP.out.own g0)) HF).mono ?_; rintro e w1 ⟨s1, rfl, hr, hg⟩; have HX := Lib.hid (pts_of_row hr); replace g0 : PairW.Own w w1 := g0.trans hg; clear hg hr)
      | (go_at_call 14; refine (rfit_at l _ M c _ (Lib.hid (HP.out.own g0)) HF).mono ?_; rintro e w2 ⟨s2, rfl, hr, hg⟩; have HY := Lib.hid (pts_of_row hr); replace HX := Lib.hid (HX.out.own hg); replace g0 : PairW.Own w w2 := g0.trans hg; clear hg hr)
      | (go_at_call 15; refine (rtempos_yes M _ _ _ HX HY).mono ?_; rintro e w3 ⟨rfl, hg⟩; replace g0 : PairW.Own w w3 := g0.trans hg; clear hg)
      | (go_at_call 12; refine (awake_at _).mono ?_; rintro e w1 ⟨rfl, hg⟩; replace g0 : PairW.Own w w1 := g0.trans hg; clear hg))
    go_ret
    exact ⟨rfl, g0⟩
set_option maxRecDepth 100000 in
set_option maxHeartbeats 1000000 in
theorem ldrifts_at (l t : List Pt) (sv sw : Value) (w : World) (HP : Hid (Pts w sv l)) (HT : Hid (Pts w sw t)) :
    Calls Try.prog 5 #[sv, sw] w fun e w' => e = .returned (.bool true) ∧ PairW.Own w w' := by
  obtain ⟨A, cap, rfl, ha1, ha2, _⟩ := HP.out.open
  obtain ⟨A2, cap2, rfl, hb1, hb2, _⟩ := HT.out.open
  unfold maxLen at ha2 hb2
  obtain ⟨n, hn⟩ : ∃ n, l.length = n := ⟨_, rfl⟩
  obtain ⟨n2, hn2⟩ : ∃ n, t.length = n := ⟨_, rfl⟩
  rw [hn] at ha1 HP ⊢
  rw [hn2] at hb1 HT ⊢
  obtain ⟨c, hc⟩ : ∃ c, drE l t = c := ⟨_, rfl⟩
  obtain ⟨M, hM⟩ : ∃ c, drV l t = c := ⟨_, rfl⟩
  obtain ⟨v, hv⟩ : ∃ c, woV l t = c := ⟨_, rfl⟩
  have HF := Lib.hid (And.intro hc hM)
  have HV := Lib.hid (And.intro hc hv)
  have g0 := PairW.Own.refl w
  have dc : (c == c) = true := beq_self_eq_true c
  have dv : (v == v) = true := beq_self_eq_true v
  clear hn hn2 hc hM hv
  by_cases h1 : 80 < n
  · have d1 : (80 : Int) < n := by omega
    go_enter Try.func5, Try.ntmps5
    go_wp2_with (go_at_call 12; refine (awake_at _).mono ?_; rintro e w1 ⟨rfl, hg⟩; replace g0 : PairW.Own w w1 := g0.trans hg; clear hg)
    go_ret
    exact ⟨rfl, g0⟩
  have d1 : ¬ (80 : Int) < n := by omega
  by_cases h2 : 80 < n2
  · have d2 : (80 : Int) < n2 := by omega
    go_enter Try.func5, Try.ntmps5
    go_wp2_with (go_at_call 12; refine (awake_at _).mono ?_; rintro e w1 ⟨rfl, hg⟩; replace g0 : PairW.Own w w1 := g0.trans hg; clear hg)
    go_ret
    exact ⟨rfl, g0⟩
  · have d2 : ¬ (80 : Int) < n2 := by omega
    go_enter Try.func5, Try.ntmps5
    go_wp2_with (first
      | (go_at_call 16; refine (pdrift_at l t _ _ M c _ (Lib.hid (HP.out.own g0)) (Lib.hid (HT.out.own g0)) HF).mono ?_; rintro e w1 ⟨s1, rfl, hr, hg⟩; have HX := Lib.hid (cel_of_row hr); replace g0 : PairW.Own w w1 := g0.trans hg; clear hg hr)
      | (go_at_call 17; refine (rdrift_at l t _ _ M c _ (Lib.hid (HP.out.own g0)) (Lib.hid (HT.out.own g0)) HF).mono ?_; rintro e w2 ⟨s2, rfl, hr, hg⟩; have HY := Lib.hid (cel_of_row hr); replace HX := Lib.hid (HX.out.own hg); replace g0 : PairW.Own w w2 := g0.trans hg; clear hg hr)
      | (go_at_call 18; refine (pworst_at l t _ _ v c _ (Lib.hid (HP.out.own g0)) (Lib.hid (HT.out.own g0)) HV).mono ?_; rintro e w3 ⟨rfl, hg⟩; replace HX := Lib.hid (HX.out.own hg); replace HY := Lib.hid (HY.out.own hg); replace g0 : PairW.Own w w3 := g0.trans hg; clear hg)
      | (go_at_call 19; refine (rworst_at l t _ _ v c _ (Lib.hid (HP.out.own g0)) (Lib.hid (HT.out.own g0)) HV).mono ?_; rintro e w3 ⟨rfl, hg⟩; replace HX := Lib.hid (HX.out.own hg); replace HY := Lib.hid (HY.out.own hg); replace g0 : PairW.Own w w3 := g0.trans hg; clear hg)
      | (go_at_call 20; refine (rints_yes M _ _ _ HX HY).mono ?_; rintro e w3 ⟨rfl, hg⟩; replace g0 : PairW.Own w w3 := g0.trans hg; clear hg)
      | (go_at_call 12; refine (awake_at _).mono ?_; rintro e w1 ⟨rfl, hg⟩; replace g0 : PairW.Own w w1 := g0.trans hg; clear hg))
    go_ret
    exact ⟨rfl, g0⟩
end Go.Proofs.Ytlepcahangkmiaa.CueW
