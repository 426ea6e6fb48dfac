/-
  Walk of the law SpanSets. Condition: none.
-/
import Derived.Test.YtggceakihapgiaaSpanL4
namespace Go.Proofs.Ytggceakihapgiaa.SpaW
open Go.ChangeShapes Go.WideShapes Go.ChangeAt Go.RowKit
open PairW SpaP

theorem set_bad {a b : List Sp} {ea eb : Int} (ha : chkE a = ea) (hb : chkE b = eb) (h : ea ≠ 0 ∨ ea = 0 ∧ eb ≠ 0) : ∃ f : Int, f ≠ 0 ∧ ∀ op, setE a b op = f ∧ setV a b op = [] := by
  rcases h with h | ⟨h, k⟩
  · exact ⟨ea, h, fun op => set_a ha h⟩
  · refine ⟨eb, k, fun op => ?_⟩
    have e : setE a b op = eb := by unfold setE; rw [if_pos (ha.trans h), if_neg (by rw [hb]; exact k), hb]
    exact ⟨e, by unfold setV; rw [e, if_neg k]⟩
theorem set_any {a b v : List Sp} {op f : Int} (ha : chkE a = 0) (hb : chkE b = 0) (h : setE a b op = f ∧ setV a b op = v) : f = 0 ∨ f = 3 := by
  rw [← h.1]; unfold setE; rw [if_pos ha, if_pos hb]; split <;> simp
theorem set_in {a b v : List Sp} {op f : Int} (ha : chkE a = 0) (hb : chkE b = 0) (h : setE a b op = f ∧ setV a b op = v) (hf : f = 0) (x : Int) : (NormFrom (-1) v ∧ (∀ s ∈ v, s.2 ≤ 65536) ∧ v.length ≤ 128) ∧ hasB v x = opB op (hasB a x) (hasB b x) := by
  subst hf
  obtain ⟨e, n⟩ := set_form h
  refine ⟨n, ?_⟩
  rw [e]
  exact (sets_spec op ((chkE_zero a).1 ha).2 ((chkE_zero b).1 hb).2).2.1 x
set_option maxRecDepth 100000 in
set_option maxHeartbeats 16000000 in
theorem SpanSets_walk (a b : List Sp) (sa sb : Value) (x : Int) (w : World) (HA : Hid (Pts w sa a)) (HB : Hid (Pts w sb b)) :
    Calls Try.prog 6 #[sa, sb, .int .i64 x] w fun e w' => e = .returned (.bool true) ∧ Own w w' := by
  have g0 := Own.refl w
  obtain ⟨ea, hea⟩ : ∃ d, chkE a = d := ⟨_, rfl⟩
  obtain ⟨eb, heb⟩ : ∃ d, chkE b = d := ⟨_, rfl⟩
  have HEA := Lib.hid hea
  have HEB := Lib.hid heb
  by_cases hc : ea = 0 ∧ eb = 0
  · obtain ⟨rfl, rfl⟩ := hc
    have H0 : ∃ f v, Hid (setE a b 0 = f ∧ setV a b 0 = v) := ⟨_, _, Lib.hid ⟨rfl, rfl⟩⟩
    have H1 : ∃ f v, Hid (setE a b 1 = f ∧ setV a b 1 = v) := ⟨_, _, Lib.hid ⟨rfl, rfl⟩⟩
    have H2 : ∃ f v, Hid (setE a b 2 = f ∧ setV a b 2 = v) := ⟨_, _, Lib.hid ⟨rfl, rfl⟩⟩
    obtain ⟨f0, v0, H0⟩ := H0
    obtain ⟨f1, v1, H1⟩ := H1
    obtain ⟨f2, v2, H2⟩ := H2
    have a0 := set_any hea heb H0.out
    have a1 := set_any hea heb H1.out
    have a2 := set_any hea heb H2.out
    obtain ⟨p, hp⟩ : ∃ d, hasB a x = d := ⟨_, rfl⟩
    obtain ⟨q, hq⟩ : ∃ d, hasB b x = d := ⟨_, rfl⟩
    have J0 : f0 = 0 → Hid ((NormFrom (-1) v0 ∧ (∀ s ∈ v0, s.2 ≤ 65536) ∧ v0.length ≤ 128)) ∧ Hid (hasB v0 x = (p || q)) := fun h => by have := set_in hea heb H0.out h x; rw [hp, hq] at this; exact ⟨Lib.hid this.1, Lib.hid this.2⟩
    have J1 : f1 = 0 → Hid ((NormFrom (-1) v1 ∧ (∀ s ∈ v1, s.2 ≤ 65536) ∧ v1.length ≤ 128)) ∧ Hid (hasB v1 x = (p && q)) := fun h => by have := set_in hea heb H1.out h x; rw [hp, hq] at this; exact ⟨Lib.hid this.1, Lib.hid this.2⟩
    have J2 : f2 = 0 → Hid ((NormFrom (-1) v2 ∧ (∀ s ∈ v2, s.2 ≤ 65536) ∧ v2.length ≤ 128)) ∧ Hid (hasB v2 x = (p && !q)) := fun h => by have := set_in hea heb H2.out h x; rw [hp, hq] at this; exact ⟨Lib.hid this.1, Lib.hid this.2⟩
    have HP := Lib.hid hp
    have HQ := Lib.hid hq
    replace J0 := Lib.hid J0
    replace J1 := Lib.hid J1
    replace J2 := Lib.hid J2
    replace a0 := Lib.hid a0
    replace a1 := Lib.hid a1
    replace a2 := Lib.hid a2
    clear hp hq hea heb
    go_enter Try.func6, Try.ntmps6
    go_upto_region 4 with (first
      | (go_at_call 22; refine (punion_at a b v0 f0 _ _ _ H0 HA HB).mono ?_; rintro e w1 ⟨su, rfl, hf, hg⟩; have HU := Lib.hid hf.pts; clear hf; replace HA := Lib.hid (HA.out.own hg); replace HB := Lib.hid (HB.out.own hg); replace g0 : Own w w1 := g0.trans hg; clear hg)
      | (go_at_call 24; refine (pcommon_at a b v1 f1 _ _ _ H1 HA HB).mono ?_; rintro e w1 ⟨sc, rfl, hf, hg⟩; have HC := Lib.hid hf.pts; clear hf; replace HA := Lib.hid (HA.out.own hg); replace HB := Lib.hid (HB.out.own hg); replace HU := Lib.hid (HU.out.own hg); replace g0 : Own w w1 := g0.trans hg; clear hg)
      | (go_at_call 26; refine (pminus_at a b v2 f2 _ _ _ H2 HA HB).mono ?_; rintro e w1 ⟨sm, rfl, hf, hg⟩; have HM := Lib.hid hf.pts; clear hf; replace HA := Lib.hid (HA.out.own hg); replace HB := Lib.hid (HB.out.own hg); replace HU := Lib.hid (HU.out.own hg); replace HC := Lib.hid (HC.out.own hg); replace g0 : Own w w1 := g0.trans hg; clear hg))
    go_upto_region 6 with (first
      | (go_at_call 12; with_reducible refine (pcheck_at a _ 0 _ HA HEA).mono ?_; rintro e w1 ⟨rfl, hg⟩; replace HA := Lib.hid (HA.out.own hg); replace HB := Lib.hid (HB.out.own hg); replace HU := Lib.hid (HU.out.own hg); replace HC := Lib.hid (HC.out.own hg); replace HM := Lib.hid (HM.out.own hg); replace g0 : Own w w1 := g0.trans hg; clear hg)
      | (go_at_call 12; with_reducible refine (pcheck_at b _ 0 _ HB HEB).mono ?_; rintro e w1 ⟨rfl, hg⟩; replace HA := Lib.hid (HA.out.own hg); replace HB := Lib.hid (HB.out.own hg); replace HU := Lib.hid (HU.out.own hg); replace HC := Lib.hid (HC.out.own hg); replace HM := Lib.hid (HM.out.own hg); replace g0 : Own w w1 := g0.trans hg; clear hg))
    go_upto_region 7 with (first
      | (go_at_call 15; with_reducible refine (in_at a _ x p _ HA HP).mono ?_; rintro e w1 ⟨rfl, hg⟩; replace HA := Lib.hid (HA.out.own hg); replace HB := Lib.hid (HB.out.own hg); replace HU := Lib.hid (HU.out.own hg); replace HC := Lib.hid (HC.out.own hg); replace HM := Lib.hid (HM.out.own hg); replace g0 : Own w w1 := g0.trans hg; clear hg)
      | (go_at_call 15; with_reducible refine (in_at b _ x q _ HB HQ).mono ?_; rintro e w1 ⟨rfl, hg⟩; replace HA := Lib.hid (HA.out.own hg); replace HB := Lib.hid (HB.out.own hg); replace HU := Lib.hid (HU.out.own hg); replace HC := Lib.hid (HC.out.own hg); replace HM := Lib.hid (HM.out.own hg); replace g0 : Own w w1 := g0.trans hg; clear hg))
    clear HA HB HEA HEB H0 H1 H2 HP HQ
    rcases a0.out with rfl | rfl <;> rcases a1.out with rfl | rfl <;> rcases a2.out with rfl | rfl <;> cases p <;> cases q
    all_goals
      clear a0 a1 a2
      try obtain ⟨N0, M0⟩ := J0.out rfl
      try obtain ⟨N1, M1⟩ := J1.out rfl
      try obtain ⟨N2, M2⟩ := J2.out rfl
      clear J0 J1 J2
      go_wp2_with (first
        | (go_at_call 28; with_reducible refine (normal_at v0 su _ HU N0).mono ?_; rintro e w1 ⟨rfl, hg⟩; replace HU := Lib.hid (HU.out.own hg); replace HC := Lib.hid (HC.out.own hg); replace HM := Lib.hid (HM.out.own hg); replace g0 : Own w w1 := g0.trans hg; clear hg)
        | (go_at_call 28; with_reducible refine (normal_at v1 sc _ HC N1).mono ?_; rintro e w1 ⟨rfl, hg⟩; replace HC := Lib.hid (HC.out.own hg); replace HM := Lib.hid (HM.out.own hg); replace g0 : Own w w1 := g0.trans hg; clear hg)
        | (go_at_call 28; with_reducible refine (normal_at v2 sm _ HM N2).mono ?_; rintro e w1 ⟨rfl, hg⟩; replace HM := Lib.hid (HM.out.own hg); replace g0 : Own w w1 := g0.trans hg; clear hg)
        | (go_at_call 15; with_reducible refine (in_at v0 su x _ _ HU M0).mono ?_; rintro e w1 ⟨rfl, hg⟩; replace HC := Lib.hid (HC.out.own hg); replace HM := Lib.hid (HM.out.own hg); replace g0 : Own w w1 := g0.trans hg; clear hg)
        | (go_at_call 15; with_reducible refine (in_at v1 sc x _ _ HC M1).mono ?_; rintro e w1 ⟨rfl, hg⟩; replace HM := Lib.hid (HM.out.own hg); replace g0 : Own w w1 := g0.trans hg; clear hg)
        | (go_at_call 15; with_reducible refine (in_at v2 sm x _ _ HM M2).mono ?_; rintro e w1 ⟨rfl, hg⟩; replace g0 : Own w w1 := g0.trans hg; clear hg)
        | (go_at_call 16; refine (awake_any _).mono ?_; rintro e w1 ⟨rfl, hg⟩; replace g0 : Own w w1 := g0.trans hg; clear hg))
      go_ret
      exact ⟨rfl, g0⟩
  · obtain ⟨f, hf0, hall⟩ := set_bad hea heb (show ea ≠ 0 ∨ ea = 0 ∧ eb ≠ 0 by by_cases h : ea = 0; exact .inr ⟨h, fun k => hc ⟨h, k⟩⟩; exact .inl h)
    have H0 := Lib.hid (hall 0)
    have H1 := Lib.hid (hall 1)
    have H2 := Lib.hid (hall 2)
    have d : (f != 0) = true := bne_iff_ne.2 hf0
    clear hall hea heb
    by_cases h : ea = 0
    · subst h
      have db : (eb != 0) = true := bne_iff_ne.2 (fun k => hc ⟨rfl, k⟩)
      go_enter Try.func6, Try.ntmps6
      go_upto_region 4 with (first
      | (go_at_call 22; refine (punion_at a b [] f _ _ _ H0 HA HB).mono ?_; rintro e w1 ⟨su, rfl, hf, hg⟩; obtain ⟨AHU, cHU, rfl, _⟩ := hf.pts; clear hf; replace HA := Lib.hid (HA.out.own hg); replace HB := Lib.hid (HB.out.own hg); replace g0 : Own w w1 := g0.trans hg; clear hg)
      | (go_at_call 24; refine (pcommon_at a b [] f _ _ _ H1 HA HB).mono ?_; rintro e w1 ⟨sc, rfl, hf, hg⟩; obtain ⟨AHC, cHC, rfl, _⟩ := hf.pts; clear hf; replace HA := Lib.hid (HA.out.own hg); replace HB := Lib.hid (HB.out.own hg); replace g0 : Own w w1 := g0.trans hg; clear hg)
      | (go_at_call 26; refine (pminus_at a b [] f _ _ _ H2 HA HB).mono ?_; rintro e w1 ⟨sm, rfl, hf, hg⟩; obtain ⟨AHM, cHM, rfl, _⟩ := hf.pts; clear hf; replace HA := Lib.hid (HA.out.own hg); replace HB := Lib.hid (HB.out.own hg); replace g0 : Own w w1 := g0.trans hg; clear hg))
      go_wp2_with (first
        | (go_at_call 12; with_reducible refine (pcheck_at a _ 0 _ HA HEA).mono ?_; rintro e w1 ⟨rfl, hg⟩; replace HA := Lib.hid (HA.out.own hg); replace HB := Lib.hid (HB.out.own hg); replace g0 : Own w w1 := g0.trans hg; clear hg)
        | (go_at_call 12; with_reducible refine (pcheck_at b _ eb _ HB HEB).mono ?_; rintro e w1 ⟨rfl, hg⟩; replace HA := Lib.hid (HA.out.own hg); replace HB := Lib.hid (HB.out.own hg); replace g0 : Own w w1 := g0.trans hg; clear hg)
        | (go_at_call 16; refine (awake_any _).mono ?_; rintro e w1 ⟨rfl, hg⟩; replace g0 : Own w w1 := g0.trans hg; clear hg))
      go_ret
      exact ⟨rfl, g0⟩
    · have da : (ea != 0) = true := bne_iff_ne.2 h
      go_enter Try.func6, Try.ntmps6
      go_upto_region 4 with (first
      | (go_at_call 22; refine (punion_at a b [] f _ _ _ H0 HA HB).mono ?_; rintro e w1 ⟨su, rfl, hf, hg⟩; obtain ⟨AHU, cHU, rfl, _⟩ := hf.pts; clear hf; replace HA := Lib.hid (HA.out.own hg); replace HB := Lib.hid (HB.out.own hg); replace g0 : Own w w1 := g0.trans hg; clear hg)
      | (go_at_call 24; refine (pcommon_at a b [] f _ _ _ H1 HA HB).mono ?_; rintro e w1 ⟨sc, rfl, hf, hg⟩; obtain ⟨AHC, cHC, rfl, _⟩ := hf.pts; clear hf; replace HA := Lib.hid (HA.out.own hg); replace HB := Lib.hid (HB.out.own hg); replace g0 : Own w w1 := g0.trans hg; clear hg)
      | (go_at_call 26; refine (pminus_at a b [] f _ _ _ H2 HA HB).mono ?_; rintro e w1 ⟨sm, rfl, hf, hg⟩; obtain ⟨AHM, cHM, rfl, _⟩ := hf.pts; clear hf; replace HA := Lib.hid (HA.out.own hg); replace HB := Lib.hid (HB.out.own hg); replace g0 : Own w w1 := g0.trans hg; clear hg))
      go_wp2_with (first
        | (go_at_call 12; with_reducible refine (pcheck_at a _ ea _ HA HEA).mono ?_; rintro e w1 ⟨rfl, hg⟩; replace HA := Lib.hid (HA.out.own hg); replace HB := Lib.hid (HB.out.own hg); replace g0 : Own w w1 := g0.trans hg; clear hg)
        | (go_at_call 16; refine (awake_any _).mono ?_; rintro e w1 ⟨rfl, hg⟩; replace g0 : Own w w1 := g0.trans hg; clear hg))
      go_ret
      exact ⟨rfl, g0⟩
end Go.Proofs.Ytggceakihapgiaa.SpaW
