/-
  Walk of the law SpanLaws. Condition: none.
-/
import Derived.Test.YtggceakihapgiaaSpanL3
namespace Go.Proofs.Ytggceakihapgiaa.SpaW
open Go.ChangeShapes Go.WideShapes Go.ChangeAt Go.RowKit
open PairW SpaP

theorem set_none {a b v : List Sp} {op f : Int} (h : setE a b op = f ∧ setV a b op = v) (hf : f ≠ 0) : v = [] := by
  rw [← h.2]; unfold setV; rw [if_neg (by rw [h.1]; exact hf)]
theorem set_form {a b v : List Sp} {op : Int} (h : setE a b op = 0 ∧ setV a b op = v) : v = setsL a b op ∧ NormFrom (-1) v ∧ (∀ s ∈ v, s.2 ≤ 65536) ∧ v.length ≤ 128 := by
  obtain ⟨ca, cb, l0, e0⟩ := set_zero h.1
  obtain ⟨_, oa⟩ := (chkE_zero a).1 ca
  obtain ⟨_, ob⟩ := (chkE_zero b).1 cb
  obtain ⟨s0, _, t0⟩ := sets_spec (a := a) (b := b) op oa ob
  rw [← h.2, e0]
  exact ⟨rfl, s0, t0, l0⟩
theorem set_comm {a b v : List Sp} {op f : Int} (hop : op = 0 ∨ op = 1) (ha : chkE a = 0) (hb : chkE b = 0) (h : setE a b op = f ∧ setV a b op = v) : setE b a op = f ∧ setV b a op = v := by
  have e := sets_comm hop ((chkE_zero a).1 ha).2 ((chkE_zero b).1 hb).2
  have e1 : setE b a op = setE a b op := by unfold setE; rw [if_pos ha, if_pos hb, if_pos hb, if_pos ha, e]
  exact ⟨e1.trans h.1, by rw [← h.2]; unfold setV; rw [e1, e]⟩
theorem set_rest {a b v1 v2 : List Sp} (h1 : setE a b 1 = 0 ∧ setV a b 1 = v1) (h2 : setE a b 2 = 0 ∧ setV a b 2 = v2) : setE a v2 2 = 0 ∧ setV a v2 2 = v1 := by
  obtain ⟨ca, cb, _⟩ := set_zero h1.1
  obtain ⟨_, oa⟩ := (chkE_zero a).1 ca
  obtain ⟨_, ob⟩ := (chkE_zero b).1 cb
  obtain ⟨e1, _, _, l1⟩ := set_form h1
  obtain ⟨e2, n2, m2, l2⟩ := set_form h2
  have e : setsL a v2 2 = v1 := by rw [e1, e2]; exact sets_rest oa ob
  obtain ⟨k1, k2⟩ := set_fits (op := 2) ca (norm_own n2 m2 l2).1 (by rw [e]; exact l1)
  exact ⟨k1, by rw [k2, e]⟩
theorem set_second {a b : List Sp} {op f : Int} {v : List Sp} (ha : chkE a = 0) (hb : chkE b ≠ 0) (h : setE a b op = f ∧ setV a b op = v) : f ≠ 0 := by
  rw [← h.1]; unfold setE; rw [if_pos ha, if_neg hb]; exact hb
set_option maxRecDepth 100000 in
set_option maxHeartbeats 4000000 in
theorem SpanLaws_walk (a b : List Sp) (sa sb : Value) (w : World) (HA : Hid (Pts w sa a)) (HB : Hid (Pts w sb b)) :
    Calls Try.prog 8 #[sa, sb] w fun e w' => e = .returned (.bool true) ∧ Own w w' := by
  have HN : ∃ f v, Hid (setE a [] 0 = f ∧ setV a [] 0 = v) := ⟨_, _, Lib.hid ⟨rfl, rfl⟩⟩
  have H0 : ∃ f v, Hid (setE a b 0 = f ∧ setV a b 0 = v) := ⟨_, _, Lib.hid ⟨rfl, rfl⟩⟩
  have H1 : ∃ f v, Hid (setE a b 1 = f ∧ setV a b 1 = v) := ⟨_, _, Lib.hid ⟨rfl, rfl⟩⟩
  have H2 : ∃ f v, Hid (setE a b 2 = f ∧ setV a b 2 = v) := ⟨_, _, Lib.hid ⟨rfl, rfl⟩⟩
  obtain ⟨f, v, HN⟩ := HN
  obtain ⟨f0, v0, H0⟩ := H0
  obtain ⟨f1, v1, H1⟩ := H1
  obtain ⟨f2, v2, H2⟩ := H2
  have g0 := Own.refl w
  by_cases cf : f = 0
  · subst cf
    obtain ⟨ca, _⟩ := set_zero HN.out.1
    obtain ⟨_, n1, n2, n3⟩ := set_form HN.out
    have HO := Lib.hid (norm_own n1 n2 n3).2
    have HF := Lib.hid (And.intro n1 (And.intro n2 n3))
    clear n1 n2 n3
    obtain ⟨eb, heb⟩ : ∃ e, chkE b = e := ⟨_, rfl⟩
    by_cases cb : eb = 0
    · subst cb
      have K0 := Lib.hid (set_comm (.inl rfl) ca heb H0.out)
      have K1 := Lib.hid (set_comm (.inr rfl) ca heb H1.out)
      have HE := Lib.hid heb
      clear heb ca
      go_enter Try.func8, Try.ntmps8
      go_upto_region 2 with (go_at_call 17; refine (pnorm_at a v 0 _ _ HN HA).mono ?_; rintro e w1 ⟨sn, rfl, hf, hg⟩; have HV := Lib.hid hf.pts; clear hf; replace HA := Lib.hid (HA.out.own hg); replace HB := Lib.hid (HB.out.own hg); replace g0 : Own w w1 := g0.trans hg; clear hg)
      go_upto_region 5 with (go_at_call 17; refine (pnorm_at v v 0 _ _ HO HV).mono ?_; rintro e w1 ⟨sg, rfl, hf, hg⟩; have HG := Lib.hid hf.pts; clear hf; replace HA := Lib.hid (HA.out.own hg); replace HB := Lib.hid (HB.out.own hg); replace HV := Lib.hid (HV.out.own hg); replace g0 : Own w w1 := g0.trans hg; clear hg)
      go_upto_region 7 with (first
        | (go_at_call 21; refine (rsame_at v v _ _ true _ HG HV (Lib.hid (decide_eq_true rfl))).mono ?_; rintro e w1 ⟨rfl, hg⟩; replace HA := Lib.hid (HA.out.own hg); replace HB := Lib.hid (HB.out.own hg); replace HV := Lib.hid (HV.out.own hg); replace g0 : Own w w1 := g0.trans hg; clear hg)
        | (go_at_call 28; refine (normal_at v _ _ HV HF).mono ?_; rintro e w1 ⟨rfl, hg⟩; replace HA := Lib.hid (HA.out.own hg); replace HB := Lib.hid (HB.out.own hg); replace g0 : Own w w1 := g0.trans hg; clear hg))
      clear HV HG
      go_upto_region 8 with (go_at_call 22; refine (punion_at a b v0 f0 _ _ _ H0 HA HB).mono ?_; rintro e w1 ⟨su, rfl, hf, hg⟩; have HU := Lib.hid hf.pts; clear hf; replace HA := Lib.hid (HA.out.own hg); replace HB := Lib.hid (HB.out.own hg); replace g0 : Own w w1 := g0.trans hg; clear hg)
      go_upto_region 9 with (go_at_call 22; refine (punion_at b a v0 f0 _ _ _ K0 HB HA).mono ?_; rintro e w1 ⟨sv, rfl, hf, hg⟩; have HV := Lib.hid hf.pts; clear hf; replace HA := Lib.hid (HA.out.own hg); replace HB := Lib.hid (HB.out.own hg); replace HU := Lib.hid (HU.out.own hg); replace g0 : Own w w1 := g0.trans hg; clear hg)
      go_upto_region 10 with (go_at_call 24; refine (pcommon_at a b v1 f1 _ _ _ H1 HA HB).mono ?_; rintro e w1 ⟨sc, rfl, hf, hg⟩; have HC := Lib.hid hf.pts; clear hf; replace HA := Lib.hid (HA.out.own hg); replace HB := Lib.hid (HB.out.own hg); replace HU := Lib.hid (HU.out.own hg); replace HV := Lib.hid (HV.out.own hg); replace g0 : Own w w1 := g0.trans hg; clear hg)
      go_upto_region 11 with (go_at_call 24; refine (pcommon_at b a v1 f1 _ _ _ K1 HB HA).mono ?_; rintro e w1 ⟨sd, rfl, hf, hg⟩; have HD := Lib.hid hf.pts; clear hf; replace HA := Lib.hid (HA.out.own hg); replace HB := Lib.hid (HB.out.own hg); replace HU := Lib.hid (HU.out.own hg); replace HV := Lib.hid (HV.out.own hg); replace HC := Lib.hid (HC.out.own hg); replace g0 : Own w w1 := g0.trans hg; clear hg)
      go_upto_region 13 with (first
        | (go_at_call 12; refine (pcheck_at b _ 0 _ HB HE).mono ?_; rintro e w1 ⟨rfl, hg⟩; replace HA := Lib.hid (HA.out.own hg); replace HB := Lib.hid (HB.out.own hg); replace HU := Lib.hid (HU.out.own hg); replace HV := Lib.hid (HV.out.own hg); replace HC := Lib.hid (HC.out.own hg); replace HD := Lib.hid (HD.out.own hg); replace g0 : Own w w1 := g0.trans hg; clear hg)
        | (go_at_call 21; with_reducible refine (rsame_at v0 v0 su sv true _ HU HV (Lib.hid (decide_eq_true rfl))).mono ?_; rintro e w1 ⟨rfl, hg⟩; clear HU HV; replace HA := Lib.hid (HA.out.own hg); replace HB := Lib.hid (HB.out.own hg); replace HC := Lib.hid (HC.out.own hg); replace HD := Lib.hid (HD.out.own hg); replace g0 : Own w w1 := g0.trans hg; clear hg)
        | (go_at_call 21; with_reducible refine (rsame_at v1 v1 sc sd true _ HC HD (Lib.hid (decide_eq_true rfl))).mono ?_; rintro e w1 ⟨rfl, hg⟩; clear HD; replace HA := Lib.hid (HA.out.own hg); replace HB := Lib.hid (HB.out.own hg); replace HC := Lib.hid (HC.out.own hg); replace g0 : Own w w1 := g0.trans hg; clear hg))
      by_cases c2 : f2 = 0
      · subst c2
        by_cases c1 : f1 = 0
        · subst c1
          have HR := Lib.hid (set_rest H1.out H2.out)
          go_upto_region 16 with (go_at_call 26; refine (pminus_at a b v2 _ _ _ _ H2 HA HB).mono ?_; rintro e w1 ⟨sm, rfl, hf, hg⟩; have HM := Lib.hid hf.pts; clear hf; replace HA := Lib.hid (HA.out.own hg); replace HC := Lib.hid (HC.out.own hg); replace g0 : Own w w1 := g0.trans hg; clear hg)
          go_upto_region 17 with (go_at_call 26; refine (pminus_at a v2 v1 _ _ _ _ HR HA HM).mono ?_; rintro e w1 ⟨sx, rfl, hf, hg⟩; have HX := Lib.hid hf.pts; clear hf; replace HC := Lib.hid (HC.out.own hg); replace g0 : Own w w1 := g0.trans hg; clear hg)
          go_wp2_with (first | (go_at_call 21; refine (rsame_at v1 v1 _ _ true _ HX HC (Lib.hid (decide_eq_true rfl))).mono ?_; rintro e w1 ⟨rfl, hg⟩; replace g0 : Own w w1 := g0.trans hg; clear hg) | (go_at_call 16; refine (awake_any _).mono ?_; rintro e w1 ⟨rfl, hg⟩; replace g0 : Own w w1 := g0.trans hg; clear hg))
          go_ret
          exact ⟨rfl, g0⟩
        · have d1 : (f1 != 0) = true := bne_iff_ne.2 c1
          go_wp2_with (first | (go_at_call 26; refine (pminus_at a b v2 _ _ _ _ H2 HA HB).mono ?_; rintro e w1 ⟨sm, rfl, hf, hg⟩; have HM := Lib.hid hf.pts; clear hf; replace HA := Lib.hid (HA.out.own hg); replace HC := Lib.hid (HC.out.own hg); replace g0 : Own w w1 := g0.trans hg; clear hg) | (go_at_call 16; refine (awake_any _).mono ?_; rintro e w1 ⟨rfl, hg⟩; replace g0 : Own w w1 := g0.trans hg; clear hg))
          go_ret
          exact ⟨rfl, g0⟩
      · have d2 : (f2 != 0) = true := bne_iff_ne.2 c2
        go_wp2_with (first | (go_at_call 26; refine (pminus_at a b v2 _ _ _ _ H2 HA HB).mono ?_; rintro e w1 ⟨sm, rfl, hf, hg⟩; have HM := Lib.hid hf.pts; clear hf; replace HA := Lib.hid (HA.out.own hg); replace HC := Lib.hid (HC.out.own hg); replace g0 : Own w w1 := g0.trans hg; clear hg) | (go_at_call 16; refine (awake_any _).mono ?_; rintro e w1 ⟨rfl, hg⟩; replace g0 : Own w w1 := g0.trans hg; clear hg))
        go_ret
        exact ⟨rfl, g0⟩
    · have HE := Lib.hid heb
      have c2 := set_second ca (by rw [heb]; exact cb) H2.out
      have db : (eb == 0) = false := beq_eq_false_iff_ne.2 cb
      have d2 : (f2 != 0) = true := bne_iff_ne.2 c2
      have K0 : ∃ f v, Hid (setE b a 0 = f ∧ setV b a 0 = v) := ⟨_, _, Lib.hid ⟨rfl, rfl⟩⟩
      have K1 : ∃ f v, Hid (setE b a 1 = f ∧ setV b a 1 = v) := ⟨_, _, Lib.hid ⟨rfl, rfl⟩⟩
      obtain ⟨k0, u0, K0⟩ := K0
      obtain ⟨k1, u1, K1⟩ := K1
      clear heb ca
      go_enter Try.func8, Try.ntmps8
      go_upto_region 2 with (go_at_call 17; refine (pnorm_at a v 0 _ _ HN HA).mono ?_; rintro e w1 ⟨sn, rfl, hf, hg⟩; have HV := Lib.hid hf.pts; clear hf; replace HA := Lib.hid (HA.out.own hg); replace HB := Lib.hid (HB.out.own hg); replace g0 : Own w w1 := g0.trans hg; clear hg)
      go_upto_region 5 with (go_at_call 17; refine (pnorm_at v v 0 _ _ HO HV).mono ?_; rintro e w1 ⟨sg, rfl, hf, hg⟩; have HG := Lib.hid hf.pts; clear hf; replace HA := Lib.hid (HA.out.own hg); replace HB := Lib.hid (HB.out.own hg); replace HV := Lib.hid (HV.out.own hg); replace g0 : Own w w1 := g0.trans hg; clear hg)
      go_upto_region 7 with (first
        | (go_at_call 21; refine (rsame_at v v _ _ true _ HG HV (Lib.hid (decide_eq_true rfl))).mono ?_; rintro e w1 ⟨rfl, hg⟩; replace HA := Lib.hid (HA.out.own hg); replace HB := Lib.hid (HB.out.own hg); replace HV := Lib.hid (HV.out.own hg); replace g0 : Own w w1 := g0.trans hg; clear hg)
        | (go_at_call 28; refine (normal_at v _ _ HV HF).mono ?_; rintro e w1 ⟨rfl, hg⟩; replace HA := Lib.hid (HA.out.own hg); replace HB := Lib.hid (HB.out.own hg); replace g0 : Own w w1 := g0.trans hg; clear hg))
      clear HV HG
      go_upto_region 8 with (go_at_call 22; refine (punion_at a b v0 f0 _ _ _ H0 HA HB).mono ?_; rintro e w1 ⟨su, rfl, hf, hg⟩; have HU := Lib.hid hf.pts; clear hf; replace HA := Lib.hid (HA.out.own hg); replace HB := Lib.hid (HB.out.own hg); replace g0 : Own w w1 := g0.trans hg; clear hg)
      go_upto_region 9 with (go_at_call 22; refine (punion_at b a u0 k0 _ _ _ K0 HB HA).mono ?_; rintro e w1 ⟨sv, rfl, hf, hg⟩; have HV := Lib.hid hf.pts; clear hf; replace HA := Lib.hid (HA.out.own hg); replace HB := Lib.hid (HB.out.own hg); replace HU := Lib.hid (HU.out.own hg); replace g0 : Own w w1 := g0.trans hg; clear hg)
      go_upto_region 10 with (go_at_call 24; refine (pcommon_at a b v1 f1 _ _ _ H1 HA HB).mono ?_; rintro e w1 ⟨sc, rfl, hf, hg⟩; have HC := Lib.hid hf.pts; clear hf; replace HA := Lib.hid (HA.out.own hg); replace HB := Lib.hid (HB.out.own hg); replace HU := Lib.hid (HU.out.own hg); replace HV := Lib.hid (HV.out.own hg); replace g0 : Own w w1 := g0.trans hg; clear hg)
      go_upto_region 11 with (go_at_call 24; refine (pcommon_at b a u1 k1 _ _ _ K1 HB HA).mono ?_; rintro e w1 ⟨sd, rfl, hf, hg⟩; have HD := Lib.hid hf.pts; clear hf; replace HA := Lib.hid (HA.out.own hg); replace HB := Lib.hid (HB.out.own hg); replace HU := Lib.hid (HU.out.own hg); replace HV := Lib.hid (HV.out.own hg); replace HC := Lib.hid (HC.out.own hg); replace g0 : Own w w1 := g0.trans hg; clear hg)
      go_upto_region 13 with (go_at_call 12; refine (pcheck_at b _ eb _ HB HE).mono ?_; rintro e w1 ⟨rfl, hg⟩; clear HU HV HD; replace HA := Lib.hid (HA.out.own hg); replace HB := Lib.hid (HB.out.own hg); replace HC := Lib.hid (HC.out.own hg); replace g0 : Own w w1 := g0.trans hg; clear hg)
      go_wp2_with (first | (go_at_call 26; refine (pminus_at a b v2 _ _ _ _ H2 HA HB).mono ?_; rintro e w1 ⟨sm, rfl, hf, hg⟩; have HM := Lib.hid hf.pts; clear hf; replace HA := Lib.hid (HA.out.own hg); replace HC := Lib.hid (HC.out.own hg); replace g0 : Own w w1 := g0.trans hg; clear hg) | (go_at_call 16; refine (awake_any _).mono ?_; rintro e w1 ⟨rfl, hg⟩; replace g0 : Own w w1 := g0.trans hg; clear hg))
      go_ret
      exact ⟨rfl, g0⟩
  · have d : (f != 0) = true := bne_iff_ne.2 cf
    have hv := set_none HN.out cf
    subst hv
    go_enter Try.func8, Try.ntmps8
    go_upto_region 2 with (go_at_call 17; refine (pnorm_at a [] _ _ _ HN HA).mono ?_; rintro e w1 ⟨sn, rfl, hf, hg⟩; obtain ⟨A, cap, rfl, _⟩ := hf.pts; clear hf; replace g0 : Own w w1 := g0.trans hg; clear hg)
    go_wp2_with (go_at_call 16; refine (awake_any _).mono ?_; rintro e w1 ⟨rfl, hg⟩; replace g0 : Own w w1 := g0.trans hg; clear hg)
    go_ret
    exact ⟨rfl, g0⟩
end Go.Proofs.Ytggceakihapgiaa.SpaW
