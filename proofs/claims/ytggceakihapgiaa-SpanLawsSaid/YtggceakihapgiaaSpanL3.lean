/-
  Walk of the law SpanTotals. Condition: none.
-/
import Derived.Test.YtggceakihapgiaaSpanI
import Derived.Test.YtggceakihapgiaaSpanPlainB
namespace Go.Proofs.Ytggceakihapgiaa.SpaW
open Go.ChangeShapes Go.WideShapes Go.ChangeAt Go.RowKit
open PairW SpaP

theorem set_zero {a b : List Sp} {op : Int} (h : setE a b op = 0) : chkE a = 0 ∧ chkE b = 0 ∧ (setsL a b op).length ≤ 128 ∧ setV a b op = setsL a b op := by
  have hv : setV a b op = setsL a b op := by unfold setV; rw [if_pos h]
  unfold setE at h
  by_cases h1 : chkE a = 0
  · by_cases h2 : chkE b = 0
    · rw [if_pos h1, if_pos h2] at h
      by_cases h3 : 128 < (setsL a b op).length
      · rw [if_pos h3] at h; cases h
      · exact ⟨h1, h2, by omega, hv⟩
    · rw [if_pos h1, if_neg h2] at h
      exact absurd h h2
  · rw [if_neg h1] at h
    exact absurd h h1
theorem set_fits {a b : List Sp} {op : Int} (h1 : chkE a = 0) (h2 : chkE b = 0) (h3 : (setsL a b op).length ≤ 128) : setE a b op = 0 ∧ setV a b op = setsL a b op := by
  have e : setE a b op = 0 := by unfold setE; rw [if_pos h1, if_pos h2, if_neg (by omega)]
  exact ⟨e, by unfold setV; rw [if_pos e]⟩
theorem chk_nil : chkE [] = 0 := (chkE_zero []).2 ⟨by simp, ok_nil⟩
theorem norm_zero {a : List Sp} (h : chkE a = 0) : setE a [] 0 = 0 ∧ setV a [] 0 = setsL a [] 0 := by
  obtain ⟨h1, h2⟩ := (chkE_zero a).1 h
  exact set_fits h chk_nil (Nat.le_trans (sets_len h2) h1)
theorem norm_own {m : List Sp} (h1 : NormFrom (-1) m) (h2 : ∀ s ∈ m, s.2 ≤ 65536) (h3 : m.length ≤ 128) : chkE m = 0 ∧ setE m [] 0 = 0 ∧ setV m [] 0 = m := by
  have e := sets_self h1 h2
  have hc : chkE m = 0 := (chkE_zero m).2 ⟨h3, ok_of_norm h1 h2⟩
  obtain ⟨k1, k2⟩ := set_fits (a := m) (b := []) (op := 0) hc chk_nil (by rw [e]; exact h3)
  exact ⟨hc, k1, by rw [k2, e]⟩
theorem cnt_range (f : Int → Bool) : ∀ n : Nat, 0 ≤ cnt f n ∧ cnt f n ≤ n
  | 0 => ⟨Int.le_refl _, Int.le_refl _⟩
  | n + 1 => by
    have := cnt_range f n
    rw [cnt_succ]
    split <;> omega
theorem sum_range {a b : List Sp} {op : Int} (ha : ∀ s ∈ a, okS s = true) (hb : ∀ s ∈ b, okS s = true) : 0 ≤ sumL (setsL a b op) ∧ sumL (setsL a b op) ≤ 65536 := by
  rw [sum_sets ha hb]
  exact cnt_range _ 65536
/-- What the three results of valid lists say of their sums. -/
theorem totals {a b v0 v1 v2 : List Sp} (h0 : setE a b 0 = 0 ∧ setV a b 0 = v0) (h1 : setE a b 1 = 0 ∧ setV a b 1 = v1) (h2 : setE a b 2 = 0 ∧ setV a b 2 = v2) : ∃ n k x y z : Int,
    (sumL (setV a [] 0) = n ∧ setE a [] 0 = 0) ∧ (sumL (setV b [] 0) = k ∧ setE b [] 0 = 0) ∧ (sumL (setV v1 [] 0) = x ∧ setE v1 [] 0 = 0) ∧ (sumL (setV v2 [] 0) = y ∧ setE v2 [] 0 = 0) ∧ (sumL (setV v0 [] 0) = z ∧ setE v0 [] 0 = 0) ∧
    IntKind.i64.wrap (x + y) = n ∧ IntKind.i64.wrap (k + y) = z := by
  obtain ⟨ca, cb, l0, e0⟩ := set_zero h0.1
  obtain ⟨_, _, l1, e1⟩ := set_zero h1.1
  obtain ⟨_, _, l2, e2⟩ := set_zero h2.1
  obtain ⟨_, oa⟩ := (chkE_zero a).1 ca
  obtain ⟨_, ob⟩ := (chkE_zero b).1 cb
  obtain ⟨a1, a2⟩ := norm_zero ca
  obtain ⟨b1, b2⟩ := norm_zero cb
  obtain ⟨s0, _, t0⟩ := sets_spec (a := a) (b := b) 0 oa ob
  obtain ⟨s1, _, t1⟩ := sets_spec (a := a) (b := b) 1 oa ob
  obtain ⟨s2, _, t2⟩ := sets_spec (a := a) (b := b) 2 oa ob
  obtain ⟨_, p0, q0⟩ := norm_own s0 t0 l0
  obtain ⟨_, p1, q1⟩ := norm_own s1 t1 l1
  obtain ⟨_, p2, q2⟩ := norm_own s2 t2 l2
  rw [← h0.2, ← h1.2, ← h2.2, e0, e1, e2]
  have f1 := sum_first oa ob
  have f2 := sum_union oa ob
  have r1 := sum_range (op := 0) oa ok_nil
  have r2 := sum_range (op := 0) oa ob
  refine ⟨sumL (setsL a [] 0), sumL (setsL b [] 0), sumL (setsL a b 1), sumL (setsL a b 2), sumL (setsL a b 0), ⟨by rw [a2], a1⟩, ⟨by rw [b2], b1⟩, ⟨by rw [q1], p1⟩, ⟨by rw [q2], p2⟩, ⟨by rw [q0], p0⟩, ?_, ?_⟩
  · rw [← f1]; exact IntWalk.i64_in _ (by omega)
  · rw [← f2]; exact IntWalk.i64_in _ (by omega)
set_option maxRecDepth 100000 in
set_option maxHeartbeats 4000000 in
theorem SpanTotals_walk (a b : List Sp) (sa sb : Value) (w : World) (HA : Hid (Pts w sa a)) (HB : Hid (Pts w sb b)) :
    Calls Try.prog 7 #[sa, sb] w fun e w' => e = .returned (.bool true) ∧ Own w w' := by
  have H0 : ∃ f v, Hid (setE a b 0 = f ∧ setV a b 0 = v) := ⟨_, _, Lib.hid ⟨rfl, rfl⟩⟩
  have H1 : ∃ f v, Hid (setE a b 1 = f ∧ setV a b 1 = v) := ⟨_, _, Lib.hid ⟨rfl, rfl⟩⟩
  have H2 : ∃ f v, Hid (setE a b 2 = f ∧ setV a b 2 = v) := ⟨_, _, Lib.hid ⟨rfl, rfl⟩⟩
  obtain ⟨f0, v0, H0⟩ := H0
  obtain ⟨f1, v1, H1⟩ := H1
  obtain ⟨f2, v2, H2⟩ := H2
  have g0 := Own.refl w
  by_cases c0 : f0 = 0
  · subst c0
    by_cases c1 : f1 = 0
    · subst c1
      by_cases c2 : f2 = 0
      · subst c2
        obtain ⟨n, k, x, y, z, hn, hk, hx, hy, hz, i1, i2⟩ := totals H0.out H1.out H2.out
        have HN := Lib.hid hn
        have HK := Lib.hid hk
        have HX := Lib.hid hx
        have HY := Lib.hid hy
        have HZ := Lib.hid hz
        clear hn hk hx hy hz
        go_enter Try.func7, Try.ntmps7
        go_upto_region 4 with (first
            | (go_at_call 22; refine (punion_at a b v0 _ _ _ _ H0 HA HB).mono ?_; rintro e w1 ⟨su, rfl, hf, hg⟩; have HU := Lib.hid hf.pts; clear hf; replace HA := Lib.hid (HA.out.own hg); replace HB := Lib.hid (HB.out.own hg); replace g0 : Own w w1 := g0.trans hg; clear hg)
            | (go_at_call 24; refine (pcommon_at a b v1 _ _ _ _ H1 HA HB).mono ?_; rintro e w1 ⟨sc, rfl, hf, hg⟩; have HC := Lib.hid hf.pts; clear hf; replace HA := Lib.hid (HA.out.own hg); replace HB := Lib.hid (HB.out.own hg); replace HU := Lib.hid (HU.out.own hg); replace g0 : Own w w1 := g0.trans hg; clear hg)
            | (go_at_call 26; refine (pminus_at a b v2 _ _ _ _ H2 HA HB).mono ?_; rintro e w1 ⟨sm, rfl, hf, hg⟩; have HM := Lib.hid hf.pts; clear hf; replace HA := Lib.hid (HA.out.own hg); replace HB := Lib.hid (HB.out.own hg); replace HU := Lib.hid (HU.out.own hg); replace HC := Lib.hid (HC.out.own hg); replace g0 : Own w w1 := g0.trans hg; clear hg))
        go_upto_region 7 with (go_at_call 19; refine (ptotal_at a n 0 _ _ HN HA).mono ?_; rintro e w1 ⟨rfl, hg⟩; replace HB := Lib.hid (HB.out.own hg); replace HU := Lib.hid (HU.out.own hg); replace HC := Lib.hid (HC.out.own hg); replace HM := Lib.hid (HM.out.own hg); replace g0 : Own w w1 := g0.trans hg; clear hg)
        go_upto_region 8 with (go_at_call 19; refine (ptotal_at b k 0 _ _ HK HB).mono ?_; rintro e w1 ⟨rfl, hg⟩; replace HU := Lib.hid (HU.out.own hg); replace HC := Lib.hid (HC.out.own hg); replace HM := Lib.hid (HM.out.own hg); replace g0 : Own w w1 := g0.trans hg; clear hg)
        go_upto_region 9 with (go_at_call 19; refine (ptotal_at v1 x 0 _ _ HX HC).mono ?_; rintro e w1 ⟨rfl, hg⟩; replace HU := Lib.hid (HU.out.own hg); replace HM := Lib.hid (HM.out.own hg); replace g0 : Own w w1 := g0.trans hg; clear hg)
        go_upto_region 10 with (go_at_call 19; refine (ptotal_at v2 y 0 _ _ HY HM).mono ?_; rintro e w1 ⟨rfl, hg⟩; replace HU := Lib.hid (HU.out.own hg); replace g0 : Own w w1 := g0.trans hg; clear hg)
        go_upto_region 11 with (go_at_call 19; refine (ptotal_at v0 z 0 _ _ HZ HU).mono ?_; rintro e w1 ⟨rfl, hg⟩; replace g0 : Own w w1 := g0.trans hg; clear hg)
        go_wp2_with (go_at_call 16; refine (awake_any _).mono ?_; rintro e w1 ⟨rfl, hg⟩; replace g0 : Own w w1 := g0.trans hg; clear hg)
        go_ret
        exact ⟨rfl, g0⟩
      · have d2 : (f2 != 0) = true := bne_iff_ne.2 c2
        go_enter Try.func7, Try.ntmps7
        go_upto_region 4 with (first
            | (go_at_call 22; refine (punion_at a b v0 _ _ _ _ H0 HA HB).mono ?_; rintro e w1 ⟨su, rfl, hf, hg⟩; have HU := Lib.hid hf.pts; clear hf; replace HA := Lib.hid (HA.out.own hg); replace HB := Lib.hid (HB.out.own hg); replace g0 : Own w w1 := g0.trans hg; clear hg)
            | (go_at_call 24; refine (pcommon_at a b v1 _ _ _ _ H1 HA HB).mono ?_; rintro e w1 ⟨sc, rfl, hf, hg⟩; have HC := Lib.hid hf.pts; clear hf; replace HA := Lib.hid (HA.out.own hg); replace HB := Lib.hid (HB.out.own hg); replace HU := Lib.hid (HU.out.own hg); replace g0 : Own w w1 := g0.trans hg; clear hg)
            | (go_at_call 26; refine (pminus_at a b v2 _ _ _ _ H2 HA HB).mono ?_; rintro e w1 ⟨sm, rfl, hf, hg⟩; have HM := Lib.hid hf.pts; clear hf; replace HA := Lib.hid (HA.out.own hg); replace HB := Lib.hid (HB.out.own hg); replace HU := Lib.hid (HU.out.own hg); replace HC := Lib.hid (HC.out.own hg); replace g0 : Own w w1 := g0.trans hg; clear hg))
        go_wp2_with (go_at_call 16; refine (awake_any _).mono ?_; rintro e w1 ⟨rfl, hg⟩; replace g0 : Own w w1 := g0.trans hg; clear hg)
        go_ret
        exact ⟨rfl, g0⟩
    · have d1 : (f1 != 0) = true := bne_iff_ne.2 c1
      go_enter Try.func7, Try.ntmps7
      go_upto_region 4 with (first
          | (go_at_call 22; refine (punion_at a b v0 _ _ _ _ H0 HA HB).mono ?_; rintro e w1 ⟨su, rfl, hf, hg⟩; have HU := Lib.hid hf.pts; clear hf; replace HA := Lib.hid (HA.out.own hg); replace HB := Lib.hid (HB.out.own hg); replace g0 : Own w w1 := g0.trans hg; clear hg)
          | (go_at_call 24; refine (pcommon_at a b v1 _ _ _ _ H1 HA HB).mono ?_; rintro e w1 ⟨sc, rfl, hf, hg⟩; have HC := Lib.hid hf.pts; clear hf; replace HA := Lib.hid (HA.out.own hg); replace HB := Lib.hid (HB.out.own hg); replace HU := Lib.hid (HU.out.own hg); replace g0 : Own w w1 := g0.trans hg; clear hg)
          | (go_at_call 26; refine (pminus_at a b v2 _ _ _ _ H2 HA HB).mono ?_; rintro e w1 ⟨sm, rfl, hf, hg⟩; have HM := Lib.hid hf.pts; clear hf; replace HA := Lib.hid (HA.out.own hg); replace HB := Lib.hid (HB.out.own hg); replace HU := Lib.hid (HU.out.own hg); replace HC := Lib.hid (HC.out.own hg); replace g0 : Own w w1 := g0.trans hg; clear hg))
      go_wp2_with (go_at_call 16; refine (awake_any _).mono ?_; rintro e w1 ⟨rfl, hg⟩; replace g0 : Own w w1 := g0.trans hg; clear hg)
      go_ret
      exact ⟨rfl, g0⟩
  · have d0 : (f0 != 0) = true := bne_iff_ne.2 c0
    go_enter Try.func7, Try.ntmps7
    go_upto_region 4 with (first
        | (go_at_call 22; refine (punion_at a b v0 _ _ _ _ H0 HA HB).mono ?_; rintro e w1 ⟨su, rfl, hf, hg⟩; have HU := Lib.hid hf.pts; clear hf; replace HA := Lib.hid (HA.out.own hg); replace HB := Lib.hid (HB.out.own hg); replace g0 : Own w w1 := g0.trans hg; clear hg)
        | (go_at_call 24; refine (pcommon_at a b v1 _ _ _ _ H1 HA HB).mono ?_; rintro e w1 ⟨sc, rfl, hf, hg⟩; have HC := Lib.hid hf.pts; clear hf; replace HA := Lib.hid (HA.out.own hg); replace HB := Lib.hid (HB.out.own hg); replace HU := Lib.hid (HU.out.own hg); replace g0 : Own w w1 := g0.trans hg; clear hg)
        | (go_at_call 26; refine (pminus_at a b v2 _ _ _ _ H2 HA HB).mono ?_; rintro e w1 ⟨sm, rfl, hf, hg⟩; have HM := Lib.hid hf.pts; clear hf; replace HA := Lib.hid (HA.out.own hg); replace HB := Lib.hid (HB.out.own hg); replace HU := Lib.hid (HU.out.own hg); replace HC := Lib.hid (HC.out.own hg); replace g0 : Own w w1 := g0.trans hg; clear hg))
    go_wp2_with (go_at_call 16; refine (awake_any _).mono ?_; rintro e w1 ⟨rfl, hg⟩; replace g0 : Own w w1 := g0.trans hg; clear hg)
    go_ret
    exact ⟨rfl, g0⟩
end Go.Proofs.Ytggceakihapgiaa.SpaW
