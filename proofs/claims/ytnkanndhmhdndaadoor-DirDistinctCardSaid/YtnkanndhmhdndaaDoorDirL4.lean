/-
  Walks of the laws of package dir: DirDistinct. Condition: the tables of words lie in memory (Wds).
-/
import Derived.Test.YtnkanndhmhdndaaDoorDirT
namespace Go.Proofs.YtnkanndhmhdndaaDoor.DirW
open Go.ChangeShapes Go.WideShapes Go.ChangeAt Go.RowKit
open PairW StrW DirP
set_option maxRecDepth 100000 in
set_option maxHeartbeats 2000000 in
theorem DirDistinct_walk (a p b q n : Int) (w : World) (HT : Hid (Wds w)) :
    Calls Tryd.prog 10 #[.agg #[.int .i64 a, .int .i64 p], .agg #[.int .i64 b, .int .i64 q], .int .i64 n] w fun e w' => e = .returned (.bool true) ∧ Own w w' := by
  obtain ⟨k0, k1, _, _⟩ := pt_new w a p 38
  have g0 : Own w (w.alloc (.cells #[.int .i64 a, .int .i64 p] 38)) := (Own.refl w).alloc _
  obtain ⟨k2, k3, _, _⟩ := pt_new (w.alloc (.cells #[.int .i64 a, .int .i64 p] 38)) b q 38
  have g1 : Own (w.alloc (.cells #[.int .i64 a, .int .i64 p] 38)) ((w.alloc (.cells #[.int .i64 a, .int .i64 p] 38)).alloc (.cells #[.int .i64 b, .int .i64 q] 38)) := (Own.refl _).alloc _
  replace k0 := g1.cell k0
  replace k1 := g1.cell k1
  rw [World.size_alloc] at k2 k3
  replace g0 := g0.trans g1
  clear g1
  obtain ⟨s, hs⟩ : ∃ t, namV a p = t := ⟨_, rfl⟩
  obtain ⟨t, ht⟩ : ∃ t, namV b q = t := ⟨_, rfl⟩
  by_cases h : (0 ≤ a ∧ a ≤ 8) ∧ -1 ≤ p ∧ p ≤ 1
  · have hc : chk a p = 0 := if_pos h
    have HA := Lib.hid (And.intro hc hs)
    clear hc
    by_cases h' : (0 ≤ b ∧ b ≤ 8) ∧ -1 ≤ q ∧ q ≤ 1
    · have hc : chk b q = 0 := if_pos h'
      have HB := Lib.hid (And.intro hc ht)
      have e0 : ∀ u : Int, 0 ≤ u ∧ u ≤ 8 → dirE u = 0 := fun u hu => if_pos hu
      obtain ⟨m, hm⟩ : ∃ x, mirV a = x := ⟨_, rfl⟩
      obtain ⟨o, ho⟩ : ∃ x, mirV b = x := ⟨_, rfl⟩
      obtain ⟨x, hx⟩ : ∃ x, rotV a n = x := ⟨_, rfl⟩
      obtain ⟨y, hy⟩ : ∃ x, rotV b n = x := ⟨_, rfl⟩
      have HMA := Lib.hid (And.intro hm (e0 a h.1))
      have HMB := Lib.hid (And.intro ho (e0 b h'.1))
      have HRA := Lib.hid (And.intro hx (e0 a h.1))
      have HRB := Lib.hid (And.intro hy (e0 b h'.1))
      by_cases ab : a = b
      · subst ab
        have c0 : (a == a) = true := beq_self_eq_true _
        obtain rfl : m = o := hm.symm.trans ho
        obtain rfl : x = y := hx.symm.trans hy
        have c1 : (m == m) = true := beq_self_eq_true _
        have c2 : (x == x) = true := beq_self_eq_true _
        by_cases pq : p = q
        · subst pq
          obtain rfl : s = t := hs.symm.trans ht
          have c3 : (s.toList == s.toList) = true := beq_self_eq_true _
          have c4 : (p == p) = true := beq_self_eq_true _
          clear hc e0 hm ho hx hy hs ht h h'
          go_enter Tryd.func10, Tryd.ntmps10
          go_upto_region 1 with (fail)
          generalize (w.alloc (.cells #[.int .i64 a, .int .i64 p] 38)).alloc (.cells #[.int .i64 a, .int .i64 p] 38) = W0 at *
          go_wp2_with (first
            | (go_at_call 20; with_reducible refine (pname_at a p 0 s _ (Lib.hid (HT.out.own g0)) HA).mono ?_; rintro e w1 ⟨rfl, hg⟩; replace k0 := hg.cell k0; replace k1 := hg.cell k1; replace k2 := hg.cell k2; replace k3 := hg.cell k3; replace g0 : Own w w1 := g0.trans hg; clear hg)
            | (go_at_call 20; with_reducible refine (pname_at a p 0 s _ (Lib.hid (HT.out.own g0)) HB).mono ?_; rintro e w2 ⟨rfl, hg⟩; replace k0 := hg.cell k0; replace k1 := hg.cell k1; replace k2 := hg.cell k2; replace k3 := hg.cell k3; replace g0 : Own w w2 := g0.trans hg; clear hg)
            | (go_at_call 11; with_reducible refine (pmirror_at a m 0 _ HMA).mono ?_; rintro e w3 ⟨rfl, rfl⟩)
            | (go_at_call 11; with_reducible refine (pmirror_at a m 0 _ HMB).mono ?_; rintro e w3 ⟨rfl, rfl⟩)
            | (go_at_call 18; with_reducible refine (protate_at a n x 0 _ HRA).mono ?_; rintro e w3 ⟨rfl, rfl⟩)
            | (go_at_call 18; with_reducible refine (protate_at a n x 0 _ HRB).mono ?_; rintro e w3 ⟨rfl, rfl⟩)
            | (go_at_call 17; with_reducible refine (awake_at _ (Lib.hid (HT.out.own g0))).mono ?_; rintro e w9 ⟨rfl, hg⟩; replace g0 : Own w w9 := g0.trans hg; clear hg))
          go_ret
          exact ⟨rfl, g0⟩
        · have c3 : (s.toList == t.toList) = false := str_ne fun e => by
            unfold namV at hs ht
            rw [if_pos h] at hs
            rw [if_pos h'] at ht
            exact pq (nm_inj h.1 h.2 h'.1 h'.2 (hs.trans (e.trans ht.symm))).2
          have c4 : (p == q) = false := beq_eq_false_iff_ne.2 pq
          clear hc e0 hm ho hx hy hs ht h h' pq
          go_enter Tryd.func10, Tryd.ntmps10
          go_upto_region 1 with (fail)
          generalize (w.alloc (.cells #[.int .i64 a, .int .i64 p] 38)).alloc (.cells #[.int .i64 a, .int .i64 q] 38) = W0 at *
          go_wp2_with (first
            | (go_at_call 20; with_reducible refine (pname_at a p 0 s _ (Lib.hid (HT.out.own g0)) HA).mono ?_; rintro e w1 ⟨rfl, hg⟩; replace k0 := hg.cell k0; replace k1 := hg.cell k1; replace k2 := hg.cell k2; replace k3 := hg.cell k3; replace g0 : Own w w1 := g0.trans hg; clear hg)
            | (go_at_call 20; with_reducible refine (pname_at a q 0 t _ (Lib.hid (HT.out.own g0)) HB).mono ?_; rintro e w2 ⟨rfl, hg⟩; replace k0 := hg.cell k0; replace k1 := hg.cell k1; replace k2 := hg.cell k2; replace k3 := hg.cell k3; replace g0 : Own w w2 := g0.trans hg; clear hg)
            | (go_at_call 11; with_reducible refine (pmirror_at a m 0 _ HMA).mono ?_; rintro e w3 ⟨rfl, rfl⟩)
            | (go_at_call 11; with_reducible refine (pmirror_at a m 0 _ HMB).mono ?_; rintro e w3 ⟨rfl, rfl⟩)
            | (go_at_call 18; with_reducible refine (protate_at a n x 0 _ HRA).mono ?_; rintro e w3 ⟨rfl, rfl⟩)
            | (go_at_call 18; with_reducible refine (protate_at a n x 0 _ HRB).mono ?_; rintro e w3 ⟨rfl, rfl⟩)
            | (go_at_call 17; with_reducible refine (awake_at _ (Lib.hid (HT.out.own g0))).mono ?_; rintro e w9 ⟨rfl, hg⟩; replace g0 : Own w w9 := g0.trans hg; clear hg))
          go_ret
          exact ⟨rfl, g0⟩
      · have c0 : (a == b) = false := beq_eq_false_iff_ne.2 ab
        have c1 : (m == o) = false := beq_eq_false_iff_ne.2 fun e => ab (mir_inj h.1 h'.1 (hm.trans (e.trans ho.symm)))
        have c2 : (x == y) = false := beq_eq_false_iff_ne.2 fun e => ab (rot_inj h.1 h'.1 n (hx.trans (e.trans hy.symm)))
        have c3 : (s.toList == t.toList) = false := str_ne fun e => by
          unfold namV at hs ht
          rw [if_pos h] at hs
          rw [if_pos h'] at ht
          exact ab (nm_inj h.1 h.2 h'.1 h'.2 (hs.trans (e.trans ht.symm))).1
        clear hc e0 hm ho hx hy hs ht h h' ab
        go_enter Tryd.func10, Tryd.ntmps10
        go_upto_region 1 with (fail)
        generalize (w.alloc (.cells #[.int .i64 a, .int .i64 p] 38)).alloc (.cells #[.int .i64 b, .int .i64 q] 38) = W0 at *
        go_wp2_with (first
          | (go_at_call 20; with_reducible refine (pname_at a p 0 s _ (Lib.hid (HT.out.own g0)) HA).mono ?_; rintro e w1 ⟨rfl, hg⟩; replace k0 := hg.cell k0; replace k1 := hg.cell k1; replace k2 := hg.cell k2; replace k3 := hg.cell k3; replace g0 : Own w w1 := g0.trans hg; clear hg)
          | (go_at_call 20; with_reducible refine (pname_at b q 0 t _ (Lib.hid (HT.out.own g0)) HB).mono ?_; rintro e w2 ⟨rfl, hg⟩; replace k0 := hg.cell k0; replace k1 := hg.cell k1; replace k2 := hg.cell k2; replace k3 := hg.cell k3; replace g0 : Own w w2 := g0.trans hg; clear hg)
          | (go_at_call 11; with_reducible refine (pmirror_at a m 0 _ HMA).mono ?_; rintro e w3 ⟨rfl, rfl⟩)
          | (go_at_call 11; with_reducible refine (pmirror_at b o 0 _ HMB).mono ?_; rintro e w3 ⟨rfl, rfl⟩)
          | (go_at_call 18; with_reducible refine (protate_at a n x 0 _ HRA).mono ?_; rintro e w3 ⟨rfl, rfl⟩)
          | (go_at_call 18; with_reducible refine (protate_at b n y 0 _ HRB).mono ?_; rintro e w3 ⟨rfl, rfl⟩)
          | (go_at_call 17; with_reducible refine (awake_at _ (Lib.hid (HT.out.own g0))).mono ?_; rintro e w9 ⟨rfl, hg⟩; replace g0 : Own w w9 := g0.trans hg; clear hg))
        go_ret
        exact ⟨rfl, g0⟩
    · have hc : chk b q = 1 := if_neg h'
      have HB := Lib.hid (And.intro hc ht)
      clear hc hs ht h h'
      go_enter Tryd.func10, Tryd.ntmps10
      go_upto_region 1 with (fail)
      generalize (w.alloc (.cells #[.int .i64 a, .int .i64 p] 38)).alloc (.cells #[.int .i64 b, .int .i64 q] 38) = W0 at *
      go_wp2_with (first
        | (go_at_call 20; with_reducible refine (pname_at a p 0 s _ (Lib.hid (HT.out.own g0)) HA).mono ?_; rintro e w1 ⟨rfl, hg⟩; replace k0 := hg.cell k0; replace k1 := hg.cell k1; replace k2 := hg.cell k2; replace k3 := hg.cell k3; replace g0 : Own w w1 := g0.trans hg; clear hg)
        | (go_at_call 20; with_reducible refine (pname_at b q 1 t _ (Lib.hid (HT.out.own g0)) HB).mono ?_; rintro e w2 ⟨rfl, hg⟩; replace k0 := hg.cell k0; replace k1 := hg.cell k1; replace k2 := hg.cell k2; replace k3 := hg.cell k3; replace g0 : Own w w2 := g0.trans hg; clear hg)
        | (go_at_call 17; with_reducible refine (awake_at _ (Lib.hid (HT.out.own g0))).mono ?_; rintro e w9 ⟨rfl, hg⟩; replace g0 : Own w w9 := g0.trans hg; clear hg))
      go_ret
      exact ⟨rfl, g0⟩
  · have hc : chk a p = 1 := if_neg h
    have HA := Lib.hid (And.intro hc hs)
    obtain ⟨c, hd⟩ : ∃ c, chk b q = c := ⟨_, rfl⟩
    have HB := Lib.hid (And.intro hd ht)
    clear hc hs ht h hd
    go_enter Tryd.func10, Tryd.ntmps10
    go_upto_region 1 with (fail)
    generalize (w.alloc (.cells #[.int .i64 a, .int .i64 p] 38)).alloc (.cells #[.int .i64 b, .int .i64 q] 38) = W0 at *
    go_wp2_with (first
      | (go_at_call 20; with_reducible refine (pname_at a p 1 s _ (Lib.hid (HT.out.own g0)) HA).mono ?_; rintro e w1 ⟨rfl, hg⟩; replace k0 := hg.cell k0; replace k1 := hg.cell k1; replace k2 := hg.cell k2; replace k3 := hg.cell k3; replace g0 : Own w w1 := g0.trans hg; clear hg)
      | (go_at_call 20; with_reducible refine (pname_at b q c t _ (Lib.hid (HT.out.own g0)) HB).mono ?_; rintro e w2 ⟨rfl, hg⟩; replace k0 := hg.cell k0; replace k1 := hg.cell k1; replace k2 := hg.cell k2; replace k3 := hg.cell k3; replace g0 : Own w w2 := g0.trans hg; clear hg)
      | (go_at_call 17; with_reducible refine (awake_at _ (Lib.hid (HT.out.own g0))).mono ?_; rintro e w9 ⟨rfl, hg⟩; replace g0 : Own w w9 := g0.trans hg; clear hg))
    go_ret
    exact ⟨rfl, g0⟩
end Go.Proofs.YtnkanndhmhdndaaDoor.DirW
