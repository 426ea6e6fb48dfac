/-
  Walks of the program of package tempo: isTick, isRampMicros, isFactor, isTempo, Check. Condition: none.
-/
import Derived.Test.YtlepcahangkmiaaTempoPlainB
import Derived.Lib.Hide
import Derived.Lib.SliceRun
import Derived.Deep.DeepCutAuto
namespace Go.Proofs.Ytlepcahangkmiaa.TemW
open Go.ChangeShapes Go.WideShapes Go.ChangeAt Go.RowKit
open PairW TemP
set_option maxRecDepth 100000 in
theorem ptick_in (n : Int) (t : Bool) (w : World) (H : Hid ((decide (0 ≤ n) && decide (n ≤ 8192)) = t)) :
    Calls Try.prog 30 #[.int .i64 n] w fun e w' => e = .returned (.bool t) ∧ Own w w' := by
  have ht := H.out.symm
  clear H
  by_cases h1 : 0 ≤ n
  · by_cases h2 : n ≤ 8192
    · obtain rfl : t = true := by rw [ht, decide_eq_true h1, decide_eq_true h2]; rfl
      clear ht
      go_enter Try.func30, Try.ntmps30
      go_wp2
      go_ret
      exact ⟨rfl, Own.refl w⟩
    · obtain rfl : t = false := by rw [ht, decide_eq_false h2, Bool.and_false]
      clear ht
      have d := decide_eq_false h2
      go_enter Try.func30, Try.ntmps30
      go_wp2
      go_ret
      exact ⟨rfl, Own.refl w⟩
  · obtain rfl : t = false := by rw [ht, decide_eq_false h1, Bool.false_and]
    clear ht
    have d := decide_eq_false h1
    go_enter Try.func30, Try.ntmps30
    go_wp2
    go_ret
    exact ⟨rfl, Own.refl w⟩
set_option maxRecDepth 100000 in
theorem pistempo_at (a b : Int) (t : Bool) (w : World) (H : Hid (okT (a, b) = t)) :
    Calls Try.prog 38 #[.agg #[.int .i64 a, .int .i64 b]] w fun e w' => e = .returned (.bool t) ∧ Own w w' := by
  obtain ⟨k0, k1, _, _⟩ := pt_new w a b 45
  have g0 : Own w (w.alloc (.cells #[.int .i64 a, .int .i64 b] 45)) := (Own.refl w).alloc _
  have ht : t = okT (a, b) := H.out.symm
  unfold okT at ht
  simp only at ht
  clear H
  obtain ⟨u, hu⟩ : ∃ u, (decide (0 ≤ a) && decide (a ≤ 8192)) = u := ⟨_, rfl⟩
  rw [hu] at ht
  have HT := Lib.hid hu
  clear hu
  cases u with
  | false =>
    obtain rfl : t = false := by rw [ht, Bool.false_and, Bool.false_and]
    clear ht
    go_enter Try.func38, Try.ntmps38
    go_upto_region 1 with (fail)
    generalize w.alloc (.cells #[.int .i64 a, .int .i64 b] 45) = W0 at *
    go_wp2_with (go_at_call 30; refine (ptick_in a false _ HT).mono ?_; rintro e w2 ⟨rfl, g2⟩; replace k1 := g2.cell k1)
    go_ret
    exact ⟨rfl, g0.trans g2⟩
  | true =>
    by_cases c3 : 1 ≤ b
    · by_cases c4 : b ≤ 4194304
      · obtain rfl : t = true := by rw [ht, decide_eq_true c3, decide_eq_true c4]; rfl
        clear ht
        go_enter Try.func38, Try.ntmps38
        go_upto_region 1 with (fail)
        generalize w.alloc (.cells #[.int .i64 a, .int .i64 b] 45) = W0 at *
        go_wp2_with (go_at_call 30; refine (ptick_in a true _ HT).mono ?_; rintro e w2 ⟨rfl, g2⟩; replace k1 := g2.cell k1)
        go_ret
        exact ⟨rfl, g0.trans g2⟩
      · obtain rfl : t = false := by rw [ht, decide_eq_false c4, Bool.and_false]
        have d4 : decide (b ≤ 4194304) = false := decide_eq_false c4
        clear ht c4
        go_enter Try.func38, Try.ntmps38
        go_upto_region 1 with (fail)
        generalize w.alloc (.cells #[.int .i64 a, .int .i64 b] 45) = W0 at *
        go_wp2_with (go_at_call 30; refine (ptick_in a true _ HT).mono ?_; rintro e w2 ⟨rfl, g2⟩; replace k1 := g2.cell k1)
        go_ret
        exact ⟨rfl, g0.trans g2⟩
    · obtain rfl : t = false := by rw [ht, decide_eq_false c3, Bool.and_false, Bool.false_and]
      have d4 : decide (1 ≤ b) = false := decide_eq_false c3
      clear ht c3
      go_enter Try.func38, Try.ntmps38
      go_upto_region 1 with (fail)
      generalize w.alloc (.cells #[.int .i64 a, .int .i64 b] 45) = W0 at *
      go_wp2_with (go_at_call 30; refine (ptick_in a true _ HT).mono ?_; rintro e w2 ⟨rfl, g2⟩; replace k1 := g2.cell k1)
      go_ret
      exact ⟨rfl, g0.trans g2⟩
set_option maxRecDepth 100000 in
set_option maxHeartbeats 1000000 in
theorem pcheck_at (l : List Pt) (sv : Value) (f : Int) (w : World) (HP : Hid (Pts w sv l)) (H : Hid (chkE l = f)) :
    Calls Try.prog 29 #[sv] w fun e w' => e = .returned (.int .i64 f) ∧ Own w w' := by
  obtain ⟨A, cap, rfl, ha1, ha2, ha⟩ := HP.out.open
  unfold maxLen at ha2
  have HA := Lib.hid ha
  clear ha HP
  obtain ⟨n, hn⟩ : ∃ n, l.length = n := ⟨_, rfl⟩
  rw [hn] at HA ha1 ⊢
  have HN := Lib.hid hn
  clear hn
  by_cases h0 : n = 0
  · obtain rfl : 4 = f := by rw [← H.out]; exact (chk_empty (HN.out.trans h0)).symm
    subst h0
    clear H HA
    go_enter Try.func29, Try.ntmps29
    go_wp2
    go_ret
    exact ⟨rfl, Own.refl w⟩
  have d0 : ((n : Int) == 0) = false := beq_eq_false_iff_ne.2 (by omega)
  by_cases h1 : 64 < n
  · obtain rfl : 3 = f := by rw [← H.out]; exact (chk_many (l := l) (by rw [HN.out]; exact h1)).symm
    have d1 : (64 : Int) < n := by omega
    clear H HA
    go_enter Try.func29, Try.ntmps29
    go_wp2
    go_ret
    exact ⟨rfl, Own.refl w⟩
  have d1 : ¬ (64 : Int) < n := by omega
  obtain ⟨b, off, rfl, hcc⟩ := HA.out (by omega)
  have HC := Lib.hid hcc
  clear hcc HA
  have dn0 : (0 : Int) < n := by omega
  go_enter Try.func29, Try.ntmps29
  go_wp2
  go_loopw [15] (fun vi wr => ∃ k : Nat, vi = .int .i64 (k : Int) ∧ k ≤ n ∧ Own w wr ∧ ∀ j, j < k → okT (at' l j) = true) (fun vi _ => n - (intOf vi).toNat)
  case atStart => exact ⟨0, rfl, Nat.zero_le _, Own.refl w, fun j hj => absurd hj (Nat.not_lt_zero _)⟩
  case round =>
    obtain ⟨k, rfl, hk, g0, hok⟩ := hrel
    have HOK := Lib.hid hok
    clear hok
    by_cases hlt : k < n
    · have e0 := g0.cell (HC.out k hlt).1
      have e1 := g0.cell (HC.out k hlt).2
      obtain ⟨t, ht⟩ : ∃ t, okT (at' l k) = t := ⟨_, rfl⟩
      have HB := Lib.hid (fun (e : t = false) => chk_bad (l := l) (i := k) (by rw [HN.out]; exact h0) (by rw [HN.out]; omega) (by rw [HN.out]; exact hlt) (ht.trans e))
      obtain ⟨⟨x, y⟩, hp⟩ : ∃ p, at' l k = p := ⟨_, rfl⟩
      have HTT := Lib.hid ht
      rw [hp] at e0 e1 ht
      simp only at e0 e1
      have HT := Lib.hid ht
      clear hp ht
      have hkn : (k : Int) < n := by omega
      obtain ⟨k0, k1, _, _⟩ := pt_new wr x y 45
      have g1 : Own wr (wr.alloc (.cells #[.int .i64 x, .int .i64 y] 45)) := (Own.refl wr).alloc _
      cases t with
      | true =>
        go_upto_region 8 with (fail)
        generalize wr.alloc (.cells #[.int .i64 x, .int .i64 y] 45) = W0 at *
        go_wp2_with (go_at_call 38; refine (pistempo_at x y true _ HT).mono ?_; rintro e w2 ⟨rfl, g2⟩)
        go_roundw
        case rel => exact ⟨k + 1, by go_num, hlt, (g0.trans g1).trans g2, fun j hj => by
          by_cases e : j = k
          · rw [e]; exact HTT.out
          · exact HOK.out j (by omega)⟩
        case measure => simp [intOf]; omega
      | false =>
        obtain rfl : 1 = f := by rw [← H.out]; exact (HB.out rfl).symm
        go_upto_region 8 with (fail)
        generalize wr.alloc (.cells #[.int .i64 x, .int .i64 y] 45) = W0 at *
        go_wp2_with (go_at_call 38; refine (pistempo_at x y false _ HT).mono ?_; rintro e w2 ⟨rfl, g2⟩)
        go_ret
        exact ⟨rfl, (g0.trans g1).trans g2⟩
    · obtain rfl : k = n := by omega
      have HO := Lib.hid (show Ok l from ok_upto (by rw [HN.out]; exact HOK.out))
      have hl : l.length ≤ 64 := by rw [HN.out]; omega
      have hl0 : l.length ≠ 0 := by rw [HN.out]; exact h0
      have e0 := g0.cell (HC.out 0 (by omega)).1
      obtain ⟨x0, hx0⟩ : ∃ x, (at' l 0).1 = x := ⟨_, rfl⟩
      rw [hx0] at e0
      simp only [Nat.zero_mul, Nat.add_zero] at e0
      by_cases h2 : x0 = 0
      · subst h2
        have HF := Lib.hid hx0
        have hn1 : (1 : Int) ≤ k := by omega
        have hcp : (1 : Int) ≤ cap := by omega
        obtain ⟨m, hm⟩ : ∃ m, k - 1 = m := ⟨_, rfl⟩
        have HM := Lib.hid hm
        generalize hwc : wr = wc at *
        clear hwc hx0 hlt HOK
        have good : (∀ i, i + 1 < k → (at' l i).1 < (at' l (i + 1)).1) → 0 = f := fun h => by
          rw [← H.out]
          exact (chk_map.2 ⟨by rw [HN.out]; omega, hl, HO.out, HF.out, by rw [HN.out]; exact h⟩).symm
        have GD := Lib.hid good
        clear good
        by_cases hc1 : cap = 1
        · subst hc1
          obtain rfl : k = 1 := by omega
          obtain rfl : m = 0 := by omega
          obtain rfl := GD.out (fun i hi => by omega)
          go_wp2
          go_loopw [31] (fun vi wr => vi = .int .i64 0 ∧ Own w wr) (fun _ _ => 0)
          case atStart => exact ⟨rfl, g0⟩
          case round =>
            obtain ⟨rfl, q0⟩ := hrel
            go_wp2
            go_ret
            exact ⟨rfl, q0⟩
        · have hkm : m + 1 = k := by omega
          go_wp2
          go_loopw [31] (fun vi wr => ∃ i : Nat, vi = .int .i64 (i : Int) ∧ i ≤ m ∧ Own w wr ∧ ∀ j, j < i → (at' l j).1 < (at' l (j + 1)).1) (fun vi _ => m - (intOf vi).toNat)
          case atStart => exact ⟨0, rfl, Nat.zero_le _, g0, fun j hj => absurd hj (Nat.not_lt_zero _)⟩
          case round =>
            obtain ⟨i, rfl, hi, q0, hup⟩ := hrel
            have HUP := Lib.hid hup
            clear hup
            by_cases hlt : i < m
            · have c0 := q0.cell (HC.out i (by omega)).1
              have c1 := q0.cell (HC.out (i + 1) (by omega)).1
              have c2 := q0.cell (HC.out (i + 1) (by omega)).2
              rw [show off + (i + 1) * 2 = off + 2 + i * 2 by omega] at c1 c2
              have HX := Lib.hid (fun (h : (at' l (i + 1)).1 ≤ (at' l i).1) => chk_back hl0 hl HO.out (i := i) (by rw [HN.out]; omega) h)
              obtain ⟨x, hx⟩ : ∃ x, (at' l i).1 = x := ⟨_, rfl⟩
              obtain ⟨⟨y, z⟩, hy⟩ : ∃ x, at' l (i + 1) = x := ⟨_, rfl⟩
              have HXE := Lib.hid hx
              have HYE := Lib.hid hy
              rw [hx] at c0
              rw [hy] at c1 c2
              simp only at c1 c2
              clear hx hy
              have him : (i : Int) < m := by omega
              have hik : (i : Int) < k := by omega
              obtain ⟨k0, k1, _, _⟩ := pt_new wr y z 45
              have g1 : Own wr (wr.alloc (.cells #[.int .i64 y, .int .i64 z] 45)) := (Own.refl wr).alloc _
              replace c0 := g1.cell c0
              go_upto_region 16 with (fail)
              generalize wr.alloc (.cells #[.int .i64 y, .int .i64 z] 45) = W0 at *
              by_cases hyx : y ≤ x
              · obtain rfl : 5 = f := by rw [← H.out]; exact (HX.out (by rw [HXE.out, HYE.out]; exact hyx)).symm
                have dd : decide (y ≤ x) = true := decide_eq_true hyx
                go_quiet (fail)
                go_wp2
                go_ret
                exact ⟨rfl, (q0.trans g1).drewN _⟩
              · have dd : decide (y ≤ x) = false := decide_eq_false hyx
                go_quiet (fail)
                go_wp2
                go_roundw
                case rel => exact ⟨i + 1, by go_num, hlt, (q0.trans g1).drewN _, fun j hj => by
                  by_cases e : j = i
                  · rw [e, HXE.out, HYE.out]; omega
                  · exact HUP.out j (by omega)⟩
                case measure => simp [intOf]; omega
            · obtain rfl : i = m := by omega
              obtain rfl := GD.out (fun j hj => HUP.out j (by omega))
              go_wp2
              go_ret
              exact ⟨rfl, q0⟩
      · obtain rfl : 5 = f := by rw [← H.out]; exact (chk_first hl0 hl HO.out (by rw [hx0]; exact h2)).symm
        have d2 : (x0 != 0) = true := bne_iff_ne.2 h2
        clear hx0
        go_wp2
        go_ret
        exact ⟨rfl, g0⟩
end Go.Proofs.Ytlepcahangkmiaa.TemW
