/-
  Walks of the program of package meter: isMeter, ticks, Length, Check, Measure. Condition: none.
-/
import Derived.Test.YtmmgidchgoligaaMeterPlain
import Derived.Lib.Hide
import Derived.Lib.SliceRun
import Derived.Deep.DeepCutAuto
namespace Go.Proofs.Ytmmgidchgoligaa.MetW
open Go.ChangeShapes Go.WideShapes Go.ChangeAt Go.RowKit
open PairW MetP
set_option maxRecDepth 100000 in
theorem pism_at (a b : Int) (t : Bool) (w : World) (H : Hid (okM (a, b) = t)) :
    Calls Try.prog 26 #[.agg #[.int .i64 a, .int .i64 b]] w fun e w' => e = .returned (.bool t) ∧ Own w w' := by
  obtain ⟨k0, k1, _, _⟩ := pt_new w a b 45
  have g0 : Own w (w.alloc (.cells #[.int .i64 a, .int .i64 b] 45)) := (Own.refl w).alloc _
  have ht : t = okM (a, b) := H.out.symm
  unfold okM at ht
  simp only at ht
  clear H
  by_cases c1 : 1 ≤ a
  · by_cases c2 : a ≤ 16
    · by_cases c3 : 1 ≤ b
      · by_cases c4 : b ≤ 96
        · obtain rfl : t = true := by rw [ht, decide_eq_true c1, decide_eq_true c2, decide_eq_true c3, decide_eq_true c4]; rfl
          clear ht
          go_enter Try.func26, Try.ntmps26
          go_upto_region 1 with (fail)
          generalize w.alloc (.cells #[.int .i64 a, .int .i64 b] 45) = W0 at *
          go_wp2
          go_ret
          exact ⟨rfl, g0⟩
        · obtain rfl : t = false := by rw [ht, decide_eq_false c4, Bool.and_false]
          have d4 : decide (b ≤ 96) = false := decide_eq_false c4
          clear ht c4
          go_enter Try.func26, Try.ntmps26
          go_upto_region 1 with (fail)
          generalize w.alloc (.cells #[.int .i64 a, .int .i64 b] 45) = W0 at *
          go_wp2
          go_ret
          exact ⟨rfl, g0⟩
      · obtain rfl : t = false := by rw [ht, decide_eq_false c3, Bool.and_false, Bool.false_and]
        have d4 : decide (1 ≤ b) = false := decide_eq_false c3
        clear ht c3
        go_enter Try.func26, Try.ntmps26
        go_upto_region 1 with (fail)
        generalize w.alloc (.cells #[.int .i64 a, .int .i64 b] 45) = W0 at *
        go_wp2
        go_ret
        exact ⟨rfl, g0⟩
    · obtain rfl : t = false := by rw [ht, decide_eq_false c2, Bool.and_false, Bool.false_and, Bool.false_and]
      have d4 : decide (a ≤ 16) = false := decide_eq_false c2
      clear ht c2
      go_enter Try.func26, Try.ntmps26
      go_upto_region 1 with (fail)
      generalize w.alloc (.cells #[.int .i64 a, .int .i64 b] 45) = W0 at *
      go_wp2
      go_ret
      exact ⟨rfl, g0⟩
  · obtain rfl : t = false := by rw [ht, decide_eq_false c1, Bool.false_and, Bool.false_and, Bool.false_and]
    have d4 : decide (1 ≤ a) = false := decide_eq_false c1
    clear ht c1
    go_enter Try.func26, Try.ntmps26
    go_upto_region 1 with (fail)
    generalize w.alloc (.cells #[.int .i64 a, .int .i64 b] 45) = W0 at *
    go_wp2
    go_ret
    exact ⟨rfl, g0⟩
/-- What a step of a sum of ticks stays within. -/
theorem tot_step {l : List Pt} (h : Ok l) (hl : l.length ≤ 128) {k : Nat} (hk : k < l.length) : (1 ≤ (at' l k).1 * (at' l k).2 ∧ (at' l k).1 * (at' l k).2 ≤ 1536) ∧ 0 ≤ tot (l.take k) ∧ tot (l.take k) ≤ 200000 := by
  have ho := ok_at h hk
  have := tot_le h k
  have := tot_bound h
  exact ⟨MetP.prod_bound ho.1 ho.2, by omega, by omega⟩
set_option maxRecDepth 100000 in
theorem pticks_at (l : List Pt) (sv : Value) (v : Int) (w : World) (HP : Hid (Pts w sv l)) (HO : Hid (Ok l)) (hl : l.length ≤ 128) (H : Hid (tot l = v)) :
    Calls Try.prog 27 #[sv] w fun e w' => e = .returned (.int .i64 v) ∧ Own w w' := by
  obtain ⟨A, cap, rfl, ha1, ha2, ha⟩ := HP.out.open
  unfold maxLen at ha2
  have HA := Lib.hid ha
  clear ha HP
  obtain ⟨n, hn⟩ : ∃ n, l.length = n := ⟨_, rfl⟩
  have HS := Lib.hid (fun k (hk : k < n) => tot_step HO.out hl (k := k) (by rw [hn]; exact hk))
  have HT := Lib.hid (fun k (hk : k < n) => tot_take (l := l) (k := k) (by rw [hn]; exact hk))
  have HL := Lib.hid (show tot (l.take n) = v by rw [List.take_of_length_le (by omega)]; exact H.out)
  rw [hn] at HA ha1 hl ⊢
  clear hn H HO
  go_enter Try.func27, Try.ntmps27
  go_wp2
  go_loopw [3, 8] (fun vn vi wr => ∃ k : Nat, vi = .int .i64 (k : Int) ∧ vn = .int .i64 (tot (l.take k)) ∧ k ≤ n ∧ Own w wr) (fun _ vi _ => n - (intOf vi).toNat)
  case atStart => exact ⟨0, rfl, rfl, Nat.zero_le _, Own.refl w⟩
  case round =>
    obtain ⟨k, rfl, rfl, hk, g0⟩ := hrel
    by_cases hlt : k < n
    · obtain ⟨b, off, rfl, hc⟩ := HA.out (by omega)
      have e0 := g0.cell (hc k hlt).1
      have e1 := g0.cell (hc k hlt).2
      have hs := HS.out k hlt
      have ht := HT.out k hlt
      clear hc
      obtain ⟨⟨x, y⟩, hp⟩ : ∃ p, at' l k = p := ⟨_, rfl⟩
      rw [hp] at e0 e1 hs ht
      simp only at e0 e1 hs ht
      have HT1 := Lib.hid ht
      clear hp ht
      generalize tot (l.take k) = s at *
      have hkn : (k : Int) < n := by omega
      have i1 : IntKind.i64.wrap (x * y) = x * y := IntWalk.i64_in _ (by omega)
      have i2 : IntKind.i64.wrap (s + x * y) = s + x * y := IntWalk.i64_in _ (by omega)
      obtain ⟨k0, k1, _, _⟩ := pt_new wr x y 45
      have g1 : Own wr (wr.alloc (.cells #[.int .i64 x, .int .i64 y] 45)) := (Own.refl wr).alloc _
      go_upto_region 5 with (fail)
      generalize wr.alloc (.cells #[.int .i64 x, .int .i64 y] 45) = W0 at *
      go_wp2
      go_roundw
      case rel => exact ⟨k + 1, by go_num, by rw [HT1.out], hlt, g0.trans g1⟩
      case measure => simp [intOf]; omega
    · obtain rfl : k = n := by omega
      have hv := HL.out
      generalize tot (l.take k) = s at *
      subst hv
      go_wp2
      go_ret
      exact ⟨rfl, g0⟩
set_option maxRecDepth 100000 in
set_option maxHeartbeats 1000000 in
theorem plength_at (l : List Pt) (sv : Value) (v f : Int) (w : World) (HP : Hid (Pts w sv l)) (H : Hid (chkE l = f ∧ lenV l = v)) :
    Calls Try.prog 10 #[sv] w fun e w' => e = .returned (.tuple #[.int .i64 v, .int .i64 f]) ∧ Own w w' := by
  have HP0 := HP
  obtain ⟨A, cap, rfl, ha1, ha2, ha⟩ := HP.out.open
  unfold maxLen at ha2
  have HA := Lib.hid ha
  clear ha HP
  obtain ⟨n, hn⟩ : ∃ n, l.length = n := ⟨_, rfl⟩
  rw [hn] at HA ha1 HP0 ⊢
  have HN := Lib.hid hn
  clear hn
  by_cases h0 : n = 0
  · obtain ⟨rfl, rfl⟩ : 4 = f ∧ 0 = v := by
      have e := chk_empty (HN.out.trans h0)
      exact ⟨by rw [← H.out.1, e], by rw [← H.out.2, lenV_bad (by rw [e]; decide)]⟩
    subst h0
    clear H HA HP0
    go_enter Try.func10, Try.ntmps10
    go_wp2
    go_ret2
    exact ⟨rfl, Own.refl w⟩
  have d0 : ((n : Int) == 0) = false := beq_eq_false_iff_ne.2 (by omega)
  by_cases h1 : 128 < n
  · obtain ⟨rfl, rfl⟩ : 3 = f ∧ 0 = v := by
      have e := chk_many (l := l) (by rw [HN.out]; exact h1)
      exact ⟨by rw [← H.out.1, e], by rw [← H.out.2, lenV_bad (by rw [e]; decide)]⟩
    have d1 : (128 : Int) < n := by omega
    clear H HA HP0
    go_enter Try.func10, Try.ntmps10
    go_wp2
    go_ret2
    exact ⟨rfl, Own.refl w⟩
  have d1 : ¬ (128 : Int) < n := by omega
  go_enter Try.func10, Try.ntmps10
  go_wp2
  go_loopw [15] (fun vi wr => ∃ k : Nat, vi = .int .i64 (k : Int) ∧ k ≤ n ∧ Own w wr ∧ ∀ j, j < k → okM (at' l j) = true) (fun vi _ => n - (intOf vi).toNat)
  case atStart => exact ⟨0, rfl, Nat.zero_le _, Own.refl w, fun j hj => absurd hj (Nat.not_lt_zero _)⟩
  case round =>
    obtain ⟨k, rfl, hk, g0, hok⟩ := hrel
    have HOK := Lib.hid hok
    clear hok
    by_cases hlt : k < n
    · obtain ⟨b, off, rfl, hc⟩ := HA.out (by omega)
      have e0 := g0.cell (hc k hlt).1
      have e1 := g0.cell (hc k hlt).2
      clear hc
      obtain ⟨t, ht⟩ : ∃ t, okM (at' l k) = t := ⟨_, rfl⟩
      have HB := Lib.hid (fun (e : t = false) => chk_bad (l := l) (i := k) (by rw [HN.out]; exact h0) (by rw [HN.out]; omega) (by rw [HN.out]; exact hlt) (ht.trans e))
      obtain ⟨⟨x, y⟩, hp⟩ : ∃ p, at' l k = p := ⟨_, rfl⟩
      have HTT := Lib.hid ht
      rw [hp] at e0 e1 ht
      simp only at e0 e1
      have HT := Lib.hid ht
      clear hp ht
      have hkn : (k : Int) < n := by omega
      obtain ⟨k0, k1, _, _⟩ := pt_new wr x y 45
      have g1 : Own wr (wr.alloc (.cells #[.int .i64 x, .int .i64 y] 45)) := (Own.refl wr).alloc _
      cases t with
      | true =>
        go_upto_region 8 with (fail)
        generalize wr.alloc (.cells #[.int .i64 x, .int .i64 y] 45) = W0 at *
        go_wp2_with (go_at_call 26; refine (pism_at x y true _ HT).mono ?_; rintro e w2 ⟨rfl, g2⟩)
        go_roundw
        case rel => exact ⟨k + 1, by go_num, hlt, (g0.trans g1).trans g2, fun j hj => by
          by_cases e : j = k
          · rw [e]; exact HTT.out
          · exact HOK.out j (by omega)⟩
        case measure => simp [intOf]; omega
      | false =>
        obtain ⟨rfl, rfl⟩ : 1 = f ∧ 0 = v := by
          have e := HB.out rfl
          exact ⟨by rw [← H.out.1, e], by rw [← H.out.2, lenV_bad (by rw [e]; decide)]⟩
        go_upto_region 8 with (fail)
        generalize wr.alloc (.cells #[.int .i64 x, .int .i64 y] 45) = W0 at *
        go_wp2_with (go_at_call 26; refine (pism_at x y false _ HT).mono ?_; rintro e w2 ⟨rfl, g2⟩)
        go_ret2
        exact ⟨rfl, (g0.trans g1).trans g2⟩
    · obtain rfl : k = n := by omega
      have ho : Ok l := ok_upto (by rw [HN.out]; exact HOK.out)
      obtain ⟨s, hs⟩ : ∃ s, tot l = s := ⟨_, rfl⟩
      have HO := Lib.hid ho
      have HS := Lib.hid hs
      have hl : l.length ≤ 128 := by rw [HN.out]; omega
      by_cases h2 : 8192 < s
      · obtain ⟨rfl, rfl⟩ : 3 = f ∧ 0 = v := by
          have e := chk_long (l := l) (by rw [HN.out]; exact h0) hl ho (by rw [hs]; exact h2)
          exact ⟨by rw [← H.out.1, e], by rw [← H.out.2, lenV_bad (by rw [e]; decide)]⟩
        clear ho hs
        go_wp2_with (go_at_call 27; refine (pticks_at l _ s _ (Lib.hid (HP0.out.own g0)) HO hl HS).mono ?_; rintro e w2 ⟨rfl, g2⟩)
        go_ret2
        exact ⟨rfl, g0.trans g2⟩
      · obtain ⟨rfl, rfl⟩ : 0 = f ∧ s = v := by
          have e := chk_good (l := l) (by rw [HN.out]; exact h0) hl ho (by rw [hs]; omega)
          exact ⟨by rw [← H.out.1, e], by rw [← H.out.2, lenV_ok e, hs]⟩
        clear ho hs
        go_wp2_with (go_at_call 27; refine (pticks_at l _ s _ (Lib.hid (HP0.out.own g0)) HO hl HS).mono ?_; rintro e w2 ⟨rfl, g2⟩)
        go_ret2
        exact ⟨rfl, g0.trans g2⟩
set_option maxRecDepth 100000 in
theorem pcheck_at (l : List Pt) (sv : Value) (f : Int) (w : World) (HP : Hid (Pts w sv l)) (H : Hid (chkE l = f)) :
    Calls Try.prog 12 #[sv] w fun e w' => e = .returned (.int .i64 f) ∧ Own w w' := by
  obtain ⟨v, hv⟩ : ∃ v, lenV l = v := ⟨_, rfl⟩
  have HC := Lib.hid (And.intro H.out hv)
  clear hv H
  go_enter Try.func12, Try.ntmps12
  go_wp2_with (go_at_call 10; refine (plength_at l _ v f _ HP HC).mono ?_; rintro e w2 ⟨rfl, g2⟩)
  go_ret
  exact ⟨rfl, g2⟩
end Go.Proofs.Ytmmgidchgoligaa.MetW
