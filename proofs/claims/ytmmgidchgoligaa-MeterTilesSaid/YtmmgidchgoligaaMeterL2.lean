/-
  Walk of the law MeterTiles. Condition: none.
-/
import Derived.Test.YtmmgidchgoligaaMeterT
namespace Go.Proofs.Ytmmgidchgoligaa.MetW
open Go.ChangeShapes Go.WideShapes Go.ChangeAt Go.RowKit
open PairW CelW MetP
set_option maxRecDepth 100000 in
set_option maxHeartbeats 4000000 in
theorem ltiles_at (l : List Pt) (sv : Value) (t : Int) (w : World) (HP : Hid (Pts w sv l)) :
    Calls Try.prog 6 #[sv, .int .i64 t] w fun e w' => e = .returned (.bool true) ∧ Own w w' := by
  obtain ⟨c, hc⟩ : ∃ c, chkE l = c := ⟨_, rfl⟩
  obtain ⟨v, hv⟩ : ∃ v, lenV l = v := ⟨_, rfl⟩
  have HC := Lib.hid (And.intro hc hv)
  have HC1 := Lib.hid hc
  have g0 := Own.refl w
  by_cases h0 : c = 0
  · subst h0
    rw [lenV_ok hc] at hv
    obtain ⟨_, hl, ho, h4⟩ := chk_zero.1 hc
    have HO := Lib.hid ho
    have HMV := Lib.hid (fun k (hk : k < l.length) => mV_at hc hk)
    have HST := Lib.hid (fun k (hk : k < l.length) => tot_step ho hl hk)
    have HTT := Lib.hid (fun k (hk : k < l.length) => tot_take hk)
    have HTL := Lib.hid (show tot (l.take l.length) = v by rw [List.take_length]; exact hv)
    have HV := Lib.hid hv
    obtain ⟨A, cap, rfl, ha1, ha2, ha⟩ := HP.out.open
    unfold maxLen at ha2
    have HA := Lib.hid ha
    obtain ⟨n, hn⟩ : ∃ n, l.length = n := ⟨_, rfl⟩
    rw [hn] at HA ha1 HP hl HMV HST HTT HTL ⊢
    have HN := Lib.hid hn
    have hv2 : v ≤ 8192 := by omega
    clear hc hv ho ha hn h4
    go_enter Try.func6, Try.ntmps6
    go_upto_region 4 with (go_at_call 10; refine (plength_at l _ v 0 _ (Lib.hid (HP.out.own g0)) HC).mono ?_; rintro e w1 ⟨rfl, hg⟩; replace g0 : Own w w1 := g0.trans hg; clear hg)
    go_wp2
    go_loopw [7, 8] (fun v7 v8 wr => ∃ k : Nat, v8 = .int .i64 (k : Int) ∧ v7 = .int .i64 (tot (l.take k)) ∧ k ≤ n ∧ Own w1 wr) (fun _ v8 _ => n - (intOf v8).toNat)
    case atStart => exact ⟨0, rfl, rfl, Nat.zero_le _, Own.refl w1⟩
    case round =>
      obtain ⟨k, rfl, rfl, hk, q0⟩ := hrel
      by_cases hlt : k < n
      · obtain ⟨bb, off, rfl, hcl⟩ := HA.out (by omega)
        have e0 := (g0.trans q0).cell (hcl k hlt).1
        have e1 := (g0.trans q0).cell (hcl k hlt).2
        have hmv := HMV.out k hlt
        have hst := HST.out k hlt
        have htt := HTT.out k hlt
        clear hcl
        obtain ⟨⟨x, y⟩, hp⟩ : ∃ p, at' l k = p := ⟨_, rfl⟩
        rw [hp] at e0 e1 hst htt
        simp only at e0 e1 hst htt
        obtain ⟨s2, hs2⟩ : ∃ s, tot (l.take (k + 1)) = s := ⟨_, rfl⟩
        have HS2 := Lib.hid hs2
        rw [hs2] at hmv htt
        generalize tot (l.take k) = s1 at *
        have HMM := Lib.hid hmv
        obtain ⟨p, hpp⟩ : ∃ p, x * y = p := ⟨_, rfl⟩
        have i1 : IntKind.i64.wrap (x * y) = p := by rw [IntWalk.i64_in _ (by omega), hpp]
        rw [hpp] at hst htt
        have i2 : IntKind.i64.wrap (s2 - s1) = p := by rw [show s2 - s1 = p by omega]; exact IntWalk.i64_in _ (by omega)
        have hkn : (k : Int) < n := by omega
        have d1 : (s1 != s1) = false := bne_self_eq_false s1
        have d2 : decide (s2 ≤ s1) = false := decide_eq_false (by omega)
        have d3 : (p != p) = false := bne_self_eq_false p
        clear hmv hp hs2 hst htt hpp
        go_upto_region 9 with (go_at_call 15; refine (pmeasure_at l _ k (s1, s2) 0 _ (Lib.hid (HP.out.own (g0.trans q0))) HMM).mono ?_; rintro e w2 ⟨rfl, hg⟩; replace q0 : Own w1 w2 := q0.trans hg; replace e0 := hg.cell e0; replace e1 := hg.cell e1; clear hg)
        obtain ⟨k0, k1, _, _⟩ := pt_new w2 s1 s2 30
        have q1 : Own w2 (w2.alloc (.cells #[.int .i64 s1, .int .i64 s2] 30)) := (Own.refl w2).alloc _
        replace e0 := q1.cell e0
        replace e1 := q1.cell e1
        replace q0 := q0.trans q1
        clear q1
        generalize w2.alloc (.cells #[.int .i64 s1, .int .i64 s2] 30) = W2 at *
        generalize w2.heap.size = B2 at *
        go_quiet (fail)
        go_wp2
        go_roundw
        case rel => exact ⟨k + 1, by go_num, by rw [HS2.out], hlt, q0.drewN _⟩
        case measure => simp [intOf]; omega
      · obtain rfl : k = n := by omega
        rw [HTL.out]
        replace g0 := g0.trans q0
        have t1 : (v != v) = false := bne_self_eq_false v
        generalize wr = wz at *
        clear q0 HTL HST HTT
        by_cases h1 : 0 ≤ t ∧ t < v
        · obtain ⟨k1, b1, r1, hw, his⟩ := wV_is (wE_ok HC1.out (by rw [HV.out]; exact h1))
          have hwe := wE_ok HC1.out (i := t) (by rw [HV.out]; exact h1)
          have HW := Lib.hid (And.intro hwe hw)
          have hk1 := his.hk
          have hmv := HMV.out k1 (by rw [← HN.out]; exact hk1)
          rw [HN.out] at hk1
          obtain ⟨bb, off, rfl, hcl⟩ := HA.out (by omega)
          have e0 := g0.cell (hcl k1 hk1).1
          have e1 := g0.cell (hcl k1 hk1).2
          have w1' := his.b0
          have w2' := his.hb
          have w3' := his.r0
          have w4' := his.hr
          have w5' := his.ht
          have hat := ok_at HO.out his.hk
          obtain ⟨⟨x, y⟩, hp⟩ : ∃ p, at' l k1 = p := ⟨_, rfl⟩
          rw [hp] at e0 e1 w2' w4' w5' hat
          simp only at e0 e1 w2' w4' w5' hat
          have hle := tot_le HO.out k1
          rw [HV.out] at hle
          generalize tot (l.take (k1 + 1)) = s2 at *
          generalize tot (l.take k1) = s1 at *
          have HMM := Lib.hid hmv
          have hpr1 : 0 ≤ b1 * y := Int.mul_nonneg w1' (by omega)
          obtain ⟨π, hπ⟩ : ∃ p, b1 * y = p := ⟨_, rfl⟩
          rw [hπ] at hpr1 w5'
          have i1 : IntKind.i64.wrap (b1 * y) = π := by rw [hπ]; exact IntWalk.i64_in _ (by omega)
          have i2 : IntKind.i64.wrap (s1 + π) = s1 + π := IntWalk.i64_in _ (by omega)
          have i3 : IntKind.i64.wrap (s1 + π + r1) = t := by rw [← w5']; exact IntWalk.i64_in _ (by omega)
          have hkn : (k1 : Int) < k := by omega
          have d1 : decide (t < 0) = false := decide_eq_false (by omega)
          have d2 : decide (v ≤ t) = false := decide_eq_false (by omega)
          have d3 : decide ((k1 : Int) < 0) = false := decide_eq_false (by omega)
          have d4 : decide ((k : Int) ≤ (k1 : Int)) = false := decide_eq_false (by omega)
          have d5 : decide (b1 < 0) = false := decide_eq_false (by omega)
          have d6 : decide (x ≤ b1) = false := decide_eq_false (by omega)
          have d7 : decide (r1 < 0) = false := decide_eq_false (by omega)
          have d8 : decide (y ≤ r1) = false := decide_eq_false (by omega)
          have d9 : (t == t) = true := beq_self_eq_true t
          clear hw his hmv hcl hwe hp hle hπ h1 w1' w2' w3' w4' w5' hat hpr1
          go_upto_region 15 with (go_at_call 17; refine (pwhere_at l _ t (k1 : Int) b1 r1 0 _ (Lib.hid (HP.out.own g0)) HW).mono ?_; rintro e w3 ⟨rfl, hg⟩; replace g0 : Own w w3 := g0.trans hg; replace e0 := hg.cell e0; replace e1 := hg.cell e1; clear hg)
          go_upto_region 20 with (go_at_call 15; refine (pmeasure_at l _ k1 (s1, s2) 0 _ (Lib.hid (HP.out.own g0)) HMM).mono ?_; rintro e w4 ⟨rfl, hg⟩; replace g0 : Own w w4 := g0.trans hg; replace e0 := hg.cell e0; replace e1 := hg.cell e1; clear hg)
          obtain ⟨k0, k2, _, _⟩ := pt_new w4 s1 s2 30
          have q1 : Own w4 (w4.alloc (.cells #[.int .i64 s1, .int .i64 s2] 30)) := (Own.refl w4).alloc _
          replace e1 := q1.cell e1
          replace g0 := g0.trans q1
          clear q1 e0
          generalize w4.alloc (.cells #[.int .i64 s1, .int .i64 s2] 30) = wr at *
          generalize w4.heap.size = B4 at *
          have k0d : ∀ x : After wr, x.w.cell? ⟨B4, 0, none⟩ = some (.int .i64 s1) := fun x => x.o.cell k0
          have e1d : ∀ x : After wr, x.w.cell? ⟨bb, off + k1 * 2 + 1, none⟩ = some (.int .i64 y) := fun x => x.o.cell e1
          clear k0 k2 e1
          refine region_after wr (by kernel_rfl) (by kernel_rfl) ?_
          repeat (first
            | go_big_quiet_step ((go_at_call 14; refine (awake_any _).mono ?_; rintro e w5 ⟨rfl, hg⟩; exact ⟨rfl, ⟨w5, (After.o _).trans hg⟩, rfl⟩))
            | quiet_step ((go_at_call 14; refine (awake_any _).mono ?_; rintro e w5 ⟨rfl, hg⟩; exact ⟨rfl, ⟨w5, (After.o _).trans hg⟩, rfl⟩)))
          refine wpQuiet_nil ?_
          rintro _ ⟨xx, rfl⟩
          clear k0d e1d
          have d10 := xx.o
          generalize xx.w = w6 at *
          go_wp2
          go_ret
          exact ⟨rfl, g0.trans d10⟩
        · have hwe := wE_no HC1.out (i := t) (by rw [HV.out]; exact h1)
          have hwv := wV_none (l := l) (i := t) (by rw [hwe]; decide)
          have HW := Lib.hid (And.intro hwe hwv)
          have hno : t < 0 ∨ ¬ t < 0 ∧ v ≤ t := by omega
          clear hwe hwv h1
          go_upto_region 15 with (go_at_call 17; refine (pwhere_at l _ t 0 0 0 1 _ (Lib.hid (HP.out.own g0)) HW).mono ?_; rintro e w3 ⟨rfl, hg⟩; replace g0 : Own w w3 := g0.trans hg; clear hg)
          rcases hno with h | ⟨h, h1⟩
          all_goals
            go_wp2_with (go_at_call 14; refine (awake_any _).mono ?_; rintro e w5 ⟨rfl, hg⟩; replace g0 : Own w w5 := g0.trans hg; clear hg)
            go_ret
            exact ⟨rfl, g0⟩
  · obtain rfl : 0 = v := by rw [← hv, lenV_bad (by rw [hc]; exact h0)]
    have d0 : (c != 0) = true := bne_iff_ne.2 h0
    have t1 : (c == c) = true := beq_self_eq_true c
    clear hc hv
    go_enter Try.func6, Try.ntmps6
    go_wp2_with (first
      | (go_at_call 10; refine (plength_at l _ 0 c _ (Lib.hid (HP.out.own g0)) HC).mono ?_; rintro e w1 ⟨rfl, hg⟩; replace g0 : Own w w1 := g0.trans hg; clear hg)
      | (go_at_call 12; refine (pcheck_at l _ c _ (Lib.hid (HP.out.own g0)) HC1).mono ?_; rintro e w1 ⟨rfl, hg⟩; replace g0 : Own w w1 := g0.trans hg; clear hg)
      | (go_at_call 14; refine (awake_any _).mono ?_; rintro e w1 ⟨rfl, hg⟩; replace g0 : Own w w1 := g0.trans hg; clear hg))
    go_ret
    exact ⟨rfl, g0⟩
end Go.Proofs.Ytmmgidchgoligaa.MetW
