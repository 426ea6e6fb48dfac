/-
  Walk of the law SpanFirst. Condition: none.
-/
import Derived.Test.YtggceakihapgiaaSpanPlainC
namespace Go.Proofs.Ytggceakihapgiaa.SpaW
open Go.ChangeShapes Go.WideShapes Go.ChangeAt Go.RowKit
open PairW SpaP

theorem free_no {l : List Sp} {n most f : Int} {v : Sp} (h : freeE l n most = f ∧ freeV l n most = v) (hf : f ≠ 0) : v = (0, 0) := by
  rw [← h.2]; unfold freeV; rw [if_neg (by rw [h.1]; exact hf)]
set_option maxRecDepth 100000 in
set_option maxHeartbeats 4000000 in
theorem SpanFirst_walk (l : List Sp) (sv : Value) (n most b : Int) (w : World) (HP : Hid (Pts w sv l)) :
    Calls Try.prog 10 #[sv, .agg #[.int .i64 n, .int .i64 most, .int .i64 b]] w fun e w' => e = .returned (.bool true) ∧ Own w w' := by
  have H : ∃ f v, Hid (freeE l n most = f ∧ freeV l n most = v) := ⟨_, _, Lib.hid ⟨rfl, rfl⟩⟩
  obtain ⟨f, v, H⟩ := H
  by_cases cf : f = 0
  · subst cf
    obtain ⟨x, hx, ⟨n1, n2⟩, ⟨m1, m2⟩, x1, x2, hX, hL⟩ := first_free H.out.1
    obtain rfl : v = (x, x + n) := H.out.2.symm.trans hx
    have HX := Lib.hid hX
    have HL := Lib.hid hL
    clear hx hX hL
    have q1 : decide (n < 1) = false := decide_eq_false (by omega)
    have q2 : decide (65536 < n) = false := decide_eq_false (by omega)
    have q3 : decide (most < 0) = false := decide_eq_false (by omega)
    have q4 : decide (65536 < most) = false := decide_eq_false (by omega)
    have q5 : decide (x < 0) = false := decide_eq_false (by omega)
    have q6 : decide (most < x) = false := decide_eq_false (by omega)
    have q7 : decide (most < x + n) = false := decide_eq_false (by omega)
    have i1 : IntKind.i64.wrap (x + n - x) = n := by rw [show x + n - x = n by omega]; exact IntWalk.i64_in _ (by omega)
    go_enter Try.func10, Try.ntmps10
    go_upto_region 1 with (fail)
    have b0 : (w.alloc (.cells #[.int .i64 n, .int .i64 most, .int .i64 b] 41)).cell? ⟨w.heap.size, 0, none⟩ = some (.int .i64 n) := by go_simp
    have b1 : (w.alloc (.cells #[.int .i64 n, .int .i64 most, .int .i64 b] 41)).cell? ⟨w.heap.size, 1, none⟩ = some (.int .i64 most) := by go_simp
    have b2 : (w.alloc (.cells #[.int .i64 n, .int .i64 most, .int .i64 b] 41)).cell? ⟨w.heap.size, 2, none⟩ = some (.int .i64 b) := by go_simp
    have g0 : Own w (w.alloc (.cells #[.int .i64 n, .int .i64 most, .int .i64 b] 41)) := (Own.refl w).alloc _
    generalize w.alloc (.cells #[.int .i64 n, .int .i64 most, .int .i64 b] 41) = W0 at *
    go_upto_region 1 with (fail)
    go_quiet (fail)
    replace g0 := g0.drewN nq
    generalize W0.drewN nq = W0 at *
    clear b0 b1 b2
    replace HP := Lib.hid (HP.out.own g0)
    go_upto_region 3 with (go_at_call 29; refine (pfree_at l n most (x, x + n) 0 _ _ H HP).mono ?_; rintro e w1 ⟨rfl, hg⟩; replace HP := Lib.hid (HP.out.own hg); replace g0 : Own w w1 := g0.trans hg; clear hg)
    obtain ⟨k0, k1, _, _⟩ := pt_new w1 x (x + n) 36
    replace HP := Lib.hid (HP.out.own ((Own.refl w1).alloc (.cells #[.int .i64 x, .int .i64 (x + n)] 36)))
    replace g0 := g0.alloc (.cells #[.int .i64 x, .int .i64 (x + n)] 36)
    generalize w1.alloc (.cells #[.int .i64 x, .int .i64 (x + n)] 36) = W1 at *
    generalize w1.heap.size = K1 at *
    go_upto_region 8 with (go_at_call 24; refine (pcommon_at l [(x, x + n)] [] 0 _ _ _ HX (Lib.hid (HP.out.own ((Own.refl _).alloc _))) (Lib.hid (pts_lit _ [(x, x + n)] 1 _ 36 rfl (by decide) rfl))).mono ?_; rintro e w1 ⟨sc, rfl, hf, hg⟩; replace HP := Lib.hid (HP.out.own (((Own.refl _).alloc _).trans hg)); replace k0 := (((Own.refl _).alloc _).trans hg).cell k0; replace k1 := (((Own.refl _).alloc _).trans hg).cell k1; obtain ⟨A, cap, rfl, _⟩ := hf.pts; clear hf; replace g0 : Own w w1 := (g0.alloc _).trans hg; clear hg)
    by_cases c1 : b < 0
    · have d1 : decide (b < 0) = true := decide_eq_true c1
      go_wp2_with (go_at_call 16; refine (awake_any _).mono ?_; rintro e w1 ⟨rfl, hg⟩; replace g0 : Own w w1 := g0.trans hg; clear hg)
      go_ret
      exact ⟨rfl, g0⟩
    · have d1 : decide (b < 0) = false := decide_eq_false c1
      by_cases c2 : x ≤ b
      · have d2 : decide (x ≤ b) = true := decide_eq_true c2
        go_wp2_with (go_at_call 16; refine (awake_any _).mono ?_; rintro e w1 ⟨rfl, hg⟩; replace g0 : Own w w1 := g0.trans hg; clear hg)
        go_ret
        exact ⟨rfl, g0⟩
      · have d2 : decide (x ≤ b) = false := decide_eq_false c2
        obtain ⟨v, hv, hv0⟩ := HL.out b (by omega) (by omega)
        have HV := Lib.hid hv
        obtain ⟨m, hm⟩ : ∃ m, v.length = m := ⟨_, rfl⟩
        rw [hm] at hv0
        have HM := Lib.hid hm
        clear hv hm
        have e1 : decide (0 < m) = true := decide_eq_true hv0
        have e2 : decide ((0 : Int) < (m : Int)) = true := decide_eq_true (by omega)
        have i3 : IntKind.i64.wrap (b + n) = b + n := IntWalk.i64_in _ (by omega)
        clear hv0
        go_upto_region 13 with (first
          | (go_at_call 31; refine (of_at _ _ _).mono ?_; rintro e w3 ⟨rfl, hg⟩; replace HP := Lib.hid (HP.out.own hg); replace g0 : Own w w3 := g0.trans hg; clear hg)
          | (go_at_call 24; refine (pcommon_at l [(b, b + n)] v 0 _ _ _ HV (Lib.hid (HP.out.own ((Own.refl _).alloc _))) (Lib.hid (pts_lit _ [(b, b + n)] 1 _ 36 rfl (by decide) rfl))).mono ?_; rintro e w4 ⟨sd, rfl, hf, hg⟩; obtain ⟨A2, cap2, rfl, _⟩ := hf.pts; clear hf; rw [HM.out]; replace g0 : Own w w4 := (g0.alloc _).trans hg; clear hg))
        go_wp2_with (go_at_call 16; refine (awake_any _).mono ?_; rintro e w1 ⟨rfl, hg⟩; replace g0 : Own w w1 := g0.trans hg; clear hg)
        go_ret
        exact ⟨rfl, g0⟩
  · have d : (f != 0) = true := bne_iff_ne.2 cf
    obtain rfl := free_no H.out cf
    have hpt : ptB 0 0 0 0 = true := by decide
    go_enter Try.func10, Try.ntmps10
    go_upto_region 1 with (fail)
    have b0 : (w.alloc (.cells #[.int .i64 n, .int .i64 most, .int .i64 b] 41)).cell? ⟨w.heap.size, 0, none⟩ = some (.int .i64 n) := by go_simp
    have b1 : (w.alloc (.cells #[.int .i64 n, .int .i64 most, .int .i64 b] 41)).cell? ⟨w.heap.size, 1, none⟩ = some (.int .i64 most) := by go_simp
    have b2 : (w.alloc (.cells #[.int .i64 n, .int .i64 most, .int .i64 b] 41)).cell? ⟨w.heap.size, 2, none⟩ = some (.int .i64 b) := by go_simp
    have g0 : Own w (w.alloc (.cells #[.int .i64 n, .int .i64 most, .int .i64 b] 41)) := (Own.refl w).alloc _
    generalize w.alloc (.cells #[.int .i64 n, .int .i64 most, .int .i64 b] 41) = W0 at *
    go_upto_region 1 with (fail)
    go_quiet (fail)
    replace g0 := g0.drewN nq
    generalize W0.drewN nq = W0 at *
    clear b0 b1 b2
    replace HP := Lib.hid (HP.out.own g0)
    go_upto_region 3 with (go_at_call 29; refine (pfree_at l n most (0, 0) f _ _ H HP).mono ?_; rintro e w1 ⟨rfl, hg⟩; replace HP := Lib.hid (HP.out.own hg); replace g0 : Own w w1 := g0.trans hg; clear hg)
    obtain ⟨k0, k1, _, _⟩ := pt_new w1 0 0 36
    replace HP := Lib.hid (HP.out.own ((Own.refl w1).alloc (.cells #[.int .i64 0, .int .i64 0] 36)))
    replace g0 := g0.alloc (.cells #[.int .i64 0, .int .i64 0] 36)
    generalize w1.alloc (.cells #[.int .i64 0, .int .i64 0] 36) = W1 at *
    generalize w1.heap.size = K1 at *
    go_wp2_with (go_at_call 16; refine (awake_any _).mono ?_; rintro e w1 ⟨rfl, hg⟩; replace g0 : Own w w1 := g0.trans hg; clear hg)
    go_ret
    exact ⟨rfl, g0⟩
end Go.Proofs.Ytggceakihapgiaa.SpaW
