/-
  Package graph: the laws Checks, Orders, Paths, Parts, Closes. Condition: none.
-/
import Derived.Test.YtkdfmjhhdfiiiaaGraphT
import Derived.Test.YtkdfmjhhdfiiiaaGraphM
import Derived.BigQuiet
import Derived.Deep.QuietTactic
namespace Go.Proofs.Ytkdfmjhhdfiiiaa.GraW
open Go.ChangeShapes Go.WideShapes Go.ChangeAt Go.RowKit
open PairW CelW GraP TabW RowA
/-- A graph in memory. -/
theorem box_new (w : World) (N : Int) (sv : Value) : ∃ W0, w.alloc (.cells #[.int .i64 N, sv] 24) = W0 ∧ W0.cell? ⟨w.heap.size, 0, none⟩ = some (.int .i64 N) ∧ W0.cell? ⟨w.heap.size, 1, none⟩ = some sv ∧ Own w W0 :=
  ⟨_, rfl, by go_simp, by go_simp, (Own.refl w).alloc _⟩
theorem slice_of {w : World} {sv : Value} {l : List Ar} (h : Pts w sv l) : ∃ A cap, sv = .slice A l.length cap ∧ l.length ≤ cap ∧ cap ≤ maxLen := by
  obtain ⟨A, cap, h1, h2, h3, _⟩ := h.open
  exact ⟨A, cap, h1, h2, h3⟩
set_option maxRecDepth 100000 in
set_option maxHeartbeats 4000000 in
theorem lchecks_at (N : Int) (l : List Ar) (sv : Value) (w : World) (HP : Hid (Pts w sv l)) :
    Calls Try.prog 3 #[grV N sv] w fun e w' => e = .returned (.bool true) ∧ Own w w' := by
  obtain ⟨A, cap, rfl, a1, a2⟩ := slice_of HP.out
  unfold maxLen at a2
  obtain ⟨m, hm⟩ : ∃ m, l.length = m := ⟨_, rfl⟩
  have HM := Lib.hid hm
  rw [hm] at a1 HP ⊢
  obtain ⟨ce, hce⟩ : ∃ f, chkE N l = f := ⟨_, rfl⟩
  have HCE := Lib.hid hce
  clear hce hm
  by_cases c : 600 < m
  · have d1 : (600 : Int) < m := by omega
    go_enter Try.func3, Try.ntmps3
    go_upto_region 1 with (fail)
    obtain ⟨W0, hW, k0, k1, g0⟩ := box_new w N (.slice A m cap)
    rw [hW]
    clear hW
    have HP0 := Lib.hid (HP.out.own g0)
    have ka : ∀ x : After W0, x.w.cell? ⟨w.heap.size, 0, none⟩ = some (.int .i64 N) := fun x => x.o.cell k0
    have kb : ∀ x : After W0, x.w.cell? ⟨w.heap.size, 1, none⟩ = some (.slice A m cap) := fun x => x.o.cell k1
    refine region_after W0 (by kernel_rfl) (by kernel_rfl) ?_
    repeat (first
      | go_big_quiet_step ((first   | (go_at_call 11; with_reducible refine (pcheck_at N l _ ce _ (Lib.hid (HP0.out.own (After.o _))) HCE).mono ?_; rintro e w2 ⟨rfl, hg⟩; exact ⟨rfl, ⟨w2, (After.o _).trans hg⟩, rfl⟩)   | (go_at_call 12; with_reducible refine (rcheck_at N l _ ce _ (Lib.hid (HP0.out.own (After.o _))) HCE).mono ?_; rintro e w2 ⟨rfl, hg⟩; exact ⟨rfl, ⟨w2, (After.o _).trans hg⟩, rfl⟩)   | (go_at_call 13; with_reducible refine (awake_at _).mono ?_; rintro e w2 ⟨rfl, hg⟩; exact ⟨rfl, ⟨w2, (After.o _).trans hg⟩, rfl⟩)))
      | quiet_step ((first   | (go_at_call 11; with_reducible refine (pcheck_at N l _ ce _ (Lib.hid (HP0.out.own (After.o _))) HCE).mono ?_; rintro e w2 ⟨rfl, hg⟩; exact ⟨rfl, ⟨w2, (After.o _).trans hg⟩, rfl⟩)   | (go_at_call 12; with_reducible refine (rcheck_at N l _ ce _ (Lib.hid (HP0.out.own (After.o _))) HCE).mono ?_; rintro e w2 ⟨rfl, hg⟩; exact ⟨rfl, ⟨w2, (After.o _).trans hg⟩, rfl⟩)   | (go_at_call 13; with_reducible refine (awake_at _).mono ?_; rintro e w2 ⟨rfl, hg⟩; exact ⟨rfl, ⟨w2, (After.o _).trans hg⟩, rfl⟩))))
    refine wpQuiet_nil ?_
    rintro _ ⟨x, rfl⟩
    have q1 := x.o
    generalize x.w = w1 at *
    go_wp2
    go_ret
    exact ⟨rfl, g0.trans q1⟩
  · have d1 : ¬ (600 : Int) < m := by omega
    go_enter Try.func3, Try.ntmps3
    go_upto_region 1 with (fail)
    obtain ⟨W0, hW, k0, k1, g0⟩ := box_new w N (.slice A m cap)
    rw [hW]
    clear hW
    have HP0 := Lib.hid (HP.out.own g0)
    have ka : ∀ x : After W0, x.w.cell? ⟨w.heap.size, 0, none⟩ = some (.int .i64 N) := fun x => x.o.cell k0
    have kb : ∀ x : After W0, x.w.cell? ⟨w.heap.size, 1, none⟩ = some (.slice A m cap) := fun x => x.o.cell k1
    refine region_after W0 (by kernel_rfl) (by kernel_rfl) ?_
    repeat (first
      | go_big_quiet_step ((first   | (go_at_call 11; with_reducible refine (pcheck_at N l _ ce _ (Lib.hid (HP0.out.own (After.o _))) HCE).mono ?_; rintro e w2 ⟨rfl, hg⟩; exact ⟨rfl, ⟨w2, (After.o _).trans hg⟩, rfl⟩)   | (go_at_call 12; with_reducible refine (rcheck_at N l _ ce _ (Lib.hid (HP0.out.own (After.o _))) HCE).mono ?_; rintro e w2 ⟨rfl, hg⟩; exact ⟨rfl, ⟨w2, (After.o _).trans hg⟩, rfl⟩)   | (go_at_call 13; with_reducible refine (awake_at _).mono ?_; rintro e w2 ⟨rfl, hg⟩; exact ⟨rfl, ⟨w2, (After.o _).trans hg⟩, rfl⟩)))
      | quiet_step ((first   | (go_at_call 11; with_reducible refine (pcheck_at N l _ ce _ (Lib.hid (HP0.out.own (After.o _))) HCE).mono ?_; rintro e w2 ⟨rfl, hg⟩; exact ⟨rfl, ⟨w2, (After.o _).trans hg⟩, rfl⟩)   | (go_at_call 12; with_reducible refine (rcheck_at N l _ ce _ (Lib.hid (HP0.out.own (After.o _))) HCE).mono ?_; rintro e w2 ⟨rfl, hg⟩; exact ⟨rfl, ⟨w2, (After.o _).trans hg⟩, rfl⟩)   | (go_at_call 13; with_reducible refine (awake_at _).mono ?_; rintro e w2 ⟨rfl, hg⟩; exact ⟨rfl, ⟨w2, (After.o _).trans hg⟩, rfl⟩))))
    refine wpQuiet_nil ?_
    rintro _ ⟨x, rfl⟩
    have q1 := x.o
    generalize x.w = w1 at *
    go_wp2
    go_ret
    exact ⟨rfl, g0.trans q1⟩
set_option maxRecDepth 100000 in
set_option maxHeartbeats 4000000 in
theorem lorders_at (N : Int) (l : List Ar) (sv : Value) (w : World) (HP : Hid (Pts w sv l)) :
    Calls Try.prog 4 #[grV N sv] w fun e w' => e = .returned (.bool true) ∧ Own w w' := by
  obtain ⟨A, cap, rfl, a1, a2⟩ := slice_of HP.out
  unfold maxLen at a2
  obtain ⟨m, hm⟩ : ∃ m, l.length = m := ⟨_, rfl⟩
  have HM := Lib.hid hm
  rw [hm] at a1 HP ⊢
  cases hlg : ligB N l with
  | false =>
    have HLG := Lib.hid hlg
    clear hlg hm
    go_enter Try.func4, Try.ntmps4
    go_upto_region 1 with (fail)
    obtain ⟨W0, hW, k0, k1, g0⟩ := box_new w N (.slice A m cap)
    rw [hW]
    clear hW
    have HP0 := Lib.hid (HP.out.own g0)
    go_wp2_with (first
            | (go_at_call 14; with_reducible refine (rlight_at N l _ false _ HP0 HLG).mono ?_; rintro e w1 ⟨rfl, q1⟩)
            | (go_at_call 13; with_reducible refine (awake_at _).mono ?_; rintro e w2 ⟨rfl, q2⟩))
    go_ret
    exact ⟨rfl, g0.trans (q1.trans q2)⟩
  | true =>
    have HLG := Lib.hid hlg
    clear hlg hm
    obtain ⟨f, V, hf⟩ : ∃ f V, ordE N l = f ∧ ordV N l = V := ⟨_, _, rfl, rfl⟩
    have HF := Lib.hid hf
    clear hf
    go_enter Try.func4, Try.ntmps4
    go_upto_region 1 with (fail)
    obtain ⟨W0, hW, k0, k1, g0⟩ := box_new w N (.slice A m cap)
    rw [hW]
    clear hW
    have HP0 := Lib.hid (HP.out.own g0)
    go_upto_region 3 with (go_at_call 14; with_reducible refine (rlight_at N l _ true _ HP0 HLG).mono ?_; rintro e w1 ⟨rfl, q1⟩; have HP1 := Lib.hid (HP0.out.own q1); replace k0 := q1.cell k0; replace k1 := q1.cell k1)
    go_upto_region 4 with (go_at_call 15; with_reducible refine (porder_at N l _ f V _ HP1 HF).mono ?_; rintro e w2 ⟨v2, rfl, hr2, q2⟩; have HC2 := Lib.hid (cel_of_row hr2); have HP2 := Lib.hid (HP1.out.own q2); replace k0 := q2.cell k0; replace k1 := q2.cell k1; clear hr2)
    go_upto_region 5 with (go_at_call 16; with_reducible refine (rorder_at N l _ f V _ HP2 HF).mono ?_; rintro e w3 ⟨v3, rfl, hr3, q3⟩; have HC3 := Lib.hid (cel_of_row hr3); have HC2 := Lib.hid (HC2.out.own q3); clear hr3)
    go_wp2_with (first
            | (go_at_call 17; with_reducible refine (rints_yes (ints V) _ _ _ HC2 HC3).mono ?_; rintro e w4 ⟨rfl, q4⟩)
            | (go_at_call 13; with_reducible refine (awake_at _).mono ?_; rintro e w5 ⟨rfl, q5⟩))
    go_ret
    exact ⟨rfl, g0.trans (q1.trans (q2.trans (q3.trans (q4.trans q5))))⟩
set_option maxRecDepth 100000 in
set_option maxHeartbeats 4000000 in
theorem lpaths_at (N : Int) (l : List Ar) (sv : Value) (x y : Int) (w : World) (HP : Hid (Pts w sv l)) :
    Calls Try.prog 5 #[grV N sv, .int .i64 x, .int .i64 y] w fun e w' => e = .returned (.bool true) ∧ Own w w' := by
  obtain ⟨A, cap, rfl, a1, a2⟩ := slice_of HP.out
  unfold maxLen at a2
  obtain ⟨m, hm⟩ : ∃ m, l.length = m := ⟨_, rfl⟩
  have HM := Lib.hid hm
  rw [hm] at a1 HP ⊢
  cases hlg : ligB N l with
  | false =>
    have HLG := Lib.hid hlg
    clear hlg hm
    go_enter Try.func5, Try.ntmps5
    go_upto_region 1 with (fail)
    obtain ⟨W0, hW, k0, k1, g0⟩ := box_new w N (.slice A m cap)
    rw [hW]
    clear hW
    have HP0 := Lib.hid (HP.out.own g0)
    go_wp2_with (first
            | (go_at_call 14; with_reducible refine (rlight_at N l _ false _ HP0 HLG).mono ?_; rintro e w1 ⟨rfl, q1⟩)
            | (go_at_call 13; with_reducible refine (awake_at _).mono ?_; rintro e w2 ⟨rfl, q2⟩))
    go_ret
    exact ⟨rfl, g0.trans (q1.trans q2)⟩
  | true =>
    have HLG := Lib.hid hlg
    clear hlg hm
    obtain ⟨f, V, hf⟩ : ∃ f V, reaE N l x = f ∧ reaV N l x = V := ⟨_, _, rfl, rfl⟩
    have HF := Lib.hid hf
    obtain ⟨g, U, hg⟩ : ∃ g U, pthE N l x y = g ∧ pthV N l x y = U := ⟨_, _, rfl, rfl⟩
    have HG := Lib.hid hg
    clear hf hg
    go_enter Try.func5, Try.ntmps5
    go_upto_region 1 with (fail)
    obtain ⟨W0, hW, k0, k1, g0⟩ := box_new w N (.slice A m cap)
    rw [hW]
    clear hW
    have HP0 := Lib.hid (HP.out.own g0)
    go_upto_region 3 with (go_at_call 14; with_reducible refine (rlight_at N l _ true _ HP0 HLG).mono ?_; rintro e w1 ⟨rfl, q1⟩; have HP1 := Lib.hid (HP0.out.own q1); replace k0 := q1.cell k0; replace k1 := q1.cell k1)
    go_upto_region 4 with (go_at_call 18; with_reducible refine (preach_at N x l _ f V _ HP1 HF).mono ?_; rintro e w2 ⟨v2, rfl, hr2, q2⟩; have HC2 := Lib.hid (cel_of_row hr2); have HP2 := Lib.hid (HP1.out.own q2); replace k0 := q2.cell k0; replace k1 := q2.cell k1; clear hr2)
    go_upto_region 5 with (go_at_call 19; with_reducible refine (rreach_at N x l _ f V _ HP2 HF).mono ?_; rintro e w3 ⟨v3, rfl, hr3, q3⟩; have HC3 := Lib.hid (cel_of_row hr3); have HC2 := Lib.hid (HC2.out.own q3); have HP3 := Lib.hid (HP2.out.own q3); replace k0 := q3.cell k0; replace k1 := q3.cell k1; clear hr3)
    go_upto_region 6 with (go_at_call 20; with_reducible refine (ppath_at N x y l _ g U _ HP3 HG).mono ?_; rintro e w4 ⟨v4, rfl, hr4, q4⟩; have HC4 := Lib.hid (cel_of_row hr4); have HC2 := Lib.hid (HC2.out.own q4); have HC3 := Lib.hid (HC3.out.own q4); have HP4 := Lib.hid (HP3.out.own q4); replace k0 := q4.cell k0; replace k1 := q4.cell k1; clear hr4)
    go_upto_region 7 with (go_at_call 21; with_reducible refine (rpath_at N x y l _ g U _ HP4 HG).mono ?_; rintro e w5 ⟨v5, rfl, hr5, q5⟩; have HC5 := Lib.hid (cel_of_row hr5); have HC2 := Lib.hid (HC2.out.own q5); have HC3 := Lib.hid (HC3.out.own q5); have HC4 := Lib.hid (HC4.out.own q5); clear hr5)
    go_wp2_with (first
            | (go_at_call 22; with_reducible refine (rbools_yes V _ _ _ HC2 HC3).mono ?_; rintro e w6 ⟨rfl, q6⟩; have HC4 := Lib.hid (HC4.out.own q6); have HC5 := Lib.hid (HC5.out.own q6))
            | (go_at_call 17; with_reducible refine (rints_yes (ints U) _ _ _ HC4 HC5).mono ?_; rintro e w7 ⟨rfl, q7⟩)
            | (go_at_call 13; with_reducible refine (awake_at _).mono ?_; rintro e w8 ⟨rfl, q8⟩))
    go_ret
    exact ⟨rfl, g0.trans (q1.trans (q2.trans (q3.trans (q4.trans (q5.trans (q6.trans (q7.trans q8)))))))⟩
set_option maxRecDepth 100000 in
set_option maxHeartbeats 4000000 in
theorem lcloses_at (N : Int) (l : List Ar) (sv : Value) (w : World) (HP : Hid (Pts w sv l)) :
    Calls Try.prog 7 #[grV N sv] w fun e w' => e = .returned (.bool true) ∧ Own w w' := by
  obtain ⟨A, cap, rfl, a1, a2⟩ := slice_of HP.out
  unfold maxLen at a2
  obtain ⟨m, hm⟩ : ∃ m, l.length = m := ⟨_, rfl⟩
  have HM := Lib.hid hm
  rw [hm] at a1 HP ⊢
  cases hlg : ligB N l with
  | false =>
    have HLG := Lib.hid hlg
    clear hlg hm
    go_enter Try.func7, Try.ntmps7
    go_upto_region 1 with (fail)
    obtain ⟨W0, hW, k0, k1, g0⟩ := box_new w N (.slice A m cap)
    rw [hW]
    clear hW
    have HP0 := Lib.hid (HP.out.own g0)
    go_wp2_with (first
            | (go_at_call 14; with_reducible refine (rlight_at N l _ false _ HP0 HLG).mono ?_; rintro e w1 ⟨rfl, q1⟩)
            | (go_at_call 13; with_reducible refine (awake_at _).mono ?_; rintro e w2 ⟨rfl, q2⟩))
    go_ret
    exact ⟨rfl, g0.trans (q1.trans q2)⟩
  | true =>
    have HLG := Lib.hid hlg
    clear hlg hm
    obtain ⟨f, M, V, hf⟩ : ∃ f M V, clzE N l = f ∧ clzN N l = M ∧ clzL N l = V := ⟨_, _, _, rfl, rfl, rfl⟩
    have HF := Lib.hid hf
    clear hf
    go_enter Try.func7, Try.ntmps7
    go_upto_region 1 with (fail)
    obtain ⟨W0, hW, k0, k1, g0⟩ := box_new w N (.slice A m cap)
    rw [hW]
    clear hW
    have HP0 := Lib.hid (HP.out.own g0)
    go_upto_region 3 with (go_at_call 14; with_reducible refine (rlight_at N l _ true _ HP0 HLG).mono ?_; rintro e w1 ⟨rfl, q1⟩; have HP1 := Lib.hid (HP0.out.own q1); replace k0 := q1.cell k0; replace k1 := q1.cell k1)
    go_upto_region 4 with (go_at_call 25; with_reducible refine (pclose_at N l _ f M V _ HP1 HF).mono ?_; rintro e w2 ⟨v2, rfl, hr2, q2⟩; obtain ⟨A2, c2, rfl, _⟩ := slice_of hr2; have HC2 := Lib.hid hr2; have HP2 := Lib.hid (HP1.out.own q2); replace k0 := q2.cell k0; replace k1 := q2.cell k1; clear hr2)
    obtain ⟨w3, hw3, b0, b1, q3⟩ := box_new w2 M (.slice A2 V.length c2)
    rw [hw3]
    have HP3 := Lib.hid (HP2.out.own q3)
    have HC3 := Lib.hid (HC2.out.own q3)
    replace k0 := q3.cell k0
    replace k1 := q3.cell k1
    clear hw3
    go_upto_region 5 with (go_at_call 26; with_reducible refine (rclose_at N l _ f M V _ HP3 HF).mono ?_; rintro e w4 ⟨v4, rfl, hr4, q4⟩; obtain ⟨A4, c4, rfl, _⟩ := slice_of hr4; have HC4 := Lib.hid hr4; have HC3 := Lib.hid (HC3.out.own q4); replace b0 := q4.cell b0; replace b1 := q4.cell b1; clear hr4)
    obtain ⟨w5, hw5, d0, d1, q5⟩ := box_new w4 M (.slice A4 V.length c4)
    rw [hw5]
    have HC5 := Lib.hid (HC4.out.own q5)
    have HC6 := Lib.hid (HC3.out.own q5)
    replace b0 := q5.cell b0
    replace b1 := q5.cell b1
    clear hw5
    go_wp2_with (first
            | (go_at_call 27; with_reducible refine (rsame_yes M V _ _ _ HC6 HC5).mono ?_; rintro e w6 ⟨rfl, q6⟩)
            | (go_at_call 13; with_reducible refine (awake_at _).mono ?_; rintro e w7 ⟨rfl, q7⟩))
    go_ret
    exact ⟨rfl, g0.trans (q1.trans (q2.trans (q3.trans (q4.trans (q5.trans (q6.trans q7))))))⟩
set_option maxRecDepth 100000 in
set_option maxHeartbeats 4000000 in
theorem lparts_at (N : Int) (l : List Ar) (sv : Value) (w : World) (HP : Hid (Pts w sv l)) :
    Calls Try.prog 6 #[grV N sv] w fun e w' => e = .returned (.bool true) ∧ Own w w' := by
  obtain ⟨A, cap, rfl, a1, a2⟩ := slice_of HP.out
  unfold maxLen at a2
  obtain ⟨m, hm⟩ : ∃ m, l.length = m := ⟨_, rfl⟩
  have HM := Lib.hid hm
  rw [hm] at a1 HP ⊢
  cases hlg : ligB N l with
  | false =>
    have HLG := Lib.hid hlg
    clear hlg hm
    go_enter Try.func6, Try.ntmps6
    go_upto_region 1 with (fail)
    obtain ⟨W0, hW, k0, k1, g0⟩ := box_new w N (.slice A m cap)
    rw [hW]
    clear hW
    have HP0 := Lib.hid (HP.out.own g0)
    go_wp2_with (first
            | (go_at_call 14; with_reducible refine (rlight_at N l _ false _ HP0 HLG).mono ?_; rintro e w1 ⟨rfl, q1⟩)
            | (go_at_call 13; with_reducible refine (awake_at _).mono ?_; rintro e w2 ⟨rfl, q2⟩))
    go_ret
    exact ⟨rfl, g0.trans (q1.trans q2)⟩
  | true =>
    have HLG := Lib.hid hlg
    clear hlg hm
    obtain ⟨f, V, hf⟩ : ∃ f V, chkE N l = f ∧ parW N l = V := ⟨_, _, rfl, rfl⟩
    have HF := Lib.hid hf
    clear hf
    go_enter Try.func6, Try.ntmps6
    go_upto_region 1 with (fail)
    obtain ⟨W0, hW, k0, k1, g0⟩ := box_new w N (.slice A m cap)
    rw [hW]
    clear hW
    have HP0 := Lib.hid (HP.out.own g0)
    go_upto_region 3 with (go_at_call 14; with_reducible refine (rlight_at N l _ true _ HP0 HLG).mono ?_; rintro e w1 ⟨rfl, q1⟩; have HP1 := Lib.hid (HP0.out.own q1); replace k0 := q1.cell k0; replace k1 := q1.cell k1)
    go_upto_region 4 with (go_at_call 23; with_reducible refine (pparts_at N l _ f V _ HP1 HF).mono ?_; rintro e w2 ⟨v2, vs2, rfl, hr2, q2⟩; have HC2 := Lib.hid hr2.cels; have HP2 := Lib.hid (HP1.out.own q2); replace k0 := q2.cell k0; replace k1 := q2.cell k1; clear hr2)
    go_upto_region 5 with (go_at_call 24; with_reducible refine (rparts_at N l _ f V _ HP2 HF).mono ?_; rintro e w3 ⟨v3, vs3, rfl, hr3, q3⟩; have HC3 := Lib.hid hr3.cels; have HC2 := Lib.hid (HC2.out.own q3); clear hr3)
    obtain ⟨A2, c2, rfl, a21, a22, a23⟩ := cels_open HC2.out
    obtain ⟨A3, c3, rfl, a31, a32, a33⟩ := cels_open HC3.out
    obtain ⟨z, hz⟩ : ∃ z, (cellsL V).length = z := ⟨_, rfl⟩
    rw [hz] at a21 a23 a31 a33 ⊢
    unfold maxLen at a22 a32
    have H2 := Lib.hid a23
    have H3 := Lib.hid a33
    have HZ := Lib.hid hz
    clear a23 a33 hz k0 k1
    go_upto_region 8 with (fail)
    go_loopw [7] (fun vi wr => ∃ i : Nat, vi = .int .i64 (i : Int) ∧ i ≤ z ∧ Own w3 wr) (fun vi _ => z - (intOf vi).toNat)
    case atStart => exact ⟨0, rfl, Nat.zero_le _, Own.refl _⟩
    case round =>
      obtain ⟨i, rfl, hi, q⟩ := hrel
      by_cases hlt : i < z
      · have hiz : (i : Int) < z := by omega
        obtain ⟨g2, o2, rfl, e2⟩ := H2.out (by omega)
        obtain ⟨g3, o3, rfl, e3⟩ := H3.out (by omega)
        obtain ⟨r, hr⟩ : ∃ r, V[i]? = some r := ⟨_, List.getElem?_eq_getElem (show i < V.length by have := HZ.out; rw [cellsL_len] at this; omega)⟩
        have hrr : (cellsL V)[i]? = some (cellsI (ints r)) := by unfold cellsL; rw [List.getElem?_map, hr]; rfl
        obtain ⟨u2, x2, y2⟩ := e2 i _ hrr
        obtain ⟨u3, x3, y3⟩ := e3 i _ hrr
        have HY2 := Lib.hid (y2.own q)
        have HY3 := Lib.hid (y3.own q)
        have ka : ∀ x : After wr, x.w.cell? ⟨g2, o2 + i, none⟩ = some u2 := fun x => x.o.cell (q.cell x2)
        have kb : ∀ x : After wr, x.w.cell? ⟨g3, o3 + i, none⟩ = some u3 := fun x => x.o.cell (q.cell x3)
        clear e2 e3 hr hrr y2 y3 x2 x3
        go_upto_region 10 with (fail)
        refine region_after wr (by kernel_rfl) (by kernel_rfl) ?_
        repeat (first
          | go_big_quiet_step ((first   | (go_at_call 17; with_reducible refine (rints_yes (ints r) _ _ _ (Lib.hid (HY2.out.own (After.o _))) (Lib.hid (HY3.out.own (After.o _)))).mono ?_; rintro e w2 ⟨rfl, hg⟩; exact ⟨rfl, ⟨w2, (After.o _).trans hg⟩, rfl⟩)))
          | quiet_step ((first   | (go_at_call 17; with_reducible refine (rints_yes (ints r) _ _ _ (Lib.hid (HY2.out.own (After.o _))) (Lib.hid (HY3.out.own (After.o _)))).mono ?_; rintro e w2 ⟨rfl, hg⟩; exact ⟨rfl, ⟨w2, (After.o _).trans hg⟩, rfl⟩))))
        refine wpQuiet_nil ?_
        rintro _ ⟨x, rfl⟩
        have qq := x.o
        generalize x.w = w5 at *
        clear ka kb
        go_wp2
        go_roundw
        case rel => exact ⟨i + 1, by go_num, hlt, q.trans qq⟩
        case measure => simp [intOf]; omega
      · obtain rfl : i = z := by omega
        go_wp2_with (go_at_call 13; with_reducible refine (awake_at _).mono ?_; rintro e w7 ⟨rfl, q7⟩)
        go_ret
        exact ⟨rfl, g0.trans (q1.trans (q2.trans (q3.trans (q.trans q7))))⟩
end Go.Proofs.Ytkdfmjhhdfiiiaa.GraW
