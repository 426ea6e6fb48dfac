/-
  Walks of the program's Check and Has, of slices.IndexFunc and ContainsFunc with Has's closure, and of the closures of Union, Common and Minus: what a call returns for every input. Condition: none.
-/
import Derived.Test.YtggceakihapgiaaSpanPlainP
namespace Go.Proofs.Ytggceakihapgiaa.SpaW
open Go.ChangeShapes Go.WideShapes Go.ChangeAt Go.RowKit
open PairW SpaP

set_option maxRecDepth 100000 in
set_option maxHeartbeats 2000000 in
theorem pcheck_at (l : List Sp) (sv : Value) (f : Int) (w : World) (HP : Hid (Pts w sv l)) (H : Hid (chkE l = f)) :
    Calls Try.prog 12 #[sv] w fun e w' => e = .returned (.int .i64 f) ∧ Own w w' := by
  obtain ⟨A, cap, rfl, ha1, ha2, ha⟩ := HP.out.open
  unfold maxLen at ha2
  have HA := Lib.hid ha
  clear ha HP
  obtain ⟨n, hn⟩ : ∃ n, l.length = n := ⟨_, rfl⟩
  rw [hn] at HA ha1 ⊢
  by_cases hb : 128 < n
  · have hf := chkE_big (l := l) (by omega)
    rw [H.out] at hf
    subst hf
    clear hn H
    go_enter Try.func12, Try.ntmps12
    go_wp2
    go_ret
    exact ⟨rfl, Own.refl w⟩
  · have HN := Lib.hid hn
    clear hn
    go_enter Try.func12, Try.ntmps12
    go_wp2
    go_loopw [10] (fun i wr => ∃ k : Nat, i = .int .i64 k ∧ k ≤ n ∧ Own w wr ∧ ∀ j, j < k → okS (at' l j) = true) (fun i _ => n - (intOf i).toNat)
    case atStart => exact ⟨0, rfl, Nat.zero_le _, Own.refl w, fun j hj => absurd hj (Nat.not_lt_zero _)⟩
    case round =>
      obtain ⟨k, rfl, hk, g0, hok⟩ := hrel
      have HOK := Lib.hid hok
      clear hok
      by_cases hlt : k < n
      · obtain ⟨b, off, rfl, hc⟩ := HA.out (by omega)
        have e0 := g0.cell (hc k hlt).1
        have e1 := g0.cell (hc k hlt).2
        clear hc
        obtain ⟨p, hp⟩ : ∃ p, at' l k = p := ⟨_, rfl⟩
        have HP2 := Lib.hid hp
        rw [hp] at e0 e1
        clear hp
        obtain ⟨x, y⟩ := p
        simp only at e0 e1
        obtain ⟨z, z0, _, _⟩ := pt_new wr x y 36
        have g1 : Own w (wr.alloc (.cells #[.int .i64 x, .int .i64 y] 36)) := g0.alloc _
        by_cases c1 : x < 0
        · have hf : chkE l = 1 := chkE_bad (i := k) (by rw [HN.out]; omega) (by rw [HN.out]; exact hlt) (by rw [HP2.out]; unfold okS; rw [decide_eq_false (show ¬ (0 : Int) ≤ x by omega)]; rfl)
          rw [H.out] at hf
          subst hf
          have d1 : decide (x < 0) = true := decide_eq_true c1
          go_upto_region 6 with (fail)
          generalize wr.alloc (.cells #[.int .i64 x, .int .i64 y] 36) = W0 at *
          first | go_quiet (fail) | skip
          go_wp2
          go_ret
          exact ⟨rfl, by first | exact g1.drewN _ | exact g1⟩
        have d1 : decide (x < 0) = false := decide_eq_false c1
        by_cases c2 : y < x
        · have hf : chkE l = 1 := chkE_bad (i := k) (by rw [HN.out]; omega) (by rw [HN.out]; exact hlt) (by rw [HP2.out]; unfold okS; rw [decide_eq_false (show ¬ x ≤ y by omega)]; simp)
          rw [H.out] at hf
          subst hf
          have d2 : decide (y < x) = true := decide_eq_true c2
          go_upto_region 6 with (fail)
          generalize wr.alloc (.cells #[.int .i64 x, .int .i64 y] 36) = W0 at *
          first | go_quiet (fail) | skip
          go_wp2
          go_ret
          exact ⟨rfl, by first | exact g1.drewN _ | exact g1⟩
        have d2 : decide (y < x) = false := decide_eq_false c2
        by_cases c3 : 65536 < y
        · have hf : chkE l = 1 := chkE_bad (i := k) (by rw [HN.out]; omega) (by rw [HN.out]; exact hlt) (by rw [HP2.out]; unfold okS; rw [decide_eq_false (show ¬ y ≤ 65536 by omega)]; simp)
          rw [H.out] at hf
          subst hf
          have d3 : decide (65536 < y) = true := decide_eq_true c3
          go_upto_region 6 with (fail)
          generalize wr.alloc (.cells #[.int .i64 x, .int .i64 y] 36) = W0 at *
          first | go_quiet (fail) | skip
          go_wp2
          go_ret
          exact ⟨rfl, by first | exact g1.drewN _ | exact g1⟩
        have d3 : decide (65536 < y) = false := decide_eq_false c3
        have HT := Lib.hid (show okS (at' l k) = true by rw [HP2.out]; exact (okS_iff (x, y)).2 ⟨by simp only; omega, by simp only; omega, by simp only; omega⟩)
        clear HP2
        go_upto_region 6 with (fail)
        generalize wr.alloc (.cells #[.int .i64 x, .int .i64 y] 36) = W0 at *
        first | go_quiet (fail) | skip
        go_wp2
        go_roundw
        case rel => exact ⟨k + 1, by go_num, hlt, by first | exact g1.drewN _ | exact g1, fun j hj => by
            by_cases e : j = k
            · rw [e]; exact HT.out
            · exact HOK.out j (by omega)⟩
        case measure => simp [intOf]; omega
      · obtain rfl : k = n := by omega
        have hf := chkE_good (l := l) (by rw [HN.out]; omega) (by rw [HN.out]; exact HOK.out)
        rw [H.out] at hf
        subst hf
        go_wp2
        go_ret
        exact ⟨rfl, g0⟩
set_option maxRecDepth 100000 in
set_option maxHeartbeats 2000000 in
theorem phas1_at (p : Sp) (x : Int) (B : Nat) (w : World) (hc : w.cell? ⟨B, 0, none⟩ = some (.int .i64 x)) :
    Calls Try.prog 34 #[.agg #[.int .i64 p.1, .int .i64 p.2], .pointer (some ⟨B, 0, none⟩)] w fun e w' => e = .returned (.bool (decide (p.1 ≤ x) && decide (x < p.2))) ∧ Own w w' := by
  obtain ⟨y, z⟩ := p
  simp only
  obtain ⟨z0, z1, _, _⟩ := pt_new w y z 36
  have g1 : Own w (w.alloc (.cells #[.int .i64 y, .int .i64 z] 36)) := (Own.refl w).alloc _
  replace hc := g1.cell hc
  cases c1 : decide (y ≤ x)
  · rw [Bool.false_and]
    go_enter Try.func34, Try.ntmps34
    go_upto_region 1 with (fail)
    generalize w.alloc (.cells #[.int .i64 y, .int .i64 z] 36) = W0 at *
    first | go_quiet (fail) | skip
    go_wp2
    go_ret
    exact ⟨rfl, by first | exact g1.drewN _ | exact g1⟩
  · rw [Bool.true_and]
    cases c2 : decide (x < z)
    all_goals
      go_enter Try.func34, Try.ntmps34
      go_upto_region 1 with (fail)
      generalize w.alloc (.cells #[.int .i64 y, .int .i64 z] 36) = W0 at *
      first | go_quiet (fail) | skip
      go_wp2
      go_ret
      exact ⟨rfl, by first | exact g1.drewN _ | exact g1⟩
set_option maxRecDepth 100000 in
set_option maxHeartbeats 2000000 in
theorem pindex_at (l : List Sp) (sv : Value) (x : Int) (B : Nat) (t : Bool) (w : World) (HP : Hid (Pts w sv l)) (H : Hid (hasB l x = t)) (hB : w.cell? ⟨B, 0, none⟩ = some (.int .i64 x)) :
    Calls Try.prog 41 #[sv, .func (.func 34) #[] #[.pointer (some ⟨B, 0, none⟩)]] w fun e w' => ∃ r : Int, e = .returned (.int .i64 r) ∧ decide (0 ≤ r) = t ∧ Own w w' := by
  have eg : ∀ args w, (callFunc 34 args).run Try.prog w = .ok (.enter 34 args) w := enters_of Try.func34 (by kernel_rfl) rfl
  obtain ⟨A, cap, rfl, ha1, ha2, ha⟩ := HP.out.open
  unfold maxLen at ha2
  have HA := Lib.hid ha
  clear ha HP
  obtain ⟨n, hn⟩ : ∃ n, l.length = n := ⟨_, rfl⟩
  rw [hn] at HA ha1 ⊢
  have HN := Lib.hid hn
  clear hn
  go_enter Try.func41, Try.ntmps41
  go_wp2
  go_loopw [5, 8] (fun _ i wr => ∃ k : Nat, i = .int .i64 k ∧ k ≤ n ∧ Own w wr ∧ ∀ j, j < k → ¬ ((at' l j).1 ≤ x ∧ x < (at' l j).2)) (fun _ i _ => n - (intOf i).toNat)
  case atStart => exact ⟨0, rfl, Nat.zero_le _, Own.refl w, fun j hj => absurd hj (Nat.not_lt_zero _)⟩
  case round =>
    obtain ⟨k, rfl, hk, g0, hno⟩ := hrel
    have HNO := Lib.hid hno
    clear hno
    by_cases hlt : k < n
    · obtain ⟨b, off, rfl, hc⟩ := HA.out (by omega)
      have e0 := g0.cell (hc k hlt).1
      have e1 := g0.cell (hc k hlt).2
      have e2 := g0.cell hB
      clear hc
      obtain ⟨p, hp⟩ : ∃ p, at' l k = p := ⟨_, rfl⟩
      have HP2 := Lib.hid hp
      rw [hp] at e0 e1
      clear hp
      have hlti : (k : Int) < n := by omega
      have hcall := phas1_at p x B wr e2
      obtain ⟨y, z⟩ := p
      simp only at e0 e1 hcall
      obtain ⟨tq, htq⟩ : ∃ tq, (decide (y ≤ x) && decide (x < z)) = tq := ⟨_, rfl⟩
      have HTQ := Lib.hid htq
      rw [htq] at hcall
      clear htq
      cases tq
      · have hne : ¬ (y ≤ x ∧ x < z) := by
          have := HTQ.out
          rw [Bool.and_eq_false_iff, decide_eq_false_iff_not, decide_eq_false_iff_not] at this
          omega
        have HNE := Lib.hid hne
        clear hne
        go_wp2_with (go_at_fn 34; refine hcall.mono ?_; rintro e w1 ⟨rfl, hg⟩)
        go_roundw
        case rel => exact ⟨k + 1, by go_num, hlt, g0.trans hg, fun j hj => by
            by_cases e : j = k
            · rw [e, HP2.out]; exact HNE.out
            · exact HNO.out j (by omega)⟩
        case measure => simp [intOf]; omega
      · have hyes : y ≤ x ∧ x < z := by
          have := HTQ.out
          rw [Bool.and_eq_true, decide_eq_true_eq, decide_eq_true_eq] at this
          exact this
        have ht : t = true := by rw [← H.out, has_iff]; exact ⟨at' l k, at_mem (by rw [HN.out]; exact hlt), by rw [HP2.out]; exact hyes⟩
        subst ht
        clear hyes
        go_wp2_with (go_at_fn 34; refine hcall.mono ?_; rintro e w1 ⟨rfl, hg⟩)
        go_ret
        exact ⟨k, rfl, decide_eq_true (by omega), g0.trans hg⟩
    · obtain rfl : k = n := by omega
      have ht : t = false := by
        rw [← H.out]
        refine Bool.of_not_eq_true fun hx => ?_
        obtain ⟨s, hs, h1⟩ := (has_iff l x).1 hx
        obtain ⟨i, hi, e⟩ := List.mem_iff_getElem.1 hs
        have := HNO.out i (by rw [← HN.out]; exact hi)
        unfold at' at this
        rw [List.getD_eq_getElem?_getD, List.getElem?_eq_getElem hi, Option.getD_some, e] at this
        exact this h1
      subst ht
      go_wp2
      go_ret
      exact ⟨-1, rfl, rfl, g0⟩
theorem pcontains_at (l : List Sp) (sv : Value) (x : Int) (B : Nat) (t : Bool) (w : World) (HP : Hid (Pts w sv l)) (H : Hid (hasB l x = t)) (hB : w.cell? ⟨B, 0, none⟩ = some (.int .i64 x)) :
    Calls Try.prog 33 #[sv, .func (.func 34) #[] #[.pointer (some ⟨B, 0, none⟩)]] w fun e w' => e = .returned (.bool t) ∧ Own w w' := by
  go_enter Try.func33, Try.ntmps33
  go_upto_region 1 with (fail)
  go_wp2_with (go_at_call 41; refine (pindex_at l _ x B t _ HP H hB).mono ?_; rintro e w1 ⟨r, rfl, hr, g0⟩)
  subst hr
  go_ret
  exact ⟨rfl, g0⟩
theorem phas_at (l : List Sp) (sv : Value) (x : Int) (t : Bool) (w : World) (HP : Hid (Pts w sv l)) (H : Hid (hasB l x = t)) :
    Calls Try.prog 14 #[sv, .int .i64 x] w fun e w' => e = .returned (.bool t) ∧ Own w w' := by
  have g1 : Own w (w.alloc (.cells #[.int .i64 x] 3)) := (Own.refl w).alloc _
  have hB : (w.alloc (.cells #[.int .i64 x] 3)).cell? ⟨w.heap.size, 0, none⟩ = some (.int .i64 x) := by go_simp
  go_enter Try.func14, Try.ntmps14
  go_upto_region 1 with (fail)
  generalize w.alloc (.cells #[.int .i64 x] 3) = W0 at *
  go_wp2_with (go_at_call 33; refine (pcontains_at l _ x _ t _ (Lib.hid (HP.out.own g1)) H hB).mono ?_; rintro e w1 ⟨rfl, hg⟩)
  go_ret
  exact ⟨rfl, g1.trans hg⟩
end Go.Proofs.Ytggceakihapgiaa.SpaW
