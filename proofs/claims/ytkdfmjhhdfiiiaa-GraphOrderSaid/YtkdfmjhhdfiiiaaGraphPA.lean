/-
  Walks of the program of package graph: isNode, Check. Condition: none.
-/
import Derived.Test.YtkdfmjhhdfiiiaaGraphA
namespace Go.Proofs.Ytkdfmjhhdfiiiaa.GraW
open Go.ChangeShapes Go.WideShapes Go.ChangeAt Go.RowKit
open PairW CelW GraP
set_option maxRecDepth 100000 in
theorem pnode_at (N a : Int) (A : Option Addr) (m c : Nat) (t : Bool) (w : World) (H : Hid (inN N a = t)) :
    Calls Try.prog 29 #[.agg #[.int .i64 N, .slice A m c], .int .i64 a] w fun e w' => e = .returned (.bool t) ∧ Own w w' := by
  have ht := H.out
  unfold inN at ht
  clear H
  by_cases h1 : 0 ≤ a
  · have d1 : decide (0 ≤ a) = true := decide_eq_true h1
    rw [d1, Bool.true_and] at ht
    have HT := Lib.hid ht
    clear ht d1
    go_enter Try.func29, Try.ntmps29
    go_wp2
    go_ret
    exact ⟨ret_bool HT.out, (Own.refl w).alloc _⟩
  · have d1 : decide (0 ≤ a) = false := decide_eq_false h1
    rw [d1, Bool.false_and] at ht
    subst ht
    clear d1
    go_enter Try.func29, Try.ntmps29
    go_wp2
    go_ret
    exact ⟨rfl, (Own.refl w).alloc _⟩
set_option maxRecDepth 100000 in
set_option maxHeartbeats 2000000 in
theorem pcheck_at (N : Int) (l : List Ar) (sv : Value) (f : Int) (w : World) (HP : Hid (Pts w sv l)) (H : Hid (chkE N l = f)) :
    Calls Try.prog 11 #[grV N sv] w fun e w' => e = .returned (.int .i64 f) ∧ Own w w' := by
  obtain ⟨A, cap, rfl, ha1, ha2, ha⟩ := HP.out.open
  unfold maxLen at ha2
  have HA := Lib.hid ha
  clear ha HP
  obtain ⟨n, hn⟩ : ∃ n, l.length = n := ⟨_, rfl⟩
  rw [hn] at HA ha1 ⊢
  have HN := Lib.hid hn
  clear hn
  by_cases c1 : N < 0
  · have hf := chk_range (l := l) (.inl c1)
    rw [H.out] at hf
    subst hf
    clear H
    go_enter Try.func11, Try.ntmps11
    go_wp2
    go_ret
    exact ⟨rfl, (Own.refl w).alloc _⟩
  by_cases c2 : 64 < N
  · have hf := chk_range (l := l) (.inr c2)
    rw [H.out] at hf
    subst hf
    clear H
    go_enter Try.func11, Try.ntmps11
    go_wp2
    go_ret
    exact ⟨rfl, (Own.refl w).alloc _⟩
  have HC := Lib.hid (show ¬ (N < 0 ∨ 64 < N) by omega)
  by_cases c3 : 512 < n
  · have hf := chk_full (l := l) HC.out (by rw [HN.out]; exact c3)
    rw [H.out] at hf
    subst hf
    have d3 : (512 : Int) < n := by omega
    clear H
    go_enter Try.func11, Try.ntmps11
    go_wp2
    go_ret
    exact ⟨rfl, (Own.refl w).alloc _⟩
  have d3 : ¬ (512 : Int) < n := by omega
  have HC3 := Lib.hid (show ¬ 512 < l.length by rw [HN.out]; exact c3)
  go_enter Try.func11, Try.ntmps11
  go_upto_region 1 with (fail)
  have k0 : (w.alloc (.cells #[.int .i64 N, .slice A n cap] 24)).cell? ⟨w.heap.size, 0, none⟩ = some (.int .i64 N) := by go_simp
  have k1 : (w.alloc (.cells #[.int .i64 N, .slice A n cap] 24)).cell? ⟨w.heap.size, 1, none⟩ = some (.slice A n cap) := by go_simp
  have g0 : Own w (w.alloc (.cells #[.int .i64 N, .slice A n cap] 24)) := (Own.refl w).alloc _
  generalize hW : w.alloc (.cells #[.int .i64 N, .slice A n cap] 24) = W0 at *
  have HBX := Lib.hid (show w.heap.size < W0.heap.size by rw [← hW]; simp)
  clear hW
  go_wp2
  go_loopw [4, 20] (fun _ i wr => ∃ k : Nat, i = .int .i64 k ∧ k ≤ n ∧ Own W0 wr ∧ ∀ j, j < k → (inN N (at' l j).1 && inN N (at' l j).2) = true) (fun _ i _ => n - (intOf i).toNat)
  case atStart => exact ⟨0, rfl, Nat.zero_le _, Own.refl W0, fun j hj => absurd hj (Nat.not_lt_zero _)⟩
  case round =>
    obtain ⟨k, rfl, hk, g1, hok⟩ := hrel
    have HOK := Lib.hid hok
    clear hok
    replace k0 := g1.cell k0
    replace k1 := g1.cell k1
    by_cases hlt : k < n
    · obtain ⟨b, off, rfl, hc⟩ := HA.out (by omega)
      have c0 := (g0.trans g1).cell (hc k hlt).1
      have c1 := (g0.trans g1).cell (hc k hlt).2
      clear hc
      obtain ⟨p, hp⟩ : ∃ p, at' l k = p := ⟨_, rfl⟩
      have HP2 := Lib.hid hp
      rw [hp] at c0 c1
      clear hp
      obtain ⟨x1, y1⟩ := p
      simp only at c0 c1
      have hkn : (k : Int) < n := by omega
      have q2 := g1.alloc (.cells #[.int .i64 x1, .int .i64 y1] 46)
      have b1 := Lib.hid (Nat.lt_of_lt_of_le HBX.out g1.size)
      cases hx : inN N x1 with
      | false =>
        have HX := Lib.hid hx
        clear hx
        have hf : chkE N l = 6 := chk_none HC.out HC3.out (i := k) (by rw [HN.out]; exact hlt) (by rw [HP2.out, HX.out]; rfl)
        rw [H.out] at hf
        subst hf
        go_upto_region 8 with (fail)
        have k0 := (Own.refl wr |>.alloc (.cells #[.int .i64 x1, .int .i64 y1] 46)).cell k0
        have k1 := (Own.refl wr |>.alloc (.cells #[.int .i64 x1, .int .i64 y1] 46)).cell k1
        have a0 : (wr.alloc (.cells #[.int .i64 x1, .int .i64 y1] 46)).cell? ⟨wr.heap.size, 0, none⟩ = some (.int .i64 x1) := by go_simp
        have a1 : (wr.alloc (.cells #[.int .i64 x1, .int .i64 y1] 46)).cell? ⟨wr.heap.size, 1, none⟩ = some (.int .i64 y1) := by go_simp
        generalize hwa : wr.alloc (.cells #[.int .i64 x1, .int .i64 y1] 46) = wa at *
        clear hwa
        go_wp2_with (go_at_call 29; with_reducible refine (pnode_at N x1 _ _ _ false _ HX).mono ?_; rintro e w2 ⟨rfl, hg⟩; replace k0 := hg.cell k0; replace k1 := hg.cell k1; replace a0 := hg.cell a0; replace a1 := hg.cell a1; replace q2 := q2.trans hg; clear hg)
        go_ret
        exact ⟨rfl, g0.trans q2⟩
      | true =>
        have HX := Lib.hid hx
        clear hx
        cases hy : inN N y1 with
        | false =>
          have HY := Lib.hid hy
          clear hy
          have hf : chkE N l = 6 := chk_none HC.out HC3.out (i := k) (by rw [HN.out]; exact hlt) (by rw [HP2.out, HX.out, HY.out]; rfl)
          rw [H.out] at hf
          subst hf
          go_upto_region 8 with (fail)
          have k0 := (Own.refl wr |>.alloc (.cells #[.int .i64 x1, .int .i64 y1] 46)).cell k0
          have k1 := (Own.refl wr |>.alloc (.cells #[.int .i64 x1, .int .i64 y1] 46)).cell k1
          have a0 : (wr.alloc (.cells #[.int .i64 x1, .int .i64 y1] 46)).cell? ⟨wr.heap.size, 0, none⟩ = some (.int .i64 x1) := by go_simp
          have a1 : (wr.alloc (.cells #[.int .i64 x1, .int .i64 y1] 46)).cell? ⟨wr.heap.size, 1, none⟩ = some (.int .i64 y1) := by go_simp
          generalize hwa : wr.alloc (.cells #[.int .i64 x1, .int .i64 y1] 46) = wa at *
          clear hwa
          go_wp2_with (first | (go_at_call 29; with_reducible refine (pnode_at N x1 _ _ _ true _ HX).mono ?_; rintro e w2 ⟨rfl, hg⟩; replace k0 := hg.cell k0; replace k1 := hg.cell k1; replace a0 := hg.cell a0; replace a1 := hg.cell a1; replace q2 := q2.trans hg; clear hg) | (go_at_call 29; with_reducible refine (pnode_at N y1 _ _ _ false _ HY).mono ?_; rintro e w2 ⟨rfl, hg⟩; replace k0 := hg.cell k0; replace k1 := hg.cell k1; replace a0 := hg.cell a0; replace a1 := hg.cell a1; replace q2 := q2.trans hg; clear hg))
          go_ret
          exact ⟨rfl, g0.trans q2⟩
        | true =>
          have HY := Lib.hid hy
          clear hy
          have HT := Lib.hid (show (inN N (at' l k).1 && inN N (at' l k).2) = true by rw [HP2.out, HX.out, HY.out]; rfl)
          go_upto_region 8 with (fail)
          have k0 := (Own.refl wr |>.alloc (.cells #[.int .i64 x1, .int .i64 y1] 46)).cell k0
          have k1 := (Own.refl wr |>.alloc (.cells #[.int .i64 x1, .int .i64 y1] 46)).cell k1
          have a0 : (wr.alloc (.cells #[.int .i64 x1, .int .i64 y1] 46)).cell? ⟨wr.heap.size, 0, none⟩ = some (.int .i64 x1) := by go_simp
          have a1 : (wr.alloc (.cells #[.int .i64 x1, .int .i64 y1] 46)).cell? ⟨wr.heap.size, 1, none⟩ = some (.int .i64 y1) := by go_simp
          generalize hwa : wr.alloc (.cells #[.int .i64 x1, .int .i64 y1] 46) = wa at *
          clear hwa
          go_wp2_with (first | (go_at_call 29; with_reducible refine (pnode_at N x1 _ _ _ true _ HX).mono ?_; rintro e w2 ⟨rfl, hg⟩; replace k0 := hg.cell k0; replace k1 := hg.cell k1; replace a0 := hg.cell a0; replace a1 := hg.cell a1; replace q2 := q2.trans hg; clear hg) | (go_at_call 29; with_reducible refine (pnode_at N y1 _ _ _ true _ HY).mono ?_; rintro e w2 ⟨rfl, hg⟩; replace k0 := hg.cell k0; replace k1 := hg.cell k1; replace a0 := hg.cell a0; replace a1 := hg.cell a1; replace q2 := q2.trans hg; clear hg))
          go_roundw
          case rel => exact ⟨k + 1, by go_num, hlt, q2, fun j hj => by
              by_cases e : j = k
              · rw [e]; exact HT.out
              · exact HOK.out j (by omega)⟩
          case measure => simp [intOf]; omega
    · obtain rfl : k = n := by omega
      have hf : chkE N l = 0 := chk_good HC.out HC3.out (fun i hi => HOK.out i (by rw [← HN.out]; exact hi))
      rw [H.out] at hf
      subst hf
      go_wp2
      go_ret
      exact ⟨rfl, g0.trans g1⟩
end Go.Proofs.Ytkdfmjhhdfiiiaa.GraW
