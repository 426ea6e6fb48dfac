/-
  Walks of the specification of package graph: node, Check, Has. Condition: none.
-/
import Derived.Test.YtkdfmjhhdfiiiaaGraphPlain
import Derived.Test.YtkdfmjhhdfiiiaaCells
namespace Go.Proofs.Ytkdfmjhhdfiiiaa.GraW
open Go.ChangeShapes Go.WideShapes Go.ChangeAt Go.RowKit
open PairW CelW GraP
def inN (N a : Int) : Bool := decide (0 ≤ a) && decide (a < N)
theorem inN_iff {N a : Int} : inN N a = true ↔ 0 ≤ a ∧ a < N := by unfold inN; simp
/-- What Check returns. -/
def chkE (N : Int) (l : List Ar) : Int := if N < 0 ∨ 64 < N then 1 else if 512 < l.length then 3 else if l.all (fun p => inN N p.1 && inN N p.2) = true then 0 else 6
theorem chk_ok {N : Int} {l : List Ar} : chkE N l = 0 ↔ 0 ≤ N ∧ N ≤ 64 ∧ l.length ≤ 512 ∧ Fit N.toNat l := by
  unfold chkE
  by_cases c1 : N < 0 ∨ 64 < N
  · rw [if_pos c1]
    exact ⟨fun h => (by cases h), fun h => by omega⟩
  · rw [if_neg c1]
    by_cases c2 : 512 < l.length
    · rw [if_pos c2]
      exact ⟨fun h => (by cases h), fun h => by omega⟩
    · rw [if_neg c2]
      have e : l.all (fun p => inN N p.1 && inN N p.2) = true ↔ Fit N.toNat l := by
        rw [List.all_eq_true]
        unfold Fit
        constructor
        · intro h p hp
          have := h p hp
          rw [Bool.and_eq_true, inN_iff, inN_iff] at this
          omega
        · intro h p hp
          have := h p hp
          rw [Bool.and_eq_true, inN_iff, inN_iff]
          omega
      by_cases c3 : l.all (fun p => inN N p.1 && inN N p.2) = true
      · rw [if_pos c3]
        exact ⟨fun _ => ⟨by omega, by omega, by omega, e.1 c3⟩, fun _ => rfl⟩
      · rw [if_neg c3]
        exact ⟨fun h => by omega, fun h => absurd (e.2 h.2.2.2) c3⟩
theorem chk_range {N : Int} {l : List Ar} (h : N < 0 ∨ 64 < N) : chkE N l = 1 := if_pos h
theorem chk_full {N : Int} {l : List Ar} (h : ¬ (N < 0 ∨ 64 < N)) (k : 512 < l.length) : chkE N l = 3 := by unfold chkE; rw [if_neg h, if_pos k]
theorem chk_none {N : Int} {l : List Ar} (h : ¬ (N < 0 ∨ 64 < N)) (k : ¬ 512 < l.length) {i : Nat} (hi : i < l.length) (hb : (inN N (at' l i).1 && inN N (at' l i).2) = false) : chkE N l = 6 := by
  unfold chkE
  rw [if_neg h, if_neg k, if_neg]
  intro h2
  have := List.all_eq_true.1 h2 _ (at_mem hi)
  rw [hb] at this
  cases this
theorem all_at {l : List Ar} {p : Ar → Prop} (h : ∀ i, i < l.length → p (at' l i)) : ∀ q ∈ l, p q := by
  intro q hq
  obtain ⟨i, hi, e⟩ := List.mem_iff_getElem.1 hq
  have := h i hi
  unfold at' at this
  rw [List.getD_eq_getElem?_getD, List.getElem?_eq_getElem hi, Option.getD_some, e] at this
  exact this
theorem chk_good {N : Int} {l : List Ar} (h : ¬ (N < 0 ∨ 64 < N)) (k : ¬ 512 < l.length) (hb : ∀ i, i < l.length → (inN N (at' l i).1 && inN N (at' l i).2) = true) : chkE N l = 0 := by
  unfold chkE
  rw [if_neg h, if_neg k, if_pos (List.all_eq_true.2 (all_at hb))]
set_option maxRecDepth 100000 in
theorem rnode_at (N a : Int) (A : Option Addr) (m c : Nat) (t : Bool) (w : World) (H : Hid (inN N a = t)) :
    Calls Try.prog 30 #[.agg #[.int .i64 N, .slice A m c], .int .i64 a] w fun e w' => e = .returned (.bool t) ∧ Own w w' := by
  have ht := H.out
  unfold inN at ht
  clear H
  by_cases h1 : 0 ≤ a
  · have d1 : decide (0 ≤ a) = true := decide_eq_true h1
    rw [d1, Bool.true_and] at ht
    have HT := Lib.hid ht
    clear ht d1
    go_enter Try.func30, Try.ntmps30
    go_wp2
    go_ret
    exact ⟨ret_bool HT.out, (Own.refl w).alloc _⟩
  · have d1 : decide (0 ≤ a) = false := decide_eq_false h1
    rw [d1, Bool.false_and] at ht
    subst ht
    clear d1
    go_enter Try.func30, Try.ntmps30
    go_wp2
    go_ret
    exact ⟨rfl, (Own.refl w).alloc _⟩
/-- A graph as a value. -/
abbrev grV (N : Int) (sv : Value) : Value := .agg #[.int .i64 N, sv]
set_option maxRecDepth 100000 in
set_option maxHeartbeats 2000000 in
theorem rcheck_at (N : Int) (l : List Ar) (sv : Value) (f : Int) (w : World) (HP : Hid (Pts w sv l)) (H : Hid (chkE N l = f)) :
    Calls Try.prog 12 #[grV N sv] w fun e w' => e = .returned (.int .i64 f) ∧ Own w w' := by
  obtain ⟨A, cap, rfl, ha1, ha2, ha⟩ := HP.out.open
  unfold maxLen at ha2
  have HA := Lib.hid ha
  clear ha HP
  obtain ⟨n, hn⟩ : ∃ n, l.length = n := ⟨_, rfl⟩
  rw [hn] at HA ha1 ⊢
  have HN := Lib.hid hn
  clear hn
  by_cases c1 : N < 0
  · have hf := chk_range (l := l) (.inl c1)
    rw [H.out] at hf
    subst hf
    clear H
    go_enter Try.func12, Try.ntmps12
    go_wp2
    go_ret
    exact ⟨rfl, (Own.refl w).alloc _⟩
  by_cases c2 : 64 < N
  · have hf := chk_range (l := l) (.inr c2)
    rw [H.out] at hf
    subst hf
    clear H
    go_enter Try.func12, Try.ntmps12
    go_wp2
    go_ret
    exact ⟨rfl, (Own.refl w).alloc _⟩
  have HC := Lib.hid (show ¬ (N < 0 ∨ 64 < N) by omega)
  by_cases c3 : 512 < n
  · have hf := chk_full (l := l) HC.out (by rw [HN.out]; exact c3)
    rw [H.out] at hf
    subst hf
    have d3 : (512 : Int) < n := by omega
    clear H
    go_enter Try.func12, Try.ntmps12
    go_wp2
    go_ret
    exact ⟨rfl, (Own.refl w).alloc _⟩
  have d3 : ¬ (512 : Int) < n := by omega
  have HC3 := Lib.hid (show ¬ 512 < l.length by rw [HN.out]; exact c3)
  go_enter Try.func12, Try.ntmps12
  go_upto_region 1 with (fail)
  have k0 : (w.alloc (.cells #[.int .i64 N, .slice A n cap] 24)).cell? ⟨w.heap.size, 0, none⟩ = some (.int .i64 N) := by go_simp
  have k1 : (w.alloc (.cells #[.int .i64 N, .slice A n cap] 24)).cell? ⟨w.heap.size, 1, none⟩ = some (.slice A n cap) := by go_simp
  have g0 : Own w (w.alloc (.cells #[.int .i64 N, .slice A n cap] 24)) := (Own.refl w).alloc _
  generalize hW : w.alloc (.cells #[.int .i64 N, .slice A n cap] 24) = W0 at *
  have HBX := Lib.hid (show w.heap.size < W0.heap.size by rw [← hW]; simp)
  clear hW
  go_wp2
  go_loopw [3] (fun i wr => ∃ k : Nat, i = .int .i64 k ∧ k ≤ n ∧ Own W0 wr ∧ ∀ j, j < k → (inN N (at' l j).1 && inN N (at' l j).2) = true) (fun i _ => n - (intOf i).toNat)
  case atStart => exact ⟨0, rfl, Nat.zero_le _, Own.refl W0, fun j hj => absurd hj (Nat.not_lt_zero _)⟩
  case round =>
    obtain ⟨k, rfl, hk, g1, hok⟩ := hrel
    have HOK := Lib.hid hok
    clear hok
    replace k0 := g1.cell k0
    replace k1 := g1.cell k1
    by_cases hlt : k < n
    · obtain ⟨b, off, rfl, hc⟩ := HA.out (by omega)
      have c0 := (g0.trans g1).cell (hc k hlt).1
      have c1 := (g0.trans g1).cell (hc k hlt).2
      clear hc
      obtain ⟨p, hp⟩ : ∃ p, at' l k = p := ⟨_, rfl⟩
      have HP2 := Lib.hid hp
      rw [hp] at c0 c1
      clear hp
      obtain ⟨x1, y1⟩ := p
      simp only at c0 c1
      have hkn : (k : Int) < n := by omega
      cases hx : inN N x1 with
      | false =>
        have HX := Lib.hid hx
        clear hx
        have hf : chkE N l = 6 := chk_none HC.out HC3.out (i := k) (by rw [HN.out]; exact hlt) (by rw [HP2.out, HX.out]; rfl)
        rw [H.out] at hf
        subst hf
        go_upto_region 8 with (fail)
        have c0d : ∀ x : After wr, x.w.cell? ⟨b, off + k * 2, none⟩ = some (.int .i64 x1) := fun x => x.o.cell c0
        have c1d : ∀ x : After wr, x.w.cell? ⟨b, off + k * 2 + 1, none⟩ = some (.int .i64 y1) := fun x => x.o.cell c1
        have k0d : ∀ x : After wr, x.w.cell? ⟨w.heap.size, 0, none⟩ = some (.int .i64 N) := fun x => x.o.cell k0
        have k1d : ∀ x : After wr, x.w.cell? ⟨w.heap.size, 1, none⟩ = some (.slice (some ⟨b, off, none⟩) n cap) := fun x => x.o.cell k1
        clear c0 c1 k0 k1
        refine region_after wr (by kernel_rfl) (by kernel_rfl) ?_
        repeat (first
          | go_big_quiet_step ((((go_at_call 30; first | (with_reducible refine (rnode_at N x1 _ _ _ false _ HX).mono ?_; rintro e w2 ⟨rfl, hg⟩; exact ⟨rfl, ⟨w2, (After.o _).trans hg⟩, rfl⟩)))))
          | quiet_step ((((go_at_call 30; first | (with_reducible refine (rnode_at N x1 _ _ _ false _ HX).mono ?_; rintro e w2 ⟨rfl, hg⟩; exact ⟨rfl, ⟨w2, (After.o _).trans hg⟩, rfl⟩))))))
        refine wpQuiet_nil ?_
        rintro _ ⟨x, rfl⟩
        clear c0d c1d k0d k1d
        have d4 := x.o
        generalize x.w = w2 at *
        go_wp2
        go_ret
        exact ⟨rfl, (g0.trans g1).trans d4⟩
      | true =>
        have HX := Lib.hid hx
        clear hx
        cases hy : inN N y1 with
        | false =>
          have HY := Lib.hid hy
          clear hy
          have hf : chkE N l = 6 := chk_none HC.out HC3.out (i := k) (by rw [HN.out]; exact hlt) (by rw [HP2.out, HX.out, HY.out]; rfl)
          rw [H.out] at hf
          subst hf
          go_upto_region 8 with (fail)
          have c0d : ∀ x : After wr, x.w.cell? ⟨b, off + k * 2, none⟩ = some (.int .i64 x1) := fun x => x.o.cell c0
          have c1d : ∀ x : After wr, x.w.cell? ⟨b, off + k * 2 + 1, none⟩ = some (.int .i64 y1) := fun x => x.o.cell c1
          have k0d : ∀ x : After wr, x.w.cell? ⟨w.heap.size, 0, none⟩ = some (.int .i64 N) := fun x => x.o.cell k0
          have k1d : ∀ x : After wr, x.w.cell? ⟨w.heap.size, 1, none⟩ = some (.slice (some ⟨b, off, none⟩) n cap) := fun x => x.o.cell k1
          clear c0 c1 k0 k1
          refine region_after wr (by kernel_rfl) (by kernel_rfl) ?_
          repeat (first
            | go_big_quiet_step ((((go_at_call 30; first | (with_reducible refine (rnode_at N x1 _ _ _ true _ HX).mono ?_; rintro e w2 ⟨rfl, hg⟩; exact ⟨rfl, ⟨w2, (After.o _).trans hg⟩, rfl⟩) | (with_reducible refine (rnode_at N y1 _ _ _ false _ HY).mono ?_; rintro e w2 ⟨rfl, hg⟩; exact ⟨rfl, ⟨w2, (After.o _).trans hg⟩, rfl⟩)))))
            | quiet_step ((((go_at_call 30; first | (with_reducible refine (rnode_at N x1 _ _ _ true _ HX).mono ?_; rintro e w2 ⟨rfl, hg⟩; exact ⟨rfl, ⟨w2, (After.o _).trans hg⟩, rfl⟩) | (with_reducible refine (rnode_at N y1 _ _ _ false _ HY).mono ?_; rintro e w2 ⟨rfl, hg⟩; exact ⟨rfl, ⟨w2, (After.o _).trans hg⟩, rfl⟩))))))
          refine wpQuiet_nil ?_
          rintro _ ⟨x, rfl⟩
          clear c0d c1d k0d k1d
          have d4 := x.o
          generalize x.w = w2 at *
          go_wp2
          go_ret
          exact ⟨rfl, (g0.trans g1).trans d4⟩
        | true =>
          have HY := Lib.hid hy
          clear hy
          have HT := Lib.hid (show (inN N (at' l k).1 && inN N (at' l k).2) = true by rw [HP2.out, HX.out, HY.out]; rfl)
          go_upto_region 8 with (fail)
          have c0d : ∀ x : After wr, x.w.cell? ⟨b, off + k * 2, none⟩ = some (.int .i64 x1) := fun x => x.o.cell c0
          have c1d : ∀ x : After wr, x.w.cell? ⟨b, off + k * 2 + 1, none⟩ = some (.int .i64 y1) := fun x => x.o.cell c1
          have k0d : ∀ x : After wr, x.w.cell? ⟨w.heap.size, 0, none⟩ = some (.int .i64 N) := fun x => x.o.cell k0
          have k1d : ∀ x : After wr, x.w.cell? ⟨w.heap.size, 1, none⟩ = some (.slice (some ⟨b, off, none⟩) n cap) := fun x => x.o.cell k1
          clear c0 c1 k0 k1
          refine region_after wr (by kernel_rfl) (by kernel_rfl) ?_
          repeat (first
            | go_big_quiet_step ((((go_at_call 30; first | (with_reducible refine (rnode_at N x1 _ _ _ true _ HX).mono ?_; rintro e w2 ⟨rfl, hg⟩; exact ⟨rfl, ⟨w2, (After.o _).trans hg⟩, rfl⟩) | (with_reducible refine (rnode_at N y1 _ _ _ true _ HY).mono ?_; rintro e w2 ⟨rfl, hg⟩; exact ⟨rfl, ⟨w2, (After.o _).trans hg⟩, rfl⟩)))))
            | quiet_step ((((go_at_call 30; first | (with_reducible refine (rnode_at N x1 _ _ _ true _ HX).mono ?_; rintro e w2 ⟨rfl, hg⟩; exact ⟨rfl, ⟨w2, (After.o _).trans hg⟩, rfl⟩) | (with_reducible refine (rnode_at N y1 _ _ _ true _ HY).mono ?_; rintro e w2 ⟨rfl, hg⟩; exact ⟨rfl, ⟨w2, (After.o _).trans hg⟩, rfl⟩))))))
          refine wpQuiet_nil ?_
          rintro _ ⟨x, rfl⟩
          clear c0d c1d k0d k1d
          have d4 := x.o
          generalize x.w = w2 at *
          go_wp2
          go_roundw
          case rel => exact ⟨k + 1, by go_num, hlt, g1.trans d4, fun j hj => by
              by_cases e : j = k
              · rw [e]; exact HT.out
              · exact HOK.out j (by omega)⟩
          case measure => simp [intOf]; omega
    · obtain rfl : k = n := by omega
      have hf : chkE N l = 0 := chk_good HC.out HC3.out (fun i hi => HOK.out i (by rw [← HN.out]; exact hi))
      rw [H.out] at hf
      subst hf
      go_wp2
      go_ret
      exact ⟨rfl, g0.trans g1⟩
set_option maxRecDepth 100000 in
set_option maxHeartbeats 2000000 in
theorem rhas_at (N : Int) (l : List Ar) (sv : Value) (x y : Int) (t : Bool) (w : World) (HP : Hid (Pts w sv l)) (H : Hid (decide ((x, y) ∈ l) = t)) :
    Calls Try.prog 28 #[grV N sv, .int .i64 x, .int .i64 y] w fun e w' => e = .returned (.bool t) ∧ Own w w' := by
  obtain ⟨A, cap, rfl, ha1, ha2, ha⟩ := HP.out.open
  unfold maxLen at ha2
  have HA := Lib.hid ha
  clear ha HP
  obtain ⟨n, hn⟩ : ∃ n, l.length = n := ⟨_, rfl⟩
  rw [hn] at HA ha1 ⊢
  have HN := Lib.hid hn
  clear hn
  go_enter Try.func28, Try.ntmps28
  go_upto_region 1 with (fail)
  have k0 : (w.alloc (.cells #[.int .i64 N, .slice A n cap] 24)).cell? ⟨w.heap.size, 0, none⟩ = some (.int .i64 N) := by go_simp
  have k1 : (w.alloc (.cells #[.int .i64 N, .slice A n cap] 24)).cell? ⟨w.heap.size, 1, none⟩ = some (.slice A n cap) := by go_simp
  have g0 : Own w (w.alloc (.cells #[.int .i64 N, .slice A n cap] 24)) := (Own.refl w).alloc _
  generalize hW : w.alloc (.cells #[.int .i64 N, .slice A n cap] 24) = W0 at *
  have HBX := Lib.hid (show w.heap.size < W0.heap.size by rw [← hW]; simp)
  clear hW
  go_wp2
  go_loop [7] (fun i => ∃ k : Nat, i = .int .i64 k ∧ k ≤ n ∧ ∀ j, j < k → at' l j ≠ (x, y)) (fun i => n - (intOf i).toNat)
  case atStart => exact ⟨0, rfl, Nat.zero_le _, fun j hj => absurd hj (Nat.not_lt_zero _)⟩
  case round =>
    obtain ⟨k, rfl, hk, hok⟩ := hrel
    have HOK := Lib.hid hok
    clear hok
    by_cases hlt : k < n
    · obtain ⟨b, off, rfl, hc⟩ := HA.out (by omega)
      have c0 := g0.cell (hc k hlt).1
      have c1 := g0.cell (hc k hlt).2
      clear hc
      have hmem := at_mem (h := l) (k := k) (by rw [HN.out]; exact hlt)
      obtain ⟨p, hp⟩ : ∃ p, at' l k = p := ⟨_, rfl⟩
      rw [hp] at c0 c1 hmem
      obtain ⟨x1, y1⟩ := p
      simp only at c0 c1
      have hkn : (k : Int) < n := by omega
      by_cases e1 : x1 = x
      · by_cases e2 : y1 = y
        · subst e1
          subst e2
          rw [decide_eq_true hmem] at H
          have ht := H.out
          subst ht
          clear H hmem hp
          go_wp2
          go_ret
          exact ⟨rfl, g0⟩
        · have HNE := Lib.hid (show at' l k ≠ (x, y) from fun e => e2 (by rw [hp] at e; exact congrArg Prod.snd e))
          have d2 : (y1 == y) = false := beq_eq_false_iff_ne.2 e2
          subst e1
          clear hmem hp e2
          go_wp2
          go_round
          case rel => exact ⟨k + 1, by go_num, hlt, fun j hj => by
              by_cases e : j = k
              · rw [e]; exact HNE.out
              · exact HOK.out j (by omega)⟩
          case measure => simp [intOf]; omega
      · have HNE := Lib.hid (show at' l k ≠ (x, y) from fun e => e1 (by rw [hp] at e; exact congrArg Prod.fst e))
        have d1 : (x1 == x) = false := beq_eq_false_iff_ne.2 e1
        clear hmem hp e1
        go_wp2
        go_round
        case rel => exact ⟨k + 1, by go_num, hlt, fun j hj => by
            by_cases e : j = k
            · rw [e]; exact HNE.out
            · exact HOK.out j (by omega)⟩
        case measure => simp [intOf]; omega
    · obtain rfl : k = n := by omega
      have hno : ¬ (x, y) ∈ l := fun h => all_at (p := fun q => q ≠ (x, y)) (fun i hi => HOK.out i (by rw [← HN.out]; exact hi)) _ h rfl
      rw [decide_eq_false hno] at H
      have ht := H.out
      subst ht
      clear H hno
      go_wp2
      go_ret
      exact ⟨rfl, g0⟩
end Go.Proofs.Ytkdfmjhhdfiiiaa.GraW
