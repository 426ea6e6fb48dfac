/-
  Walks of the program of package cue: isCue, isLater, Check. Condition: none.
-/
import Derived.Test.YtlepcahangkmiaaCuePlain
import Derived.Test.YtlepcahangkmiaaLists
import Derived.Lib.Hide
import Derived.Deep.DeepCutAuto
namespace Go.Proofs.Ytlepcahangkmiaa.CueW
open Go.ChangeShapes Go.WideShapes Go.ChangeAt Go.RowKit
open PairW CelW CueP
set_option maxRecDepth 100000 in
theorem piscue_at (a b : Int) (t : Bool) (w : World) (H : Hid (okC (a, b) = t)) :
    Calls Try.prog 22 #[.agg #[.int .i64 a, .int .i64 b]] w fun e w' => e = .returned (.bool t) ∧ Own w w' := by
  obtain ⟨k0, k1, _, _⟩ := pt_new w a b 40
  have g0 : Own w (w.alloc (.cells #[.int .i64 a, .int .i64 b] 40)) := (Own.refl w).alloc _
  cases t with
  | true =>
    have ho := (okC_iff _).1 H.out
    simp only at ho
    obtain ⟨⟨o1, o2⟩, o3, o4⟩ := ho
    clear H
    go_enter Try.func22, Try.ntmps22
    go_upto_region 1 with (fail)
    generalize w.alloc (.cells #[.int .i64 a, .int .i64 b] 40) = W0 at *
    go_wp2
    go_ret
    exact ⟨rfl, g0⟩
  | false =>
    have hno := (okC_no (a, b)).1 H.out
    simp only at hno
    clear H
    rcases hno with x1 | ⟨x1, x2⟩ | ⟨x1, x2, x3⟩ | ⟨x1, x2, x3, x4⟩
    · have d : decide (0 ≤ a) = false := decide_eq_false (by omega)
      clear x1
      go_enter Try.func22, Try.ntmps22
      go_upto_region 1 with (fail)
      generalize w.alloc (.cells #[.int .i64 a, .int .i64 b] 40) = W0 at *
      go_wp2
      go_ret
      exact ⟨rfl, g0⟩
    · have d0 : 0 ≤ a := by omega
      have d : decide (a ≤ 8192) = false := decide_eq_false (by omega)
      clear x1 x2
      go_enter Try.func22, Try.ntmps22
      go_upto_region 1 with (fail)
      generalize w.alloc (.cells #[.int .i64 a, .int .i64 b] 40) = W0 at *
      go_wp2
      go_ret
      exact ⟨rfl, g0⟩
    · have d0 : 0 ≤ a := by omega
      have d1 : a ≤ 8192 := by omega
      have d : decide (0 ≤ b) = false := decide_eq_false (by omega)
      clear x1 x2 x3
      go_enter Try.func22, Try.ntmps22
      go_upto_region 1 with (fail)
      generalize w.alloc (.cells #[.int .i64 a, .int .i64 b] 40) = W0 at *
      go_wp2
      go_ret
      exact ⟨rfl, g0⟩
    · have d0 : 0 ≤ a := by omega
      have d1 : a ≤ 8192 := by omega
      have d2 : 0 ≤ b := by omega
      have d : decide (b ≤ 1099511627776) = false := decide_eq_false (by omega)
      clear x1 x2 x3 x4
      go_enter Try.func22, Try.ntmps22
      go_upto_region 1 with (fail)
      generalize w.alloc (.cells #[.int .i64 a, .int .i64 b] 40) = W0 at *
      go_wp2
      go_ret
      exact ⟨rfl, g0⟩
set_option maxRecDepth 100000 in
theorem pislater_at (y v x u : Int) (t : Bool) (w : World) (H : Hid (lat (x, u) (y, v) = t)) :
    Calls Try.prog 23 #[.agg #[.int .i64 y, .int .i64 v], .agg #[.int .i64 x, .int .i64 u]] w fun e w' => e = .returned (.bool t) ∧ Own w w' := by
  obtain ⟨k0, k1, _, _⟩ := pt_new w y v 40
  have g0 : Own w (w.alloc (.cells #[.int .i64 y, .int .i64 v] 40)) := (Own.refl w).alloc _
  obtain ⟨k2, k3, _, _⟩ := pt_new (w.alloc (.cells #[.int .i64 y, .int .i64 v] 40)) x u 40
  have g1 : Own (w.alloc (.cells #[.int .i64 y, .int .i64 v] 40)) ((w.alloc (.cells #[.int .i64 y, .int .i64 v] 40)).alloc (.cells #[.int .i64 x, .int .i64 u] 40)) := (Own.refl _).alloc _
  replace k0 := g1.cell k0
  replace k1 := g1.cell k1
  rw [World.size_alloc] at k2 k3
  replace g0 := g0.trans g1
  have hl := lat_iff (x, u) (y, v)
  rw [H.out] at hl
  simp only at hl
  clear g1 H
  cases t with
  | true =>
    obtain ⟨o1, o2⟩ := hl.1 rfl
    clear hl
    go_enter Try.func23, Try.ntmps23
    go_upto_region 1 with (fail)
    generalize (w.alloc (.cells #[.int .i64 y, .int .i64 v] 40)).alloc (.cells #[.int .i64 x, .int .i64 u] 40) = W0 at *
    go_wp2
    go_ret
    exact ⟨rfl, g0⟩
  | false =>
    have hno : ¬ x < y ∨ x < y ∧ ¬ u < v := by
      by_cases h1 : x < y
      · exact .inr ⟨h1, fun h2 => by have := hl.2 ⟨h1, h2⟩; cases this⟩
      · exact .inl h1
    clear hl
    rcases hno with o1 | ⟨o1, o2⟩
    · have d : decide (x < y) = false := decide_eq_false o1
      clear o1
      go_enter Try.func23, Try.ntmps23
      go_upto_region 1 with (fail)
      generalize (w.alloc (.cells #[.int .i64 y, .int .i64 v] 40)).alloc (.cells #[.int .i64 x, .int .i64 u] 40) = W0 at *
      go_wp2
      go_ret
      exact ⟨rfl, g0⟩
    · have d : decide (u < v) = false := decide_eq_false o2
      clear o2
      go_enter Try.func23, Try.ntmps23
      go_upto_region 1 with (fail)
      generalize (w.alloc (.cells #[.int .i64 y, .int .i64 v] 40)).alloc (.cells #[.int .i64 x, .int .i64 u] 40) = W0 at *
      go_wp2
      go_ret
      exact ⟨rfl, g0⟩
set_option maxRecDepth 100000 in
set_option maxHeartbeats 2000000 in
theorem pcheck_at (l : List Pt) (sv : Value) (f : Int) (w : World) (HP : Hid (Pts w sv l)) (H : Hid (ccE l = f)) :
    Calls Try.prog 10 #[sv] w fun e w' => e = .returned (.int .i64 f) ∧ Own w w' := by
  obtain ⟨A, cap, rfl, ha1, ha2, ha⟩ := HP.out.open
  unfold maxLen at ha2
  have HA := Lib.hid ha
  clear ha HP
  obtain ⟨n, hn⟩ : ∃ n, l.length = n := ⟨_, rfl⟩
  rw [hn] at HA ha1 ⊢
  have HN := Lib.hid hn
  clear hn
  by_cases h0 : n < 2
  · obtain rfl : 4 = f := by rw [← H.out]; exact (cc_few (by rw [HN.out]; exact h0)).symm
    have d0 : (n : Int) < 2 := by omega
    clear H HA
    go_enter Try.func10, Try.ntmps10
    go_upto_region 1 with (fail)
    refine wp_scope_straight ?_
    go_wp2
    rw [Exit.noGoto_ret]
    go_ret
    exact ⟨rfl, Own.refl w⟩
  have d0 : ¬ (n : Int) < 2 := by omega
  by_cases h1 : 64 < n
  · obtain rfl : 3 = f := by rw [← H.out]; exact (cc_many (l := l) (by rw [HN.out]; exact h1)).symm
    have d1 : (64 : Int) < n := by omega
    clear H HA
    go_enter Try.func10, Try.ntmps10
    go_upto_region 1 with (fail)
    refine wp_scope_straight ?_
    go_wp2
    rw [Exit.noGoto_ret]
    go_ret
    exact ⟨rfl, Own.refl w⟩
  have d1 : ¬ (64 : Int) < n := by omega
  obtain ⟨b, off, rfl, hcc⟩ := HA.out (by omega)
  have HC := Lib.hid hcc
  have hl0 : 2 ≤ l.length := by rw [HN.out]; omega
  have hl : l.length ≤ 64 := by rw [HN.out]; omega
  have HL := Lib.hid (And.intro hl0 hl)
  clear hcc HA hl0 hl
  have dn0 : (0 : Int) < n := by omega
  go_enter Try.func10, Try.ntmps10
  go_upto_region 1 with (fail)
  refine wp_scope_straight ?_
  go_wp2
  try go_step3
  try go_wp2
  go_loopw [3, 14] (fun ve vi wr => ∃ k : Nat, vi = .int .i64 (k : Int) ∧ ve = .int .i64 (oe l k) ∧ k ≤ n ∧ Own w wr ∧ ∀ j, j < k → okC (at' l j) = true) (fun _ vi _ => n - (intOf vi).toNat)
  case atStart => exact ⟨0, rfl, rfl, Nat.zero_le _, Own.refl w, fun j hj => absurd hj (Nat.not_lt_zero _)⟩
  case round =>
    obtain ⟨k, rfl, rfl, hk, g0, hok⟩ := hrel
    have HOK := Lib.hid hok
    clear hok
    have hse : oe l (k + 1) = if br l k = true then 5 else oe l k := rfl
    have HSE := Lib.hid hse
    obtain ⟨er, her⟩ : ∃ er, oe l k = er := ⟨_, rfl⟩
    have HER := Lib.hid her
    rw [her]
    clear hse her
    by_cases hlt : k < n
    · have e0 := g0.cell (HC.out k hlt).1
      have e1 := g0.cell (HC.out k hlt).2
      obtain ⟨t, ht⟩ : ∃ t, okC (at' l k) = t := ⟨_, rfl⟩
      have HB := Lib.hid (fun (e : t = false) => cc_bad (l := l) (i := k) HL.out.1 HL.out.2 (by rw [HN.out]; exact hlt) (ht.trans e))
      obtain ⟨⟨x, y⟩, hp⟩ : ∃ p, at' l k = p := ⟨_, rfl⟩
      have HTT := Lib.hid ht
      have HXY := Lib.hid hp
      rw [hp] at e0 e1 ht
      simp only at e0 e1
      have HT := Lib.hid ht
      clear hp ht
      have hkn : (k : Int) < n := by omega
      obtain ⟨k0, k1, _, _⟩ := pt_new wr x y 40
      have g1 : Own wr (wr.alloc (.cells #[.int .i64 x, .int .i64 y] 40)) := (Own.refl wr).alloc _
      go_upto_region 9 with (fail)
      generalize hW0 : wr.alloc (.cells #[.int .i64 x, .int .i64 y] 40) = W0 at *
      replace g0 := g0.trans g1
      obtain ⟨B, hB⟩ : ∃ B, wr.heap.size = B := ⟨_, rfl⟩
      rw [hB] at k0 k1
      try simp only [hB]
      clear hW0 hB g1 e0 e1
      cases t with
      | false =>
        obtain rfl : 1 = f := by rw [← H.out]; exact (HB.out rfl).symm
        go_wp2_with (go_at_call 22; refine (piscue_at x y false _ HT).mono ?_; rintro e w2 ⟨rfl, g2⟩)
        rw [Exit.noGoto_ret]
        go_ret
        exact ⟨rfl, g0.trans g2⟩
      | true =>
        have HOK2 := Lib.hid (show ∀ j, j < k + 1 → okC (at' l j) = true from fun j hj => by
          by_cases e : j = k
          · rw [e]; exact HTT.out
          · exact HOK.out j (by omega))
        go_upto_region 11 with (go_at_call 22; refine (piscue_at x y true _ HT).mono ?_; rintro e w2 ⟨rfl, g2⟩; replace k0 := g2.cell k0; replace k1 := g2.cell k1; replace g0 := g0.trans g2; clear g2)
        by_cases hk0 : k = 0
        · subst hk0
          have hbr : br l 0 = decide (x ≠ 0) := by show decide ((at' l 0).1 ≠ 0) = _; rw [HXY.out]
          by_cases hx : x = 0
          · subst hx
            have HF := Lib.hid (show oe l (0 + 1) = er by rw [HSE.out, hbr, HER.out]; rfl)
            clear hbr
            have dk : decide ((0 : Int) < ((0 : Nat) : Int)) = false := rfl
            have dk2 : ¬ (0 : Int) < ((0 : Nat) : Int) := by omega
            go_upto_region 12 with (fail)
            have q5 := g0
            clear k0 k1
            refine region_after w2 (by kernel_rfl) (by kernel_rfl) ?_
            repeat (first
              | go_big_quiet_step (fail)
              | quiet_step (fail))
            refine wpQuiet_nil ?_
            rintro _ ⟨xx, rfl⟩
            have d4 := xx.o
            generalize xx.w = w5 at *
            go_wp2
            go_roundw
            case rel => exact ⟨0 + 1, by go_num, by rw [HF.out], hlt, q5.trans d4, HOK2.out⟩
            case measure => simp [intOf]; omega
          · have HF := Lib.hid (show oe l (0 + 1) = 5 by rw [HSE.out, hbr, decide_eq_true hx]; rfl)
            have dx : (x != 0) = true := bne_iff_ne.2 hx
            clear hbr hx
            go_wp2
            go_roundw
            case rel => exact ⟨0 + 1, by go_num, by rw [HF.out], hlt, g0, HOK2.out⟩
            case measure => simp [intOf]; omega
        · obtain ⟨j, hj⟩ : ∃ j, k = j + 1 := ⟨k - 1, by omega⟩
          have c0 := g0.cell (HC.out j (by omega)).1
          have c1 := g0.cell (HC.out j (by omega)).2
          obtain ⟨tt, htt⟩ : ∃ t, lat (at' l j) (at' l k) = t := ⟨_, rfl⟩
          have HF := Lib.hid (show oe l (k + 1) = if (!tt) = true then 5 else er by
            rw [HSE.out, HER.out, show br l k = !tt by rw [hj]; show (!lat (at' l j) (at' l (j + 1))) = _; rw [← hj, htt]])
          obtain ⟨⟨p, q⟩, hpq⟩ : ∃ v, at' l j = v := ⟨_, rfl⟩
          rw [hpq] at c0 c1 htt
          rw [HXY.out] at htt
          simp only at c0 c1
          have HLT := Lib.hid htt
          have i1 : IntKind.i64.wrap ((k : Int) - 1) = (j : Int) := (IntWalk.i64_in _ (by omega)).trans (by omega)
          have d5 : (0 : Int) ≤ (j : Int) := by omega
          have d6 : (j : Int) < n := by omega
          have dk : ((k : Int) == 0) = false := beq_eq_false_iff_ne.2 (by omega)
          have dk2 : decide ((0 : Int) < (k : Int)) = true := decide_eq_true (by omega)
          have dk3 : 0 < k := by omega
          clear hpq htt hj hk0
          go_upto_region 12 with (fail)
          have k0d : ∀ x' : After w2, x'.w.cell? ⟨B, 0, none⟩ = some (.int .i64 x) := fun x' => x'.o.cell k0
          have k1d : ∀ x' : After w2, x'.w.cell? ⟨B, 1, none⟩ = some (.int .i64 y) := fun x' => x'.o.cell k1
          have c0d : ∀ x' : After w2, x'.w.cell? ⟨b, off + j * 2, none⟩ = some (.int .i64 p) := fun x' => x'.o.cell c0
          have c1d : ∀ x' : After w2, x'.w.cell? ⟨b, off + j * 2 + 1, none⟩ = some (.int .i64 q) := fun x' => x'.o.cell c1
          have q5 := g0
          clear k0 k1 c0 c1
          refine region_after w2 (by kernel_rfl) (by kernel_rfl) ?_
          repeat (first
            | go_big_quiet_step ((go_at_call 23; refine (pislater_at x y p q tt _ HLT).mono ?_; rintro e w3 ⟨rfl, hg⟩; exact ⟨rfl, ⟨w3, (After.o _).trans hg⟩, rfl⟩))
            | quiet_step ((go_at_call 23; refine (pislater_at x y p q tt _ HLT).mono ?_; rintro e w3 ⟨rfl, hg⟩; exact ⟨rfl, ⟨w3, (After.o _).trans hg⟩, rfl⟩)))
          refine wpQuiet_nil ?_
          rintro _ ⟨xx, rfl⟩
          have d4 := xx.o
          clear k0d k1d c0d c1d
          generalize xx.w = w5 at *
          cases tt with
          | true =>
            go_wp2
            go_roundw
            case rel => exact ⟨k + 1, by go_num, by rw [HF.out]; rfl, hlt, q5.trans d4, HOK2.out⟩
            case measure => simp [intOf]; omega
          | false =>
            go_wp2
            go_roundw
            case rel => exact ⟨k + 1, by go_num, by rw [HF.out]; rfl, hlt, q5.trans d4, HOK2.out⟩
            case measure => simp [intOf]; omega
    · obtain rfl : k = n := by omega
      obtain rfl : f = er := by
        rw [← H.out, ← HER.out]
        have := cc_end HL.out.1 HL.out.2 (by rw [HN.out]; exact HOK.out)
        rw [this, HN.out]
      go_wp2
      rw [Exit.noGoto_ret]
      go_ret
      exact ⟨rfl, g0⟩
end Go.Proofs.Ytlepcahangkmiaa.CueW
