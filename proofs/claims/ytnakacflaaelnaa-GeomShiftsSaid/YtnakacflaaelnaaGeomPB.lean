/-
  Walks of the comparisons of points that the program of package geom hands over, and of check: what a call returns for every input. Condition: none.
-/
import Derived.Test.YtnakacflaaelnaaGeomPA
import Derived.LoopN
import Derived.Test.YtnakacflaaelnaaGeomG
namespace Go.Proofs.Ytnakacflaaelnaa.GeoW
open Go.ChangeShapes Go.WideShapes Go.ChangeAt Go.RowKit
open NumP NumW GeoP

theorem cmpI_any (p q : Int) (w : World) :
    Calls Try.prog 64 #[.int .i64 p, .int .i64 q] w fun e w' => e = .returned (.int .i64 (cmp3 p q)) ∧ w = w' := by
  by_cases h1 : p < q
  · have H := Lib.hid (cmp3_lt h1)
    go_enter Try.func64, Try.ntmps64
    go_wp2
    go_ret
    exact ⟨ret_int H.out.symm, rfl⟩
  · by_cases h2 : q < p
    · have H := Lib.hid (cmp3_gt h2)
      go_enter Try.func64, Try.ntmps64
      go_wp2
      go_ret
      exact ⟨ret_int H.out.symm, rfl⟩
    · have H := Lib.hid (cmp3_eq (show p = q by omega))
      go_enter Try.func64, Try.ntmps64
      go_wp2
      go_ret
      exact ⟨ret_int H.out.symm, rfl⟩
theorem cmpI_at (p q v : Int) (w : World) (H : Hid (cmp3 p q = v)) :
    Calls Try.prog 64 #[.int .i64 p, .int .i64 q] w fun e w' => e = .returned (.int .i64 v) ∧ w = w' := by
  rw [← H.out]
  exact cmpI_any p q w
/-- cmp.Or of two integers. -/
theorem or2_at (a b v : Int) (B : Nat) (w : World) (H : Hid (orI a b = v)) (h0 : w.cell? ⟨B, 0, none⟩ = some (.int .i64 a)) (h1 : w.cell? ⟨B, 1, none⟩ = some (.int .i64 b)) :
    Calls Try.prog 63 #[.slice (some ⟨B, 0, none⟩) 2 2] w fun e w' => e = .returned (.int .i64 v) ∧ w = w' := by
  by_cases ha : a = 0
  · have hv : b = v := by rw [← H.out]; unfold orI; rw [if_pos ha]
    subst ha
    subst hv
    clear H
    by_cases hb : b = 0
    · subst hb
      go_enter Try.func63, Try.ntmps63
      go_wp2
      refine wp_loop_rounds 4 ?_
      rw [rounds_succ]
      go_wp2
      rw [rounds_succ]
      go_wp2
      rw [rounds_succ]
      go_wp2
      go_ret
      exact ⟨rfl, rfl⟩
    · have hb2 : (b != 0) = true := bne_iff_ne.2 hb
      go_enter Try.func63, Try.ntmps63
      go_wp2
      refine wp_loop_rounds 4 ?_
      rw [rounds_succ]
      go_wp2
      rw [rounds_succ]
      go_wp2
      go_ret
      exact ⟨rfl, rfl⟩
  · have hv : a = v := by rw [← H.out]; unfold orI; rw [if_neg ha]
    subst hv
    clear H
    have ha2 : (a != 0) = true := bne_iff_ne.2 ha
    go_enter Try.func63, Try.ntmps63
    go_wp2
    refine wp_loop_rounds 4 ?_
    rw [rounds_succ]
    go_wp2
    go_ret
    exact ⟨rfl, rfl⟩
theorem pcheck_at (l : List Pt) (sv : Value) (f : Int) (w : World) (HP : Hid (Pts w sv l)) (H : Hid (hullE l = f)) :
    Calls Try.prog 42 #[sv] w fun e w' => e = .returned (.int .i64 f) ∧ Own w w' := by
  obtain ⟨A, cap, rfl, ha1, ha2, ha⟩ := HP.out.open
  unfold maxLen at ha2
  have HA := Lib.hid ha
  clear ha HP
  obtain ⟨n, hn⟩ : ∃ n, l.length = n := ⟨_, rfl⟩
  rw [hn] at HA ha1 ⊢
  by_cases hb : 16 < n
  · have hf := (hullE_big (l := l) (by omega)).1
    rw [H.out] at hf
    subst hf
    clear hn H
    go_enter Try.func42, Try.ntmps42
    go_wp2
    go_ret
    exact ⟨rfl, Own.refl w⟩
  · have HN := Lib.hid hn
    clear hn
    go_enter Try.func42, Try.ntmps42
    go_wp2
    go_loopw [10] (fun i wr => ∃ k : Nat, i = .int .i64 k ∧ k ≤ n ∧ Own w wr ∧ ∀ j, j < k → okP (at' l j) = true) (fun i _ => n - (intOf i).toNat)
    case atStart => exact ⟨0, rfl, Nat.zero_le _, Own.refl w, fun j hj => absurd hj (Nat.not_lt_zero _)⟩
    case round =>
      obtain ⟨k, rfl, hk, g0, hok⟩ := hrel
      have HOK := Lib.hid hok
      clear hok
      by_cases hlt : k < n
      · obtain ⟨b, off, rfl, hc⟩ := HA.out (by omega)
        have e0 := g0.cell (hc k hlt).1
        have e1 := g0.cell (hc k hlt).2
        clear hc
        obtain ⟨p, hp⟩ : ∃ p, at' l k = p := ⟨_, rfl⟩
        rw [hp] at e0 e1
        obtain ⟨t, ht⟩ : ∃ t, okP p = t := ⟨_, rfl⟩
        have HT := Lib.hid (show okP (at' l k) = t by rw [hp]; exact ht)
        have HV := Lib.hid ht
        clear hp ht
        obtain ⟨px, py⟩ := p
        simp only at e0 e1
        cases t
        · have hf := (hullE_bad (l := l) (i := k) (by rw [HN.out]; omega) (by rw [HN.out]; exact hlt) HT.out).1
          rw [H.out] at hf
          subst hf
          go_wp2_with (go_at_call 28; refine (pvalid_at (px, py) false _ HV).mono ?_; rintro e w1 ⟨rfl, hg⟩)
          go_ret
          exact ⟨rfl, (g0.alloc _).trans hg⟩
        · go_wp2_with (go_at_call 28; refine (pvalid_at (px, py) true _ HV).mono ?_; rintro e w1 ⟨rfl, hg⟩)
          go_roundw
          case rel => exact ⟨k + 1, by go_num, hlt, (g0.alloc _).trans hg, fun j hj => by
              by_cases e : j = k
              · rw [e]; exact HT.out
              · exact HOK.out j (by omega)⟩
          case measure => simp [intOf]; omega
      · obtain rfl : k = n := by omega
        have hf := (hullE_good (l := l) (by rw [HN.out]; omega) (by rw [HN.out]; exact HOK.out)).1
        rw [H.out] at hf
        subst hf
        go_wp2
        go_ret
        exact ⟨rfl, g0⟩
/-- What a world keeps that comes after. -/
theorem kept4 {wr wc w1 : World} {a0 a1 a2 a3 : Addr} {v0 v1 v2 v3 : Value} (hg : Own wc w1) (h : wc.cell? a0 = some v0 ∧ wc.cell? a1 = some v1 ∧ wc.cell? a2 = some v2 ∧ wc.cell? a3 = some v3 ∧ Own wr wc) :
    w1.cell? a0 = some v0 ∧ w1.cell? a1 = some v1 ∧ w1.cell? a2 = some v2 ∧ w1.cell? a3 = some v3 ∧ Own wr w1 := held4 hg h
set_option maxRecDepth 100000 in
set_option maxHeartbeats 4000000 in
theorem pcomp_at (p q : Pt) (v : Int) (w : World) (H : Hid (pcmp p q = v)) :
    Calls Try.prog 56 #[.agg #[.int .i64 p.1, .int .i64 p.2], .agg #[.int .i64 q.1, .int .i64 q.2]] w fun e w' => e = .returned (.int .i64 v) ∧ Own w w' := by
  obtain ⟨xa, ya⟩ := p
  obtain ⟨xb, yb⟩ := q
  obtain ⟨u, hu⟩ : ∃ u, cmp3 xa xb = u := ⟨_, rfl⟩
  obtain ⟨t, ht⟩ : ∃ t, cmp3 ya yb = t := ⟨_, rfl⟩
  have HU := Lib.hid hu
  have HT := Lib.hid ht
  have HV := Lib.hid (show orI u t = v by rw [← hu, ← ht]; exact H.out)
  clear hu ht H
  go_enter Try.func56, Try.ntmps56
  go_upto_region 1 with (fail)
  have k0 : ((w.alloc (.cells #[.int .i64 xa, .int .i64 ya] 23)).alloc (.cells #[.int .i64 xb, .int .i64 yb] 23)).cell? ⟨w.heap.size, 0, none⟩ = some (.int .i64 xa) := by go_simp
  have k1 : ((w.alloc (.cells #[.int .i64 xa, .int .i64 ya] 23)).alloc (.cells #[.int .i64 xb, .int .i64 yb] 23)).cell? ⟨w.heap.size, 1, none⟩ = some (.int .i64 ya) := by go_simp
  have k2 : ((w.alloc (.cells #[.int .i64 xa, .int .i64 ya] 23)).alloc (.cells #[.int .i64 xb, .int .i64 yb] 23)).cell? ⟨w.heap.size + 1, 0, none⟩ = some (.int .i64 xb) := by go_simp
  have k3 : ((w.alloc (.cells #[.int .i64 xa, .int .i64 ya] 23)).alloc (.cells #[.int .i64 xb, .int .i64 yb] 23)).cell? ⟨w.heap.size + 1, 1, none⟩ = some (.int .i64 yb) := by go_simp
  have g0 : Own w ((w.alloc (.cells #[.int .i64 xa, .int .i64 ya] 23)).alloc (.cells #[.int .i64 xb, .int .i64 yb] 23)) := (((Own.refl w).alloc _).alloc _)
  generalize hW : ((w.alloc (.cells #[.int .i64 xa, .int .i64 ya] 23)).alloc (.cells #[.int .i64 xb, .int .i64 yb] 23)) = W0 at *
  clear hW
  have f0 := Own.refl W0
  have f1 := (Own.refl W0).drew
  have hB0 : w.heap.size < W0.heap.size := block_lt_of_cell k0
  have hB1 : w.heap.size + 1 < W0.heap.size := block_lt_of_cell k2
  go_region_held3 (fun w' => w'.cell? ⟨w.heap.size, 0, none⟩ = some (.int .i64 xa) ∧ w'.cell? ⟨w.heap.size, 1, none⟩ = some (.int .i64 ya) ∧ w'.cell? ⟨w.heap.size + 1, 0, none⟩ = some (.int .i64 xb) ∧ w'.cell? ⟨w.heap.size + 1, 1, none⟩ = some (.int .i64 yb)) (go_keep)
    (first | (go_at_call 64; (first | (with_reducible refine (cmpI_at xa xb _ _ HU).mono ?_) | (with_reducible refine (cmpI_at ya yb _ _ HT).mono ?_)); rintro e w1 ⟨rfl, rfl⟩) | (go_at_call 63; (refine (or2_at u t v _ _ HV (by go_simp) (by go_simp)).mono ?_); rintro e w1 ⟨rfl, rfl⟩))
  all_goals
    go_wp2
    go_ret
    exact ⟨rfl, (g0.alloc _).drew⟩
end Go.Proofs.Ytnakacflaaelnaa.GeoW
