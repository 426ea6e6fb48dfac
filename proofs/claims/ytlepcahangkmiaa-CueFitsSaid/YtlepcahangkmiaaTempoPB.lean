/-
  Walks of the program of package tempo: when (of a piece), pieces. Condition: none.
-/
import Derived.Test.YtlepcahangkmiaaTempoPA
import Derived.Test.YtlepcahangkmiaaTempoMem
import Derived.Deep.RegionWith
namespace Go.Proofs.Ytlepcahangkmiaa.TemW
open Go.ChangeShapes Go.WideShapes Go.ChangeAt Go.RowKit
open PairW TemP
set_option maxRecDepth 100000 in
theorem pwhen_at (a b c t v : Int) (w : World) (H : Hid (c + (t - a) * b = v)) (h1 : -1000000 ≤ t - a ∧ t - a ≤ 1000000) (h2 : -1000000000000 ≤ (t - a) * b ∧ (t - a) * b ≤ 1000000000000) (h3 : -1000000000000 ≤ c ∧ c ≤ 1000000000000) :
    Calls Try.prog 34 #[.agg #[.int .i64 a, .int .i64 b, .int .i64 c], .int .i64 t] w fun e w' => e = .returned (.int .i64 v) ∧ Own w w' := by
  obtain rfl := H.out
  have g0 : Own w (w.alloc (.cells #[.int .i64 a, .int .i64 b, .int .i64 c] 56)) := (Own.refl w).alloc _
  have k0 : (w.alloc (.cells #[.int .i64 a, .int .i64 b, .int .i64 c] 56)).cell? ⟨w.heap.size, 0, none⟩ = some (.int .i64 a) := by go_simp
  have k1 : (w.alloc (.cells #[.int .i64 a, .int .i64 b, .int .i64 c] 56)).cell? ⟨w.heap.size, 1, none⟩ = some (.int .i64 b) := by go_simp
  have k2 : (w.alloc (.cells #[.int .i64 a, .int .i64 b, .int .i64 c] 56)).cell? ⟨w.heap.size, 2, none⟩ = some (.int .i64 c) := by go_simp
  have i1 : IntKind.i64.wrap (t - a) = t - a := IntWalk.i64_in _ (by omega)
  have i2 : IntKind.i64.wrap ((t - a) * b) = (t - a) * b := IntWalk.i64_in _ (by omega)
  have i3 : IntKind.i64.wrap (c + (t - a) * b) = c + (t - a) * b := IntWalk.i64_in _ (by omega)
  clear H h1 h2 h3
  go_enter Try.func34, Try.ntmps34
  go_upto_region 1 with (fail)
  generalize w.alloc (.cells #[.int .i64 a, .int .i64 b, .int .i64 c] 56) = W0 at *
  go_wp2
  go_ret
  exact ⟨rfl, g0⟩
/-- The tempos with their moments, in memory. -/
def Pcs (w : World) (g n : Nat) (l : List Pt) : Prop := ∀ k, k < n → w.cell? ⟨g, k * 3, none⟩ = some (.int .i64 (at' l k).1) ∧ w.cell? ⟨g, k * 3 + 1, none⟩ = some (.int .i64 (at' l k).2) ∧ w.cell? ⟨g, k * 3 + 2, none⟩ = some (.int .i64 (mo l k))
theorem Pcs.own {w w' : World} {g n : Nat} {l : List Pt} (h : Pcs w g n l) (hg : Own w w') : Pcs w' g n l := fun k hk => ⟨hg.cell (h k hk).1, hg.cell (h k hk).2.1, hg.cell (h k hk).2.2⟩
/-- What has been filled in of a row of pieces. -/
def Fil (l : List Pt) (k : Nat) (f : Nat → Value) : Prop := (∀ i, i < k → f (i * 3) = .int .i64 (at' l i).1 ∧ f (i * 3 + 1) = .int .i64 (at' l i).2 ∧ f (i * 3 + 2) = .int .i64 (mo l i)) ∧ ∀ i, k ≤ i → f (i * 3 + 2) = .int .i64 0
theorem fil_start (l : List Pt) : Fil l 0 (fun _ => .int .i64 0) := ⟨fun _ hi => absurd hi (Nat.not_lt_zero _), fun _ _ => rfl⟩
/-- The tempo k filled in, its moment last. -/
theorem fil_step {l : List Pt} {k : Nat} {f : Nat → Value} {x y : Int} (h : Fil l k f) (hx : at' l k = (x, y)) :
    Fil l (k + 1) (st (k * 3 + 2) (.int .i64 (mo l k)) (st (k * 3 + 1) (.int .i64 y) (st (k * 3) (.int .i64 x) f))) := by
  refine ⟨fun i hi => ?_, fun i hi => ?_⟩
  · rcases Nat.lt_or_ge i k with x | x
    · rw [st_ne (by omega), st_ne (by omega), st_ne (by omega), st_ne (by omega), st_ne (by omega), st_ne (by omega), st_ne (by omega), st_ne (by omega), st_ne (by omega)]
      exact h.1 i x
    · obtain rfl : i = k := by omega
      rw [hx]
      exact ⟨by rw [st_ne (by omega), st_ne (by omega), st_eq rfl], by rw [st_ne (by omega), st_eq rfl], st_eq rfl _ _⟩
  · rw [st_ne (by omega), st_ne (by omega), st_ne (by omega)]
    exact h.2 i (by omega)
theorem fil_first {l : List Pt} {f : Nat → Value} {x y : Int} (h : Fil l 0 f) (hx : at' l 0 = (x, y)) :
    Fil l 1 (st 1 (.int .i64 y) (st 0 (.int .i64 x) f)) := by
  refine ⟨fun i hi => ?_, fun i hi => ?_⟩
  · obtain rfl : i = 0 := by omega
    rw [hx]
    exact ⟨by rw [st_ne (by omega), st_eq (by omega)], st_eq (by omega) _ _, by rw [st_ne (by omega), st_ne (by omega)]; exact h.2 0 (Nat.le_refl _)⟩
  · rw [st_ne (by omega), st_ne (by omega)]
    exact h.2 i (by omega)
set_option maxRecDepth 100000 in
set_option maxHeartbeats 1000000 in
theorem ppieces_at (l : List Pt) (sv : Value) (n : Nat) (w : World) (HP : Hid (Pts w sv l)) (HM : Hid (Map l)) (HN : Hid (l.length = n)) :
    Calls Try.prog 32 #[sv] w fun e w' => ∃ g, e = .returned (.slice (some ⟨g, 0, none⟩) n n) ∧ w.heap.size ≤ g ∧ Pcs w' g n l ∧ Own w w' := by
  obtain ⟨i0, hi, hz0, hz1, hz2⟩ := info_parts (show (Try.prog.info? 56).map (fun i => (i.zero, i.size, i.bytes)) = some (some (.agg #[.int .i64 0, .int .i64 0, .int .i64 0]), 3, 24) by kernel_rfl)
  have hn0 : 0 < n := by rw [← HN.out]; exact HM.out.n0
  have hn1 : n ≤ 64 := by rw [← HN.out]; exact HM.out.n1
  have HI := Lib.hid hi
  have HZ0 := Lib.hid hz0
  have HZ1 := Lib.hid hz1
  have HBY := Lib.hid (show i0.bytes * n ≤ 281474976710656 by rw [hz2]; omega)
  have HMX := Lib.hid (show n ≤ maxLen by unfold maxLen; omega)
  clear hi hz0 hz1 hz2
  obtain ⟨A, cap, rfl, ha1, ha2, ha⟩ := HP.out.open
  obtain ⟨b, off, rfl, hcc⟩ := ha HM.out.n0
  unfold maxLen at ha2
  rw [HN.out] at hcc ha1 ⊢
  have HC := Lib.hid hcc
  clear ha hcc HP
  have hnn : (0 : Int) ≤ n := by omega
  go_enter Try.func32, Try.ntmps32
  go_wp2_with (at_make; refine wpList_make_full _ rfl _ _ 58 rfl w.heap.size 56 i0 (.agg #[.int .i64 0, .int .i64 0, .int .i64 0]) 3 Try.underlying58 HI.out HZ0.out HZ1.out _ _ _ _ n rfl rfl rfl rfl HBY.out HMX.out (Nat.le_refl _) ?_; intro w3 hown3 hg3)
  have HR := Lib.hid (Fn.made (v := .int .i64 0) (fun i => by rcases (show i % 3 = 0 ∨ i % 3 = 1 ∨ i % 3 = 2 by omega) with h | h | h <;> (show (#[Value.int .i64 0, .int .i64 0, .int .i64 0] : Array Value)[i % 3]! = _; rw [h]; rfl)) hown3)
  have q3 : Own w w3 := (Own.refl w).grown hg3 (by simp)
  have hgg : w.heap.size ≤ w.heap.size := Nat.le_refl _
  obtain ⟨g, hg⟩ : ∃ g, w.heap.size = g := ⟨_, rfl⟩
  rw [hg] at HR
  have hwg : w.heap.size ≤ g := by omega
  simp only [hg]
  clear hown3 hg3 hgg hg
  go_loopw [11] (fun vi wr => ∃ k : Nat, vi = .int .i64 (k : Int) ∧ k ≤ n ∧ Own w wr ∧ ∃ f, Fn wr g g n 56 3 f ∧ Fil l k f) (fun vi _ => n - (intOf vi).toNat)
  case atStart => exact ⟨0, rfl, Nat.zero_le _, q3, _, HR.out, fil_start l⟩
  case round =>
    obtain ⟨k, rfl, hk, g0, f, hf, hfil⟩ := hrel
    by_cases hlt : k < n
    · have e0 := g0.cell (HC.out k hlt).1
      have e1 := g0.cell (HC.out k hlt).2
      obtain ⟨⟨x, y⟩, hp⟩ : ∃ p, at' l k = p := ⟨_, rfl⟩
      have HXY := Lib.hid hp
      rw [hp] at e0 e1
      simp only at e0 e1
      clear hp
      have hkn : (k : Int) < n := by omega
      obtain ⟨k0, k1, -, -⟩ := pt_new wr x y 45
      have g1 : Own wr (wr.alloc (.cells #[.int .i64 x, .int .i64 y] 45)) := (Own.refl wr).alloc _
      have hbt : g < wr.heap.size := hf.lt
      replace hf := hf.own g1
      go_upto_region 5 with (fail)
      generalize wr.alloc (.cells #[.int .i64 x, .int .i64 y] 45) = W0 at *
      generalize wr.heap.size = B at *
      have hk3 : k * 3 + 2 < n * 3 := by omega
      have c0 := hf.cell (j := k * 3) (by omega)
      have c1 := hf.cell (j := k * 3 + 1) (by omega)
      have z0 := hf.frozen (k * 3)
      have z1 := hf.frozen (k * 3 + 1)
      have hbg : g ≠ B := by omega
      have hbg2 : B ≠ g := by omega
      go_upto_region 6 with (fail)
      have hf1 := (hf.put (k * 3) (.int .i64 x)).put (k * 3 + 1) (.int .i64 y)
      have g2 : Own w ((W0.setCell ⟨g, k * 3, none⟩ (.int .i64 x)).setCell ⟨g, k * 3 + 1, none⟩ (.int .i64 y)) := ((g0.trans g1).setCell hwg _).setCell hwg _
      have m0 : ((W0.setCell ⟨g, k * 3, none⟩ (.int .i64 x)).setCell ⟨g, k * 3 + 1, none⟩ (.int .i64 y)).cell? ⟨B, 0, none⟩ = some (.int .i64 x) := by go_simp
      have m1 : ((W0.setCell ⟨g, k * 3, none⟩ (.int .i64 x)).setCell ⟨g, k * 3 + 1, none⟩ (.int .i64 y)).cell? ⟨B, 1, none⟩ = some (.int .i64 y) := by go_simp
      clear c0 c1 z0 z1 k0 k1 e0 e1 hf
      generalize (W0.setCell ⟨g, k * 3, none⟩ (.int .i64 x)).setCell ⟨g, k * 3 + 1, none⟩ (.int .i64 y) = W1 at *
      clear g1 g0 W0
      by_cases hk0 : k = 0
      · subst hk0
        have HF := Lib.hid hf1
        have HFI := Lib.hid (fil_first hfil HXY.out)
        clear hf1 hfil
        go_wp2
        go_roundw
        case rel => exact ⟨1, rfl, hlt, g2, _, HF.out, HFI.out⟩
        case measure => simp [intOf]; omega
      · obtain ⟨j, hj⟩ : ∃ j, k = j + 1 := ⟨k - 1, by omega⟩
        have hk1 : (0 : Int) < k := by omega
        have hm := HM.out
        have hjl : j < l.length := by rw [HN.out]; omega
        have hkl : k < l.length := by rw [HN.out]; omega
        have b1 := mo_bound hm j hjl
        have b2 := ok_at hm.ok hjl
        have b3 := ok_at hm.ok hkl
        have b4 := mo_bound hm k hkl
        have hmo : mo l k = mo l j + ((at' l k).1 - (at' l j).1) * (at' l j).2 := by rw [hj]; rfl
        obtain ⟨⟨p, q⟩, hpq⟩ : ∃ v, at' l j = v := ⟨_, rfl⟩
        obtain ⟨s, hs⟩ : ∃ v, mo l j = v := ⟨_, rfl⟩
        obtain ⟨t, ht⟩ : ∃ v, mo l k = v := ⟨_, rfl⟩
        rw [HXY.out, hpq, hs, ht] at hmo
        rw [hpq, hs] at b1
        rw [hpq] at b2
        rw [HXY.out] at b3
        rw [HXY.out, ht] at b4
        simp only at hmo b1 b2 b3 b4
        have r0 := hf1.cell (j := j * 3) (by omega)
        have r1 := hf1.cell (j := j * 3 + 1) (by omega)
        have r2 := hf1.cell (j := j * 3 + 2) (by omega)
        rw [st_ne (by omega), st_ne (by omega), (hfil.1 j (by omega)).1, hpq] at r0
        rw [st_ne (by omega), st_ne (by omega), (hfil.1 j (by omega)).2.1, hpq] at r1
        rw [st_ne (by omega), st_ne (by omega), (hfil.1 j (by omega)).2.2, hs] at r2
        simp only at r0 r1
        have r3 := hf1.cell (j := k * 3 + 2) (by omega)
        have z3 := hf1.frozen (k * 3 + 2)
        have HW := Lib.hid hmo.symm
        have HF := Lib.hid hf1
        have HT := Lib.hid ht
        have HFI := Lib.hid (fil_step hfil HXY.out)
        have w1 : -1000000 ≤ x - p ∧ x - p ≤ 1000000 := by omega
        have w2 : -1000000000000 ≤ (x - p) * q ∧ (x - p) * q ≤ 1000000000000 := by omega
        have w3' : -1000000000000 ≤ s ∧ s ≤ 1000000000000 := by omega
        have i1 : IntKind.i64.wrap ((k : Int) - 1) = (k : Int) - 1 := IntWalk.i64_in _ (by omega)
        have d5 : (0 : Int) ≤ (k : Int) - 1 := by omega
        have d6 : (k : Int) - 1 < n := by omega
        have d7 : ((k : Int) - 1).toNat = j := by omega
        clear hm hjl hkl b1 b2 b3 b4 hmo hpq hs ht hf1 hfil hj
        go_upto_region 7 with (fail)
        go_region_with (go_at_call 34; refine (pwhen_at p q s x t _ HW w1 w2 w3').mono ?_; rintro e w5 ⟨rfl, hg⟩; replace z3 : w5.frozen? _ = _ := frozen_kept hg r3 z3; replace r3 := hg.cell r3)
        all_goals
          have q5 : Own W1 w5 := (by first | exact (Own.refl W1).drew.trans hg | exact (Own.refl W1).trans hg)
          have hf2 := (HF.out.own q5).put (k * 3 + 2) (.int .i64 t)
          have hfi := HFI.out
          rw [HT.out] at hfi
          have g5 : Own w (w5.setCell ⟨g, k * 3 + 2, none⟩ (.int .i64 t)) := (g2.trans q5).setCell hwg _
          have HF2 := Lib.hid hf2
          have HFI2 := Lib.hid hfi
          clear hf2 hfi q5 hg r0 r1 r2 r3 z3 m0 m1
          generalize w5.setCell ⟨g, k * 3 + 2, none⟩ (.int .i64 t) = W2 at *
          first
            | exact ⟨⟨k + 1, by go_num, hlt, g5, _, HF2.out, HFI2.out⟩, by simp [intOf]; omega⟩
            | (go_wp2; go_roundw; exact ⟨k + 1, by go_num, hlt, g5, _, HF2.out, HFI2.out⟩; simp [intOf]; omega)
    · obtain rfl : k = n := by omega
      go_wp2
      go_ret
      exact ⟨g, rfl, hwg, fun i hi => by
        have c0 := hf.cell (j := i * 3) (by omega)
        have c1 := hf.cell (j := i * 3 + 1) (by omega)
        have c2 := hf.cell (j := i * 3 + 2) (by omega)
        rw [(hfil.1 i hi).1] at c0
        rw [(hfil.1 i hi).2.1] at c1
        rw [(hfil.1 i hi).2.2] at c2
        exact ⟨c0, c1, c2⟩, g0⟩
end Go.Proofs.Ytlepcahangkmiaa.TemW
