/-
  Walk of the program's between of package cue. Condition: none.
-/
import Derived.Test.YtlepcahangkmiaaCuePA
import Derived.Test.YtlepcahangkmiaaTempoMemC
import Derived.Test.YtlepcahangkmiaaNumC
namespace Go.Proofs.Ytlepcahangkmiaa.CueW
open Go.ChangeShapes Go.WideShapes Go.ChangeAt Go.RowKit
open PairW CelW RowA NumP CueP
def beE (a b : Pt) : Int := if okB a b = true then 0 else 1
def beV (a b : Pt) : List Pt := if okB a b = true then bt a b else []
set_option maxRecDepth 100000 in
set_option maxHeartbeats 2000000 in
theorem pbetween_at (x u y v : Int) (M : List Pt) (f : Int) (w : World) (hb : (0 ≤ x ∧ x < y ∧ y ≤ 8192) ∧ 0 ≤ u ∧ u < v ∧ v ≤ 1099511627776) (H : Hid (beE (x, u) (y, v) = f ∧ beV (x, u) (y, v) = M)) :
    Calls Try.prog 25 #[.agg #[.int .i64 x, .int .i64 u], .agg #[.int .i64 y, .int .i64 v]] w fun e w' => ∃ s', e = .returned (.tuple #[s', .int .i64 f]) ∧ w'.ownsRow w.heap.size 45 2 s' M.length (cellsP M) ∧ Own w w' := by
  obtain ⟨i0, hi, hz0, hz1, hz2⟩ := info_parts (show (Try.prog.info? 45).map (fun i => (i.zero, i.size, i.bytes)) = some (some (.agg #[.int .i64 0, .int .i64 0]), 2, 16) by kernel_rfl)
  have HI := Lib.hid hi
  have HZ0 := Lib.hid hz0
  have HZ1 := Lib.hid hz1
  have HZ2 := Lib.hid hz2
  clear hi hz0 hz1 hz2
  obtain ⟨k0, k1, _, _⟩ := pt_new w x u 40
  have g0 : Own w (w.alloc (.cells #[.int .i64 x, .int .i64 u] 40)) := (Own.refl w).alloc _
  obtain ⟨k2, k3, _, _⟩ := pt_new (w.alloc (.cells #[.int .i64 x, .int .i64 u] 40)) y v 40
  have g1 : Own (w.alloc (.cells #[.int .i64 x, .int .i64 u] 40)) ((w.alloc (.cells #[.int .i64 x, .int .i64 u] 40)).alloc (.cells #[.int .i64 y, .int .i64 v] 40)) := (Own.refl _).alloc _
  replace k0 := g1.cell k0
  replace k1 := g1.cell k1
  rw [World.size_alloc] at k2 k3
  replace g0 := g0.trans g1
  clear g1
  obtain ⟨⟨p1, p2, p3⟩, p4, p5, p6⟩ := hb
  have hw := way (a := (x, u)) (b := (y, v)) p2
  obtain ⟨q, hq⟩ : ∃ q, qB (x, u) (y, v) = q := ⟨_, rfl⟩
  obtain ⟨r, hr⟩ : ∃ r, rB (x, u) (y, v) = r := ⟨_, rfl⟩
  have hq' := hq
  have hr' := hr
  have hob := okB_iff (x, u) (y, v)
  have hbt : bt (x, u) (y, v) = if r = 0 then [(x, q)] else [(x, q + 1), (x + r, q)] := by unfold bt; rw [hr, hq]
  unfold lg at hob
  rw [hq, hr] at hw hob
  unfold qB at hq'
  unfold rB at hr'
  simp only at hw hq' hr'
  obtain ⟨d, hd⟩ : ∃ d, y - x = d := ⟨_, rfl⟩
  obtain ⟨m, hmm⟩ : ∃ m, v - u = m := ⟨_, rfl⟩
  rw [hd] at hw hq' hr'
  rw [hmm] at hw hq' hr'
  obtain ⟨w1', w2', w3'⟩ := hw
  have j0 : IntKind.i64.wrap (y - x) = d := (IntWalk.i64_in _ (by omega)).trans hd
  have j1 : IntKind.i64.wrap (v - u) = m := (IntWalk.i64_in _ (by omega)).trans hmm
  have qb : 0 ≤ q ∧ q ≤ m := by rw [← hq']; exact ⟨Int.ediv_nonneg (by omega) (by omega), Int.ediv_le_self _ (by omega)⟩
  obtain ⟨qb1, qb2⟩ := qb
  obtain ⟨e1, e2, e3⟩ := floor_ok (a := m) (b := d) ((small_iff _).2 (by omega)) ((small_iff _).2 (by omega)) (by omega)
  have hfl := fun w => NumW.floor_at m d q r 0 w (Lib.hid ⟨by rw [e2, hq'], by rw [e3, hr'], e1⟩)
  have HFL := Lib.hid hfl
  obtain ⟨q', hq2⟩ : ∃ q', q + 1 = q' := ⟨_, rfl⟩
  obtain ⟨xr, hxr⟩ : ∃ xr, x + r = xr := ⟨_, rfl⟩
  have j7 : IntKind.i64.wrap (q + 1) = q' := (IntWalk.i64_in _ (by omega)).trans hq2
  have j8 : IntKind.i64.wrap (x + r) = xr := (IntWalk.i64_in _ (by omega)).trans hxr
  rw [hq2, hxr] at hbt
  rw [hq2] at hob
  have HBT := Lib.hid hbt
  have hF : okB (x, u) (y, v) = true → 0 = f ∧ (if r = 0 then [(x, q)] else [(x, q'), (xr, q)]) = M := fun h => by
    refine ⟨by rw [← H.out.1]; unfold beE; rw [if_pos h], ?_⟩
    rw [← H.out.2, ← hbt]
    unfold beV
    rw [if_pos h]
  have hF2 : ¬ okB (x, u) (y, v) = true → 1 = f ∧ [] = M := fun h => ⟨by rw [← H.out.1]; unfold beE; rw [if_neg h], by rw [← H.out.2]; unfold beV; rw [if_neg h]⟩
  obtain ⟨B, hB⟩ : ∃ B, w.heap.size = B := ⟨_, rfl⟩
  have HBW := Lib.hid hB
  rw [hB] at k0 k1 k2 k3
  clear hq hr hq' hr' hd hmm w3' e1 e2 e3 hfl hbt H
  go_enter Try.func25, Try.ntmps25
  go_upto_region 1 with (fail)
  generalize (w.alloc (.cells #[.int .i64 x, .int .i64 u] 40)).alloc (.cells #[.int .i64 y, .int .i64 v] 40) = W0 at *
  try simp only [hB]
  clear hB
  have hxr0 : r = 0 → xr = x := fun h => by omega
  clear hq2 hxr
  by_cases hr0 : r = 0
  · subst hr0
    obtain rfl := hxr0 rfl
    have j9 : IntKind.i64.wrap xr = xr := IntWalk.i64_in _ (by omega)
    rw [if_pos rfl] at hob
    have ro : ¬ (0 : Int) < 0 := by omega
    by_cases hok : 1 ≤ q ∧ q ≤ 4194304
    · obtain ⟨rfl, rfl⟩ := hF (hob.2 hok)
      have t3 : ¬ q < 1 := by omega
      have t4 : ¬ 4194304 < q := by omega
      clear hF hF2 hob hok hxr0
      go_upto_region 9 with (go_at_call 36; refine (HFL.out _).mono ?_; rintro e w5 ⟨rfl, hd⟩; have hO5 := Own.of_drew hd; replace k0 := hO5.cell k0; replace g0 := g0.trans hO5; clear hd hO5 k1 k2 k3)
      go_wp2_with (at_builtin; refine TemW.wpList_add_pt w5 rfl _ _ _ rfl w5.heap.size 45 i0 (.agg #[.int .i64 0, .int .i64 0]) Try.underlying27 HI.out HZ0.out HZ1.out HZ2.out rfl none 0 0 [] rfl (World.ownsRow_nil _ _ _ _) (by omega) xr q rfl (Nat.le_refl _) ?_; intro A' c' w' hown hadd; have HOWN := Lib.hid hown; have HQ := Lib.hid (hadd w5 (Own.refl w5) (Nat.le_refl _)); clear hown hadd)
      go_ret2
      exact ⟨_, rfl, row_down HOWN.out (by have := HBW.out; have := g0.size; omega), g0.trans HQ.out⟩
    · obtain ⟨rfl, rfl⟩ := hF2 (fun h => hok (hob.1 h))
      have hno : q < 1 ∨ ¬ q < 1 ∧ 4194304 < q := by omega
      clear hF hF2 hob hok hxr0
      rcases hno with t1 | ⟨t1, t2⟩
      all_goals
        go_wp2_with (go_at_call 36; refine (HFL.out _).mono ?_; rintro e w5 ⟨rfl, hd⟩; have hO5 := Own.of_drew hd; replace g0 := g0.trans hO5; clear hd hO5)
        go_ret2
        exact ⟨_, rfl, World.ownsRow_nil _ _ _ _, g0⟩
  · have rp : 0 < r := by omega
    rw [if_neg hr0] at hob
    clear hxr0
    go_upto_region 7 with (first
      | (go_at_call 36; refine (HFL.out _).mono ?_; rintro e w5 ⟨rfl, hd⟩; have hO5 := Own.of_drew hd; replace k0 := hO5.cell k0; replace g0 := g0.trans hO5; clear hd hO5 k1 k2 k3)
      | (at_builtin; refine TemW.wpList_add_pt w5 rfl _ _ _ rfl w5.heap.size 45 i0 (.agg #[.int .i64 0, .int .i64 0]) Try.underlying27 HI.out HZ0.out HZ1.out HZ2.out rfl none 0 0 [] rfl (World.ownsRow_nil _ _ _ _) (by omega) x q' rfl (Nat.le_refl _) ?_; intro A2 c2 w2 hown hadd; have HR2 := Lib.hid hown; have q2 := hadd w5 (Own.refl w5) (Nat.le_refl _); replace k0 := q2.cell k0; clear hown hadd))
    have hBw : w5.heap.size ≤ w2.heap.size := q2.size
    by_cases hok : 1 ≤ q ∧ q' ≤ 4194304
    · obtain ⟨rfl, hM⟩ := hF (hob.2 hok)
      rw [if_neg hr0] at hM
      have HMM := Lib.hid hM
      have t3 : ¬ q < 1 := by omega
      have t4 : ¬ 4194304 < q' := by omega
      clear hF hF2 hob hok hM
      go_wp2_with (at_builtin; refine TemW.wpList_add_pt w2 rfl _ _ _ rfl w5.heap.size 45 i0 (.agg #[.int .i64 0, .int .i64 0]) Try.underlying27 HI.out HZ0.out HZ1.out HZ2.out rfl A2 c2 1 [(x, q')] rfl HR2.out (by omega) xr q rfl hBw ?_; intro A' c' w' hown hadd; have HOWN := Lib.hid hown; have HQ := Lib.hid (hadd w5 q2 (Nat.le_refl _)); clear hown hadd)
      go_ret2
      exact ⟨_, rfl, by rw [← HMM.out]; exact row_down HOWN.out (by have := HBW.out; have := g0.size; omega), g0.trans HQ.out⟩
    · obtain ⟨rfl, rfl⟩ := hF2 (fun h => hok (hob.1 h))
      have hno : q < 1 ∨ ¬ q < 1 ∧ 4194304 < q' := by omega
      clear hF hF2 hob hok
      rcases hno with t1 | ⟨t1, t2⟩
      all_goals
        go_wp2
        go_ret2
        exact ⟨_, rfl, World.ownsRow_nil _ _ _ _, g0.trans q2⟩
end Go.Proofs.Ytlepcahangkmiaa.CueW
