/-
  Walks of the program of package meter: Measure. Condition: none.
-/
import Derived.Test.YtmmgidchgoligaaMeterPA
import Derived.Test.YtmmgidchgoligaaMeterMem
import Derived.Deep.RegionWith
namespace Go.Proofs.Ytmmgidchgoligaa.MetW
open Go.ChangeShapes Go.WideShapes Go.ChangeAt Go.RowKit
open PairW MetP
set_option maxRecDepth 100000 in
set_option maxHeartbeats 1000000 in
theorem pmeasure_at (l : List Pt) (sv : Value) (i : Int) (v : Pt) (f : Int) (w : World) (HP : Hid (Pts w sv l)) (H : Hid (mE l i = f ∧ mV l i = v)) :
    Calls Try.prog 15 #[sv, .int .i64 i] w fun e w' => e = .returned (.tuple #[.agg #[.int .i64 v.1, .int .i64 v.2], .int .i64 f]) ∧ Own w w' := by
  obtain ⟨c, hc⟩ : ∃ c, chkE l = c := ⟨_, rfl⟩
  have HC := Lib.hid hc
  obtain ⟨A, cap, rfl, ha1, ha2, _⟩ := HP.out.open
  unfold maxLen at ha2
  obtain ⟨n, hn⟩ : ∃ n, l.length = n := ⟨_, rfl⟩
  rw [hn] at ha1 HP ⊢
  obtain ⟨z, z0, z1, z2⟩ := pt_new w 0 0 30
  have g0 : Own w (w.alloc (.cells #[.int .i64 0, .int .i64 0] 30)) := (Own.refl w).alloc _
  by_cases h0 : c = 0
  · subst h0
    by_cases h1 : 0 ≤ i ∧ i < n
    · obtain ⟨k, rfl⟩ := Int.eq_ofNat_of_zero_le h1.1
      have hk : k < n := by omega
      obtain ⟨hm1, hm2⟩ := mV_at hc (i := k) (by omega)
      obtain rfl : 0 = f := by rw [← H.out.1, hm1]
      obtain ⟨s1, hs1⟩ : ∃ s, tot (l.take k) = s := ⟨_, rfl⟩
      obtain ⟨s2, hs2⟩ : ∃ s, tot (l.take (k + 1)) = s := ⟨_, rfl⟩
      obtain rfl : (s1, s2) = v := by rw [← H.out.2, hm2, hs1, hs2]
      simp only
      obtain ⟨_, hl, ho, _⟩ := chk_zero.1 hc
      have HO1 := Lib.hid (ok_take ho k)
      have HO2 := Lib.hid (ok_take ho (k + 1))
      have HS1 := Lib.hid hs1
      have HS2 := Lib.hid hs2
      have hl1 : (l.take k).length ≤ 128 := by rw [List.length_take]; omega
      have hl2 : (l.take (k + 1)).length ≤ 128 := by rw [List.length_take]; omega
      have HT1 := Lib.hid (pts_take HP.out (k := k) (by omega))
      have HT2 := Lib.hid (pts_take HP.out (k := k + 1) (by omega))
      have i1 : IntKind.i64.wrap ((k : Int) + 1) = (k : Int) + 1 := IntWalk.i64_in _ (by omega)
      have d1 : ¬ (k : Int) < 0 := by omega
      have d2 : decide ((n : Int) ≤ (k : Int)) = false := decide_eq_false (by omega)
      have d3 : 0 ≤ (k : Int) := by omega
      have d4 : (k : Int) ≤ cap := by omega
      have d5 : 0 ≤ (k : Int) + 1 := by omega
      have d7 : ((k : Int) + 1).toNat = k + 1 := by omega
      have d6 : (k : Int) + 1 ≤ cap := by omega
      clear hc hn h1 hm1 hm2 hs1 hs2 ho hl H
      go_enter Try.func15, Try.ntmps15
      go_upto_region 1 with (fail)
      generalize w.alloc (.cells #[.int .i64 0, .int .i64 0] 30) = W0 at *
      go_upto_region 6 with (go_at_call 12; refine (pcheck_at l _ 0 _ (Lib.hid (HP.out.own g0)) HC).mono ?_; rintro e w1 ⟨rfl, hg⟩; replace z1 : w1.frozen? _ = _ := frozen_kept hg z z1; replace z2 : w1.frozen? _ = _ := frozen_kept hg z0 z2; replace z := hg.cell z; replace z0 := hg.cell z0; replace g0 := g0.trans hg; clear hg)
      go_region_with (go_at_call 27; (first | (with_reducible refine (pticks_at (l.take k) _ s1 _ (Lib.hid (HT1.out.own g0.drew)) HO1 hl1 HS1).mono ?_; rintro e w5 ⟨rfl, hg⟩; replace g0 := g0.drew.trans hg) | (with_reducible refine (pticks_at (l.take (k + 1)) _ s2 _ (Lib.hid (HT2.out.own g0)) HO2 hl2 HS2).mono ?_; rintro e w5 ⟨rfl, hg⟩; replace g0 := g0.trans hg)); replace z1 : w5.frozen? _ = _ := frozen_kept hg z z1; replace z2 : w5.frozen? _ = _ := frozen_kept hg z0 z2; replace z := hg.cell z; replace z0 := hg.cell z0; clear hg)
      go_wp2
      exact bodyPost_ret (v := .tuple #[.agg #[.int .i64 s1, .int .i64 s2], .int .i64 0]) (by simp [results, Try.results15, go_sem, z, z0]) rfl ⟨rfl, (g0.setCell (by simp) _).setCell (by simp) _⟩
    · obtain rfl : 32 = f := by rw [← H.out.1, mE_no hc (by rw [hn]; exact h1)]
      obtain rfl : (0, 0) = v := by rw [← H.out.2, mV_none (by rw [H.out.1]; decide)]
      simp only
      have hno : i < 0 ∨ ¬ i < 0 ∧ (n : Int) ≤ i := by omega
      clear hc hn h1 H
      go_enter Try.func15, Try.ntmps15
      go_upto_region 1 with (fail)
      generalize w.alloc (.cells #[.int .i64 0, .int .i64 0] 30) = W0 at *
      go_upto_region 4 with (go_at_call 12; refine (pcheck_at l _ 0 _ (Lib.hid (HP.out.own g0)) HC).mono ?_; rintro e w1 ⟨rfl, hg⟩; replace z1 : w1.frozen? _ = _ := frozen_kept hg z z1; replace z2 : w1.frozen? _ = _ := frozen_kept hg z0 z2; replace z := hg.cell z; replace z0 := hg.cell z0; replace g0 := g0.trans hg; clear hg)
      rcases hno with h | ⟨h, h1⟩
      all_goals
        go_wp2
        exact bodyPost_ret (v := .tuple #[.agg #[.int .i64 0, .int .i64 0], .int .i64 32]) (by simp [results, Try.results15, go_sem, z, z0]) rfl ⟨rfl, (g0.setCell (by simp) _).setCell (by simp) _⟩
  · obtain rfl : c = f := by rw [← H.out.1, mE_bad i (by rw [hc]; exact h0), hc]
    obtain rfl : (0, 0) = v := by rw [← H.out.2, mV_none (by rw [H.out.1]; exact h0)]
    simp only
    have d0 : (c != 0) = true := bne_iff_ne.2 h0
    clear hc hn H
    go_enter Try.func15, Try.ntmps15
    go_upto_region 1 with (fail)
    generalize w.alloc (.cells #[.int .i64 0, .int .i64 0] 30) = W0 at *
    go_wp2_with (go_at_call 12; refine (pcheck_at l _ c _ (Lib.hid (HP.out.own g0)) HC).mono ?_; rintro e w1 ⟨rfl, hg⟩; replace z1 : w1.frozen? _ = _ := frozen_kept hg z z1; replace z2 : w1.frozen? _ = _ := frozen_kept hg z0 z2; replace z := hg.cell z; replace z0 := hg.cell z0; replace g0 := g0.trans hg; clear hg)
    exact bodyPost_ret (v := .tuple #[.agg #[.int .i64 0, .int .i64 0], .int .i64 c]) (by simp [results, Try.results15, go_sem, z, z0]) rfl ⟨rfl, (g0.setCell (by simp) _).setCell (by simp) _⟩
end Go.Proofs.Ytmmgidchgoligaa.MetW
