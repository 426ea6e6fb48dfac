/-
  Walks of the specification of package meter: total, Check, Length, Measure. Condition: none.
-/
import Derived.Test.YtmmgidchgoligaaMeterMem
import Derived.Lib.Hide
import Derived.Lib.SliceRun
import Derived.Deep.DeepCutAuto
import Derived.Deep.RegionWith
namespace Go.Proofs.Ytmmgidchgoligaa.MetW
open Go.ChangeShapes Go.WideShapes Go.ChangeAt Go.RowKit
open PairW MetP
/-- What a step of a sum of ticks stays within. -/
theorem rtot_step {l : List Pt} (h : Ok l) (hl : l.length ≤ 128) {k : Nat} (hk : k < l.length) : (1 ≤ (at' l k).1 * (at' l k).2 ∧ (at' l k).1 * (at' l k).2 ≤ 1536) ∧ 0 ≤ tot (l.take k) ∧ tot (l.take k) ≤ 200000 := by
  have ho := ok_at h hk
  have := tot_le h k
  have := tot_bound h
  exact ⟨MetP.prod_bound ho.1 ho.2, by omega, by omega⟩
set_option maxRecDepth 100000 in
theorem rtotal_at (l : List Pt) (sv : Value) (v : Int) (w : World) (HP : Hid (Pts w sv l)) (HO : Hid (Ok l)) (hl : l.length ≤ 128) (H : Hid (tot l = v)) :
    Calls Try.prog 28 #[sv] w fun e w' => e = .returned (.int .i64 v) ∧ Own w w' := by
  obtain ⟨A, cap, rfl, ha1, ha2, ha⟩ := HP.out.open
  unfold maxLen at ha2
  have HA := Lib.hid ha
  clear ha HP
  obtain ⟨n, hn⟩ : ∃ n, l.length = n := ⟨_, rfl⟩
  have HS := Lib.hid (fun k (hk : k < n) => rtot_step HO.out hl (k := k) (by rw [hn]; exact hk))
  have HT := Lib.hid (fun k (hk : k < n) => tot_take (l := l) (k := k) (by rw [hn]; exact hk))
  have HL := Lib.hid (show tot (l.take n) = v by rw [List.take_of_length_le (by omega)]; exact H.out)
  rw [hn] at HA ha1 hl ⊢
  clear hn H HO
  go_enter Try.func28, Try.ntmps28
  go_wp2
  go_loopw [3, 4] (fun vn vi wr => ∃ k : Nat, vi = .int .i64 (k : Int) ∧ vn = .int .i64 (tot (l.take k)) ∧ k ≤ n ∧ Own w wr) (fun _ vi _ => n - (intOf vi).toNat)
  case atStart => exact ⟨0, rfl, rfl, Nat.zero_le _, Own.refl w⟩
  case round =>
    obtain ⟨k, rfl, rfl, hk, g0⟩ := hrel
    by_cases hlt : k < n
    · obtain ⟨b, off, rfl, hc⟩ := HA.out (by omega)
      have e0 := g0.cell (hc k hlt).1
      have e1 := g0.cell (hc k hlt).2
      have hs := HS.out k hlt
      have ht := HT.out k hlt
      clear hc
      obtain ⟨⟨x, y⟩, hp⟩ : ∃ p, at' l k = p := ⟨_, rfl⟩
      rw [hp] at e0 e1 hs ht
      simp only at e0 e1 hs ht
      have HT1 := Lib.hid ht
      clear hp ht
      generalize tot (l.take k) = s at *
      have hkn : (k : Int) < n := by omega
      have i1 : IntKind.i64.wrap (x * y) = x * y := IntWalk.i64_in _ (by omega)
      have i2 : IntKind.i64.wrap (s + x * y) = s + x * y := IntWalk.i64_in _ (by omega)
      go_upto_region 5 with (fail)
      go_quiet (fail)
      go_wp2
      go_roundw
      case rel => exact ⟨k + 1, by go_num, by rw [HT1.out], hlt, g0.drewN _⟩
      case measure => simp [intOf]; omega
    · obtain rfl : k = n := by omega
      have hv := HL.out
      generalize tot (l.take k) = s at *
      subst hv
      go_wp2
      go_ret
      exact ⟨rfl, g0⟩
set_option maxRecDepth 100000 in
set_option maxHeartbeats 2000000 in
theorem rcheck_at (l : List Pt) (sv : Value) (f : Int) (w : World) (HP : Hid (Pts w sv l)) (H : Hid (chkE l = f)) :
    Calls Try.prog 13 #[sv] w fun e w' => e = .returned (.int .i64 f) ∧ Own w w' := by
  have HP0 := HP
  obtain ⟨A, cap, rfl, ha1, ha2, ha⟩ := HP.out.open
  unfold maxLen at ha2
  have HA := Lib.hid ha
  clear ha HP
  obtain ⟨n, hn⟩ : ∃ n, l.length = n := ⟨_, rfl⟩
  rw [hn] at HA ha1 HP0 ⊢
  have HN := Lib.hid hn
  clear hn
  by_cases h0 : n = 0
  · obtain rfl : 4 = f := by rw [← H.out, chk_empty (HN.out.trans h0)]
    subst h0
    clear H HA HP0
    go_enter Try.func13, Try.ntmps13
    go_wp2
    go_ret
    exact ⟨rfl, Own.refl w⟩
  have d0 : ((n : Int) == 0) = false := beq_eq_false_iff_ne.2 (by omega)
  by_cases h1 : 128 < n
  · obtain rfl : 3 = f := by rw [← H.out, chk_many (l := l) (by rw [HN.out]; exact h1)]
    have d1 : (128 : Int) < n := by omega
    clear H HA HP0
    go_enter Try.func13, Try.ntmps13
    go_wp2
    go_ret
    exact ⟨rfl, Own.refl w⟩
  have d1 : ¬ (128 : Int) < n := by omega
  go_enter Try.func13, Try.ntmps13
  go_wp2
  go_loopw [3] (fun vi wr => ∃ k : Nat, vi = .int .i64 (k : Int) ∧ k ≤ n ∧ Own w wr ∧ ∀ j, j < k → okM (at' l j) = true) (fun vi _ => n - (intOf vi).toNat)
  case atStart => exact ⟨0, rfl, Nat.zero_le _, Own.refl w, fun j hj => absurd hj (Nat.not_lt_zero _)⟩
  case round =>
    obtain ⟨k, rfl, hk, g0, hok⟩ := hrel
    have HOK := Lib.hid hok
    clear hok
    by_cases hlt : k < n
    · obtain ⟨b, off, rfl, hc⟩ := HA.out (by omega)
      have e0 := g0.cell (hc k hlt).1
      have e1 := g0.cell (hc k hlt).2
      clear hc
      have HB := Lib.hid (fun (e : okM (at' l k) = false) => chk_bad (l := l) (i := k) (by rw [HN.out]; exact h0) (by rw [HN.out]; omega) (by rw [HN.out]; exact hlt) e)
      obtain ⟨⟨x, y⟩, hp⟩ : ∃ p, at' l k = p := ⟨_, rfl⟩
      have HPP := Lib.hid hp
      rw [hp] at e0 e1 HB
      simp only at e0 e1
      clear hp
      have hkn : (k : Int) < n := by omega
      by_cases c1 : x < 1
      · obtain rfl : 1 = f := by rw [← H.out, HB.out (by unfold okM; rw [decide_eq_false (show ¬ (1 : Int) ≤ x by omega)]; simp)]
        go_wp2
        go_ret
        exact ⟨rfl, g0⟩
      by_cases c2 : 16 < x
      · obtain rfl : 1 = f := by rw [← H.out, HB.out (by unfold okM; rw [decide_eq_false (show ¬ x ≤ 16 by omega)]; simp)]
        go_wp2
        go_ret
        exact ⟨rfl, g0⟩
      by_cases c3 : y < 1
      · obtain rfl : 1 = f := by rw [← H.out, HB.out (by unfold okM; rw [decide_eq_false (show ¬ (1 : Int) ≤ y by omega)]; simp)]
        go_wp2
        go_ret
        exact ⟨rfl, g0⟩
      by_cases c4 : 96 < y
      · obtain rfl : 1 = f := by rw [← H.out, HB.out (by unfold okM; rw [decide_eq_false (show ¬ y ≤ 96 by omega)]; simp)]
        go_wp2
        go_ret
        exact ⟨rfl, g0⟩
      have HTT := Lib.hid (show okM (at' l k) = true by rw [HPP.out, okM_iff]; exact ⟨⟨by omega, by omega⟩, by omega, by omega⟩)
      clear HB HPP
      go_wp2
      go_roundw
      case rel => exact ⟨k + 1, by go_num, hlt, g0, fun j hj => by
        by_cases e : j = k
        · rw [e]; exact HTT.out
        · exact HOK.out j (by omega)⟩
      case measure => simp [intOf]; omega
    · obtain rfl : k = n := by omega
      have ho : Ok l := ok_upto (by rw [HN.out]; exact HOK.out)
      obtain ⟨s, hs⟩ : ∃ s, tot l = s := ⟨_, rfl⟩
      have HO := Lib.hid ho
      have HS := Lib.hid hs
      have hl : l.length ≤ 128 := by rw [HN.out]; omega
      by_cases h2 : 8192 < s
      · obtain rfl : 3 = f := by rw [← H.out, chk_long (l := l) (by rw [HN.out]; exact h0) hl ho (by rw [hs]; exact h2)]
        clear ho hs
        go_wp2_with (go_at_call 28; refine (rtotal_at l _ s _ (Lib.hid (HP0.out.own g0)) HO hl HS).mono ?_; rintro e w2 ⟨rfl, g2⟩)
        go_ret
        exact ⟨rfl, g0.trans g2⟩
      · obtain rfl : 0 = f := by rw [← H.out, chk_good (l := l) (by rw [HN.out]; exact h0) hl ho (by rw [hs]; omega)]
        clear ho hs
        go_wp2_with (go_at_call 28; refine (rtotal_at l _ s _ (Lib.hid (HP0.out.own g0)) HO hl HS).mono ?_; rintro e w2 ⟨rfl, g2⟩)
        go_ret
        exact ⟨rfl, g0.trans g2⟩
set_option maxRecDepth 100000 in
theorem rlength_at (l : List Pt) (sv : Value) (v f : Int) (w : World) (HP : Hid (Pts w sv l)) (H : Hid (chkE l = f ∧ lenV l = v)) :
    Calls Try.prog 11 #[sv] w fun e w' => e = .returned (.tuple #[.int .i64 v, .int .i64 f]) ∧ Own w w' := by
  by_cases h0 : f = 0
  · subst h0
    obtain ⟨hc, hv⟩ := H.out
    rw [lenV_ok hc] at hv
    obtain ⟨_, hl, ho, _⟩ := chk_zero.1 hc
    have HC := Lib.hid hc
    have HO := Lib.hid ho
    have HV := Lib.hid hv
    clear hc hv ho H
    go_enter Try.func11, Try.ntmps11
    go_wp2_with (first | (go_at_call 13; refine (rcheck_at l _ 0 _ HP HC).mono ?_; rintro e w2 ⟨rfl, g2⟩) | (go_at_call 28; refine (rtotal_at l _ v _ (Lib.hid (HP.out.own g2)) HO hl HV).mono ?_; rintro e w3 ⟨rfl, g3⟩))
    go_ret2
    exact ⟨rfl, g2.trans g3⟩
  · obtain rfl : 0 = v := by rw [← H.out.2, lenV_bad (by rw [H.out.1]; exact h0)]
    have HC := Lib.hid H.out.1
    have d0 : (f != 0) = true := bne_iff_ne.2 h0
    clear H
    go_enter Try.func11, Try.ntmps11
    go_wp2_with (go_at_call 13; refine (rcheck_at l _ f _ HP HC).mono ?_; rintro e w2 ⟨rfl, g2⟩)
    go_ret2
    exact ⟨rfl, g2⟩
set_option maxRecDepth 100000 in
set_option maxHeartbeats 1000000 in
theorem rmeasure_at (l : List Pt) (sv : Value) (i : Int) (v : Pt) (f : Int) (w : World) (HP : Hid (Pts w sv l)) (H : Hid (mE l i = f ∧ mV l i = v)) :
    Calls Try.prog 16 #[sv, .int .i64 i] w fun e w' => e = .returned (.tuple #[.agg #[.int .i64 v.1, .int .i64 v.2], .int .i64 f]) ∧ Own w w' := by
  obtain ⟨c, hc⟩ : ∃ c, chkE l = c := ⟨_, rfl⟩
  have HC := Lib.hid hc
  obtain ⟨A, cap, rfl, ha1, ha2, _⟩ := HP.out.open
  unfold maxLen at ha2
  obtain ⟨n, hn⟩ : ∃ n, l.length = n := ⟨_, rfl⟩
  rw [hn] at ha1 HP ⊢
  obtain ⟨z, z0, z1, z2⟩ := pt_new w 0 0 30
  have g0 : Own w (w.alloc (.cells #[.int .i64 0, .int .i64 0] 30)) := (Own.refl w).alloc _
  by_cases h0 : c = 0
  · subst h0
    by_cases h1 : 0 ≤ i ∧ i < n
    · obtain ⟨k, rfl⟩ := Int.eq_ofNat_of_zero_le h1.1
      have hk : k < n := by omega
      obtain ⟨hm1, hm2⟩ := mV_at hc (i := k) (by omega)
      obtain rfl : 0 = f := by rw [← H.out.1, hm1]
      obtain ⟨s1, hs1⟩ : ∃ s, tot (l.take k) = s := ⟨_, rfl⟩
      obtain ⟨s2, hs2⟩ : ∃ s, tot (l.take (k + 1)) = s := ⟨_, rfl⟩
      obtain rfl : (s1, s2) = v := by rw [← H.out.2, hm2, hs1, hs2]
      simp only
      obtain ⟨_, hl, ho, _⟩ := chk_zero.1 hc
      have HO1 := Lib.hid (ok_take ho k)
      have HO2 := Lib.hid (ok_take ho (k + 1))
      have HS1 := Lib.hid hs1
      have HS2 := Lib.hid hs2
      have hl1 : (l.take k).length ≤ 128 := by rw [List.length_take]; omega
      have hl2 : (l.take (k + 1)).length ≤ 128 := by rw [List.length_take]; omega
      have HT1 := Lib.hid (pts_take HP.out (k := k) (by omega))
      have HT2 := Lib.hid (pts_take HP.out (k := k + 1) (by omega))
      have i1 : IntKind.i64.wrap ((k : Int) + 1) = (k : Int) + 1 := IntWalk.i64_in _ (by omega)
      have d1 : ¬ (k : Int) < 0 := by omega
      have d2 : decide ((n : Int) ≤ (k : Int)) = false := decide_eq_false (by omega)
      have d3 : 0 ≤ (k : Int) := by omega
      have d4 : (k : Int) ≤ cap := by omega
      have d5 : 0 ≤ (k : Int) + 1 := by omega
      have d7 : ((k : Int) + 1).toNat = k + 1 := by omega
      have d6 : (k : Int) + 1 ≤ cap := by omega
      clear hc hn h1 hm1 hm2 hs1 hs2 ho hl H
      go_enter Try.func16, Try.ntmps16
      go_upto_region 1 with (fail)
      generalize w.alloc (.cells #[.int .i64 0, .int .i64 0] 30) = W0 at *
      go_upto_region 6 with (go_at_call 13; refine (rcheck_at l _ 0 _ (Lib.hid (HP.out.own g0)) HC).mono ?_; rintro e w1 ⟨rfl, hg⟩; replace z1 : w1.frozen? _ = _ := frozen_kept hg z z1; replace z2 : w1.frozen? _ = _ := frozen_kept hg z0 z2; replace z := hg.cell z; replace z0 := hg.cell z0; replace g0 := g0.trans hg; clear hg)
      go_region_with (go_at_call 28; (first | (with_reducible refine (rtotal_at (l.take k) _ s1 _ (Lib.hid (HT1.out.own g0.drew)) HO1 hl1 HS1).mono ?_; rintro e w5 ⟨rfl, hg⟩; replace g0 := g0.drew.trans hg) | (with_reducible refine (rtotal_at (l.take (k + 1)) _ s2 _ (Lib.hid (HT2.out.own g0)) HO2 hl2 HS2).mono ?_; rintro e w5 ⟨rfl, hg⟩; replace g0 := g0.trans hg)); replace z1 : w5.frozen? _ = _ := frozen_kept hg z z1; replace z2 : w5.frozen? _ = _ := frozen_kept hg z0 z2; replace z := hg.cell z; replace z0 := hg.cell z0; clear hg)
      go_wp2
      exact bodyPost_ret (v := .tuple #[.agg #[.int .i64 s1, .int .i64 s2], .int .i64 0]) (by simp [results, Try.results16, go_sem, z, z0]) rfl ⟨rfl, (g0.setCell (by simp) _).setCell (by simp) _⟩
    · obtain rfl : 32 = f := by rw [← H.out.1, mE_no hc (by rw [hn]; exact h1)]
      obtain rfl : (0, 0) = v := by rw [← H.out.2, mV_none (by rw [H.out.1]; decide)]
      simp only
      have hno : i < 0 ∨ ¬ i < 0 ∧ (n : Int) ≤ i := by omega
      clear hc hn h1 H
      go_enter Try.func16, Try.ntmps16
      go_upto_region 1 with (fail)
      generalize w.alloc (.cells #[.int .i64 0, .int .i64 0] 30) = W0 at *
      go_upto_region 4 with (go_at_call 13; refine (rcheck_at l _ 0 _ (Lib.hid (HP.out.own g0)) HC).mono ?_; rintro e w1 ⟨rfl, hg⟩; replace z1 : w1.frozen? _ = _ := frozen_kept hg z z1; replace z2 : w1.frozen? _ = _ := frozen_kept hg z0 z2; replace z := hg.cell z; replace z0 := hg.cell z0; replace g0 := g0.trans hg; clear hg)
      rcases hno with h | ⟨h, h1⟩
      all_goals
        go_wp2
        exact bodyPost_ret (v := .tuple #[.agg #[.int .i64 0, .int .i64 0], .int .i64 32]) (by simp [results, Try.results16, go_sem, z, z0]) rfl ⟨rfl, (g0.setCell (by simp) _).setCell (by simp) _⟩
  · obtain rfl : c = f := by rw [← H.out.1, mE_bad i (by rw [hc]; exact h0), hc]
    obtain rfl : (0, 0) = v := by rw [← H.out.2, mV_none (by rw [H.out.1]; exact h0)]
    simp only
    have d0 : (c != 0) = true := bne_iff_ne.2 h0
    clear hc hn H
    go_enter Try.func16, Try.ntmps16
    go_upto_region 1 with (fail)
    generalize w.alloc (.cells #[.int .i64 0, .int .i64 0] 30) = W0 at *
    go_wp2_with (go_at_call 13; refine (rcheck_at l _ c _ (Lib.hid (HP.out.own g0)) HC).mono ?_; rintro e w1 ⟨rfl, hg⟩; replace z1 : w1.frozen? _ = _ := frozen_kept hg z z1; replace z2 : w1.frozen? _ = _ := frozen_kept hg z0 z2; replace z := hg.cell z; replace z0 := hg.cell z0; replace g0 := g0.trans hg; clear hg)
    exact bodyPost_ret (v := .tuple #[.agg #[.int .i64 0, .int .i64 0], .int .i64 c]) (by simp [results, Try.results16, go_sem, z, z0]) rfl ⟨rfl, (g0.setCell (by simp) _).setCell (by simp) _⟩
end Go.Proofs.Ytmmgidchgoligaa.MetW
