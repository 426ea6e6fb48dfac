/-
  Walks of the program of package tempo: When and Tick. Condition: none.
-/
import Derived.Test.YtlepcahangkmiaaTempoPC
namespace Go.Proofs.Ytlepcahangkmiaa.TemW
open Go.ChangeShapes Go.WideShapes Go.ChangeAt Go.RowKit
open PairW TemP
theorem ix_new (w : World) (a : Int) (t : TypeId) : (w.alloc (.cells #[.int .i64 a] t)).cell? ⟨w.heap.size, 0, none⟩ = some (.int .i64 a) := by go_simp
set_option maxRecDepth 100000 in
set_option maxHeartbeats 1000000 in
theorem pWhen_at (l : List Pt) (sv : Value) (t v f : Int) (w : World) (HP : Hid (Pts w sv l)) (H : Hid (whE l t = f ∧ whV l t = v)) :
    Calls Try.prog 21 #[sv, .int .i64 t] w fun e w' => e = .returned (.tuple #[.int .i64 v, .int .i64 f]) ∧ Own w w' := by
  obtain ⟨c, hc⟩ : ∃ c, chkE l = c := ⟨_, rfl⟩
  have HC := Lib.hid hc
  have b0 := ix_new w t 3
  have g0 : Own w (w.alloc (.cells #[.int .i64 t] 3)) := (Own.refl w).alloc _
  by_cases h0 : c = 0
  · subst h0
    obtain ⟨u, hu⟩ : ∃ u, (decide (0 ≤ t) && decide (t ≤ 8192)) = u := ⟨_, rfl⟩
    have HU := Lib.hid hu
    cases u with
    | false =>
      have hno : ¬ (0 ≤ t ∧ t ≤ 8192) := fun h => by rw [decide_eq_true h.1, decide_eq_true h.2] at hu; cases hu
      have e := wh_no hc hno
      obtain rfl : 1 = f := by rw [← H.out.1, e.1]
      obtain rfl : 0 = v := by rw [← H.out.2, e.2]
      clear hc hu H e hno
      go_enter Try.func21, Try.ntmps21
      go_upto_region 1 with (fail)
      generalize w.alloc (.cells #[.int .i64 t] 3) = W0 at *
      go_wp2_with (first
        | (go_at_call 29; refine (pcheck_at l _ 0 _ (Lib.hid (HP.out.own g0)) HC).mono ?_; rintro e w1 ⟨rfl, hg⟩; replace g0 := g0.trans hg; replace b0 := hg.cell b0)
        | (go_at_call 30; refine (ptick_in t false _ HU).mono ?_; rintro e w1 ⟨rfl, hg⟩; replace g0 := g0.trans hg; replace b0 := hg.cell b0))
      go_ret2
      exact ⟨rfl, g0⟩
    | true =>
      have hin : 0 ≤ t ∧ t ≤ 8192 := by rw [Bool.and_eq_true] at hu; exact ⟨of_decide_eq_true hu.1, of_decide_eq_true hu.2⟩
      have e := wh_ok hc hin
      have hm := chk_map.1 hc
      obtain rfl : 0 = f := by rw [← H.out.1, e.1]
      have HV := Lib.hid (show mV l t = v by rw [← H.out.2, e.2])
      have HM := Lib.hid hm
      obtain ⟨n, hn⟩ : ∃ n, l.length = n := ⟨_, rfl⟩
      have HN := Lib.hid hn
      have hn0 : 0 < n := by rw [← hn]; exact hm.n0
      have hn1 : n ≤ 64 := by rw [← hn]; exact hm.n1
      have HAF := Lib.hid (show (fun k : Nat => decide (t < (at' l k).1)) 0 = false from decide_eq_false (by rw [hm.first]; omega))
      obtain ⟨B, hB⟩ : ∃ B, w.heap.size = B := ⟨_, rfl⟩
      have HCC := Lib.hid (fun (wx : World) (hx : wx.cell? ⟨B, 0, none⟩ = some (.int .i64 t)) => show (∀ k t' w', k < n → Own wx w' → (fun k : Nat => decide (t < (at' l k).1)) k = t' → Calls Try.prog 33 (#[.agg #[.int .i64 (at' l k).1, .int .i64 (at' l k).2, .int .i64 (mo l k)]] ++ #[.pointer (some ⟨B, 0, none⟩)]) w' fun e w2 => e = .returned (.bool t') ∧ Own w' w2) from fun k t' w' _ ho ht => pwclose_at _ _ _ t B t' w' (ho.cell hx) (Lib.hid ht))
      rw [hB] at b0
      clear hc hu H e hm hn
      go_enter Try.func21, Try.ntmps21
      go_upto_region 1 with (fail)
      generalize w.alloc (.cells #[.int .i64 t] 3) = W0 at *
      try simp only [hB]
      clear hB
      go_upto_region 7 with (first
        | (go_at_call 29; refine (pcheck_at l _ 0 _ (Lib.hid (HP.out.own g0)) HC).mono ?_; rintro e w1 ⟨rfl, hg⟩; replace g0 := g0.trans hg; replace b0 := hg.cell b0; clear hg)
        | (go_at_call 30; refine (ptick_in t true _ HU).mono ?_; rintro e w1 ⟨rfl, hg⟩; replace g0 := g0.trans hg; replace b0 := hg.cell b0; clear hg)
        | (go_at_call 32; refine (ppieces_at l _ n _ (Lib.hid (HP.out.own g0)) HM HN).mono ?_; rintro e w1 ⟨G, rfl, hG, hpc, hg⟩; replace g0 := g0.trans hg; replace b0 := hg.cell b0; have HPC := Lib.hid hpc; clear hg hpc)
        | (go_at_call 31; refine (plast_at 33 #[.pointer (some ⟨B, 0, none⟩)] (fun k : Nat => decide (t < (at' l k).1)) l G n _ (enters_of Try.func33 (by kernel_rfl) rfl) HPC hn0 hn1 HAF (Lib.hid (HCC.out _ b0))).mono ?_; rintro e w1 ⟨k, rfl, hk, hk1, hk2, hg⟩; replace g0 := g0.trans hg; replace b0 := hg.cell b0; have HK1 := Lib.hid hk1; have HK2 := Lib.hid hk2; clear hg hk1 hk2))
      have hkl : k < l.length := by rw [HN.out]; exact hk
      have hp : IsP l t k := ⟨hkl, by have := of_decide_eq_false HK1.out; omega, fun x => of_decide_eq_true (HK2.out (by rw [← HN.out]; exact x))⟩
      have hv : dl l k t = v := by rw [← mV_is HM.out hp]; exact HV.out
      have b1 := mo_bound HM.out k hkl
      have b2 := ok_at HM.out.ok hkl
      have b3 := dl_bound HM.out hkl hp.lo
      have b4 := hp.lo
      unfold dl at hv b3
      clear hp hkl HK1 HK2
      obtain ⟨⟨x, y⟩, hxy⟩ : ∃ v, at' l k = v := ⟨_, rfl⟩
      obtain ⟨s, hs⟩ : ∃ v, mo l k = v := ⟨_, rfl⟩
      simp only [hxy, hs] at hv b1 b2 b3 b4 ⊢
      have w1' : -1000000 ≤ t - x ∧ t - x ≤ 1000000 := by omega
      have w2' : -1000000000000 ≤ (t - x) * y ∧ (t - x) * y ≤ 1000000000000 := by omega
      have w3' : -1000000000000 ≤ s ∧ s ≤ 1000000000000 := by omega
      have HW := Lib.hid hv
      obtain ⟨k0, k1, k2, -⟩ := pc_new w1 x y s 56
      have g1 : Own w1 (w1.alloc (.cells #[.int .i64 x, .int .i64 y, .int .i64 s] 56)) := (Own.refl w1).alloc _
      replace b0 := g1.cell b0
      replace g0 := g0.trans g1
      clear hxy hs hv b1 b2 b3 b4 g1
      generalize w1.alloc (.cells #[.int .i64 x, .int .i64 y, .int .i64 s] 56) = W1 at *
      go_wp2_with (go_at_call 34; refine (pwhen_at x y s t v _ HW w1' w2' w3').mono ?_; rintro e w5 ⟨rfl, hg⟩; replace g0 := g0.trans hg)
      go_ret2
      exact ⟨rfl, g0⟩
  · have e := wh_bad t (show chkE l ≠ 0 by rw [hc]; exact h0)
    obtain rfl : c = f := by rw [← H.out.1, e.1, hc]
    obtain rfl : 0 = v := by rw [← H.out.2, e.2]
    have d0 : (c != 0) = true := bne_iff_ne.2 h0
    clear hc H e
    go_enter Try.func21, Try.ntmps21
    go_upto_region 1 with (fail)
    generalize w.alloc (.cells #[.int .i64 t] 3) = W0 at *
    go_wp2_with (go_at_call 29; refine (pcheck_at l _ c _ (Lib.hid (HP.out.own g0)) HC).mono ?_; rintro e w1 ⟨rfl, hg⟩; replace g0 := g0.trans hg)
    go_ret2
    exact ⟨rfl, g0⟩
end Go.Proofs.Ytlepcahangkmiaa.TemW
