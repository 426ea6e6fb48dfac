/-
  Walk of the law MeterCuts. Condition: none.
-/
import Derived.Test.YtmmgidchgoligaaMeterT
namespace Go.Proofs.Ytmmgidchgoligaa.MetW
open Go.ChangeShapes Go.WideShapes Go.ChangeAt Go.RowKit
open PairW CelW MetP
set_option maxRecDepth 100000 in
set_option maxHeartbeats 8000000 in
theorem lcuts_at (l : List Pt) (sv : Value) (s1 s2 i : Int) (w : World) (HP : Hid (Pts w sv l)) :
    Calls Try.prog 8 #[sv, .agg #[.int .i64 s1, .int .i64 s2], .int .i64 i] w fun e w' => e = .returned (.bool true) ∧ Own w w' := by
  obtain ⟨c, hc⟩ : ∃ c, cE l (s1, s2) = c := ⟨_, rfl⟩
  obtain ⟨M, hM⟩ : ∃ M, cV l (s1, s2) = M := ⟨_, rfl⟩
  have HC := Lib.hid (And.intro hc hM)
  obtain ⟨k0, k1, _, _⟩ := pt_new w s1 s2 30
  have g0 : Own w (w.alloc (.cells #[.int .i64 s1, .int .i64 s2] 30)) := (Own.refl w).alloc _
  by_cases h0 : c = 0
  · subst h0
    obtain ⟨hch, _⟩ := cE_zero.1 hc
    obtain ⟨a, b, hs, hab, hb, hcv, hcc, hlen⟩ := cut_eq hc
    injection hs with e1 e2
    subst e1
    subst e2
    rw [hM] at hcv hcc hlen
    have hl := (chk_zero.1 hch).2.1
    have ho := (chk_zero.1 hch).2.2.1
    obtain ⟨p, hp⟩ : ∃ p, tot (l.take a) = p := ⟨_, rfl⟩
    obtain ⟨p', hp'⟩ : ∃ p, tot (l.take (a + 1)) = p := ⟨_, rfl⟩
    have H1 := mV_at hch (i := a) (by omega)
    rw [hp, hp'] at H1
    have HM1 := Lib.hid H1
    have HCC := Lib.hid hcc
    have HAT := Lib.hid (fun k (hk : k < b - a) => show at' M k = at' l (a + k) by rw [hcv]; exact cut_at hk)
    have HTK := Lib.hid (fun k (hk : a + k ≤ b) => show tot (M.take k) = tot (l.take (a + k)) - p by rw [hcv, ← hp]; exact cut_take hk)
    have HMV := Lib.hid (fun k (hk : k < l.length) => mV_at hch hk)
    have HMC := Lib.hid (fun k (hk : k < M.length) => mV_at hcc hk)
    have HNO := Lib.hid (fun j (hj : ¬ (0 ≤ j ∧ j < (M.length : Int))) => mE_no hcc hj)
    have HLE := Lib.hid (fun k => tot_le ho k)
    have HLT := Lib.hid ((chk_zero.1 hch).2.2.2)
    have HLP := tot_le ho a
    have hlt0 := (chk_zero.1 hch).2.2.2
    rw [hp] at HLP
    obtain ⟨Al, capl, rfl, l1, l2, l3⟩ := HP.out.open
    unfold maxLen at l2
    have HA := Lib.hid l3
    obtain ⟨n, hn⟩ : ∃ n, l.length = n := ⟨_, rfl⟩
    rw [hn] at HA l1 HP hl hb HMV ⊢
    obtain ⟨m, hm⟩ : ∃ m, b - a = m := ⟨_, rfl⟩
    rw [hm] at hlen HAT
    have HLN := Lib.hid hlen
    rw [hlen] at HMC HNO
    have d1 : decide ((a : Int) < 0) = false := decide_eq_false (by omega)
    have d2 : decide ((b : Int) ≤ (a : Int)) = false := decide_eq_false (by omega)
    have d3 : decide ((n : Int) < (b : Int)) = false := decide_eq_false (by omega)
    have i1 : IntKind.i64.wrap ((b : Int) - (a : Int)) = (m : Int) := by rw [IntWalk.i64_in _ (by omega)]; omega
    have i2 : ((m : Int) != (m : Int)) = false := bne_self_eq_false _
    clear hc hM hch hcv hcc hp hp' H1 ho hn hlen
    go_enter Try.func8, Try.ntmps8
    go_upto_region 1 with (fail)
    generalize w.alloc (.cells #[.int .i64 (a : Int), .int .i64 (b : Int)] 30) = W0 at *
    generalize w.heap.size = B0 at *
    go_upto_region 2 with (go_at_call 21; refine (pcut_at l _ a b M 0 _ (Lib.hid (HP.out.own g0)) HC).mono ?_; rintro e w1 ⟨vc, rfl, hr, hg⟩; have HX := Lib.hid (pts_of_row hr); replace g0 : Own w w1 := g0.trans hg; replace k0 := hg.cell k0; replace k1 := hg.cell k1; clear hg hr)
    obtain ⟨A, cap, rfl, a1, a2, a3⟩ := HX.out.open
    unfold maxLen at a2
    rw [HLN.out] at a1 HX
    simp only [HLN.out]
    clear a3
    go_upto_region 7 with (go_at_call 15; refine (pmeasure_at l _ a (p, p') 0 _ (Lib.hid (HP.out.own g0)) HM1).mono ?_; rintro e w2 ⟨rfl, hg⟩; replace g0 : Own w w2 := g0.trans hg; replace k0 := hg.cell k0; replace k1 := hg.cell k1; replace HX := Lib.hid (HX.out.own hg); clear hg)
    obtain ⟨f0, f1, _, _⟩ := pt_new w2 p p' 30
    have q1 : Own w2 (w2.alloc (.cells #[.int .i64 p, .int .i64 p'] 30)) := (Own.refl w2).alloc _
    replace g0 := g0.trans q1
    replace k0 := q1.cell k0
    replace k1 := q1.cell k1
    replace HX := Lib.hid (HX.out.own q1)
    clear q1
    generalize w2.alloc (.cells #[.int .i64 p, .int .i64 p'] 30) = W2 at *
    generalize w2.heap.size = B2 at *
    clear d1 d2 d3 i1 i2
    by_cases h1 : 0 ≤ i ∧ i < m
    · obtain ⟨k, rfl⟩ := Int.eq_ofNat_of_zero_le h1.1
      have hkm : k < m := by omega
      have hak : a + k < n := by omega
      have hmc := HMC.out k hkm
      have hml := HMV.out (a + k) hak
      have ht1 := HTK.out k (by omega)
      have ht2 := HTK.out (k + 1) (by omega)
      have hl1 := HLE.out (a + k)
      have hl2 := HLE.out (a + k + 1)
      rw [show a + (k + 1) = a + k + 1 by omega] at ht2
      obtain ⟨u, hu⟩ : ∃ u, tot (l.take (a + k)) = u := ⟨_, rfl⟩
      obtain ⟨u', hu'⟩ : ∃ u, tot (l.take (a + k + 1)) = u := ⟨_, rfl⟩
      rw [hu] at ht1 hml hl1
      rw [hu'] at ht2 hml hl2
      rw [ht1, ht2] at hmc
      have HMC1 := Lib.hid hmc
      have HML1 := Lib.hid hml
      have j1 : IntKind.i64.wrap ((a : Int) + (k : Int)) = ((a + k : Nat) : Int) := by rw [IntWalk.i64_in _ (by omega)]; rfl
      have j2 : IntKind.i64.wrap (u - p) = u - p := IntWalk.i64_in _ (by omega)
      have j3 : IntKind.i64.wrap (u' - p) = u' - p := IntWalk.i64_in _ (by omega)
      have j4 : (u - p == u - p) = true := beq_self_eq_true _
      have j5 : (u' - p == u' - p) = true := beq_self_eq_true _
      have d1 : decide ((k : Int) < 0) = false := decide_eq_false (by omega)
      have d2 : decide ((m : Int) ≤ (k : Int)) = false := decide_eq_false (by omega)
      have d3 : (k : Int) < m := by omega
      have d4 : (0 : Int) ≤ (k : Int) := by omega
      have d5 : ((a : Int) + (k : Int)) < n := by omega
      have d6 : (0 : Int) ≤ (a : Int) + (k : Int) := by omega
      have d7 : ((a : Int) + (k : Int)).toNat = a + k := by omega
      clear ht1 ht2 hmc hml hu hu' h1
      have hat := HAT.out k hkm
      obtain ⟨gb, go, rfl, hcM⟩ : ∃ gb go : Nat, A = some ⟨gb, go, none⟩ ∧ (W2.cell? ⟨gb, go + k * 2, none⟩ = some (.int .i64 (at' M k).1) ∧ W2.cell? ⟨gb, go + k * 2 + 1, none⟩ = some (.int .i64 (at' M k).2)) := by
        obtain ⟨A', cap', hv, _, _, h3⟩ := HX.out
        injection hv with e1 e2 e3
        obtain ⟨gb, go, e4, h4⟩ := h3 (by rw [HLN.out]; omega)
        exact ⟨gb, go, e1.trans e4, h4 k (by rw [HLN.out]; exact hkm)⟩
      obtain ⟨lb, lo, rfl, hcl⟩ := HA.out (by omega)
      have e0 := g0.cell (hcl (a + k) hak).1
      have e1 := g0.cell (hcl (a + k) hak).2
      obtain ⟨m0, m1⟩ := hcM
      rw [hat] at m0 m1
      clear hat hcl
      generalize at' l (a + k) = pt at *
      obtain ⟨x, y⟩ := pt
      simp only at e0 e1 m0 m1
      have j6 : ptB x y x y = true := ptB_self x y
      go_upto_region 10 with (first
        | (go_at_call 12; refine (pcheck_at M _ 0 _ HX HCC).mono ?_; rintro e w3 ⟨rfl, hg⟩; replace g0 : Own w w3 := g0.trans hg; replace k0 := hg.cell k0; replace k1 := hg.cell k1; replace HX := Lib.hid (HX.out.own hg); replace e0 := hg.cell e0; replace e1 := hg.cell e1; replace m0 := hg.cell m0; replace m1 := hg.cell m1; replace f0 := hg.cell f0; replace f1 := hg.cell f1; clear hg)
        | (go_at_call 15; refine (pmeasure_at M _ k (u - p, u' - p) 0 _ HX HMC1).mono ?_; rintro e w4 ⟨rfl, hg⟩; replace g0 : Own w w4 := g0.trans hg; replace k0 := hg.cell k0; replace k1 := hg.cell k1; replace e0 := hg.cell e0; replace e1 := hg.cell e1; replace m0 := hg.cell m0; replace m1 := hg.cell m1; replace f0 := hg.cell f0; replace f1 := hg.cell f1; clear hg))
      clear HX
      obtain ⟨x0, x1, _, _⟩ := pt_new w4 (u - p) (u' - p) 30
      have q1 : Own w4 (w4.alloc (.cells #[.int .i64 (u - p), .int .i64 (u' - p)] 30)) := (Own.refl w4).alloc _
      replace g0 := g0.trans q1
      replace k0 := q1.cell k0
      replace k1 := q1.cell k1
      replace e0 := q1.cell e0
      replace e1 := q1.cell e1
      replace m0 := q1.cell m0
      replace m1 := q1.cell m1
      replace f0 := q1.cell f0
      replace f1 := q1.cell f1
      clear q1
      generalize w4.alloc (.cells #[.int .i64 (u - p), .int .i64 (u' - p)] 30) = W4 at *
      generalize w4.heap.size = B4 at *
      go_upto_region 13 with (go_at_call 15; refine (pmeasure_at l _ ((a + k : Nat) : Int) (u, u') 0 _ (Lib.hid (HP.out.own g0)) HML1).mono ?_; rintro e w5 ⟨rfl, hg⟩; replace g0 : Own w w5 := g0.trans hg; replace k0 := hg.cell k0; replace k1 := hg.cell k1; replace e0 := hg.cell e0; replace e1 := hg.cell e1; replace m0 := hg.cell m0; replace m1 := hg.cell m1; replace f0 := hg.cell f0; replace f1 := hg.cell f1; replace x0 := hg.cell x0; replace x1 := hg.cell x1; clear hg)
      obtain ⟨y0, y1, _, _⟩ := pt_new w5 u u' 30
      have q1 : Own w5 (w5.alloc (.cells #[.int .i64 u, .int .i64 u'] 30)) := (Own.refl w5).alloc _
      replace g0 := g0.trans q1
      replace k0 := q1.cell k0
      replace e0 := q1.cell e0
      replace e1 := q1.cell e1
      replace m0 := q1.cell m0
      replace m1 := q1.cell m1
      replace f0 := q1.cell f0
      replace x0 := q1.cell x0
      replace x1 := q1.cell x1
      clear q1 k1 f1
      generalize w5.alloc (.cells #[.int .i64 u, .int .i64 u'] 30) = wr at *
      generalize w5.heap.size = B5 at *
      have k0d : ∀ z : After wr, z.w.cell? _ = _ := fun z => z.o.cell k0
      have e0d : ∀ z : After wr, z.w.cell? _ = _ := fun z => z.o.cell e0
      have e1d : ∀ z : After wr, z.w.cell? _ = _ := fun z => z.o.cell e1
      have m0d : ∀ z : After wr, z.w.cell? _ = _ := fun z => z.o.cell m0
      have m1d : ∀ z : After wr, z.w.cell? _ = _ := fun z => z.o.cell m1
      have f0d : ∀ z : After wr, z.w.cell? _ = _ := fun z => z.o.cell f0
      have x0d : ∀ z : After wr, z.w.cell? _ = _ := fun z => z.o.cell x0
      have x1d : ∀ z : After wr, z.w.cell? _ = _ := fun z => z.o.cell x1
      have y0d : ∀ z : After wr, z.w.cell? _ = _ := fun z => z.o.cell y0
      have y1d : ∀ z : After wr, z.w.cell? _ = _ := fun z => z.o.cell y1
      clear k0 e0 e1 m0 m1 f0 x0 x1 y0 y1
      refine region_after wr (by kernel_rfl) (by kernel_rfl) ?_
      repeat (first
        | go_big_quiet_step ((go_at_call 14; refine (awake_any _).mono ?_; rintro e w6 ⟨rfl, hg⟩; exact ⟨rfl, ⟨w6, (After.o _).trans hg⟩, rfl⟩))
        | quiet_step ((go_at_call 14; refine (awake_any _).mono ?_; rintro e w6 ⟨rfl, hg⟩; exact ⟨rfl, ⟨w6, (After.o _).trans hg⟩, rfl⟩)))
      refine wpQuiet_nil ?_
      rintro _ ⟨xx, rfl⟩
      clear k0d e0d e1d m0d m1d f0d x0d x1d y0d y1d
      have d10 := xx.o
      generalize xx.w = w7 at *
      go_wp2
      go_ret
      exact ⟨rfl, g0.trans d10⟩
    · have hno := HNO.out i h1
      have hnv := mV_none (l := M) (i := i) (by rw [hno]; decide)
      have HMC1 := Lib.hid (And.intro hno hnv)
      have hor : i < 0 ∨ ¬ i < 0 ∧ (m : Int) ≤ i := by omega
      clear hno hnv h1
      go_upto_region 10 with (first
        | (go_at_call 12; refine (pcheck_at M _ 0 _ HX HCC).mono ?_; rintro e w3 ⟨rfl, hg⟩; replace g0 : Own w w3 := g0.trans hg; replace HX := Lib.hid (HX.out.own hg); clear hg)
        | (go_at_call 15; refine (pmeasure_at M _ i (0, 0) 32 _ HX HMC1).mono ?_; rintro e w4 ⟨rfl, hg⟩; replace g0 : Own w w4 := g0.trans hg; clear hg))
      have q1 : Own w4 (w4.alloc (.cells #[.int .i64 0, .int .i64 0] 30)) := (Own.refl w4).alloc _
      replace g0 := g0.trans q1
      clear q1 HX
      generalize w4.alloc (.cells #[.int .i64 0, .int .i64 0] 30) = W4 at *
      rcases hor with h | ⟨h, h1⟩
      all_goals
        go_wp2_with (go_at_call 14; refine (awake_any _).mono ?_; rintro e w5 ⟨rfl, hg⟩; replace g0 : Own w w5 := g0.trans hg; clear hg)
        go_ret
        exact ⟨rfl, g0⟩
  · obtain rfl : [] = M := by rw [← hM, cV_none (by rw [hc]; exact h0)]
    have d0 : (c != 0) = true := bne_iff_ne.2 h0
    clear hc hM
    go_enter Try.func8, Try.ntmps8
    go_upto_region 1 with (fail)
    generalize w.alloc (.cells #[.int .i64 s1, .int .i64 s2] 30) = W0 at *
    go_upto_region 2 with (go_at_call 21; refine (pcut_at l _ s1 s2 [] c _ (Lib.hid (HP.out.own g0)) HC).mono ?_; rintro e w1 ⟨vc, rfl, hr, hg⟩; obtain ⟨A, cap, rfl⟩ := row2_shape hr; replace g0 : Own w w1 := g0.trans hg; clear hg hr)
    go_wp2_with (go_at_call 14; refine (awake_any _).mono ?_; rintro e w1 ⟨rfl, hg⟩; replace g0 : Own w w1 := g0.trans hg; clear hg)
    go_ret
    exact ⟨rfl, g0⟩
end Go.Proofs.Ytmmgidchgoligaa.MetW
