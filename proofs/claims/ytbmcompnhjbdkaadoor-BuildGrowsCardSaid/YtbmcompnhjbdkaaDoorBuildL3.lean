/-
  Walks of the laws of package build: less, BuildGrows. Condition: the table of bounds lies in memory (Tab).
-/
import Derived.Test.YtbmcompnhjbdkaaDoorBuildT
namespace Go.Proofs.YtbmcompnhjbdkaaDoor.BuiW
open Go.ChangeShapes Go.WideShapes Go.ChangeAt Go.RowKit
open PairW BuiP
theorem box_two (w : World) (a b : Bl) : ∃ W0, (w.alloc (.cells #[.int .i64 (a 0), .int .i64 (a 1), .int .i64 (a 2), .int .i64 (a 3), .int .i64 (a 4), .int .i64 (a 5), .int .i64 (a 6), .int .i64 (a 7), .int .i64 (a 8), .int .i64 (a 9), .int .i64 (a 10), .int .i64 (a 11), .int .i64 (a 12), .int .i64 (a 13), .int .i64 (a 14)] 24)).alloc (.cells #[.int .i64 (b 0), .int .i64 (b 1), .int .i64 (b 2), .int .i64 (b 3), .int .i64 (b 4), .int .i64 (b 5), .int .i64 (b 6), .int .i64 (b 7), .int .i64 (b 8), .int .i64 (b 9), .int .i64 (b 10), .int .i64 (b 11), .int .i64 (b 12), .int .i64 (b 13), .int .i64 (b 14)] 24) = W0 ∧ Bx W0 w.heap.size a ∧ Bx W0 (w.heap.size + 1) b ∧ Own w W0 := by
  refine ⟨_, rfl, (Bx.new w a).own ((Own.refl _).alloc _), ?_, ((Own.refl w).alloc _).alloc _⟩
  have := Bx.new (w.alloc (.cells #[.int .i64 (a 0), .int .i64 (a 1), .int .i64 (a 2), .int .i64 (a 3), .int .i64 (a 4), .int .i64 (a 5), .int .i64 (a 6), .int .i64 (a 7), .int .i64 (a 8), .int .i64 (a 9), .int .i64 (a 10), .int .i64 (a 11), .int .i64 (a 12), .int .i64 (a 13), .int .i64 (a 14)] 24)) b
  rw [show (w.alloc (.cells #[.int .i64 (a 0), .int .i64 (a 1), .int .i64 (a 2), .int .i64 (a 3), .int .i64 (a 4), .int .i64 (a 5), .int .i64 (a 6), .int .i64 (a 7), .int .i64 (a 8), .int .i64 (a 9), .int .i64 (a 10), .int .i64 (a 11), .int .i64 (a 12), .int .i64 (a 13), .int .i64 (a 14)] 24)).heap.size = w.heap.size + 1 by simp] at this
  exact this
set_option maxRecDepth 100000 in
set_option maxHeartbeats 2000000 in
theorem less_at (a b : Bl) (w : World) (H : Hid (∀ i, i < 11 → a i ≤ b i)) :
    Calls Tryd.prog 19 #[.agg #[.int .i64 (a 0), .int .i64 (a 1), .int .i64 (a 2), .int .i64 (a 3), .int .i64 (a 4), .int .i64 (a 5), .int .i64 (a 6), .int .i64 (a 7), .int .i64 (a 8), .int .i64 (a 9), .int .i64 (a 10), .int .i64 (a 11), .int .i64 (a 12), .int .i64 (a 13), .int .i64 (a 14)], .agg #[.int .i64 (b 0), .int .i64 (b 1), .int .i64 (b 2), .int .i64 (b 3), .int .i64 (b 4), .int .i64 (b 5), .int .i64 (b 6), .int .i64 (b 7), .int .i64 (b 8), .int .i64 (b 9), .int .i64 (b 10), .int .i64 (b 11), .int .i64 (b 12), .int .i64 (b 13), .int .i64 (b 14)]] w fun e w' => e = .returned (.bool true) ∧ Own w w' := by
  obtain ⟨W0, hW, ha, hb, g0⟩ := box_two w a b
  have h := H.out
  have d0 : decide (b 0 < a 0) = false := decide_eq_false (by have := h 0 (by omega); omega)
  have d1 : decide (b 1 < a 1) = false := decide_eq_false (by have := h 1 (by omega); omega)
  have d2 : decide (b 2 < a 2) = false := decide_eq_false (by have := h 2 (by omega); omega)
  have d3 : decide (b 3 < a 3) = false := decide_eq_false (by have := h 3 (by omega); omega)
  have d4 : decide (b 4 < a 4) = false := decide_eq_false (by have := h 4 (by omega); omega)
  have d5 : decide (b 5 < a 5) = false := decide_eq_false (by have := h 5 (by omega); omega)
  have d6 : decide (a 6 ≤ b 6) = true := decide_eq_true (h 6 (by omega))
  have d7 : decide (a 7 ≤ b 7) = true := decide_eq_true (h 7 (by omega))
  have d8 : decide (a 8 ≤ b 8) = true := decide_eq_true (h 8 (by omega))
  have d9 : decide (a 9 ≤ b 9) = true := decide_eq_true (h 9 (by omega))
  have d10 : decide (a 10 ≤ b 10) = true := decide_eq_true (h 10 (by omega))
  clear H h
  go_enter Tryd.func19, Tryd.ntmps19
  go_upto_region 1 with (fail)
  clear hW
  obtain ⟨k0, k1, k2, k3, k4, k5, k6, k7, k8, k9, k10, -⟩ := ha.cells
  obtain ⟨m0, m1, m2, m3, m4, m5, m6, m7, m8, m9, m10, -⟩ := hb.cells
  clear ha hb
  go_wp2
  go_ret
  exact ⟨by first | rfl | (exact ret_bool (by simp)), g0⟩
set_option maxRecDepth 100000 in
set_option maxHeartbeats 4000000 in
theorem BuildGrows_walk (b : Bl) (p q : Int) (w : World) (HT : Hid (Tab w)) :
    Calls Tryd.prog 9 #[.agg #[.int .i64 (b 0), .int .i64 (b 1), .int .i64 (b 2), .int .i64 (b 3), .int .i64 (b 4), .int .i64 (b 5), .int .i64 (b 6), .int .i64 (b 7), .int .i64 (b 8), .int .i64 (b 9), .int .i64 (b 10), .int .i64 (b 11), .int .i64 (b 12), .int .i64 (b 13), .int .i64 (b 14)], .int .i64 p, .int .i64 q] w fun e w' => e = .returned (.bool true) ∧ Own w w' := by
  by_cases ho : Okb b
  · have HC := Lib.hid (chk_yes ho)
    have HS := Lib.hid (show scV b 1000 = b ∧ scE b 1000 = 0 by
      have h := sc_yes ho (p := 1000) (by omega) (by rw [scB_one]; exact ho)
      rw [scB_one] at h
      exact ⟨h.2, h.1⟩)
    obtain ⟨c, hc⟩ : ∃ x : Bl, scV b p = x := ⟨_, rfl⟩
    obtain ⟨d, hd⟩ : ∃ x : Bl, scV b q = x := ⟨_, rfl⟩
    obtain ⟨f, hf⟩ : ∃ x, scE b p = x := ⟨_, rfl⟩
    obtain ⟨g, hg⟩ : ∃ x, scE b q = x := ⟨_, rfl⟩
    have HP := Lib.hid (And.intro hc hf)
    have HQ := Lib.hid (And.intro hd hg)
    have HO := Lib.hid (show f = 0 → g = 0 → p ≤ q → (chk c = 0 ∧ chk d = 0) ∧ (c 11 = b 11 ∧ c 12 = b 12 ∧ c 13 = b 13 ∧ c 14 = b 14) ∧ ∀ i, i < 11 → c i ≤ d i from fun h1 h2 h3 => by
      obtain ⟨_, y1, z1⟩ := sc_ok_of (hf.trans h1)
      obtain ⟨_, y2, z2⟩ := sc_ok_of (hg.trans h2)
      have e1 := (sc_yes ho y1 z1).2
      have e2 := (sc_yes ho y2 z2).2
      rw [hc] at e1
      rw [hd] at e2
      subst e1 e2
      refine ⟨⟨chk_yes z1, chk_yes z2⟩, ⟨rfl, rfl, rfl, rfl⟩, fun i hi => ?_⟩
      rw [scB_len _ _ hi, scB_len _ _ hi]
      exact sc1_mono (len_bd ho.1 hi).1 h3)
    clear ho hc hd hf hg
    go_enter Tryd.func9, Tryd.ntmps9
    go_upto_region 1 with (fail)
    obtain ⟨W0, B, hW, hBq, hb, g0, hB⟩ := bx_new w b
    rw [hW, hBq]
    have HB := Lib.hid hb
    clear hW hBq hb
    go_upto_region 4 with (first | (refine wpList_load_row rfl 24 (.tmp 3) rfl B rfl 24 _ (0, 0) _ HB.out.raw Tryd.underlying24 rfl infoB ?_) | (go_at_call 11; with_reducible refine (pcheck_at b 0 _ (Lib.hid (HT.out.own g0)) HC).mono ?_; rintro e w2 ⟨rfl, hg⟩; replace g0 : Own w w2 := g0.trans hg; replace HB := Lib.hid (HB.out.own hg); clear hg) | (go_at_call 15; with_reducible refine (pscaled_at b b 1000 0 _ (Lib.hid (HT.out.own g0)) HS).mono ?_; rintro e w3 ⟨rfl, hg⟩; replace g0 : Own w w3 := g0.trans hg; replace HB := Lib.hid (HB.out.own hg); clear hg) | (refine wpList_store_row rfl 24 (.tmp 7) (.tmp 20) rfl _ #[.int .i64 (b 0), .int .i64 (b 1), .int .i64 (b 2), .int .i64 (b 3), .int .i64 (b 4), .int .i64 (b 5), .int .i64 (b 6), .int .i64 (b 7), .int .i64 (b 8), .int .i64 (b 9), .int .i64 (b 10), .int .i64 (b 11), .int .i64 (b 12), .int .i64 (b 13), .int .i64 (b 14)] rfl rfl 24 _ (heap_new _ _) infoB rfl (all_cs b) ?_; rw [World.setRow_alloc_new]))
    obtain ⟨W3, A, hW, hBq, hb, hg, -⟩ := bx_new w3 b
    rw [hW, hBq]
    have HA := Lib.hid hb
    replace g0 : Own w W3 := g0.trans hg
    replace HB := Lib.hid (HB.out.own hg)
    clear hW hBq hb hg
    go_upto_region 7 with (first | (refine wpList_load_row rfl 24 (.tmp 3) rfl B rfl 24 _ (0, 0) _ HB.out.raw Tryd.underlying24 rfl infoB ?_) | (refine wpList_load_row rfl 24 (.tmp 7) rfl A rfl 24 _ (0, 0) _ HA.out.raw Tryd.underlying24 rfl infoB ?_) | (go_at_call 15; with_reducible refine (pscaled_at b c p f _ (Lib.hid (HT.out.own g0)) HP).mono ?_; rintro e w4 ⟨rfl, hg⟩; replace g0 : Own w w4 := g0.trans hg; replace HB := Lib.hid (HB.out.own hg); replace HA := Lib.hid (HA.out.own hg); clear hg) | (refine wpList_store_row rfl 24 (.tmp 9) (.tmp 33) rfl _ #[.int .i64 (c 0), .int .i64 (c 1), .int .i64 (c 2), .int .i64 (c 3), .int .i64 (c 4), .int .i64 (c 5), .int .i64 (c 6), .int .i64 (c 7), .int .i64 (c 8), .int .i64 (c 9), .int .i64 (c 10), .int .i64 (c 11), .int .i64 (c 12), .int .i64 (c 13), .int .i64 (c 14)] rfl rfl 24 _ (heap_new _ _) infoB rfl (all_cs c) ?_; rw [World.setRow_alloc_new]))
    clear HA HS
    obtain ⟨W4, C, hW, hBq, hb, hg, -⟩ := bx_new w4 c
    rw [hW, hBq]
    have HF := Lib.hid hb
    replace g0 : Own w W4 := g0.trans hg
    replace HB := Lib.hid (HB.out.own hg)
    clear hW hBq hb hg
    go_upto_region 8 with (first | (refine wpList_load_row rfl 24 (.tmp 3) rfl B rfl 24 _ (0, 0) _ HB.out.raw Tryd.underlying24 rfl infoB ?_) | (go_at_call 15; with_reducible refine (pscaled_at b d q g _ (Lib.hid (HT.out.own g0)) HQ).mono ?_; rintro e w5 ⟨rfl, hg⟩; replace g0 : Own w w5 := g0.trans hg; replace HB := Lib.hid (HB.out.own hg); replace HF := Lib.hid (HF.out.own hg); clear hg) | (refine wpList_store_row rfl 24 (.tmp 11) (.tmp 39) rfl _ #[.int .i64 (d 0), .int .i64 (d 1), .int .i64 (d 2), .int .i64 (d 3), .int .i64 (d 4), .int .i64 (d 5), .int .i64 (d 6), .int .i64 (d 7), .int .i64 (d 8), .int .i64 (d 9), .int .i64 (d 10), .int .i64 (d 11), .int .i64 (d 12), .int .i64 (d 13), .int .i64 (d 14)] rfl rfl 24 _ (heap_new _ _) infoB rfl (all_cs d) ?_; rw [World.setRow_alloc_new]))
    obtain ⟨W5, D, hW, hBq, hb, hg, -⟩ := bx_new w5 d
    rw [hW, hBq]
    have HG := Lib.hid hb
    replace g0 : Own w W5 := g0.trans hg
    replace HB := Lib.hid (HB.out.own hg)
    replace HF := Lib.hid (HF.out.own hg)
    clear hW hBq hb hg
    clear HC HP HQ
    by_cases f0 : f = 0
    · subst f0
      by_cases g0' : g = 0
      · subst g0'
        by_cases hpq : p ≤ q
        · obtain ⟨⟨c1, c2⟩, ⟨v0, v1, v2, v3⟩, hle⟩ := HO.out rfl rfl hpq
          have HC1 := Lib.hid c1
          have HC2 := Lib.hid c2
          have HLE := Lib.hid hle
          have hn : ¬ q < p := by omega
          clear HO c1 c2 hle hpq
          have hm1 : ∀ W : World, (binOp .eql 22 (.agg #[.int .i64 (c 11), .int .i64 (c 12), .int .i64 (c 13), .int .i64 (c 14)]) (.agg #[.int .i64 (b 11), .int .i64 (b 12), .int .i64 (b 13), .int .i64 (b 14)])).run Tryd.prog W = .ok (.bool true) W := fun W => by rw [v0, v1, v2, v3]; exact a4_eql _ _ _ _ W
          have hm2 : ∀ W : World, (Op.equalIn 10000 22 (.agg #[.int .i64 (c 11), .int .i64 (c 12), .int .i64 (c 13), .int .i64 (c 14)]) (.agg #[.int .i64 (b 11), .int .i64 (b 12), .int .i64 (b 13), .int .i64 (b 14)])).run Tryd.prog W = .ok true W := fun W => by rw [v0, v1, v2, v3]; exact a4_self 9998 _ _ _ _ W
          clear v0 v1 v2 v3
          go_upto_region 10 with (fail)
          go_wp2_with (first | (refine wpList_load_row rfl 24 (.tmp 9) rfl C rfl 24 _ (0, 0) _ HF.out.raw Tryd.underlying24 rfl infoB ?_) | (go_at_call 11; with_reducible refine (pcheck_at c 0 _ (Lib.hid (HT.out.own g0)) HC1).mono ?_; rintro e w6 ⟨rfl, hg⟩; replace g0 : Own w w6 := g0.trans hg; replace HB := Lib.hid (HB.out.own hg); replace HF := Lib.hid (HF.out.own hg); replace HG := Lib.hid (HG.out.own hg); clear hg; obtain ⟨k0, k1, k2, k3, k4, k5, k6, k7, k8, k9, k10, k11, k12, k13, k14⟩ := HF.out.cells; obtain ⟨m0, m1, m2, m3, m4, m5, m6, m7, m8, m9, m10, m11, m12, m13, m14⟩ := HG.out.cells; obtain ⟨-, -, -, -, -, -, -, -, -, -, -, n11, n12, n13, n14⟩ := HB.out.cells) | (go_at_call 11; with_reducible refine (pcheck_at d 0 _ (Lib.hid (HT.out.own g0)) HC2).mono ?_; rintro e w7 ⟨rfl, hg⟩; replace g0 : Own w w7 := g0.trans hg; replace HB := Lib.hid (HB.out.own hg); replace HF := Lib.hid (HF.out.own hg); replace HG := Lib.hid (HG.out.own hg); clear hg; clear k0 k1 k2 k3 k4 k5 k6 k7 k8 k9 k10 k11 k12 k13 k14 m0 m1 m2 m3 m4 m5 m6 m7 m8 m9 m10 m11 m12 m13 m14 n11 n12 n13 n14; obtain ⟨k0, k1, k2, k3, k4, k5, k6, k7, k8, k9, k10, k11, k12, k13, k14⟩ := HF.out.cells; obtain ⟨m0, m1, m2, m3, m4, m5, m6, m7, m8, m9, m10, m11, m12, m13, m14⟩ := HG.out.cells; obtain ⟨-, -, -, -, -, -, -, -, -, -, -, n11, n12, n13, n14⟩ := HB.out.cells) | (go_at_call 19; with_reducible refine (less_at c d _ HLE).mono ?_; rintro e w8 ⟨rfl, hg⟩; replace g0 : Own w w8 := g0.trans hg; clear hg k0 k1 k2 k3 k4 k5 k6 k7 k8 k9 k10 k11 k12 k13 k14 m0 m1 m2 m3 m4 m5 m6 m7 m8 m9 m10 m11 m12 m13 m14 n11 n12 n13 n14) | (go_at_call 12; with_reducible refine (awake_at _ (Lib.hid (HT.out.own g0))).mono ?_; rintro e w99 ⟨rfl, hg⟩; replace g0 : Own w w99 := g0.trans hg; clear hg))
          go_ret
          exact ⟨by first | rfl | (exact ret_bool (by simp)), g0⟩
        · have hn : q < p := by omega
          clear HO hpq HB HF HG
          go_wp2_with (go_at_call 12; with_reducible refine (awake_at _ (Lib.hid (HT.out.own g0))).mono ?_; rintro e w99 ⟨rfl, hg⟩; replace g0 : Own w w99 := g0.trans hg; clear hg)
          go_ret
          exact ⟨by first | rfl | (exact ret_bool (by simp)), g0⟩
      · have hz : (g != 0) = true := bne_iff_ne.2 g0'
        clear HO HB HF HG g0'
        go_wp2_with (go_at_call 12; with_reducible refine (awake_at _ (Lib.hid (HT.out.own g0))).mono ?_; rintro e w99 ⟨rfl, hg⟩; replace g0 : Own w w99 := g0.trans hg; clear hg)
        go_ret
        exact ⟨by first | rfl | (exact ret_bool (by simp)), g0⟩
    · have hz : (f != 0) = true := bne_iff_ne.2 f0
      clear HO HB HF HG f0
      go_wp2_with (go_at_call 12; with_reducible refine (awake_at _ (Lib.hid (HT.out.own g0))).mono ?_; rintro e w99 ⟨rfl, hg⟩; replace g0 : Own w w99 := g0.trans hg; clear hg)
      go_ret
      exact ⟨by first | rfl | (exact ret_bool (by simp)), g0⟩
  · have HC := Lib.hid (chk_no ho)
    clear ho
    go_enter Tryd.func9, Tryd.ntmps9
    go_upto_region 1 with (fail)
    obtain ⟨W0, B, hW, hBq, hb, g0, hB⟩ := bx_new w b
    rw [hW, hBq]
    have HB := Lib.hid hb
    clear hW hBq hb
    go_wp2_with (first | (refine wpList_load_row rfl 24 (.tmp 3) rfl B rfl 24 _ (0, 0) _ HB.out.raw Tryd.underlying24 rfl infoB ?_) | (go_at_call 11; with_reducible refine (pcheck_at b 23 _ (Lib.hid (HT.out.own g0)) HC).mono ?_; rintro e w2 ⟨rfl, hg⟩; replace g0 : Own w w2 := g0.trans hg; replace HB := Lib.hid (HB.out.own hg); clear hg) | (go_at_call 12; with_reducible refine (awake_at _ (Lib.hid (HT.out.own g0))).mono ?_; rintro e w99 ⟨rfl, hg⟩; replace g0 : Own w w99 := g0.trans hg; clear hg))
    go_ret
    exact ⟨by first | rfl | (exact ret_bool (by simp)), g0⟩
end Go.Proofs.YtbmcompnhjbdkaaDoor.BuiW
