/-
  Walks of the specification of layer build: scaled, Scaled. Condition: none.
-/
import Derived.Test.YtbmcompnhjbdkaaDoorBuildB
namespace Go.Proofs.YtbmcompnhjbdkaaDoor.BuiW
open Go.ChangeShapes Go.WideShapes Go.ChangeAt Go.RowKit
open PairW BuiP
open NumP (nearV roundV roundE)
theorem rscaled_at (n p v : Int) (w : World) (H : Hid ((0 ≤ n * p ∧ n * p ≤ 3000000) ∧ roundV (n * p) 1000 = v ∧ roundE (n * p) 1000 = 0)) :
    Calls Tryd.prog 26 #[.int .i64 n, .int .i64 p] w fun e w' => e = .returned (.int .i64 v) ∧ Own w w' := by
  have h := H.out.1
  have i1 : IntKind.i64.wrap (n * p) = n * p := IntWalk.i64_in _ (by omega)
  have HR := Lib.hid H.out.2
  clear H
  go_enter Tryd.func26, Tryd.ntmps26
  go_wp2_with (go_at_call 25; with_reducible refine (rround_at _ _ v 0 _ HR).mono ?_; rintro e w2 ⟨rfl, hg⟩)
  go_ret
  exact ⟨rfl, hg⟩
theorem Bx.frozen {w : World} {B : Nat} {b : Bl} (h : Bx w B b) (i : Nat) : w.frozen? ⟨B, i, none⟩ = false := Blk.frozen h i
theorem Bx.far {w : World} {B : Nat} {b : Bl} (h : Bx w B b) {p : Addr} (hp : B ≠ p.block) (u : Value) : Bx (w.setCell p u) B b := Blk.far h hp u
theorem Bx.upat {w : World} {B : Nat} {b : Bl} {p : Int} {j : Nat} (h : Bx w B (up b p j)) (hj : j < 15) : w.cell? ⟨B, j, none⟩ = some (.int .i64 (b j)) := by
  have := h.at hj
  rw [up_at] at this
  exact this
set_option maxRecDepth 100000 in
set_option maxHeartbeats 4000000 in
theorem rscale_at (b s : Bl) (p c : Int) (w : World) (H : Hid (scV b p = s ∧ scE b p = c)) :
    Calls Tryd.prog 18 #[.agg #[.int .i64 (b 0), .int .i64 (b 1), .int .i64 (b 2), .int .i64 (b 3), .int .i64 (b 4), .int .i64 (b 5), .int .i64 (b 6), .int .i64 (b 7), .int .i64 (b 8), .int .i64 (b 9), .int .i64 (b 10), .int .i64 (b 11), .int .i64 (b 12), .int .i64 (b 13), .int .i64 (b 14)], .int .i64 p] w fun e w' => e = .returned (.tuple #[.agg #[.int .i64 (s 0), .int .i64 (s 1), .int .i64 (s 2), .int .i64 (s 3), .int .i64 (s 4), .int .i64 (s 5), .int .i64 (s 6), .int .i64 (s 7), .int .i64 (s 8), .int .i64 (s 9), .int .i64 (s 10), .int .i64 (s 11), .int .i64 (s 12), .int .i64 (s 13), .int .i64 (s 14)], .int .i64 c]) ∧ Own w w' := by
  obtain ⟨W0, hW, hb, hp, g0⟩ := box_bd w b
  obtain ⟨hs, hc⟩ := H.out
  clear H
  have hB : w.heap.size ≤ w.heap.size + 1 := by omega
  obtain ⟨C, hC⟩ : ∃ C, w.heap.size + 1 = C := ⟨_, rfl⟩
  by_cases ho : Okb b
  · have HC := Lib.hid (chk_yes ho)
    by_cases hk : 500 ≤ p ∧ p ≤ 2000
    · have HS := Lib.hid (show ∀ j, j < 11 → Hid ((0 ≤ b j * p ∧ b j * p ≤ 3000000) ∧ roundV (b j * p) 1000 = sc1 (b j) p ∧ roundE (b j * p) 1000 = 0) from fun j hj => Lib.hid ⟨sc1_bd (len_bd ho.1 hj) hk, round_sc (len_bd ho.1 hj) hk⟩)
      have x1 : decide (p < 500) = false := decide_eq_false (by omega)
      have x2 : decide (2000 < p) = false := decide_eq_false (by omega)
      obtain ⟨t, ht⟩ : ∃ t : Bl, scB b p = t := ⟨_, rfl⟩
      have HU := Lib.hid (show up b p 11 = t from ht)
      have hcc : chk t = 0 ∧ t = s ∧ c = 0 ∨ chk t = 23 ∧ s = (fun _ => 0) ∧ c = 23 := by
        by_cases hz : Okb t
        · have := sc_yes ho hk (ht ▸ hz)
          exact .inl ⟨chk_yes hz, by rw [← ht, ← this.2, hs], by rw [← hc, this.1]⟩
        · have := sc_no ho hk (ht ▸ hz)
          exact .inr ⟨chk_no hz, by rw [← hs, this.2], by rw [← hc, this.1]⟩
      have HCC := Lib.hid hcc
      clear ho hs hc ht hcc
      obtain ⟨hk0, hk7⟩ := hk
      go_enter Tryd.func18, Tryd.ntmps18
      go_upto_region 1 with (fail)
      rw [hC] at hp hB
      have HP := Lib.hid hp
      have HB := Lib.hid hb
      clear hp hb hW hC
      go_upto_region 7 with (first | (refine wpList_load_row rfl 24 (.tmp 2) rfl w.heap.size rfl 24 _ (0, 0) _ HB.out.raw Tryd.underlying24 rfl infoB ?_) | (go_at_call 10; with_reducible refine (rcheck_at b 0 _ HC).mono ?_; rintro e w1 ⟨rfl, hg⟩; replace g0 : Own w w1 := g0.trans hg; replace HB := Lib.hid (HB.out.own hg); replace HP := Lib.hid (HP.out.own hg); clear hg))
      obtain ⟨D, hD0⟩ : ∃ D, w1.heap.size = D := ⟨_, rfl⟩
      have hD : w.heap.size ≤ D := hD0 ▸ g0.size
      have HBD := Lib.hid (show w.heap.size ≠ D from fun e => by have := HB.out.lt; omega)
      have HCD := Lib.hid (show C ≠ D from fun e => by have := HP.out.lt; omega)
      have HD := Lib.hid (show Bx (w1.alloc (.cells #[.int .i64 (b 0), .int .i64 (b 1), .int .i64 (b 2), .int .i64 (b 3), .int .i64 (b 4), .int .i64 (b 5), .int .i64 (b 6), .int .i64 (b 7), .int .i64 (b 8), .int .i64 (b 9), .int .i64 (b 10), .int .i64 (b 11), .int .i64 (b 12), .int .i64 (b 13), .int .i64 (b 14)] 24)) D (up b p 0) from hD0 ▸ Bx.new w1 b)
      replace HB := Lib.hid (HB.out.own ((Own.refl w1).alloc (.cells #[.int .i64 (b 0), .int .i64 (b 1), .int .i64 (b 2), .int .i64 (b 3), .int .i64 (b 4), .int .i64 (b 5), .int .i64 (b 6), .int .i64 (b 7), .int .i64 (b 8), .int .i64 (b 9), .int .i64 (b 10), .int .i64 (b 11), .int .i64 (b 12), .int .i64 (b 13), .int .i64 (b 14)] 24)))
      replace HP := Lib.hid (HP.out.own ((Own.refl w1).alloc (.cells #[.int .i64 (b 0), .int .i64 (b 1), .int .i64 (b 2), .int .i64 (b 3), .int .i64 (b 4), .int .i64 (b 5), .int .i64 (b 6), .int .i64 (b 7), .int .i64 (b 8), .int .i64 (b 9), .int .i64 (b 10), .int .i64 (b 11), .int .i64 (b 12), .int .i64 (b 13), .int .i64 (b 14)] 24)))
      replace g0 := g0.alloc (.cells #[.int .i64 (b 0), .int .i64 (b 1), .int .i64 (b 2), .int .i64 (b 3), .int .i64 (b 4), .int .i64 (b 5), .int .i64 (b 6), .int .i64 (b 7), .int .i64 (b 8), .int .i64 (b 9), .int .i64 (b 10), .int .i64 (b 11), .int .i64 (b 12), .int .i64 (b 13), .int .i64 (b 14)] 24)
      rw [hD0]
      clear hD0 HC
      generalize w1.alloc (.cells #[.int .i64 (b 0), .int .i64 (b 1), .int .i64 (b 2), .int .i64 (b 3), .int .i64 (b 4), .int .i64 (b 5), .int .i64 (b 6), .int .i64 (b 7), .int .i64 (b 8), .int .i64 (b 9), .int .i64 (b 10), .int .i64 (b 11), .int .i64 (b 12), .int .i64 (b 13), .int .i64 (b 14)] 24) = W0 at *
      obtain ⟨B, hBB⟩ : ∃ B, w.heap.size = B := ⟨_, rfl⟩
      rw [hBB] at HB HBD ⊢
      clear hBB
      have q0 : W0.cell? ⟨B, 0, none⟩ = some (.int .i64 (b 0)) := HB.out.at (by omega)
      go_upto_region 8 with (go_at_call 26; with_reducible refine (rscaled_at (b 0) p (sc1 (b 0) p) _ (HS.out 0 (by omega))).mono ?_; rintro e y0 ⟨rfl, hg⟩; replace g0 : Own w y0 := g0.trans hg; replace HB := Lib.hid (HB.out.own hg); replace HP := Lib.hid (HP.out.own hg); replace HD := Lib.hid (HD.out.own hg); have d0 : y0.cell? ⟨D, 0, none⟩ = some (.int .i64 (b 0))   := HD.out.upat (by omega); have f0 : y0.frozen? ⟨D, 0, none⟩ = false := HD.out.frozen 0; clear hg q0)
      replace HB := Lib.hid (HB.out.far (p := ⟨D, 0, none⟩) HBD.out (.int .i64 (sc1 (b 0) p)))
      replace HP := Lib.hid (HP.out.far (p := ⟨D, 0, none⟩) HCD.out (.int .i64 (sc1 (b 0) p)))
      replace HD := Lib.hid (HD.out.step (j := 0) (by omega))
      replace g0 := g0.setCell (p := ⟨D, 0, none⟩) hD (.int .i64 (sc1 (b 0) p))
      generalize y0.setCell ⟨D, 0, none⟩ (.int .i64 (sc1 (b 0) p)) = W1 at *
      clear d0 f0
      have q1 : W1.cell? ⟨B, 1, none⟩ = some (.int .i64 (b 1)) := HB.out.at (by omega)
      go_upto_region 9 with (go_at_call 26; with_reducible refine (rscaled_at (b 1) p (sc1 (b 1) p) _ (HS.out 1 (by omega))).mono ?_; rintro e y1 ⟨rfl, hg⟩; replace g0 : Own w y1 := g0.trans hg; replace HB := Lib.hid (HB.out.own hg); replace HP := Lib.hid (HP.out.own hg); replace HD := Lib.hid (HD.out.own hg); have d1 : y1.cell? ⟨D, 1, none⟩ = some (.int .i64 (b 1))   := HD.out.upat (by omega); have f1 : y1.frozen? ⟨D, 1, none⟩ = false := HD.out.frozen 1; clear hg q1)
      replace HB := Lib.hid (HB.out.far (p := ⟨D, 1, none⟩) HBD.out (.int .i64 (sc1 (b 1) p)))
      replace HP := Lib.hid (HP.out.far (p := ⟨D, 1, none⟩) HCD.out (.int .i64 (sc1 (b 1) p)))
      replace HD := Lib.hid (HD.out.step (j := 1) (by omega))
      replace g0 := g0.setCell (p := ⟨D, 1, none⟩) hD (.int .i64 (sc1 (b 1) p))
      generalize y1.setCell ⟨D, 1, none⟩ (.int .i64 (sc1 (b 1) p)) = W2 at *
      clear d1 f1
      have q2 : W2.cell? ⟨B, 2, none⟩ = some (.int .i64 (b 2)) := HB.out.at (by omega)
      go_upto_region 10 with (go_at_call 26; with_reducible refine (rscaled_at (b 2) p (sc1 (b 2) p) _ (HS.out 2 (by omega))).mono ?_; rintro e y2 ⟨rfl, hg⟩; replace g0 : Own w y2 := g0.trans hg; replace HB := Lib.hid (HB.out.own hg); replace HP := Lib.hid (HP.out.own hg); replace HD := Lib.hid (HD.out.own hg); have d2 : y2.cell? ⟨D, 2, none⟩ = some (.int .i64 (b 2))   := HD.out.upat (by omega); have f2 : y2.frozen? ⟨D, 2, none⟩ = false := HD.out.frozen 2; clear hg q2)
      replace HB := Lib.hid (HB.out.far (p := ⟨D, 2, none⟩) HBD.out (.int .i64 (sc1 (b 2) p)))
      replace HP := Lib.hid (HP.out.far (p := ⟨D, 2, none⟩) HCD.out (.int .i64 (sc1 (b 2) p)))
      replace HD := Lib.hid (HD.out.step (j := 2) (by omega))
      replace g0 := g0.setCell (p := ⟨D, 2, none⟩) hD (.int .i64 (sc1 (b 2) p))
      generalize y2.setCell ⟨D, 2, none⟩ (.int .i64 (sc1 (b 2) p)) = W3 at *
      clear d2 f2
      have q3 : W3.cell? ⟨B, 3, none⟩ = some (.int .i64 (b 3)) := HB.out.at (by omega)
      go_upto_region 11 with (go_at_call 26; with_reducible refine (rscaled_at (b 3) p (sc1 (b 3) p) _ (HS.out 3 (by omega))).mono ?_; rintro e y3 ⟨rfl, hg⟩; replace g0 : Own w y3 := g0.trans hg; replace HB := Lib.hid (HB.out.own hg); replace HP := Lib.hid (HP.out.own hg); replace HD := Lib.hid (HD.out.own hg); have d3 : y3.cell? ⟨D, 3, none⟩ = some (.int .i64 (b 3))   := HD.out.upat (by omega); have f3 : y3.frozen? ⟨D, 3, none⟩ = false := HD.out.frozen 3; clear hg q3)
      replace HB := Lib.hid (HB.out.far (p := ⟨D, 3, none⟩) HBD.out (.int .i64 (sc1 (b 3) p)))
      replace HP := Lib.hid (HP.out.far (p := ⟨D, 3, none⟩) HCD.out (.int .i64 (sc1 (b 3) p)))
      replace HD := Lib.hid (HD.out.step (j := 3) (by omega))
      replace g0 := g0.setCell (p := ⟨D, 3, none⟩) hD (.int .i64 (sc1 (b 3) p))
      generalize y3.setCell ⟨D, 3, none⟩ (.int .i64 (sc1 (b 3) p)) = W4 at *
      clear d3 f3
      have q4 : W4.cell? ⟨B, 4, none⟩ = some (.int .i64 (b 4)) := HB.out.at (by omega)
      go_upto_region 12 with (go_at_call 26; with_reducible refine (rscaled_at (b 4) p (sc1 (b 4) p) _ (HS.out 4 (by omega))).mono ?_; rintro e y4 ⟨rfl, hg⟩; replace g0 : Own w y4 := g0.trans hg; replace HB := Lib.hid (HB.out.own hg); replace HP := Lib.hid (HP.out.own hg); replace HD := Lib.hid (HD.out.own hg); have d4 : y4.cell? ⟨D, 4, none⟩ = some (.int .i64 (b 4))   := HD.out.upat (by omega); have f4 : y4.frozen? ⟨D, 4, none⟩ = false := HD.out.frozen 4; clear hg q4)
      replace HB := Lib.hid (HB.out.far (p := ⟨D, 4, none⟩) HBD.out (.int .i64 (sc1 (b 4) p)))
      replace HP := Lib.hid (HP.out.far (p := ⟨D, 4, none⟩) HCD.out (.int .i64 (sc1 (b 4) p)))
      replace HD := Lib.hid (HD.out.step (j := 4) (by omega))
      replace g0 := g0.setCell (p := ⟨D, 4, none⟩) hD (.int .i64 (sc1 (b 4) p))
      generalize y4.setCell ⟨D, 4, none⟩ (.int .i64 (sc1 (b 4) p)) = W5 at *
      clear d4 f4
      have q5 : W5.cell? ⟨B, 5, none⟩ = some (.int .i64 (b 5)) := HB.out.at (by omega)
      go_upto_region 13 with (go_at_call 26; with_reducible refine (rscaled_at (b 5) p (sc1 (b 5) p) _ (HS.out 5 (by omega))).mono ?_; rintro e y5 ⟨rfl, hg⟩; replace g0 : Own w y5 := g0.trans hg; replace HB := Lib.hid (HB.out.own hg); replace HP := Lib.hid (HP.out.own hg); replace HD := Lib.hid (HD.out.own hg); have d5 : y5.cell? ⟨D, 5, none⟩ = some (.int .i64 (b 5))   := HD.out.upat (by omega); have f5 : y5.frozen? ⟨D, 5, none⟩ = false := HD.out.frozen 5; clear hg q5)
      replace HB := Lib.hid (HB.out.far (p := ⟨D, 5, none⟩) HBD.out (.int .i64 (sc1 (b 5) p)))
      replace HP := Lib.hid (HP.out.far (p := ⟨D, 5, none⟩) HCD.out (.int .i64 (sc1 (b 5) p)))
      replace HD := Lib.hid (HD.out.step (j := 5) (by omega))
      replace g0 := g0.setCell (p := ⟨D, 5, none⟩) hD (.int .i64 (sc1 (b 5) p))
      generalize y5.setCell ⟨D, 5, none⟩ (.int .i64 (sc1 (b 5) p)) = W6 at *
      clear d5 f5
      have q6 : W6.cell? ⟨B, 6, none⟩ = some (.int .i64 (b 6)) := HB.out.at (by omega)
      go_upto_region 14 with (go_at_call 26; with_reducible refine (rscaled_at (b 6) p (sc1 (b 6) p) _ (HS.out 6 (by omega))).mono ?_; rintro e y6 ⟨rfl, hg⟩; replace g0 : Own w y6 := g0.trans hg; replace HB := Lib.hid (HB.out.own hg); replace HP := Lib.hid (HP.out.own hg); replace HD := Lib.hid (HD.out.own hg); have d6 : y6.cell? ⟨D, 6, none⟩ = some (.int .i64 (b 6))   := HD.out.upat (by omega); have f6 : y6.frozen? ⟨D, 6, none⟩ = false := HD.out.frozen 6; clear hg q6)
      replace HB := Lib.hid (HB.out.far (p := ⟨D, 6, none⟩) HBD.out (.int .i64 (sc1 (b 6) p)))
      replace HP := Lib.hid (HP.out.far (p := ⟨D, 6, none⟩) HCD.out (.int .i64 (sc1 (b 6) p)))
      replace HD := Lib.hid (HD.out.step (j := 6) (by omega))
      replace g0 := g0.setCell (p := ⟨D, 6, none⟩) hD (.int .i64 (sc1 (b 6) p))
      generalize y6.setCell ⟨D, 6, none⟩ (.int .i64 (sc1 (b 6) p)) = W7 at *
      clear d6 f6
      have q7 : W7.cell? ⟨B, 7, none⟩ = some (.int .i64 (b 7)) := HB.out.at (by omega)
      go_upto_region 15 with (go_at_call 26; with_reducible refine (rscaled_at (b 7) p (sc1 (b 7) p) _ (HS.out 7 (by omega))).mono ?_; rintro e y7 ⟨rfl, hg⟩; replace g0 : Own w y7 := g0.trans hg; replace HB := Lib.hid (HB.out.own hg); replace HP := Lib.hid (HP.out.own hg); replace HD := Lib.hid (HD.out.own hg); have d7 : y7.cell? ⟨D, 7, none⟩ = some (.int .i64 (b 7))   := HD.out.upat (by omega); have f7 : y7.frozen? ⟨D, 7, none⟩ = false := HD.out.frozen 7; clear hg q7)
      replace HB := Lib.hid (HB.out.far (p := ⟨D, 7, none⟩) HBD.out (.int .i64 (sc1 (b 7) p)))
      replace HP := Lib.hid (HP.out.far (p := ⟨D, 7, none⟩) HCD.out (.int .i64 (sc1 (b 7) p)))
      replace HD := Lib.hid (HD.out.step (j := 7) (by omega))
      replace g0 := g0.setCell (p := ⟨D, 7, none⟩) hD (.int .i64 (sc1 (b 7) p))
      generalize y7.setCell ⟨D, 7, none⟩ (.int .i64 (sc1 (b 7) p)) = W8 at *
      clear d7 f7
      have q8 : W8.cell? ⟨B, 8, none⟩ = some (.int .i64 (b 8)) := HB.out.at (by omega)
      go_upto_region 16 with (go_at_call 26; with_reducible refine (rscaled_at (b 8) p (sc1 (b 8) p) _ (HS.out 8 (by omega))).mono ?_; rintro e y8 ⟨rfl, hg⟩; replace g0 : Own w y8 := g0.trans hg; replace HB := Lib.hid (HB.out.own hg); replace HP := Lib.hid (HP.out.own hg); replace HD := Lib.hid (HD.out.own hg); have d8 : y8.cell? ⟨D, 8, none⟩ = some (.int .i64 (b 8))   := HD.out.upat (by omega); have f8 : y8.frozen? ⟨D, 8, none⟩ = false := HD.out.frozen 8; clear hg q8)
      replace HB := Lib.hid (HB.out.far (p := ⟨D, 8, none⟩) HBD.out (.int .i64 (sc1 (b 8) p)))
      replace HP := Lib.hid (HP.out.far (p := ⟨D, 8, none⟩) HCD.out (.int .i64 (sc1 (b 8) p)))
      replace HD := Lib.hid (HD.out.step (j := 8) (by omega))
      replace g0 := g0.setCell (p := ⟨D, 8, none⟩) hD (.int .i64 (sc1 (b 8) p))
      generalize y8.setCell ⟨D, 8, none⟩ (.int .i64 (sc1 (b 8) p)) = W9 at *
      clear d8 f8
      have q9 : W9.cell? ⟨B, 9, none⟩ = some (.int .i64 (b 9)) := HB.out.at (by omega)
      go_upto_region 17 with (go_at_call 26; with_reducible refine (rscaled_at (b 9) p (sc1 (b 9) p) _ (HS.out 9 (by omega))).mono ?_; rintro e y9 ⟨rfl, hg⟩; replace g0 : Own w y9 := g0.trans hg; replace HB := Lib.hid (HB.out.own hg); replace HP := Lib.hid (HP.out.own hg); replace HD := Lib.hid (HD.out.own hg); have d9 : y9.cell? ⟨D, 9, none⟩ = some (.int .i64 (b 9))   := HD.out.upat (by omega); have f9 : y9.frozen? ⟨D, 9, none⟩ = false := HD.out.frozen 9; clear hg q9)
      replace HB := Lib.hid (HB.out.far (p := ⟨D, 9, none⟩) HBD.out (.int .i64 (sc1 (b 9) p)))
      replace HP := Lib.hid (HP.out.far (p := ⟨D, 9, none⟩) HCD.out (.int .i64 (sc1 (b 9) p)))
      replace HD := Lib.hid (HD.out.step (j := 9) (by omega))
      replace g0 := g0.setCell (p := ⟨D, 9, none⟩) hD (.int .i64 (sc1 (b 9) p))
      generalize y9.setCell ⟨D, 9, none⟩ (.int .i64 (sc1 (b 9) p)) = W10 at *
      clear d9 f9
      have q10 : W10.cell? ⟨B, 10, none⟩ = some (.int .i64 (b 10)) := HB.out.at (by omega)
      go_upto_region 18 with (go_at_call 26; with_reducible refine (rscaled_at (b 10) p (sc1 (b 10) p) _ (HS.out 10 (by omega))).mono ?_; rintro e y10 ⟨rfl, hg⟩; replace g0 : Own w y10 := g0.trans hg; replace HB := Lib.hid (HB.out.own hg); replace HP := Lib.hid (HP.out.own hg); replace HD := Lib.hid (HD.out.own hg); have d10 : y10.cell? ⟨D, 10, none⟩ = some (.int .i64 (b 10))   := HD.out.upat (by omega); have f10 : y10.frozen? ⟨D, 10, none⟩ = false := HD.out.frozen 10; clear hg q10)
      replace HB := Lib.hid (HB.out.far (p := ⟨D, 10, none⟩) HBD.out (.int .i64 (sc1 (b 10) p)))
      replace HP := Lib.hid (HP.out.far (p := ⟨D, 10, none⟩) HCD.out (.int .i64 (sc1 (b 10) p)))
      replace HD := Lib.hid (HD.out.step (j := 10) (by omega))
      replace g0 := g0.setCell (p := ⟨D, 10, none⟩) hD (.int .i64 (sc1 (b 10) p))
      generalize y10.setCell ⟨D, 10, none⟩ (.int .i64 (sc1 (b 10) p)) = W11 at *
      clear d10 f10
      rw [HU.out] at HD
      clear HS HU
      rcases HCC.out with ⟨h1, h2, h3⟩ | ⟨h1, h2, h3⟩
      · subst h2 h3
        have HC := Lib.hid h1
        clear h1 HCC
        go_wp2_with (first | (refine wpList_load_row rfl 24 (.tmp 7) rfl D rfl 24 _ (0, 0) _ HD.out.raw Tryd.underlying24 rfl infoB ?_) | (go_at_call 10; with_reducible refine (rcheck_at t 0 _ HC).mono ?_; rintro e w1 ⟨rfl, hg⟩; replace g0 : Own w w1 := g0.trans hg; replace HB := Lib.hid (HB.out.own hg); replace HP := Lib.hid (HP.out.own hg); replace HD := Lib.hid (HD.out.own hg); clear hg) | (refine wpList_store_row rfl 24 (.tmp 4) (.tmp 84) rfl C #[.int .i64 (t 0), .int .i64 (t 1), .int .i64 (t 2), .int .i64 (t 3), .int .i64 (t 4), .int .i64 (t 5), .int .i64 (t 6), .int .i64 (t 7), .int .i64 (t 8), .int .i64 (t 9), .int .i64 (t 10), .int .i64 (t 11), .int .i64 (t 12), .int .i64 (t 13), .int .i64 (t 14)] rfl rfl 24 _ HP.out.raw infoB rfl (all_cs t) ?_))
        have hp := HP.out.row #[.int .i64 (t 0), .int .i64 (t 1), .int .i64 (t 2), .int .i64 (t 3), .int .i64 (t 4), .int .i64 (t 5), .int .i64 (t 6), .int .i64 (t 7), .int .i64 (t 8), .int .i64 (t 9), .int .i64 (t 10), .int .i64 (t 11), .int .i64 (t 12), .int .i64 (t 13), .int .i64 (t 14)]
        exact bodyPost_ret (bd_results rfl rfl rfl hp rfl) rfl ⟨rfl, own_setRow g0 hB _⟩
      · subst h2 h3
        have HC := Lib.hid h1
        clear h1 HCC
        go_wp2_with (first | (refine wpList_load_row rfl 24 (.tmp 7) rfl D rfl 24 _ (0, 0) _ HD.out.raw Tryd.underlying24 rfl infoB ?_) | (go_at_call 10; with_reducible refine (rcheck_at t 23 _ HC).mono ?_; rintro e w1 ⟨rfl, hg⟩; replace g0 : Own w w1 := g0.trans hg; replace HB := Lib.hid (HB.out.own hg); replace HP := Lib.hid (HP.out.own hg); replace HD := Lib.hid (HD.out.own hg); clear hg) | (refine wpList_store_row rfl 24 (.tmp 4) (.tmp 82) rfl C zcs rfl rfl 24 _ HP.out.raw infoB rfl all_z ?_))
        have hp := HP.out.row zcs
        exact bodyPost_ret (bd_results rfl rfl rfl hp rfl) rfl ⟨rfl, own_setRow g0 hB _⟩
    · obtain ⟨e1, e2⟩ := sc_range ho hk
      obtain rfl := e1.symm.trans hc
      obtain rfl := e2.symm.trans hs
      clear hs hc e1 e2 ho
      by_cases c1 : p < 500
      · clear hk
        go_enter Tryd.func18, Tryd.ntmps18
        go_upto_region 1 with (fail)
        rw [hC] at hp hB
        have HP := Lib.hid hp
        have HB := Lib.hid hb
        clear hp hb hW hC
        go_wp2_with (first | (refine wpList_load_row rfl 24 (.tmp 2) rfl w.heap.size rfl 24 _ (0, 0) _ HB.out.raw Tryd.underlying24 rfl infoB ?_) | (go_at_call 10; with_reducible refine (rcheck_at b 0 _ HC).mono ?_; rintro e w1 ⟨rfl, hg⟩; replace g0 : Own w w1 := g0.trans hg; replace HB := Lib.hid (HB.out.own hg); replace HP := Lib.hid (HP.out.own hg); clear hg) | (refine wpList_store_row rfl 24 (.tmp 4) (.tmp 21) rfl C zcs rfl rfl 24 _ HP.out.raw infoB rfl all_z ?_))
        have hp := HP.out.row zcs
        exact bodyPost_ret (bd_results rfl rfl rfl hp rfl) rfl ⟨rfl, own_setRow g0 hB _⟩
      · have c2 : 2000 < p := by omega
        have d1 : decide (p < 500) = false := decide_eq_false c1
        clear hk
        go_enter Tryd.func18, Tryd.ntmps18
        go_upto_region 1 with (fail)
        rw [hC] at hp hB
        have HP := Lib.hid hp
        have HB := Lib.hid hb
        clear hp hb hW hC
        go_wp2_with (first | (refine wpList_load_row rfl 24 (.tmp 2) rfl w.heap.size rfl 24 _ (0, 0) _ HB.out.raw Tryd.underlying24 rfl infoB ?_) | (go_at_call 10; with_reducible refine (rcheck_at b 0 _ HC).mono ?_; rintro e w1 ⟨rfl, hg⟩; replace g0 : Own w w1 := g0.trans hg; replace HB := Lib.hid (HB.out.own hg); replace HP := Lib.hid (HP.out.own hg); clear hg) | (refine wpList_store_row rfl 24 (.tmp 4) (.tmp 21) rfl C zcs rfl rfl 24 _ HP.out.raw infoB rfl all_z ?_))
        have hp := HP.out.row zcs
        exact bodyPost_ret (bd_results rfl rfl rfl hp rfl) rfl ⟨rfl, own_setRow g0 hB _⟩
  · have HC := Lib.hid (chk_no ho)
    obtain ⟨e1, e2⟩ := sc_bad (p := p) ho
    rw [chk_no ho] at e1
    obtain rfl := e1.symm.trans hc
    obtain rfl := e2.symm.trans hs
    clear hs hc e1 e2 ho
    go_enter Tryd.func18, Tryd.ntmps18
    go_upto_region 1 with (fail)
    rw [hC] at hp hB
    have HP := Lib.hid hp
    have HB := Lib.hid hb
    clear hp hb hW hC
    go_wp2_with (first | (refine wpList_load_row rfl 24 (.tmp 2) rfl w.heap.size rfl 24 _ (0, 0) _ HB.out.raw Tryd.underlying24 rfl infoB ?_) | (go_at_call 10; with_reducible refine (rcheck_at b 23 _ HC).mono ?_; rintro e w1 ⟨rfl, hg⟩; replace g0 : Own w w1 := g0.trans hg; replace HB := Lib.hid (HB.out.own hg); replace HP := Lib.hid (HP.out.own hg); clear hg) | (refine wpList_store_row rfl 24 (.tmp 4) (.tmp 13) rfl C zcs rfl rfl 24 _ HP.out.raw infoB rfl all_z ?_))
    have hp := HP.out.row zcs
    exact bodyPost_ret (bd_results rfl rfl rfl hp rfl) rfl ⟨rfl, own_setRow g0 hB _⟩
end Go.Proofs.YtbmcompnhjbdkaaDoor.BuiW
