/-
  Walk of the comparison that rightmost hands over: what a call returns for every input. Condition: none.
-/
import Derived.Test.YtnakacflaaelnaaGeomPB
import Derived.Deep.DrawnRows
namespace Go.Proofs.Ytnakacflaaelnaa.GeoW
open Go.ChangeShapes Go.WideShapes Go.ChangeAt Go.RowKit
open NumP NumW GeoP
attribute [local go_sem ↓] Go.wp_at_zero Go.wp_at_succ

theorem s4 {wc w1 : World} {a0 a1 a2 a3 : Addr} {v0 v1 v2 v3 : Value} (hg : Own wc w1) (h0 : wc.cell? a0 = some v0) (h1 : wc.cell? a1 = some v1) (h2 : wc.cell? a2 = some v2) (h3 : wc.cell? a3 = some v3) :
    w1.cell? a0 = some v0 ∧ w1.cell? a1 = some v1 ∧ w1.cell? a2 = some v2 ∧ w1.cell? a3 = some v3 ∧ Own wc w1 := ⟨hg.cell h0, hg.cell h1, hg.cell h2, hg.cell h3, hg⟩
theorem pminus_eq (p q d : Pt) (w : World) (H : Hid (sub p q = d)) (hp : Wide p) (hq : Wide q) :
    Calls Try.prog 29 #[.agg #[.int .i64 p.1, .int .i64 p.2], .agg #[.int .i64 q.1, .int .i64 q.2]] w fun e w' => e = .returned (.agg #[.int .i64 d.1, .int .i64 d.2]) ∧
      w' = ((w.alloc (.cells #[.int .i64 p.1, .int .i64 p.2] 23)).alloc (.cells #[.int .i64 q.1, .int .i64 q.2] 23)).alloc (.cells #[.int .i64 d.1, .int .i64 d.2] 23) := by
  obtain rfl := H.out
  clear H
  obtain ⟨x, y⟩ := p
  obtain ⟨a, b⟩ := q
  obtain ⟨⟨h11, h12⟩, h13, h14⟩ := hp
  obtain ⟨⟨h21, h22⟩, h23, h24⟩ := hq
  simp only at h11 h12 h13 h14 h21 h22 h23 h24
  go_enter Try.func29, Try.ntmps29
  go_wp2
  exact bodyPost_ret (v := .agg #[.int .i64 (x - a), .int .i64 (y - b)]) (by simp [results, Try.results29, go_sem]) rfl ⟨rfl, rfl⟩
set_option maxRecDepth 100000 in
set_option maxHeartbeats 16000000 in
theorem pclos_at (c p q : Pt) (v : Int) (B : Nat) (w : World) (H : Hid (rcmp c p q = v)) (hcx : w.cell? ⟨B, 0, none⟩ = some (.int .i64 c.1)) (hcy : w.cell? ⟨B, 1, none⟩ = some (.int .i64 c.2)) (hp : Small p) (hq : Small q) (hc : Small c) :
    Calls Try.prog 65 #[.agg #[.int .i64 p.1, .int .i64 p.2], .agg #[.int .i64 q.1, .int .i64 q.2], .pointer (some ⟨B, 0, none⟩)] w fun e w' => e = .returned (.int .i64 v) ∧ Own w w' := by
  have w1h := wide_sub hp hc
  have w2h := wide_sub hq hc
  replace hp := wide_small hp
  replace hq := wide_small hq
  replace hc := wide_small hc
  obtain ⟨⟨gx, gy⟩, hg⟩ : ∃ g, sub p c = g := ⟨_, rfl⟩
  obtain ⟨⟨ix, iy⟩, hi⟩ : ∃ g, sub q c = g := ⟨_, rfl⟩
  have ho := H.out
  unfold rcmp at ho
  rw [hg, hi] at ho
  rw [hg] at w1h
  rw [hi] at w2h
  have HG := Lib.hid hg
  have HI := Lib.hid hi
  have HO := Lib.hid ho
  clear H hg hi ho
  obtain ⟨xa, ya⟩ := p
  obtain ⟨xb, yb⟩ := q
  obtain ⟨cx, cy⟩ := c
  simp only at hcx hcy
  have hBs : B < w.heap.size := block_lt_of_cell hcx
  have n1 := World.new_ne w _ hcx
  go_enter Try.func65, Try.ntmps65
  go_upto_region 1 with (fail)
  have k0 : ((w.alloc (.cells #[.int .i64 xa, .int .i64 ya] 23)).alloc (.cells #[.int .i64 xb, .int .i64 yb] 23)).cell? ⟨w.heap.size, 0, none⟩ = some (.int .i64 xa) := by go_simp
  have k1 : ((w.alloc (.cells #[.int .i64 xa, .int .i64 ya] 23)).alloc (.cells #[.int .i64 xb, .int .i64 yb] 23)).cell? ⟨w.heap.size, 1, none⟩ = some (.int .i64 ya) := by go_simp
  have k2 : ((w.alloc (.cells #[.int .i64 xa, .int .i64 ya] 23)).alloc (.cells #[.int .i64 xb, .int .i64 yb] 23)).cell? ⟨w.heap.size + 1, 0, none⟩ = some (.int .i64 xb) := by go_simp
  have k3 : ((w.alloc (.cells #[.int .i64 xa, .int .i64 ya] 23)).alloc (.cells #[.int .i64 xb, .int .i64 yb] 23)).cell? ⟨w.heap.size + 1, 1, none⟩ = some (.int .i64 yb) := by go_simp
  have g0 : Own w ((w.alloc (.cells #[.int .i64 xa, .int .i64 ya] 23)).alloc (.cells #[.int .i64 xb, .int .i64 yb] 23)) := (((Own.refl w).alloc _).alloc _)
  generalize hW : ((w.alloc (.cells #[.int .i64 xa, .int .i64 ya] 23)).alloc (.cells #[.int .i64 xb, .int .i64 yb] 23)) = W0 at *
  clear hW
  have q0 : W0.cell? ⟨B, 0, none⟩ = some (.int .i64 cx) := g0.cell hcx
  have q1 : W0.cell? ⟨B, 1, none⟩ = some (.int .i64 cy) := g0.cell hcy
  have hB0 : w.heap.size < W0.heap.size := block_lt_of_cell k0
  have hB1 : w.heap.size + 1 < W0.heap.size := block_lt_of_cell k2
  have hB2 : B < W0.heap.size := block_lt_of_cell q0
  clear hcx hcy n1
  go_cut [6, 7] (fun s6 s7 wx => ∃ B6 B7 : Nat, s6 = .pointer (some ⟨B6, 0, none⟩) ∧ s7 = .pointer (some ⟨B7, 0, none⟩) ∧ wx.cell? ⟨B6, 0, none⟩ = some (.int .i64 gx) ∧ wx.cell? ⟨B6, 1, none⟩ = some (.int .i64 gy) ∧ wx.cell? ⟨B7, 0, none⟩ = some (.int .i64 ix) ∧ wx.cell? ⟨B7, 1, none⟩ = some (.int .i64 iy) ∧ Own W0 wx)
  case first =>
    go_region_held3 (fun w' => w'.cell? ⟨w.heap.size, 0, none⟩ = some (.int .i64 xa) ∧ w'.cell? ⟨w.heap.size, 1, none⟩ = some (.int .i64 ya) ∧ w'.cell? ⟨w.heap.size + 1, 0, none⟩ = some (.int .i64 xb) ∧ w'.cell? ⟨w.heap.size + 1, 1, none⟩ = some (.int .i64 yb) ∧ w'.cell? ⟨B, 0, none⟩ = some (.int .i64 cx) ∧ w'.cell? ⟨B, 1, none⟩ = some (.int .i64 cy)) ((refine ⟨Own.cell (w := W0) ?_ k0, Own.cell (w := W0) ?_ k1, Own.cell (w := W0) ?_ k2, Own.cell (w := W0) ?_ k3, Own.cell (w := W0) ?_ q0, Own.cell (w := W0) ?_ q1⟩ <;> (repeat (first | exact Own.refl W0 | apply Own.alloc | apply Own.drew | refine Own.setCell ?_ (by simp; try omega) _))))
      ((go_at_call 29; (first | (with_reducible refine (pminus_eq (xa, ya) (cx, cy) (gx, gy) _ HG hp hc).mono ?_) | (with_reducible refine (pminus_eq (xb, yb) (cx, cy) (ix, iy) _ HI hq hc).mono ?_)); rintro e w1 ⟨rfl, rfl⟩))
    all_goals
      go_wp2
      go_meet
      refine ⟨_, _, rfl, rfl, by go_simp, by go_simp, by go_simp, by go_simp, ?_⟩
      repeat (first | exact Own.refl W0 | apply Own.alloc | apply Own.drew | refine Own.setCell ?_ (by simp; try omega) _)
  case rest =>
    obtain ⟨B6, B7, rfl, rfl, m0, m1, m2, m3, hO⟩ := hcut
    replace g0 := g0.trans hO
    clear hO k0 k1 k2 k3 q0 q1 hB0 hB1 hB2 hp hq hc HG HI
    obtain ⟨c, hc⟩ : ∃ s, crsP (gx, gy) (ix, iy) = s := ⟨_, rfl⟩
    obtain ⟨d, hd⟩ : ∃ s, dotP (ix, iy) (ix, iy) = s := ⟨_, rfl⟩
    obtain ⟨e0, he⟩ : ∃ s, dotP (gx, gy) (gx, gy) = s := ⟨_, rfl⟩
    obtain ⟨x, hx⟩ : ∃ s, cmp3 0 c = s := ⟨_, rfl⟩
    obtain ⟨y, hy⟩ : ∃ s, cmp3 d e0 = s := ⟨_, rfl⟩
    have ho := HO.out
    rw [hc, hd, he, hx, hy] at ho
    have HO2 := Lib.hid ho
    have HC := Lib.hid hc
    have HD := Lib.hid hd
    have HE := Lib.hid he
    have HX := Lib.hid hx
    have HY := Lib.hid hy
    clear ho hc hd he hx hy HO
    go_upto_region 2 with (fail)
    go_region_held3 (fun w' => w'.cell? ⟨B6, 0, none⟩ = some (.int .i64 gx) ∧ w'.cell? ⟨B6, 1, none⟩ = some (.int .i64 gy) ∧ w'.cell? ⟨B7, 0, none⟩ = some (.int .i64 ix) ∧ w'.cell? ⟨B7, 1, none⟩ = some (.int .i64 iy) ∧ Own wc w') ((refine s4 ?_ m0 m1 m2 m3; repeat (first | (with_reducible assumption) | (exact Own.refl _) | (apply Own.alloc) | (apply Own.drew))))
      ((first | (go_at_call 33; (first | (with_reducible refine (pcrs_at (gx, gy) (ix, iy) _ _ HC w1h w2h).mono ?_)); rintro e w1 ⟨rfl, hg⟩; replace hg : Own wc w1 := Own.trans (by repeat (first | (with_reducible assumption) | (exact Own.refl _) | (apply Own.alloc) | (apply Own.drew))) hg) | (go_at_call 30; (first | (with_reducible refine (pdot_at (ix, iy) (ix, iy) _ _ HD w2h w2h).mono ?_) | (with_reducible refine (pdot_at (gx, gy) (gx, gy) _ _ HE w1h w1h).mono ?_)); rintro e w1 ⟨rfl, hg⟩; replace hg : Own wc w1 := Own.trans (by repeat (first | (with_reducible assumption) | (exact Own.refl _) | (apply Own.alloc) | (apply Own.drew))) hg) | (go_at_call 64; (first | (with_reducible refine (cmpI_at _ _ _ _ HX).mono ?_) | (with_reducible refine (cmpI_at _ _ _ _ HY).mono ?_)); rintro e w1 ⟨rfl, rfl⟩) | (go_at_call 63; refine (or2_at x y v _ _ HO2 (by go_simp) (by go_simp)).mono ?_; rintro e w1 ⟨rfl, rfl⟩)))
    all_goals
      go_wp2
      go_ret
      exact ⟨rfl, g0.trans (by repeat (first | (with_reducible assumption) | (exact Own.refl _) | (apply Own.alloc) | (apply Own.drew)))⟩
end Go.Proofs.Ytnakacflaaelnaa.GeoW
