/-
  Walks of the program's isCoordinate, isPoint, isRadius, isMotion, minus, dot, cross, compareLeast, Dist2, Cross, Near and Touch of package geom: what a call returns for every input. Condition: none.
-/
import Derived.Test.YtnakacflaaelnaaGeomC
import Derived.Test.YtnakacflaaelnaaGeomPlainP
namespace Go.Proofs.Ytnakacflaaelnaa.GeoW
open Go.ChangeShapes Go.WideShapes Go.ChangeAt Go.RowKit
open NumP NumW GeoP

theorem pcoord_at (n : Int) (t : Bool) (w : World) (H : Hid ((decide (-32768 ≤ n) && decide (n ≤ 32768)) = t)) :
    Calls Try.prog 48 #[.int .i64 n] w fun e w' => e = .returned (.bool t) ∧ w = w' := by
  have hi : t = true ↔ -32768 ≤ n ∧ n ≤ 32768 := by rw [← H.out, Bool.and_eq_true, decide_eq_true_eq, decide_eq_true_eq]
  clear H
  by_cases h1 : -32768 ≤ n
  · by_cases h2 : n ≤ 32768
    · obtain rfl : t = true := hi.2 ⟨h1, h2⟩
      clear hi
      go_enter Try.func48, Try.ntmps48
      go_wp2
      go_ret
      exact ⟨by first | rfl | (exact ret_bool (by simp; omega)), rfl⟩
    · obtain rfl : t = false := by cases t <;> simp at hi ⊢; omega
      clear hi
      go_enter Try.func48, Try.ntmps48
      go_wp2
      go_ret
      exact ⟨by first | rfl | (exact ret_bool (by simp; omega)), rfl⟩
  · obtain rfl : t = false := by cases t <;> simp at hi ⊢; omega
    clear hi
    go_enter Try.func48, Try.ntmps48
    go_wp2
    go_ret
    exact ⟨by first | rfl | (exact ret_bool (by simp; omega)), rfl⟩
theorem pradius_at (r : Int) (t : Bool) (w : World) (H : Hid (okR r = t)) :
    Calls Try.prog 36 #[.int .i64 r] w fun e w' => e = .returned (.bool t) ∧ w = w' := by
  have hi : t = true ↔ 0 ≤ r ∧ r ≤ 32768 := by rw [← H.out, okR_iff]
  clear H
  by_cases h1 : 0 ≤ r
  · by_cases h2 : r ≤ 32768
    · obtain rfl : t = true := hi.2 ⟨h1, h2⟩
      clear hi
      go_enter Try.func36, Try.ntmps36
      go_wp2
      go_ret
      exact ⟨by first | rfl | (exact ret_bool (by simp; omega)), rfl⟩
    · obtain rfl : t = false := by cases t <;> simp at hi ⊢; omega
      clear hi
      go_enter Try.func36, Try.ntmps36
      go_wp2
      go_ret
      exact ⟨by first | rfl | (exact ret_bool (by simp; omega)), rfl⟩
  · obtain rfl : t = false := by cases t <;> simp at hi ⊢; omega
    clear hi
    go_enter Try.func36, Try.ntmps36
    go_wp2
    go_ret
    exact ⟨by first | rfl | (exact ret_bool (by simp; omega)), rfl⟩
theorem pvalid_at (p : Pt) (t : Bool) (w : World) (H : Hid (okP p = t)) :
    Calls Try.prog 28 #[.agg #[.int .i64 p.1, .int .i64 p.2]] w fun e w' => e = .returned (.bool t) ∧ Own w w' := by
  obtain ⟨x, y⟩ := p
  obtain ⟨tx, hx⟩ : ∃ t, (decide (-32768 ≤ x) && decide (x ≤ 32768)) = t := ⟨_, rfl⟩
  obtain ⟨ty, hy⟩ : ∃ t, (decide (-32768 ≤ y) && decide (y ≤ 32768)) = t := ⟨_, rfl⟩
  have ht : (tx && ty) = t := by rw [← hx, ← hy]; exact H.out
  clear H
  have HX := Lib.hid hx
  have HY := Lib.hid hy
  clear hx hy
  subst ht
  cases tx
  all_goals
    go_enter Try.func28, Try.ntmps28
    go_wp2_with (go_at_call 48; (first | (with_reducible refine (pcoord_at x _ _ HX).mono ?_) | (with_reducible refine (pcoord_at y _ _ HY).mono ?_)); rintro e w1 ⟨rfl, rfl⟩)
    go_ret
    exact ⟨by first | rfl | simp, (Own.refl w).alloc _⟩
set_option maxRecDepth 100000 in
theorem pmotion_at (m : Mo) (t : Bool) (w : World) (H : Hid (okM m = t)) :
    Calls Try.prog 40 #[.agg #[.int .i64 m.f.1, .int .i64 m.f.2, .int .i64 m.t.1, .int .i64 m.t.2, .int .i64 m.r]] w fun e w' => e = .returned (.bool t) ∧ Own w w' := by
  obtain ⟨⟨xa, ya⟩, ⟨xb, yb⟩, r⟩ := m
  have ht := H.out
  clear H
  unfold okM at ht
  simp only at ht
  obtain ⟨t0, h0⟩ : ∃ t, okP (xa, ya) = t := ⟨_, rfl⟩
  obtain ⟨t1, h1⟩ : ∃ t, okP (xb, yb) = t := ⟨_, rfl⟩
  obtain ⟨t2, h2⟩ : ∃ t, okR r = t := ⟨_, rfl⟩
  rw [h0, h1, h2] at ht
  subst ht
  have HP0 := Lib.hid h0
  have HP1 := Lib.hid h1
  have HR := Lib.hid h2
  clear h0 h1 h2
  cases t0
  · skip
    go_enter Try.func40, Try.ntmps40
    go_upto_region 1 with (fail)
    have k0 : (w.alloc (.cells #[.int .i64 xa, .int .i64 ya, .int .i64 xb, .int .i64 yb, .int .i64 r] 36)).cell? ⟨w.heap.size, 0, none⟩ = some (.int .i64 xa) := by go_simp
    have k1 : (w.alloc (.cells #[.int .i64 xa, .int .i64 ya, .int .i64 xb, .int .i64 yb, .int .i64 r] 36)).cell? ⟨w.heap.size, 1, none⟩ = some (.int .i64 ya) := by go_simp
    have k2 : (w.alloc (.cells #[.int .i64 xa, .int .i64 ya, .int .i64 xb, .int .i64 yb, .int .i64 r] 36)).cell? ⟨w.heap.size, 2, none⟩ = some (.int .i64 xb) := by go_simp
    have k3 : (w.alloc (.cells #[.int .i64 xa, .int .i64 ya, .int .i64 xb, .int .i64 yb, .int .i64 r] 36)).cell? ⟨w.heap.size, 3, none⟩ = some (.int .i64 yb) := by go_simp
    have k4 : (w.alloc (.cells #[.int .i64 xa, .int .i64 ya, .int .i64 xb, .int .i64 yb, .int .i64 r] 36)).cell? ⟨w.heap.size, 4, none⟩ = some (.int .i64 r) := by go_simp
    have g0 : Own w (w.alloc (.cells #[.int .i64 xa, .int .i64 ya, .int .i64 xb, .int .i64 yb, .int .i64 r] 36)) := ((Own.refl w).alloc _)
    generalize hW : (w.alloc (.cells #[.int .i64 xa, .int .i64 ya, .int .i64 xb, .int .i64 yb, .int .i64 r] 36)) = W0 at *
    clear hW
    go_wp2_with (first | (go_at_call 28; (first | (with_reducible refine (pvalid_at (xa, ya) _ _ HP0).mono ?_) | (with_reducible refine (pvalid_at (xb, yb) _ _ HP1).mono ?_)); rintro e w1 ⟨rfl, hg⟩; replace k0 := hg.cell k0; replace k1 := hg.cell k1; replace k2 := hg.cell k2; replace k3 := hg.cell k3; replace k4 := hg.cell k4; replace g0 : Own w w1 := Own.trans (by first | exact g0 | exact Own.drewN g0 _) hg; clear hg) | (go_at_call 36; (with_reducible refine (pradius_at r _ _ HR).mono ?_); rintro e w1 ⟨rfl, rfl⟩))
    go_ret
    exact ⟨rfl, g0⟩
  · cases t1
    · skip
      go_enter Try.func40, Try.ntmps40
      go_upto_region 1 with (fail)
      have k0 : (w.alloc (.cells #[.int .i64 xa, .int .i64 ya, .int .i64 xb, .int .i64 yb, .int .i64 r] 36)).cell? ⟨w.heap.size, 0, none⟩ = some (.int .i64 xa) := by go_simp
      have k1 : (w.alloc (.cells #[.int .i64 xa, .int .i64 ya, .int .i64 xb, .int .i64 yb, .int .i64 r] 36)).cell? ⟨w.heap.size, 1, none⟩ = some (.int .i64 ya) := by go_simp
      have k2 : (w.alloc (.cells #[.int .i64 xa, .int .i64 ya, .int .i64 xb, .int .i64 yb, .int .i64 r] 36)).cell? ⟨w.heap.size, 2, none⟩ = some (.int .i64 xb) := by go_simp
      have k3 : (w.alloc (.cells #[.int .i64 xa, .int .i64 ya, .int .i64 xb, .int .i64 yb, .int .i64 r] 36)).cell? ⟨w.heap.size, 3, none⟩ = some (.int .i64 yb) := by go_simp
      have k4 : (w.alloc (.cells #[.int .i64 xa, .int .i64 ya, .int .i64 xb, .int .i64 yb, .int .i64 r] 36)).cell? ⟨w.heap.size, 4, none⟩ = some (.int .i64 r) := by go_simp
      have g0 : Own w (w.alloc (.cells #[.int .i64 xa, .int .i64 ya, .int .i64 xb, .int .i64 yb, .int .i64 r] 36)) := ((Own.refl w).alloc _)
      generalize hW : (w.alloc (.cells #[.int .i64 xa, .int .i64 ya, .int .i64 xb, .int .i64 yb, .int .i64 r] 36)) = W0 at *
      clear hW
      go_wp2_with (first | (go_at_call 28; (first | (with_reducible refine (pvalid_at (xa, ya) _ _ HP0).mono ?_) | (with_reducible refine (pvalid_at (xb, yb) _ _ HP1).mono ?_)); rintro e w1 ⟨rfl, hg⟩; replace k0 := hg.cell k0; replace k1 := hg.cell k1; replace k2 := hg.cell k2; replace k3 := hg.cell k3; replace k4 := hg.cell k4; replace g0 : Own w w1 := Own.trans (by first | exact g0 | exact Own.drewN g0 _) hg; clear hg) | (go_at_call 36; (with_reducible refine (pradius_at r _ _ HR).mono ?_); rintro e w1 ⟨rfl, rfl⟩))
      go_ret
      exact ⟨rfl, g0⟩
    · cases t2
      all_goals
        go_enter Try.func40, Try.ntmps40
        go_upto_region 1 with (fail)
        have k0 : (w.alloc (.cells #[.int .i64 xa, .int .i64 ya, .int .i64 xb, .int .i64 yb, .int .i64 r] 36)).cell? ⟨w.heap.size, 0, none⟩ = some (.int .i64 xa) := by go_simp
        have k1 : (w.alloc (.cells #[.int .i64 xa, .int .i64 ya, .int .i64 xb, .int .i64 yb, .int .i64 r] 36)).cell? ⟨w.heap.size, 1, none⟩ = some (.int .i64 ya) := by go_simp
        have k2 : (w.alloc (.cells #[.int .i64 xa, .int .i64 ya, .int .i64 xb, .int .i64 yb, .int .i64 r] 36)).cell? ⟨w.heap.size, 2, none⟩ = some (.int .i64 xb) := by go_simp
        have k3 : (w.alloc (.cells #[.int .i64 xa, .int .i64 ya, .int .i64 xb, .int .i64 yb, .int .i64 r] 36)).cell? ⟨w.heap.size, 3, none⟩ = some (.int .i64 yb) := by go_simp
        have k4 : (w.alloc (.cells #[.int .i64 xa, .int .i64 ya, .int .i64 xb, .int .i64 yb, .int .i64 r] 36)).cell? ⟨w.heap.size, 4, none⟩ = some (.int .i64 r) := by go_simp
        have g0 : Own w (w.alloc (.cells #[.int .i64 xa, .int .i64 ya, .int .i64 xb, .int .i64 yb, .int .i64 r] 36)) := ((Own.refl w).alloc _)
        generalize hW : (w.alloc (.cells #[.int .i64 xa, .int .i64 ya, .int .i64 xb, .int .i64 yb, .int .i64 r] 36)) = W0 at *
        clear hW
        go_wp2_with (first | (go_at_call 28; (first | (with_reducible refine (pvalid_at (xa, ya) _ _ HP0).mono ?_) | (with_reducible refine (pvalid_at (xb, yb) _ _ HP1).mono ?_)); rintro e w1 ⟨rfl, hg⟩; replace k0 := hg.cell k0; replace k1 := hg.cell k1; replace k2 := hg.cell k2; replace k3 := hg.cell k3; replace k4 := hg.cell k4; replace g0 : Own w w1 := Own.trans (by first | exact g0 | exact Own.drewN g0 _) hg; clear hg) | (go_at_call 36; (with_reducible refine (pradius_at r _ _ HR).mono ?_); rintro e w1 ⟨rfl, rfl⟩))
        go_ret
        exact ⟨rfl, g0⟩
/-- Coordinates that a difference of differences has. -/
def Wide (p : Pt) : Prop := (-131072 ≤ p.1 ∧ p.1 ≤ 131072) ∧ (-131072 ≤ p.2 ∧ p.2 ≤ 131072)
theorem dot_in {p q : Pt} (hp : Wide p) (hq : Wide q) : -34359738368 ≤ dotP p q ∧ dotP p q ≤ 34359738368 := by
  obtain ⟨h1, h2⟩ := hp
  obtain ⟨h3, h4⟩ := hq
  have a := mul_in2 h1 h3
  have b := mul_in2 h2 h4
  unfold dotP
  omega
theorem crs_in {p q : Pt} (hp : Wide p) (hq : Wide q) : -34359738368 ≤ crsP p q ∧ crsP p q ≤ 34359738368 := by
  obtain ⟨h1, h2⟩ := hp
  obtain ⟨h3, h4⟩ := hq
  have a := mul_in2 h1 h4
  have b := mul_in2 h2 h3
  unfold crsP
  omega
theorem wide_small {p : Pt} (h : Small p) : Wide p := by unfold Small at h; unfold Wide; omega
theorem wide_sub {p q : Pt} (hp : Small p) (hq : Small q) : Wide (sub p q) := by unfold Small at hp hq; unfold Wide sub; simp only; omega
theorem wide_sub2 {p q r : Pt} (hp : Small p) (hq : Small q) (_ : Small r) : Wide (sub (sub p r) (sub q r)) := by unfold Small at hp hq; unfold Wide sub; simp only; omega
theorem dot_pos (p : Pt) : 0 ≤ dotP p p := by unfold dotP; have := sqn p.1; have := sqn p.2; omega

theorem pminus_at (p q d : Pt) (w : World) (H : Hid (sub p q = d)) (hp : Wide p) (hq : Wide q) :
    Calls Try.prog 29 #[.agg #[.int .i64 p.1, .int .i64 p.2], .agg #[.int .i64 q.1, .int .i64 q.2]] w fun e w' => e = .returned (.agg #[.int .i64 d.1, .int .i64 d.2]) ∧ Own w w' := by
  obtain rfl := H.out
  clear H
  obtain ⟨x, y⟩ := p
  obtain ⟨a, b⟩ := q
  obtain ⟨⟨h11, h12⟩, h13, h14⟩ := hp
  obtain ⟨⟨h21, h22⟩, h23, h24⟩ := hq
  simp only at h11 h12 h13 h14 h21 h22 h23 h24
  go_enter Try.func29, Try.ntmps29
  go_wp2
  exact bodyPost_ret (v := .agg #[.int .i64 (x - a), .int .i64 (y - b)]) (by simp [results, Try.results29, go_sem]) rfl ⟨rfl, by repeat (first | exact Own.refl _ | apply Own.alloc | refine Own.setCell ?_ (by simp; try omega) _)⟩
theorem pdot_at (p q : Pt) (s : Int) (w : World) (H : Hid (dotP p q = s)) (hp : Wide p) (hq : Wide q) :
    Calls Try.prog 30 #[.agg #[.int .i64 p.1, .int .i64 p.2], .agg #[.int .i64 q.1, .int .i64 q.2]] w fun e w' => e = .returned (.int .i64 s) ∧ Own w w' := by
  have hs := H.out
  clear H
  obtain ⟨x, y⟩ := p
  obtain ⟨a, b⟩ := q
  obtain ⟨h1, h2⟩ := hp
  obtain ⟨h3, h4⟩ := hq
  simp only at h1 h2 h3 h4
  have m1 := mul_in2 (a := x) (b := a) (by omega) (by omega)
  have m2 := mul_in2 (a := y) (b := b) (by omega) (by omega)
  have HS := Lib.hid (show x * a + y * b = s from hs)
  clear hs
  go_enter Try.func30, Try.ntmps30
  go_wp2
  go_ret
  exact ⟨ret_int HS.out, ((Own.refl w).alloc _).alloc _⟩
theorem pcrs_at (p q : Pt) (s : Int) (w : World) (H : Hid (crsP p q = s)) (hp : Wide p) (hq : Wide q) :
    Calls Try.prog 33 #[.agg #[.int .i64 p.1, .int .i64 p.2], .agg #[.int .i64 q.1, .int .i64 q.2]] w fun e w' => e = .returned (.int .i64 s) ∧ Own w w' := by
  have hs := H.out
  clear H
  obtain ⟨x, y⟩ := p
  obtain ⟨a, b⟩ := q
  obtain ⟨h1, h2⟩ := hp
  obtain ⟨h3, h4⟩ := hq
  simp only at h1 h2 h3 h4
  have m1 := mul_in2 (a := x) (b := b) (by omega) (by omega)
  have m2 := mul_in2 (a := y) (b := a) (by omega) (by omega)
  have HS := Lib.hid (show x * b - y * a = s from hs)
  clear hs
  go_enter Try.func33, Try.ntmps33
  go_wp2
  go_ret
  exact ⟨ret_int HS.out, ((Own.refl w).alloc _).alloc _⟩
set_option maxRecDepth 100000 in
set_option maxHeartbeats 4000000 in
theorem pleast_at (f t : Pt) (r o : Int) (w : World) (H : Hid (leastV f t r = o)) (hf : Wide f) (ht : Wide t) (hw : Wide (sub t f)) (hr : 0 ≤ r ∧ r ≤ 65536) :
    Calls Try.prog 37 #[.agg #[.int .i64 f.1, .int .i64 f.2], .agg #[.int .i64 t.1, .int .i64 t.2], .int .i64 r] w fun e w' => e = .returned (.tuple #[.int .i64 o, .int .i64 0]) ∧ Own w w' := by
  obtain ⟨hr0, hr1⟩ := hr
  obtain ⟨fx, fy⟩ := f
  obtain ⟨tx, ty⟩ := t
  have ho := H.out
  clear H
  unfold leastV at ho
  obtain ⟨⟨gx, gy⟩, hg⟩ : ∃ g, sub (tx, ty) (fx, fy) = g := ⟨_, rfl⟩
  rw [hg] at ho hw
  have b1 := dot_in hf hw
  have b2 := dot_in ht hw
  have b3 := dot_in hf hf
  have b4 := dot_in ht ht
  have b5 := dot_in hw hw
  have b6 := crs_in hf hw
  have mr := mul_in2 (a := r) (b := r) (by omega) (by omega)
  obtain ⟨d1, hd1⟩ : ∃ d, dotP (fx, fy) (gx, gy) = d := ⟨_, rfl⟩
  obtain ⟨d2, hd2⟩ : ∃ d, dotP (tx, ty) (gx, gy) = d := ⟨_, rfl⟩
  obtain ⟨ff, hff⟩ : ∃ d, dotP (fx, fy) (fx, fy) = d := ⟨_, rfl⟩
  obtain ⟨tt, htt⟩ : ∃ d, dotP (tx, ty) (tx, ty) = d := ⟨_, rfl⟩
  obtain ⟨gg, hgg⟩ : ∃ d, dotP (gx, gy) (gx, gy) = d := ⟨_, rfl⟩
  obtain ⟨s, hs⟩ : ∃ d, crsP (fx, fy) (gx, gy) = d := ⟨_, rfl⟩
  rw [hd1, hd2, hff, htt, hgg, hs] at ho
  rw [hd1] at b1
  rw [hd2] at b2
  rw [hff] at b3
  rw [htt] at b4
  rw [hgg] at b5
  rw [hs] at b6
  have HG := Lib.hid hg
  have HD1 := Lib.hid hd1
  have HD2 := Lib.hid hd2
  have HFF := Lib.hid hff
  have HTT := Lib.hid htt
  have HGG := Lib.hid hgg
  have HS := Lib.hid hs
  clear hg hd1 hd2 hff htt hgg hs
  by_cases c1 : 0 ≤ d1
  · rw [if_pos c1] at ho
    have hk := cmp_ok (a := ff) (b := 1) (c := r) (d := r) ((cmpOk_iff _ _ _ _).2 ⟨(small_iff _).2 (by omega), (small_iff _).2 (by omega), (small_iff _).2 (by omega), (small_iff _).2 (by omega)⟩)
    rw [Int.mul_one, ho] at hk
    have HK := Lib.hid hk
    clear hk ho b1 b2 b3 b4 b5 b6
    go_enter Try.func37, Try.ntmps37
    go_upto_region 1 with (fail)
    have k0 : ((w.alloc (.cells #[.int .i64 fx, .int .i64 fy] 23)).alloc (.cells #[.int .i64 tx, .int .i64 ty] 23)).cell? ⟨w.heap.size, 0, none⟩ = some (.int .i64 fx) := by go_simp
    have k1 : ((w.alloc (.cells #[.int .i64 fx, .int .i64 fy] 23)).alloc (.cells #[.int .i64 tx, .int .i64 ty] 23)).cell? ⟨w.heap.size, 1, none⟩ = some (.int .i64 fy) := by go_simp
    have k2 : ((w.alloc (.cells #[.int .i64 fx, .int .i64 fy] 23)).alloc (.cells #[.int .i64 tx, .int .i64 ty] 23)).cell? ⟨w.heap.size + 1, 0, none⟩ = some (.int .i64 tx) := by go_simp
    have k3 : ((w.alloc (.cells #[.int .i64 fx, .int .i64 fy] 23)).alloc (.cells #[.int .i64 tx, .int .i64 ty] 23)).cell? ⟨w.heap.size + 1, 1, none⟩ = some (.int .i64 ty) := by go_simp
    have g0 : Own w ((w.alloc (.cells #[.int .i64 fx, .int .i64 fy] 23)).alloc (.cells #[.int .i64 tx, .int .i64 ty] 23)) := (((Own.refl w).alloc _).alloc _)
    generalize hW : ((w.alloc (.cells #[.int .i64 fx, .int .i64 fy] 23)).alloc (.cells #[.int .i64 tx, .int .i64 ty] 23)) = W0 at *
    clear hW
    go_upto_region 4 with (go_at_call 29; (with_reducible refine (pminus_at (tx, ty) (fx, fy) (gx, gy) _ HG ht hf).mono ?_); rintro e w1 ⟨rfl, hg⟩; replace k0 := hg.cell k0; replace k1 := hg.cell k1; replace k2 := hg.cell k2; replace k3 := hg.cell k3; replace g0 : Own w w1 := Own.trans (by first | exact g0 | exact Own.drewN g0 _) hg; clear hg)
    have y0 : (w1.alloc (.cells #[.int .i64 gx, .int .i64 gy] 23)).cell? ⟨w1.heap.size, 0, none⟩ = some (.int .i64 gx) := by go_simp
    have y1 : (w1.alloc (.cells #[.int .i64 gx, .int .i64 gy] 23)).cell? ⟨w1.heap.size, 1, none⟩ = some (.int .i64 gy) := by go_simp
    have q0 : Own w1 (w1.alloc (.cells #[.int .i64 gx, .int .i64 gy] 23)) := by repeat (first | exact Own.refl _ | apply Own.alloc | refine Own.setCell ?_ (by simp) _)
    replace k0 := q0.cell k0
    replace k1 := q0.cell k1
    replace k2 := q0.cell k2
    replace k3 := q0.cell k3
    replace g0 := g0.trans q0
    clear q0
    generalize w1.alloc (.cells #[.int .i64 gx, .int .i64 gy] 23) = wg at *
    go_wp2_with (first | (go_at_call 30; (first | (with_reducible refine (pdot_at (fx, fy) (gx, gy) _ _ HD1 hf hw).mono ?_) | (with_reducible refine (pdot_at (tx, ty) (gx, gy) _ _ HD2 ht hw).mono ?_) | (with_reducible refine (pdot_at (fx, fy) (fx, fy) _ _ HFF hf hf).mono ?_) | (with_reducible refine (pdot_at (tx, ty) (tx, ty) _ _ HTT ht ht).mono ?_) | (with_reducible refine (pdot_at (gx, gy) (gx, gy) _ _ HGG hw hw).mono ?_)); rintro e w1 ⟨rfl, hg⟩; replace k0 := hg.cell k0; replace k1 := hg.cell k1; replace k2 := hg.cell k2; replace k3 := hg.cell k3; replace g0 : Own w w1 := Own.trans (by first | exact g0 | exact Own.drewN g0 _) hg; replace y0 := hg.cell y0; replace y1 := hg.cell y1; clear hg) | (go_at_call 33; (with_reducible refine (pcrs_at (fx, fy) (gx, gy) _ _ HS hf hw).mono ?_); rintro e w1 ⟨rfl, hg⟩; replace k0 := hg.cell k0; replace k1 := hg.cell k1; replace k2 := hg.cell k2; replace k3 := hg.cell k3; replace g0 : Own w w1 := Own.trans (by first | exact g0 | exact Own.drewN g0 _) hg; replace y0 := hg.cell y0; replace y1 := hg.cell y1; clear hg) | (go_at_call 49; (with_reducible refine (cmp_at _ _ _ _ _ _ _ HK).mono ?_); rintro e w1 ⟨rfl, rfl⟩))
    go_ret2
    exact ⟨rfl, g0⟩
  · rw [if_neg c1] at ho
    by_cases c2 : d2 ≤ 0
    · rw [if_pos c2] at ho
      have hk := cmp_ok (a := tt) (b := 1) (c := r) (d := r) ((cmpOk_iff _ _ _ _).2 ⟨(small_iff _).2 (by omega), (small_iff _).2 (by omega), (small_iff _).2 (by omega), (small_iff _).2 (by omega)⟩)
      rw [Int.mul_one, ho] at hk
      have HK := Lib.hid hk
      clear hk ho b1 b2 b3 b4 b5 b6
      go_enter Try.func37, Try.ntmps37
      go_upto_region 1 with (fail)
      have k0 : ((w.alloc (.cells #[.int .i64 fx, .int .i64 fy] 23)).alloc (.cells #[.int .i64 tx, .int .i64 ty] 23)).cell? ⟨w.heap.size, 0, none⟩ = some (.int .i64 fx) := by go_simp
      have k1 : ((w.alloc (.cells #[.int .i64 fx, .int .i64 fy] 23)).alloc (.cells #[.int .i64 tx, .int .i64 ty] 23)).cell? ⟨w.heap.size, 1, none⟩ = some (.int .i64 fy) := by go_simp
      have k2 : ((w.alloc (.cells #[.int .i64 fx, .int .i64 fy] 23)).alloc (.cells #[.int .i64 tx, .int .i64 ty] 23)).cell? ⟨w.heap.size + 1, 0, none⟩ = some (.int .i64 tx) := by go_simp
      have k3 : ((w.alloc (.cells #[.int .i64 fx, .int .i64 fy] 23)).alloc (.cells #[.int .i64 tx, .int .i64 ty] 23)).cell? ⟨w.heap.size + 1, 1, none⟩ = some (.int .i64 ty) := by go_simp
      have g0 : Own w ((w.alloc (.cells #[.int .i64 fx, .int .i64 fy] 23)).alloc (.cells #[.int .i64 tx, .int .i64 ty] 23)) := (((Own.refl w).alloc _).alloc _)
      generalize hW : ((w.alloc (.cells #[.int .i64 fx, .int .i64 fy] 23)).alloc (.cells #[.int .i64 tx, .int .i64 ty] 23)) = W0 at *
      clear hW
      go_upto_region 4 with (go_at_call 29; (with_reducible refine (pminus_at (tx, ty) (fx, fy) (gx, gy) _ HG ht hf).mono ?_); rintro e w1 ⟨rfl, hg⟩; replace k0 := hg.cell k0; replace k1 := hg.cell k1; replace k2 := hg.cell k2; replace k3 := hg.cell k3; replace g0 : Own w w1 := Own.trans (by first | exact g0 | exact Own.drewN g0 _) hg; clear hg)
      have y0 : (w1.alloc (.cells #[.int .i64 gx, .int .i64 gy] 23)).cell? ⟨w1.heap.size, 0, none⟩ = some (.int .i64 gx) := by go_simp
      have y1 : (w1.alloc (.cells #[.int .i64 gx, .int .i64 gy] 23)).cell? ⟨w1.heap.size, 1, none⟩ = some (.int .i64 gy) := by go_simp
      have q0 : Own w1 (w1.alloc (.cells #[.int .i64 gx, .int .i64 gy] 23)) := by repeat (first | exact Own.refl _ | apply Own.alloc | refine Own.setCell ?_ (by simp) _)
      replace k0 := q0.cell k0
      replace k1 := q0.cell k1
      replace k2 := q0.cell k2
      replace k3 := q0.cell k3
      replace g0 := g0.trans q0
      clear q0
      generalize w1.alloc (.cells #[.int .i64 gx, .int .i64 gy] 23) = wg at *
      go_wp2_with (first | (go_at_call 30; (first | (with_reducible refine (pdot_at (fx, fy) (gx, gy) _ _ HD1 hf hw).mono ?_) | (with_reducible refine (pdot_at (tx, ty) (gx, gy) _ _ HD2 ht hw).mono ?_) | (with_reducible refine (pdot_at (fx, fy) (fx, fy) _ _ HFF hf hf).mono ?_) | (with_reducible refine (pdot_at (tx, ty) (tx, ty) _ _ HTT ht ht).mono ?_) | (with_reducible refine (pdot_at (gx, gy) (gx, gy) _ _ HGG hw hw).mono ?_)); rintro e w1 ⟨rfl, hg⟩; replace k0 := hg.cell k0; replace k1 := hg.cell k1; replace k2 := hg.cell k2; replace k3 := hg.cell k3; replace g0 : Own w w1 := Own.trans (by first | exact g0 | exact Own.drewN g0 _) hg; replace y0 := hg.cell y0; replace y1 := hg.cell y1; clear hg) | (go_at_call 33; (with_reducible refine (pcrs_at (fx, fy) (gx, gy) _ _ HS hf hw).mono ?_); rintro e w1 ⟨rfl, hg⟩; replace k0 := hg.cell k0; replace k1 := hg.cell k1; replace k2 := hg.cell k2; replace k3 := hg.cell k3; replace g0 : Own w w1 := Own.trans (by first | exact g0 | exact Own.drewN g0 _) hg; replace y0 := hg.cell y0; replace y1 := hg.cell y1; clear hg) | (go_at_call 49; (with_reducible refine (cmp_at _ _ _ _ _ _ _ HK).mono ?_); rintro e w1 ⟨rfl, rfl⟩))
      go_ret2
      exact ⟨rfl, g0⟩
    · rw [if_neg c2] at ho
      have hk := cmp_ok (a := s) (b := s) (c := r * r) (d := gg) ((cmpOk_iff _ _ _ _).2 ⟨(small_iff _).2 (by omega), (small_iff _).2 (by omega), (small_iff _).2 (by omega), (small_iff _).2 (by omega)⟩)
      rw [ho] at hk
      have HK := Lib.hid hk
      clear hk ho b1 b2 b3 b4 b5 b6
      go_enter Try.func37, Try.ntmps37
      go_upto_region 1 with (fail)
      have k0 : ((w.alloc (.cells #[.int .i64 fx, .int .i64 fy] 23)).alloc (.cells #[.int .i64 tx, .int .i64 ty] 23)).cell? ⟨w.heap.size, 0, none⟩ = some (.int .i64 fx) := by go_simp
      have k1 : ((w.alloc (.cells #[.int .i64 fx, .int .i64 fy] 23)).alloc (.cells #[.int .i64 tx, .int .i64 ty] 23)).cell? ⟨w.heap.size, 1, none⟩ = some (.int .i64 fy) := by go_simp
      have k2 : ((w.alloc (.cells #[.int .i64 fx, .int .i64 fy] 23)).alloc (.cells #[.int .i64 tx, .int .i64 ty] 23)).cell? ⟨w.heap.size + 1, 0, none⟩ = some (.int .i64 tx) := by go_simp
      have k3 : ((w.alloc (.cells #[.int .i64 fx, .int .i64 fy] 23)).alloc (.cells #[.int .i64 tx, .int .i64 ty] 23)).cell? ⟨w.heap.size + 1, 1, none⟩ = some (.int .i64 ty) := by go_simp
      have g0 : Own w ((w.alloc (.cells #[.int .i64 fx, .int .i64 fy] 23)).alloc (.cells #[.int .i64 tx, .int .i64 ty] 23)) := (((Own.refl w).alloc _).alloc _)
      generalize hW : ((w.alloc (.cells #[.int .i64 fx, .int .i64 fy] 23)).alloc (.cells #[.int .i64 tx, .int .i64 ty] 23)) = W0 at *
      clear hW
      go_upto_region 4 with (go_at_call 29; (with_reducible refine (pminus_at (tx, ty) (fx, fy) (gx, gy) _ HG ht hf).mono ?_); rintro e w1 ⟨rfl, hg⟩; replace k0 := hg.cell k0; replace k1 := hg.cell k1; replace k2 := hg.cell k2; replace k3 := hg.cell k3; replace g0 : Own w w1 := Own.trans (by first | exact g0 | exact Own.drewN g0 _) hg; clear hg)
      have y0 : (w1.alloc (.cells #[.int .i64 gx, .int .i64 gy] 23)).cell? ⟨w1.heap.size, 0, none⟩ = some (.int .i64 gx) := by go_simp
      have y1 : (w1.alloc (.cells #[.int .i64 gx, .int .i64 gy] 23)).cell? ⟨w1.heap.size, 1, none⟩ = some (.int .i64 gy) := by go_simp
      have q0 : Own w1 (w1.alloc (.cells #[.int .i64 gx, .int .i64 gy] 23)) := by repeat (first | exact Own.refl _ | apply Own.alloc | refine Own.setCell ?_ (by simp) _)
      replace k0 := q0.cell k0
      replace k1 := q0.cell k1
      replace k2 := q0.cell k2
      replace k3 := q0.cell k3
      replace g0 := g0.trans q0
      clear q0
      generalize w1.alloc (.cells #[.int .i64 gx, .int .i64 gy] 23) = wg at *
      go_wp2_with (first | (go_at_call 30; (first | (with_reducible refine (pdot_at (fx, fy) (gx, gy) _ _ HD1 hf hw).mono ?_) | (with_reducible refine (pdot_at (tx, ty) (gx, gy) _ _ HD2 ht hw).mono ?_) | (with_reducible refine (pdot_at (fx, fy) (fx, fy) _ _ HFF hf hf).mono ?_) | (with_reducible refine (pdot_at (tx, ty) (tx, ty) _ _ HTT ht ht).mono ?_) | (with_reducible refine (pdot_at (gx, gy) (gx, gy) _ _ HGG hw hw).mono ?_)); rintro e w1 ⟨rfl, hg⟩; replace k0 := hg.cell k0; replace k1 := hg.cell k1; replace k2 := hg.cell k2; replace k3 := hg.cell k3; replace g0 : Own w w1 := Own.trans (by first | exact g0 | exact Own.drewN g0 _) hg; replace y0 := hg.cell y0; replace y1 := hg.cell y1; clear hg) | (go_at_call 33; (with_reducible refine (pcrs_at (fx, fy) (gx, gy) _ _ HS hf hw).mono ?_); rintro e w1 ⟨rfl, hg⟩; replace k0 := hg.cell k0; replace k1 := hg.cell k1; replace k2 := hg.cell k2; replace k3 := hg.cell k3; replace g0 : Own w w1 := Own.trans (by first | exact g0 | exact Own.drewN g0 _) hg; replace y0 := hg.cell y0; replace y1 := hg.cell y1; clear hg) | (go_at_call 49; (with_reducible refine (cmp_at _ _ _ _ _ _ _ HK).mono ?_); rintro e w1 ⟨rfl, rfl⟩))
      go_ret2
      exact ⟨rfl, g0⟩
set_option maxRecDepth 100000 in
theorem pdist_any (p q : Pt) (w : World) :
    Calls Try.prog 11 #[.agg #[.int .i64 p.1, .int .i64 p.2], .agg #[.int .i64 q.1, .int .i64 q.2]] w fun e w' => e = .returned (.tuple #[.int .i64 (distV p q), .int .i64 (distE p q)]) ∧ Own w w' := by
  obtain ⟨t0, ht0⟩ : ∃ t, okP p = t := ⟨_, rfl⟩
  obtain ⟨t1, ht1⟩ : ∃ t, okP q = t := ⟨_, rfl⟩
  have hv : distV p q = if (t0 && t1) = true then sq p q else 0 := by unfold distV; rw [ht0, ht1]
  have he : distE p q = if (t0 && t1) = true then 0 else 1 := by unfold distE; rw [ht0, ht1]
  rw [hv, he]
  clear hv he
  have HP0 := Lib.hid ht0
  have HP1 := Lib.hid ht1
  cases t0
  · clear ht0 ht1
    obtain ⟨xa, ya⟩ := p
    obtain ⟨xb, yb⟩ := q
    go_enter Try.func11, Try.ntmps11
    go_upto_region 1 with (fail)
    have k0 : ((w.alloc (.cells #[.int .i64 xa, .int .i64 ya] 23)).alloc (.cells #[.int .i64 xb, .int .i64 yb] 23)).cell? ⟨w.heap.size, 0, none⟩ = some (.int .i64 xa) := by go_simp
    have k1 : ((w.alloc (.cells #[.int .i64 xa, .int .i64 ya] 23)).alloc (.cells #[.int .i64 xb, .int .i64 yb] 23)).cell? ⟨w.heap.size, 1, none⟩ = some (.int .i64 ya) := by go_simp
    have k2 : ((w.alloc (.cells #[.int .i64 xa, .int .i64 ya] 23)).alloc (.cells #[.int .i64 xb, .int .i64 yb] 23)).cell? ⟨w.heap.size + 1, 0, none⟩ = some (.int .i64 xb) := by go_simp
    have k3 : ((w.alloc (.cells #[.int .i64 xa, .int .i64 ya] 23)).alloc (.cells #[.int .i64 xb, .int .i64 yb] 23)).cell? ⟨w.heap.size + 1, 1, none⟩ = some (.int .i64 yb) := by go_simp
    have g0 : Own w ((w.alloc (.cells #[.int .i64 xa, .int .i64 ya] 23)).alloc (.cells #[.int .i64 xb, .int .i64 yb] 23)) := (((Own.refl w).alloc _).alloc _)
    generalize hW : ((w.alloc (.cells #[.int .i64 xa, .int .i64 ya] 23)).alloc (.cells #[.int .i64 xb, .int .i64 yb] 23)) = W0 at *
    clear hW
    go_wp2_with (first | (go_at_call 28; (first | (with_reducible refine (pvalid_at (xa, ya) _ _ HP0).mono ?_) | (with_reducible refine (pvalid_at (xb, yb) _ _ HP1).mono ?_)); rintro e w1 ⟨rfl, hg⟩; replace k0 := hg.cell k0; replace k1 := hg.cell k1; replace k2 := hg.cell k2; replace k3 := hg.cell k3; replace g0 : Own w w1 := Own.trans (by first | exact g0 | exact Own.drewN g0 _) hg; clear hg))
    go_ret2
    exact ⟨rfl, g0⟩
  · skip
    cases t1
    · clear ht0 ht1
      obtain ⟨xa, ya⟩ := p
      obtain ⟨xb, yb⟩ := q
      go_enter Try.func11, Try.ntmps11
      go_upto_region 1 with (fail)
      have k0 : ((w.alloc (.cells #[.int .i64 xa, .int .i64 ya] 23)).alloc (.cells #[.int .i64 xb, .int .i64 yb] 23)).cell? ⟨w.heap.size, 0, none⟩ = some (.int .i64 xa) := by go_simp
      have k1 : ((w.alloc (.cells #[.int .i64 xa, .int .i64 ya] 23)).alloc (.cells #[.int .i64 xb, .int .i64 yb] 23)).cell? ⟨w.heap.size, 1, none⟩ = some (.int .i64 ya) := by go_simp
      have k2 : ((w.alloc (.cells #[.int .i64 xa, .int .i64 ya] 23)).alloc (.cells #[.int .i64 xb, .int .i64 yb] 23)).cell? ⟨w.heap.size + 1, 0, none⟩ = some (.int .i64 xb) := by go_simp
      have k3 : ((w.alloc (.cells #[.int .i64 xa, .int .i64 ya] 23)).alloc (.cells #[.int .i64 xb, .int .i64 yb] 23)).cell? ⟨w.heap.size + 1, 1, none⟩ = some (.int .i64 yb) := by go_simp
      have g0 : Own w ((w.alloc (.cells #[.int .i64 xa, .int .i64 ya] 23)).alloc (.cells #[.int .i64 xb, .int .i64 yb] 23)) := (((Own.refl w).alloc _).alloc _)
      generalize hW : ((w.alloc (.cells #[.int .i64 xa, .int .i64 ya] 23)).alloc (.cells #[.int .i64 xb, .int .i64 yb] 23)) = W0 at *
      clear hW
      go_wp2_with (first | (go_at_call 28; (first | (with_reducible refine (pvalid_at (xa, ya) _ _ HP0).mono ?_) | (with_reducible refine (pvalid_at (xb, yb) _ _ HP1).mono ?_)); rintro e w1 ⟨rfl, hg⟩; replace k0 := hg.cell k0; replace k1 := hg.cell k1; replace k2 := hg.cell k2; replace k3 := hg.cell k3; replace g0 : Own w w1 := Own.trans (by first | exact g0 | exact Own.drewN g0 _) hg; clear hg))
      go_ret2
      exact ⟨rfl, g0⟩
    · skip
      have h1 := wide_small (small_of ht0)
      have h2 := wide_small (small_of ht1)
      have h3 := wide_sub (small_of ht1) (small_of ht0)
      clear ht0 ht1
      have hsq : sq p q = dotP (sub q p) (sub q p) := by unfold sq dotP sub; grind
      rw [hsq]
      clear hsq
      obtain ⟨g, hg⟩ : ∃ g, sub q p = g := ⟨_, rfl⟩
      rw [hg] at h3 ⊢
      obtain ⟨s, hs⟩ : ∃ s, dotP g g = s := ⟨_, rfl⟩
      rw [hs]
      have HG := Lib.hid hg
      have HS := Lib.hid hs
      clear hs hg
      obtain ⟨gx, gy⟩ := g
      obtain ⟨xa, ya⟩ := p
      obtain ⟨xb, yb⟩ := q
      go_enter Try.func11, Try.ntmps11
      go_upto_region 1 with (fail)
      have k0 : ((w.alloc (.cells #[.int .i64 xa, .int .i64 ya] 23)).alloc (.cells #[.int .i64 xb, .int .i64 yb] 23)).cell? ⟨w.heap.size, 0, none⟩ = some (.int .i64 xa) := by go_simp
      have k1 : ((w.alloc (.cells #[.int .i64 xa, .int .i64 ya] 23)).alloc (.cells #[.int .i64 xb, .int .i64 yb] 23)).cell? ⟨w.heap.size, 1, none⟩ = some (.int .i64 ya) := by go_simp
      have k2 : ((w.alloc (.cells #[.int .i64 xa, .int .i64 ya] 23)).alloc (.cells #[.int .i64 xb, .int .i64 yb] 23)).cell? ⟨w.heap.size + 1, 0, none⟩ = some (.int .i64 xb) := by go_simp
      have k3 : ((w.alloc (.cells #[.int .i64 xa, .int .i64 ya] 23)).alloc (.cells #[.int .i64 xb, .int .i64 yb] 23)).cell? ⟨w.heap.size + 1, 1, none⟩ = some (.int .i64 yb) := by go_simp
      have g0 : Own w ((w.alloc (.cells #[.int .i64 xa, .int .i64 ya] 23)).alloc (.cells #[.int .i64 xb, .int .i64 yb] 23)) := (((Own.refl w).alloc _).alloc _)
      generalize hW : ((w.alloc (.cells #[.int .i64 xa, .int .i64 ya] 23)).alloc (.cells #[.int .i64 xb, .int .i64 yb] 23)) = W0 at *
      clear hW
      go_wp2_with (first | (go_at_call 28; (first | (with_reducible refine (pvalid_at (xa, ya) _ _ HP0).mono ?_) | (with_reducible refine (pvalid_at (xb, yb) _ _ HP1).mono ?_)); rintro e w1 ⟨rfl, hg⟩; replace k0 := hg.cell k0; replace k1 := hg.cell k1; replace k2 := hg.cell k2; replace k3 := hg.cell k3; replace g0 : Own w w1 := Own.trans (by first | exact g0 | exact Own.drewN g0 _) hg; clear hg) | (go_at_call 29; (with_reducible refine (pminus_at (xb, yb) (xa, ya) (gx, gy) _ HG h2 h1).mono ?_); rintro e w1 ⟨rfl, hg⟩; replace g0 : Own w w1 := Own.trans (by first | exact g0 | exact Own.drewN g0 _) hg; clear hg) | (go_at_call 30; (with_reducible refine (pdot_at (gx, gy) (gx, gy) s _ HS h3 h3).mono ?_); rintro e w2 ⟨rfl, hg2⟩))
      go_ret2
      exact ⟨rfl, Own.trans (by repeat (first | exact g0 | apply Own.alloc | refine Own.setCell ?_ (by have := g0.size; simp; try omega) _)) hg2⟩
theorem pdist_at (p q : Pt) (v f : Int) (w : World) (H : Hid (distV p q = v ∧ distE p q = f)) :
    Calls Try.prog 11 #[.agg #[.int .i64 p.1, .int .i64 p.2], .agg #[.int .i64 q.1, .int .i64 q.2]] w fun e w' => e = .returned (.tuple #[.int .i64 v, .int .i64 f]) ∧ Own w w' := by
  obtain ⟨rfl, rfl⟩ := H.out
  exact pdist_any p q w
set_option maxRecDepth 100000 in
set_option maxHeartbeats 2000000 in
theorem pcross_any (o p q : Pt) (w : World) :
    Calls Try.prog 13 #[.agg #[.int .i64 o.1, .int .i64 o.2], .agg #[.int .i64 p.1, .int .i64 p.2], .agg #[.int .i64 q.1, .int .i64 q.2]] w fun e w' => e = .returned (.tuple #[.int .i64 (crossV o p q), .int .i64 (crossE o p q)]) ∧ Own w w' := by
  obtain ⟨t0, ht0⟩ : ∃ t, okP o = t := ⟨_, rfl⟩
  obtain ⟨t1, ht1⟩ : ∃ t, okP p = t := ⟨_, rfl⟩
  obtain ⟨t2, ht2⟩ : ∃ t, okP q = t := ⟨_, rfl⟩
  have hv : crossV o p q = if (t0 && (t1 && t2)) = true then cr o p q else 0 := by unfold crossV; rw [ht0, ht1, ht2]
  have he : crossE o p q = if (t0 && (t1 && t2)) = true then 0 else 1 := by unfold crossE; rw [ht0, ht1, ht2]
  rw [hv, he]
  clear hv he
  have HP0 := Lib.hid ht0
  have HP1 := Lib.hid ht1
  have HP2 := Lib.hid ht2
  cases t0
  · clear ht0 ht1 ht2
    obtain ⟨xa, ya⟩ := o
    obtain ⟨xb, yb⟩ := p
    obtain ⟨xc, yc⟩ := q
    go_enter Try.func13, Try.ntmps13
    go_upto_region 1 with (fail)
    have k0 : (((w.alloc (.cells #[.int .i64 xa, .int .i64 ya] 23)).alloc (.cells #[.int .i64 xb, .int .i64 yb] 23)).alloc (.cells #[.int .i64 xc, .int .i64 yc] 23)).cell? ⟨w.heap.size, 0, none⟩ = some (.int .i64 xa) := by go_simp
    have k1 : (((w.alloc (.cells #[.int .i64 xa, .int .i64 ya] 23)).alloc (.cells #[.int .i64 xb, .int .i64 yb] 23)).alloc (.cells #[.int .i64 xc, .int .i64 yc] 23)).cell? ⟨w.heap.size, 1, none⟩ = some (.int .i64 ya) := by go_simp
    have k2 : (((w.alloc (.cells #[.int .i64 xa, .int .i64 ya] 23)).alloc (.cells #[.int .i64 xb, .int .i64 yb] 23)).alloc (.cells #[.int .i64 xc, .int .i64 yc] 23)).cell? ⟨w.heap.size + 1, 0, none⟩ = some (.int .i64 xb) := by go_simp
    have k3 : (((w.alloc (.cells #[.int .i64 xa, .int .i64 ya] 23)).alloc (.cells #[.int .i64 xb, .int .i64 yb] 23)).alloc (.cells #[.int .i64 xc, .int .i64 yc] 23)).cell? ⟨w.heap.size + 1, 1, none⟩ = some (.int .i64 yb) := by go_simp
    have k4 : (((w.alloc (.cells #[.int .i64 xa, .int .i64 ya] 23)).alloc (.cells #[.int .i64 xb, .int .i64 yb] 23)).alloc (.cells #[.int .i64 xc, .int .i64 yc] 23)).cell? ⟨w.heap.size + 2, 0, none⟩ = some (.int .i64 xc) := by go_simp
    have k5 : (((w.alloc (.cells #[.int .i64 xa, .int .i64 ya] 23)).alloc (.cells #[.int .i64 xb, .int .i64 yb] 23)).alloc (.cells #[.int .i64 xc, .int .i64 yc] 23)).cell? ⟨w.heap.size + 2, 1, none⟩ = some (.int .i64 yc) := by go_simp
    have g0 : Own w (((w.alloc (.cells #[.int .i64 xa, .int .i64 ya] 23)).alloc (.cells #[.int .i64 xb, .int .i64 yb] 23)).alloc (.cells #[.int .i64 xc, .int .i64 yc] 23)) := ((((Own.refl w).alloc _).alloc _).alloc _)
    generalize hW : (((w.alloc (.cells #[.int .i64 xa, .int .i64 ya] 23)).alloc (.cells #[.int .i64 xb, .int .i64 yb] 23)).alloc (.cells #[.int .i64 xc, .int .i64 yc] 23)) = W0 at *
    clear hW
    go_wp2_with (first | (go_at_call 28; (first | (with_reducible refine (pvalid_at (xa, ya) _ _ HP0).mono ?_) | (with_reducible refine (pvalid_at (xb, yb) _ _ HP1).mono ?_) | (with_reducible refine (pvalid_at (xc, yc) _ _ HP2).mono ?_)); rintro e w1 ⟨rfl, hg⟩; replace k0 := hg.cell k0; replace k1 := hg.cell k1; replace k2 := hg.cell k2; replace k3 := hg.cell k3; replace k4 := hg.cell k4; replace k5 := hg.cell k5; replace g0 : Own w w1 := Own.trans (by first | exact g0 | exact Own.drewN g0 _) hg; clear hg))
    go_ret2
    exact ⟨rfl, g0⟩
  · skip
    cases t1
    · clear ht0 ht1 ht2
      obtain ⟨xa, ya⟩ := o
      obtain ⟨xb, yb⟩ := p
      obtain ⟨xc, yc⟩ := q
      go_enter Try.func13, Try.ntmps13
      go_upto_region 1 with (fail)
      have k0 : (((w.alloc (.cells #[.int .i64 xa, .int .i64 ya] 23)).alloc (.cells #[.int .i64 xb, .int .i64 yb] 23)).alloc (.cells #[.int .i64 xc, .int .i64 yc] 23)).cell? ⟨w.heap.size, 0, none⟩ = some (.int .i64 xa) := by go_simp
      have k1 : (((w.alloc (.cells #[.int .i64 xa, .int .i64 ya] 23)).alloc (.cells #[.int .i64 xb, .int .i64 yb] 23)).alloc (.cells #[.int .i64 xc, .int .i64 yc] 23)).cell? ⟨w.heap.size, 1, none⟩ = some (.int .i64 ya) := by go_simp
      have k2 : (((w.alloc (.cells #[.int .i64 xa, .int .i64 ya] 23)).alloc (.cells #[.int .i64 xb, .int .i64 yb] 23)).alloc (.cells #[.int .i64 xc, .int .i64 yc] 23)).cell? ⟨w.heap.size + 1, 0, none⟩ = some (.int .i64 xb) := by go_simp
      have k3 : (((w.alloc (.cells #[.int .i64 xa, .int .i64 ya] 23)).alloc (.cells #[.int .i64 xb, .int .i64 yb] 23)).alloc (.cells #[.int .i64 xc, .int .i64 yc] 23)).cell? ⟨w.heap.size + 1, 1, none⟩ = some (.int .i64 yb) := by go_simp
      have k4 : (((w.alloc (.cells #[.int .i64 xa, .int .i64 ya] 23)).alloc (.cells #[.int .i64 xb, .int .i64 yb] 23)).alloc (.cells #[.int .i64 xc, .int .i64 yc] 23)).cell? ⟨w.heap.size + 2, 0, none⟩ = some (.int .i64 xc) := by go_simp
      have k5 : (((w.alloc (.cells #[.int .i64 xa, .int .i64 ya] 23)).alloc (.cells #[.int .i64 xb, .int .i64 yb] 23)).alloc (.cells #[.int .i64 xc, .int .i64 yc] 23)).cell? ⟨w.heap.size + 2, 1, none⟩ = some (.int .i64 yc) := by go_simp
      have g0 : Own w (((w.alloc (.cells #[.int .i64 xa, .int .i64 ya] 23)).alloc (.cells #[.int .i64 xb, .int .i64 yb] 23)).alloc (.cells #[.int .i64 xc, .int .i64 yc] 23)) := ((((Own.refl w).alloc _).alloc _).alloc _)
      generalize hW : (((w.alloc (.cells #[.int .i64 xa, .int .i64 ya] 23)).alloc (.cells #[.int .i64 xb, .int .i64 yb] 23)).alloc (.cells #[.int .i64 xc, .int .i64 yc] 23)) = W0 at *
      clear hW
      go_wp2_with (first | (go_at_call 28; (first | (with_reducible refine (pvalid_at (xa, ya) _ _ HP0).mono ?_) | (with_reducible refine (pvalid_at (xb, yb) _ _ HP1).mono ?_) | (with_reducible refine (pvalid_at (xc, yc) _ _ HP2).mono ?_)); rintro e w1 ⟨rfl, hg⟩; replace k0 := hg.cell k0; replace k1 := hg.cell k1; replace k2 := hg.cell k2; replace k3 := hg.cell k3; replace k4 := hg.cell k4; replace k5 := hg.cell k5; replace g0 : Own w w1 := Own.trans (by first | exact g0 | exact Own.drewN g0 _) hg; clear hg))
      go_ret2
      exact ⟨rfl, g0⟩
    · skip
      cases t2
      · clear ht0 ht1 ht2
        obtain ⟨xa, ya⟩ := o
        obtain ⟨xb, yb⟩ := p
        obtain ⟨xc, yc⟩ := q
        go_enter Try.func13, Try.ntmps13
        go_upto_region 1 with (fail)
        have k0 : (((w.alloc (.cells #[.int .i64 xa, .int .i64 ya] 23)).alloc (.cells #[.int .i64 xb, .int .i64 yb] 23)).alloc (.cells #[.int .i64 xc, .int .i64 yc] 23)).cell? ⟨w.heap.size, 0, none⟩ = some (.int .i64 xa) := by go_simp
        have k1 : (((w.alloc (.cells #[.int .i64 xa, .int .i64 ya] 23)).alloc (.cells #[.int .i64 xb, .int .i64 yb] 23)).alloc (.cells #[.int .i64 xc, .int .i64 yc] 23)).cell? ⟨w.heap.size, 1, none⟩ = some (.int .i64 ya) := by go_simp
        have k2 : (((w.alloc (.cells #[.int .i64 xa, .int .i64 ya] 23)).alloc (.cells #[.int .i64 xb, .int .i64 yb] 23)).alloc (.cells #[.int .i64 xc, .int .i64 yc] 23)).cell? ⟨w.heap.size + 1, 0, none⟩ = some (.int .i64 xb) := by go_simp
        have k3 : (((w.alloc (.cells #[.int .i64 xa, .int .i64 ya] 23)).alloc (.cells #[.int .i64 xb, .int .i64 yb] 23)).alloc (.cells #[.int .i64 xc, .int .i64 yc] 23)).cell? ⟨w.heap.size + 1, 1, none⟩ = some (.int .i64 yb) := by go_simp
        have k4 : (((w.alloc (.cells #[.int .i64 xa, .int .i64 ya] 23)).alloc (.cells #[.int .i64 xb, .int .i64 yb] 23)).alloc (.cells #[.int .i64 xc, .int .i64 yc] 23)).cell? ⟨w.heap.size + 2, 0, none⟩ = some (.int .i64 xc) := by go_simp
        have k5 : (((w.alloc (.cells #[.int .i64 xa, .int .i64 ya] 23)).alloc (.cells #[.int .i64 xb, .int .i64 yb] 23)).alloc (.cells #[.int .i64 xc, .int .i64 yc] 23)).cell? ⟨w.heap.size + 2, 1, none⟩ = some (.int .i64 yc) := by go_simp
        have g0 : Own w (((w.alloc (.cells #[.int .i64 xa, .int .i64 ya] 23)).alloc (.cells #[.int .i64 xb, .int .i64 yb] 23)).alloc (.cells #[.int .i64 xc, .int .i64 yc] 23)) := ((((Own.refl w).alloc _).alloc _).alloc _)
        generalize hW : (((w.alloc (.cells #[.int .i64 xa, .int .i64 ya] 23)).alloc (.cells #[.int .i64 xb, .int .i64 yb] 23)).alloc (.cells #[.int .i64 xc, .int .i64 yc] 23)) = W0 at *
        clear hW
        go_wp2_with (first | (go_at_call 28; (first | (with_reducible refine (pvalid_at (xa, ya) _ _ HP0).mono ?_) | (with_reducible refine (pvalid_at (xb, yb) _ _ HP1).mono ?_) | (with_reducible refine (pvalid_at (xc, yc) _ _ HP2).mono ?_)); rintro e w1 ⟨rfl, hg⟩; replace k0 := hg.cell k0; replace k1 := hg.cell k1; replace k2 := hg.cell k2; replace k3 := hg.cell k3; replace k4 := hg.cell k4; replace k5 := hg.cell k5; replace g0 : Own w w1 := Own.trans (by first | exact g0 | exact Own.drewN g0 _) hg; clear hg))
        go_ret2
        exact ⟨rfl, g0⟩
      · skip
        have h0 := small_of ht0
        have h1 := small_of ht1
        have h2 := small_of ht2
        clear ht0 ht1 ht2
        have hcr : cr o p q = crsP (sub p o) (sub q o) := by unfold cr crsP sub; grind
        rw [hcr]
        clear hcr
        have w1h := wide_sub h1 h0
        have w2h := wide_sub h2 h0
        replace h0 := wide_small h0
        replace h1 := wide_small h1
        replace h2 := wide_small h2
        obtain ⟨⟨gx, gy⟩, hg⟩ : ∃ g, sub p o = g := ⟨_, rfl⟩
        obtain ⟨⟨ix, iy⟩, hi⟩ : ∃ g, sub q o = g := ⟨_, rfl⟩
        rw [hg] at w1h ⊢
        rw [hi] at w2h ⊢
        obtain ⟨s, hs⟩ : ∃ s, crsP (gx, gy) (ix, iy) = s := ⟨_, rfl⟩
        rw [hs]
        have HG := Lib.hid hg
        have HI := Lib.hid hi
        have HS := Lib.hid hs
        clear hs hg hi
        obtain ⟨xa, ya⟩ := o
        obtain ⟨xb, yb⟩ := p
        obtain ⟨xc, yc⟩ := q
        go_enter Try.func13, Try.ntmps13
        go_upto_region 1 with (fail)
        have k0 : (((w.alloc (.cells #[.int .i64 xa, .int .i64 ya] 23)).alloc (.cells #[.int .i64 xb, .int .i64 yb] 23)).alloc (.cells #[.int .i64 xc, .int .i64 yc] 23)).cell? ⟨w.heap.size, 0, none⟩ = some (.int .i64 xa) := by go_simp
        have k1 : (((w.alloc (.cells #[.int .i64 xa, .int .i64 ya] 23)).alloc (.cells #[.int .i64 xb, .int .i64 yb] 23)).alloc (.cells #[.int .i64 xc, .int .i64 yc] 23)).cell? ⟨w.heap.size, 1, none⟩ = some (.int .i64 ya) := by go_simp
        have k2 : (((w.alloc (.cells #[.int .i64 xa, .int .i64 ya] 23)).alloc (.cells #[.int .i64 xb, .int .i64 yb] 23)).alloc (.cells #[.int .i64 xc, .int .i64 yc] 23)).cell? ⟨w.heap.size + 1, 0, none⟩ = some (.int .i64 xb) := by go_simp
        have k3 : (((w.alloc (.cells #[.int .i64 xa, .int .i64 ya] 23)).alloc (.cells #[.int .i64 xb, .int .i64 yb] 23)).alloc (.cells #[.int .i64 xc, .int .i64 yc] 23)).cell? ⟨w.heap.size + 1, 1, none⟩ = some (.int .i64 yb) := by go_simp
        have k4 : (((w.alloc (.cells #[.int .i64 xa, .int .i64 ya] 23)).alloc (.cells #[.int .i64 xb, .int .i64 yb] 23)).alloc (.cells #[.int .i64 xc, .int .i64 yc] 23)).cell? ⟨w.heap.size + 2, 0, none⟩ = some (.int .i64 xc) := by go_simp
        have k5 : (((w.alloc (.cells #[.int .i64 xa, .int .i64 ya] 23)).alloc (.cells #[.int .i64 xb, .int .i64 yb] 23)).alloc (.cells #[.int .i64 xc, .int .i64 yc] 23)).cell? ⟨w.heap.size + 2, 1, none⟩ = some (.int .i64 yc) := by go_simp
        have g0 : Own w (((w.alloc (.cells #[.int .i64 xa, .int .i64 ya] 23)).alloc (.cells #[.int .i64 xb, .int .i64 yb] 23)).alloc (.cells #[.int .i64 xc, .int .i64 yc] 23)) := ((((Own.refl w).alloc _).alloc _).alloc _)
        generalize hW : (((w.alloc (.cells #[.int .i64 xa, .int .i64 ya] 23)).alloc (.cells #[.int .i64 xb, .int .i64 yb] 23)).alloc (.cells #[.int .i64 xc, .int .i64 yc] 23)) = W0 at *
        clear hW
        go_upto_region 3 with (first | (go_at_call 28; (first | (with_reducible refine (pvalid_at (xa, ya) _ _ HP0).mono ?_) | (with_reducible refine (pvalid_at (xb, yb) _ _ HP1).mono ?_) | (with_reducible refine (pvalid_at (xc, yc) _ _ HP2).mono ?_)); rintro e w1 ⟨rfl, hg⟩; replace k0 := hg.cell k0; replace k1 := hg.cell k1; replace k2 := hg.cell k2; replace k3 := hg.cell k3; replace k4 := hg.cell k4; replace k5 := hg.cell k5; replace g0 : Own w w1 := Own.trans (by first | exact g0 | exact Own.drewN g0 _) hg; clear hg))
        have c0 : ∀ x : After w1, x.w.cell? ⟨w.heap.size, 0, none⟩ = some (.int .i64 xa) := fun x => x.o.cell k0
        have c1 : ∀ x : After w1, x.w.cell? ⟨w.heap.size, 1, none⟩ = some (.int .i64 ya) := fun x => x.o.cell k1
        have c2 : ∀ x : After w1, x.w.cell? ⟨w.heap.size + 1, 0, none⟩ = some (.int .i64 xb) := fun x => x.o.cell k2
        have c3 : ∀ x : After w1, x.w.cell? ⟨w.heap.size + 1, 1, none⟩ = some (.int .i64 yb) := fun x => x.o.cell k3
        have c4 : ∀ x : After w1, x.w.cell? ⟨w.heap.size + 2, 0, none⟩ = some (.int .i64 xc) := fun x => x.o.cell k4
        have c5 : ∀ x : After w1, x.w.cell? ⟨w.heap.size + 2, 1, none⟩ = some (.int .i64 yc) := fun x => x.o.cell k5
        clear k0 k1 k2 k3 k4 k5
        refine region_after w1 (by kernel_rfl) (by kernel_rfl) ?_
        repeat (first | go_big_quiet_step ((first | (go_at_call 29; (first | (with_reducible refine (pminus_at (xb, yb) (xa, ya) (gx, gy) _ HG h1 h0).mono ?_) | (with_reducible refine (pminus_at (xc, yc) (xa, ya) (ix, iy) _ HI h2 h0).mono ?_)); rintro e w2 ⟨rfl, hg⟩; exact ⟨rfl, ⟨w2, (After.o _).trans hg⟩, rfl⟩) | (go_at_call 33; (first | (with_reducible refine (pcrs_at (gx, gy) (ix, iy) s _ HS w1h w2h).mono ?_)); rintro e w2 ⟨rfl, hg⟩; exact ⟨rfl, ⟨w2, (After.o _).trans hg⟩, rfl⟩))) | quiet_step ((first | (go_at_call 29; (first | (with_reducible refine (pminus_at (xb, yb) (xa, ya) (gx, gy) _ HG h1 h0).mono ?_) | (with_reducible refine (pminus_at (xc, yc) (xa, ya) (ix, iy) _ HI h2 h0).mono ?_)); rintro e w2 ⟨rfl, hg⟩; exact ⟨rfl, ⟨w2, (After.o _).trans hg⟩, rfl⟩) | (go_at_call 33; (first | (with_reducible refine (pcrs_at (gx, gy) (ix, iy) s _ HS w1h w2h).mono ?_)); rintro e w2 ⟨rfl, hg⟩; exact ⟨rfl, ⟨w2, (After.o _).trans hg⟩, rfl⟩))))
        refine wpQuiet_nil ?_
        rintro _ ⟨x, rfl⟩
        replace g0 := g0.trans x.o
        generalize x.w = w3 at *
        go_wp2
        go_ret2
        exact ⟨rfl, g0⟩
theorem pcross_at (o p q : Pt) (v f : Int) (w : World) (H : Hid (crossV o p q = v ∧ crossE o p q = f)) :
    Calls Try.prog 13 #[.agg #[.int .i64 o.1, .int .i64 o.2], .agg #[.int .i64 p.1, .int .i64 p.2], .agg #[.int .i64 q.1, .int .i64 q.2]] w fun e w' => e = .returned (.tuple #[.int .i64 v, .int .i64 f]) ∧ Own w w' := by
  obtain ⟨rfl, rfl⟩ := H.out
  exact pcross_any o p q w
set_option maxRecDepth 100000 in
set_option maxHeartbeats 2000000 in
theorem pnear_any (p a b : Pt) (r : Int) (w : World) :
    Calls Try.prog 16 #[.agg #[.int .i64 p.1, .int .i64 p.2], .agg #[.int .i64 a.1, .int .i64 a.2], .agg #[.int .i64 b.1, .int .i64 b.2], .int .i64 r] w fun e w' => e = .returned (.tuple #[.bool (nrV p a b r), .int .i64 (nrE p a b r)]) ∧ Own w w' := by
  obtain ⟨t0, ht0⟩ : ∃ t, okP p = t := ⟨_, rfl⟩
  obtain ⟨t1, ht1⟩ : ∃ t, okP a = t := ⟨_, rfl⟩
  obtain ⟨t2, ht2⟩ : ∃ t, okP b = t := ⟨_, rfl⟩
  obtain ⟨t3, ht3⟩ : ∃ t, okR r = t := ⟨_, rfl⟩
  have hv : nrV p a b r = (t0 && t1 && (t2 && t3) && nearB p a b r) := by unfold nrV nearOk; rw [ht0, ht1, ht2, ht3]
  have he : nrE p a b r = if (t0 && t1 && (t2 && t3)) = true then 0 else 1 := by unfold nrE nearOk; rw [ht0, ht1, ht2, ht3]
  rw [hv, he]
  clear hv he
  have HP0 := Lib.hid ht0
  have HP1 := Lib.hid ht1
  have HP2 := Lib.hid ht2
  have HR := Lib.hid ht3
  cases t0
  · clear ht0 ht1 ht2 ht3
    obtain ⟨xa, ya⟩ := p
    obtain ⟨xb, yb⟩ := a
    obtain ⟨xc, yc⟩ := b
    go_enter Try.func16, Try.ntmps16
    go_upto_region 1 with (fail)
    have k0 : (((w.alloc (.cells #[.int .i64 xa, .int .i64 ya] 23)).alloc (.cells #[.int .i64 xb, .int .i64 yb] 23)).alloc (.cells #[.int .i64 xc, .int .i64 yc] 23)).cell? ⟨w.heap.size, 0, none⟩ = some (.int .i64 xa) := by go_simp
    have k1 : (((w.alloc (.cells #[.int .i64 xa, .int .i64 ya] 23)).alloc (.cells #[.int .i64 xb, .int .i64 yb] 23)).alloc (.cells #[.int .i64 xc, .int .i64 yc] 23)).cell? ⟨w.heap.size, 1, none⟩ = some (.int .i64 ya) := by go_simp
    have k2 : (((w.alloc (.cells #[.int .i64 xa, .int .i64 ya] 23)).alloc (.cells #[.int .i64 xb, .int .i64 yb] 23)).alloc (.cells #[.int .i64 xc, .int .i64 yc] 23)).cell? ⟨w.heap.size + 1, 0, none⟩ = some (.int .i64 xb) := by go_simp
    have k3 : (((w.alloc (.cells #[.int .i64 xa, .int .i64 ya] 23)).alloc (.cells #[.int .i64 xb, .int .i64 yb] 23)).alloc (.cells #[.int .i64 xc, .int .i64 yc] 23)).cell? ⟨w.heap.size + 1, 1, none⟩ = some (.int .i64 yb) := by go_simp
    have k4 : (((w.alloc (.cells #[.int .i64 xa, .int .i64 ya] 23)).alloc (.cells #[.int .i64 xb, .int .i64 yb] 23)).alloc (.cells #[.int .i64 xc, .int .i64 yc] 23)).cell? ⟨w.heap.size + 2, 0, none⟩ = some (.int .i64 xc) := by go_simp
    have k5 : (((w.alloc (.cells #[.int .i64 xa, .int .i64 ya] 23)).alloc (.cells #[.int .i64 xb, .int .i64 yb] 23)).alloc (.cells #[.int .i64 xc, .int .i64 yc] 23)).cell? ⟨w.heap.size + 2, 1, none⟩ = some (.int .i64 yc) := by go_simp
    have g0 : Own w (((w.alloc (.cells #[.int .i64 xa, .int .i64 ya] 23)).alloc (.cells #[.int .i64 xb, .int .i64 yb] 23)).alloc (.cells #[.int .i64 xc, .int .i64 yc] 23)) := ((((Own.refl w).alloc _).alloc _).alloc _)
    generalize hW : (((w.alloc (.cells #[.int .i64 xa, .int .i64 ya] 23)).alloc (.cells #[.int .i64 xb, .int .i64 yb] 23)).alloc (.cells #[.int .i64 xc, .int .i64 yc] 23)) = W0 at *
    clear hW
    go_wp2_with (first | (go_at_call 28; (first | (with_reducible refine (pvalid_at (xa, ya) _ _ HP0).mono ?_) | (with_reducible refine (pvalid_at (xb, yb) _ _ HP1).mono ?_) | (with_reducible refine (pvalid_at (xc, yc) _ _ HP2).mono ?_)); rintro e w1 ⟨rfl, hg⟩; replace k0 := hg.cell k0; replace k1 := hg.cell k1; replace k2 := hg.cell k2; replace k3 := hg.cell k3; replace k4 := hg.cell k4; replace k5 := hg.cell k5; replace g0 : Own w w1 := Own.trans (by first | exact g0 | exact Own.drewN g0 _) hg; clear hg) | (go_at_call 36; (with_reducible refine (pradius_at r _ _ HR).mono ?_); rintro e w1 ⟨rfl, rfl⟩))
    go_ret2
    exact ⟨rfl, g0⟩
  · skip
    cases t1
    · clear ht0 ht1 ht2 ht3
      obtain ⟨xa, ya⟩ := p
      obtain ⟨xb, yb⟩ := a
      obtain ⟨xc, yc⟩ := b
      go_enter Try.func16, Try.ntmps16
      go_upto_region 1 with (fail)
      have k0 : (((w.alloc (.cells #[.int .i64 xa, .int .i64 ya] 23)).alloc (.cells #[.int .i64 xb, .int .i64 yb] 23)).alloc (.cells #[.int .i64 xc, .int .i64 yc] 23)).cell? ⟨w.heap.size, 0, none⟩ = some (.int .i64 xa) := by go_simp
      have k1 : (((w.alloc (.cells #[.int .i64 xa, .int .i64 ya] 23)).alloc (.cells #[.int .i64 xb, .int .i64 yb] 23)).alloc (.cells #[.int .i64 xc, .int .i64 yc] 23)).cell? ⟨w.heap.size, 1, none⟩ = some (.int .i64 ya) := by go_simp
      have k2 : (((w.alloc (.cells #[.int .i64 xa, .int .i64 ya] 23)).alloc (.cells #[.int .i64 xb, .int .i64 yb] 23)).alloc (.cells #[.int .i64 xc, .int .i64 yc] 23)).cell? ⟨w.heap.size + 1, 0, none⟩ = some (.int .i64 xb) := by go_simp
      have k3 : (((w.alloc (.cells #[.int .i64 xa, .int .i64 ya] 23)).alloc (.cells #[.int .i64 xb, .int .i64 yb] 23)).alloc (.cells #[.int .i64 xc, .int .i64 yc] 23)).cell? ⟨w.heap.size + 1, 1, none⟩ = some (.int .i64 yb) := by go_simp
      have k4 : (((w.alloc (.cells #[.int .i64 xa, .int .i64 ya] 23)).alloc (.cells #[.int .i64 xb, .int .i64 yb] 23)).alloc (.cells #[.int .i64 xc, .int .i64 yc] 23)).cell? ⟨w.heap.size + 2, 0, none⟩ = some (.int .i64 xc) := by go_simp
      have k5 : (((w.alloc (.cells #[.int .i64 xa, .int .i64 ya] 23)).alloc (.cells #[.int .i64 xb, .int .i64 yb] 23)).alloc (.cells #[.int .i64 xc, .int .i64 yc] 23)).cell? ⟨w.heap.size + 2, 1, none⟩ = some (.int .i64 yc) := by go_simp
      have g0 : Own w (((w.alloc (.cells #[.int .i64 xa, .int .i64 ya] 23)).alloc (.cells #[.int .i64 xb, .int .i64 yb] 23)).alloc (.cells #[.int .i64 xc, .int .i64 yc] 23)) := ((((Own.refl w).alloc _).alloc _).alloc _)
      generalize hW : (((w.alloc (.cells #[.int .i64 xa, .int .i64 ya] 23)).alloc (.cells #[.int .i64 xb, .int .i64 yb] 23)).alloc (.cells #[.int .i64 xc, .int .i64 yc] 23)) = W0 at *
      clear hW
      go_wp2_with (first | (go_at_call 28; (first | (with_reducible refine (pvalid_at (xa, ya) _ _ HP0).mono ?_) | (with_reducible refine (pvalid_at (xb, yb) _ _ HP1).mono ?_) | (with_reducible refine (pvalid_at (xc, yc) _ _ HP2).mono ?_)); rintro e w1 ⟨rfl, hg⟩; replace k0 := hg.cell k0; replace k1 := hg.cell k1; replace k2 := hg.cell k2; replace k3 := hg.cell k3; replace k4 := hg.cell k4; replace k5 := hg.cell k5; replace g0 : Own w w1 := Own.trans (by first | exact g0 | exact Own.drewN g0 _) hg; clear hg) | (go_at_call 36; (with_reducible refine (pradius_at r _ _ HR).mono ?_); rintro e w1 ⟨rfl, rfl⟩))
      go_ret2
      exact ⟨rfl, g0⟩
    · skip
      cases t2
      · clear ht0 ht1 ht2 ht3
        obtain ⟨xa, ya⟩ := p
        obtain ⟨xb, yb⟩ := a
        obtain ⟨xc, yc⟩ := b
        go_enter Try.func16, Try.ntmps16
        go_upto_region 1 with (fail)
        have k0 : (((w.alloc (.cells #[.int .i64 xa, .int .i64 ya] 23)).alloc (.cells #[.int .i64 xb, .int .i64 yb] 23)).alloc (.cells #[.int .i64 xc, .int .i64 yc] 23)).cell? ⟨w.heap.size, 0, none⟩ = some (.int .i64 xa) := by go_simp
        have k1 : (((w.alloc (.cells #[.int .i64 xa, .int .i64 ya] 23)).alloc (.cells #[.int .i64 xb, .int .i64 yb] 23)).alloc (.cells #[.int .i64 xc, .int .i64 yc] 23)).cell? ⟨w.heap.size, 1, none⟩ = some (.int .i64 ya) := by go_simp
        have k2 : (((w.alloc (.cells #[.int .i64 xa, .int .i64 ya] 23)).alloc (.cells #[.int .i64 xb, .int .i64 yb] 23)).alloc (.cells #[.int .i64 xc, .int .i64 yc] 23)).cell? ⟨w.heap.size + 1, 0, none⟩ = some (.int .i64 xb) := by go_simp
        have k3 : (((w.alloc (.cells #[.int .i64 xa, .int .i64 ya] 23)).alloc (.cells #[.int .i64 xb, .int .i64 yb] 23)).alloc (.cells #[.int .i64 xc, .int .i64 yc] 23)).cell? ⟨w.heap.size + 1, 1, none⟩ = some (.int .i64 yb) := by go_simp
        have k4 : (((w.alloc (.cells #[.int .i64 xa, .int .i64 ya] 23)).alloc (.cells #[.int .i64 xb, .int .i64 yb] 23)).alloc (.cells #[.int .i64 xc, .int .i64 yc] 23)).cell? ⟨w.heap.size + 2, 0, none⟩ = some (.int .i64 xc) := by go_simp
        have k5 : (((w.alloc (.cells #[.int .i64 xa, .int .i64 ya] 23)).alloc (.cells #[.int .i64 xb, .int .i64 yb] 23)).alloc (.cells #[.int .i64 xc, .int .i64 yc] 23)).cell? ⟨w.heap.size + 2, 1, none⟩ = some (.int .i64 yc) := by go_simp
        have g0 : Own w (((w.alloc (.cells #[.int .i64 xa, .int .i64 ya] 23)).alloc (.cells #[.int .i64 xb, .int .i64 yb] 23)).alloc (.cells #[.int .i64 xc, .int .i64 yc] 23)) := ((((Own.refl w).alloc _).alloc _).alloc _)
        generalize hW : (((w.alloc (.cells #[.int .i64 xa, .int .i64 ya] 23)).alloc (.cells #[.int .i64 xb, .int .i64 yb] 23)).alloc (.cells #[.int .i64 xc, .int .i64 yc] 23)) = W0 at *
        clear hW
        go_wp2_with (first | (go_at_call 28; (first | (with_reducible refine (pvalid_at (xa, ya) _ _ HP0).mono ?_) | (with_reducible refine (pvalid_at (xb, yb) _ _ HP1).mono ?_) | (with_reducible refine (pvalid_at (xc, yc) _ _ HP2).mono ?_)); rintro e w1 ⟨rfl, hg⟩; replace k0 := hg.cell k0; replace k1 := hg.cell k1; replace k2 := hg.cell k2; replace k3 := hg.cell k3; replace k4 := hg.cell k4; replace k5 := hg.cell k5; replace g0 : Own w w1 := Own.trans (by first | exact g0 | exact Own.drewN g0 _) hg; clear hg) | (go_at_call 36; (with_reducible refine (pradius_at r _ _ HR).mono ?_); rintro e w1 ⟨rfl, rfl⟩))
        go_ret2
        exact ⟨rfl, g0⟩
      · skip
        cases t3
        · clear ht0 ht1 ht2 ht3
          obtain ⟨xa, ya⟩ := p
          obtain ⟨xb, yb⟩ := a
          obtain ⟨xc, yc⟩ := b
          go_enter Try.func16, Try.ntmps16
          go_upto_region 1 with (fail)
          have k0 : (((w.alloc (.cells #[.int .i64 xa, .int .i64 ya] 23)).alloc (.cells #[.int .i64 xb, .int .i64 yb] 23)).alloc (.cells #[.int .i64 xc, .int .i64 yc] 23)).cell? ⟨w.heap.size, 0, none⟩ = some (.int .i64 xa) := by go_simp
          have k1 : (((w.alloc (.cells #[.int .i64 xa, .int .i64 ya] 23)).alloc (.cells #[.int .i64 xb, .int .i64 yb] 23)).alloc (.cells #[.int .i64 xc, .int .i64 yc] 23)).cell? ⟨w.heap.size, 1, none⟩ = some (.int .i64 ya) := by go_simp
          have k2 : (((w.alloc (.cells #[.int .i64 xa, .int .i64 ya] 23)).alloc (.cells #[.int .i64 xb, .int .i64 yb] 23)).alloc (.cells #[.int .i64 xc, .int .i64 yc] 23)).cell? ⟨w.heap.size + 1, 0, none⟩ = some (.int .i64 xb) := by go_simp
          have k3 : (((w.alloc (.cells #[.int .i64 xa, .int .i64 ya] 23)).alloc (.cells #[.int .i64 xb, .int .i64 yb] 23)).alloc (.cells #[.int .i64 xc, .int .i64 yc] 23)).cell? ⟨w.heap.size + 1, 1, none⟩ = some (.int .i64 yb) := by go_simp
          have k4 : (((w.alloc (.cells #[.int .i64 xa, .int .i64 ya] 23)).alloc (.cells #[.int .i64 xb, .int .i64 yb] 23)).alloc (.cells #[.int .i64 xc, .int .i64 yc] 23)).cell? ⟨w.heap.size + 2, 0, none⟩ = some (.int .i64 xc) := by go_simp
          have k5 : (((w.alloc (.cells #[.int .i64 xa, .int .i64 ya] 23)).alloc (.cells #[.int .i64 xb, .int .i64 yb] 23)).alloc (.cells #[.int .i64 xc, .int .i64 yc] 23)).cell? ⟨w.heap.size + 2, 1, none⟩ = some (.int .i64 yc) := by go_simp
          have g0 : Own w (((w.alloc (.cells #[.int .i64 xa, .int .i64 ya] 23)).alloc (.cells #[.int .i64 xb, .int .i64 yb] 23)).alloc (.cells #[.int .i64 xc, .int .i64 yc] 23)) := ((((Own.refl w).alloc _).alloc _).alloc _)
          generalize hW : (((w.alloc (.cells #[.int .i64 xa, .int .i64 ya] 23)).alloc (.cells #[.int .i64 xb, .int .i64 yb] 23)).alloc (.cells #[.int .i64 xc, .int .i64 yc] 23)) = W0 at *
          clear hW
          go_wp2_with (first | (go_at_call 28; (first | (with_reducible refine (pvalid_at (xa, ya) _ _ HP0).mono ?_) | (with_reducible refine (pvalid_at (xb, yb) _ _ HP1).mono ?_) | (with_reducible refine (pvalid_at (xc, yc) _ _ HP2).mono ?_)); rintro e w1 ⟨rfl, hg⟩; replace k0 := hg.cell k0; replace k1 := hg.cell k1; replace k2 := hg.cell k2; replace k3 := hg.cell k3; replace k4 := hg.cell k4; replace k5 := hg.cell k5; replace g0 : Own w w1 := Own.trans (by first | exact g0 | exact Own.drewN g0 _) hg; clear hg) | (go_at_call 36; (with_reducible refine (pradius_at r _ _ HR).mono ?_); rintro e w1 ⟨rfl, rfl⟩))
          go_ret2
          exact ⟨rfl, g0⟩
        · skip
          have h0 := small_of ht0
          have h1 := small_of ht1
          have h2 := small_of ht2
          have hr := (okR_iff r).1 ht3
          clear ht0 ht1 ht2 ht3
          rw [show (true && true && (true && true) && nearB p a b r) = nearB p a b r from rfl, ← near_least]
          have w1h := wide_sub h1 h0
          have w2h := wide_sub h2 h0
          have w3h := wide_sub2 h2 h1 h0
          replace h0 := wide_small h0
          replace h1 := wide_small h1
          replace h2 := wide_small h2
          obtain ⟨⟨gx, gy⟩, hg⟩ : ∃ g, sub a p = g := ⟨_, rfl⟩
          obtain ⟨⟨ix, iy⟩, hi⟩ : ∃ g, sub b p = g := ⟨_, rfl⟩
          rw [hg] at w1h w3h ⊢
          rw [hi] at w2h w3h ⊢
          obtain ⟨s, hs⟩ : ∃ s, leastV (gx, gy) (ix, iy) r = s := ⟨_, rfl⟩
          rw [hs]
          obtain ⟨tz, htz⟩ : ∃ t, decide (s ≤ 0) = t := ⟨_, rfl⟩
          rw [htz]
          have HZ := Lib.hid htz
          clear htz
          have HG := Lib.hid hg
          have HI := Lib.hid hi
          have HS := Lib.hid hs
          clear hs hg hi
          have hr2 : 0 ≤ r ∧ r ≤ 65536 := by omega
          clear hr
          obtain ⟨xa, ya⟩ := p
          obtain ⟨xb, yb⟩ := a
          obtain ⟨xc, yc⟩ := b
          go_enter Try.func16, Try.ntmps16
          go_upto_region 1 with (fail)
          have k0 : (((w.alloc (.cells #[.int .i64 xa, .int .i64 ya] 23)).alloc (.cells #[.int .i64 xb, .int .i64 yb] 23)).alloc (.cells #[.int .i64 xc, .int .i64 yc] 23)).cell? ⟨w.heap.size, 0, none⟩ = some (.int .i64 xa) := by go_simp
          have k1 : (((w.alloc (.cells #[.int .i64 xa, .int .i64 ya] 23)).alloc (.cells #[.int .i64 xb, .int .i64 yb] 23)).alloc (.cells #[.int .i64 xc, .int .i64 yc] 23)).cell? ⟨w.heap.size, 1, none⟩ = some (.int .i64 ya) := by go_simp
          have k2 : (((w.alloc (.cells #[.int .i64 xa, .int .i64 ya] 23)).alloc (.cells #[.int .i64 xb, .int .i64 yb] 23)).alloc (.cells #[.int .i64 xc, .int .i64 yc] 23)).cell? ⟨w.heap.size + 1, 0, none⟩ = some (.int .i64 xb) := by go_simp
          have k3 : (((w.alloc (.cells #[.int .i64 xa, .int .i64 ya] 23)).alloc (.cells #[.int .i64 xb, .int .i64 yb] 23)).alloc (.cells #[.int .i64 xc, .int .i64 yc] 23)).cell? ⟨w.heap.size + 1, 1, none⟩ = some (.int .i64 yb) := by go_simp
          have k4 : (((w.alloc (.cells #[.int .i64 xa, .int .i64 ya] 23)).alloc (.cells #[.int .i64 xb, .int .i64 yb] 23)).alloc (.cells #[.int .i64 xc, .int .i64 yc] 23)).cell? ⟨w.heap.size + 2, 0, none⟩ = some (.int .i64 xc) := by go_simp
          have k5 : (((w.alloc (.cells #[.int .i64 xa, .int .i64 ya] 23)).alloc (.cells #[.int .i64 xb, .int .i64 yb] 23)).alloc (.cells #[.int .i64 xc, .int .i64 yc] 23)).cell? ⟨w.heap.size + 2, 1, none⟩ = some (.int .i64 yc) := by go_simp
          have g0 : Own w (((w.alloc (.cells #[.int .i64 xa, .int .i64 ya] 23)).alloc (.cells #[.int .i64 xb, .int .i64 yb] 23)).alloc (.cells #[.int .i64 xc, .int .i64 yc] 23)) := ((((Own.refl w).alloc _).alloc _).alloc _)
          generalize hW : (((w.alloc (.cells #[.int .i64 xa, .int .i64 ya] 23)).alloc (.cells #[.int .i64 xb, .int .i64 yb] 23)).alloc (.cells #[.int .i64 xc, .int .i64 yc] 23)) = W0 at *
          clear hW
          go_upto_region 3 with (first | (go_at_call 28; (first | (with_reducible refine (pvalid_at (xa, ya) _ _ HP0).mono ?_) | (with_reducible refine (pvalid_at (xb, yb) _ _ HP1).mono ?_) | (with_reducible refine (pvalid_at (xc, yc) _ _ HP2).mono ?_)); rintro e w1 ⟨rfl, hg⟩; replace k0 := hg.cell k0; replace k1 := hg.cell k1; replace k2 := hg.cell k2; replace k3 := hg.cell k3; replace k4 := hg.cell k4; replace k5 := hg.cell k5; replace g0 : Own w w1 := Own.trans (by first | exact g0 | exact Own.drewN g0 _) hg; clear hg) | (go_at_call 36; (with_reducible refine (pradius_at r _ _ HR).mono ?_); rintro e w1 ⟨rfl, rfl⟩))
          have c0 : ∀ x : After w1, x.w.cell? ⟨w.heap.size, 0, none⟩ = some (.int .i64 xa) := fun x => x.o.cell k0
          have c1 : ∀ x : After w1, x.w.cell? ⟨w.heap.size, 1, none⟩ = some (.int .i64 ya) := fun x => x.o.cell k1
          have c2 : ∀ x : After w1, x.w.cell? ⟨w.heap.size + 1, 0, none⟩ = some (.int .i64 xb) := fun x => x.o.cell k2
          have c3 : ∀ x : After w1, x.w.cell? ⟨w.heap.size + 1, 1, none⟩ = some (.int .i64 yb) := fun x => x.o.cell k3
          have c4 : ∀ x : After w1, x.w.cell? ⟨w.heap.size + 2, 0, none⟩ = some (.int .i64 xc) := fun x => x.o.cell k4
          have c5 : ∀ x : After w1, x.w.cell? ⟨w.heap.size + 2, 1, none⟩ = some (.int .i64 yc) := fun x => x.o.cell k5
          clear k0 k1 k2 k3 k4 k5
          refine region_after w1 (by kernel_rfl) (by kernel_rfl) ?_
          repeat (first | go_big_quiet_step ((first | (go_at_call 29; (first | (with_reducible refine (pminus_at (xb, yb) (xa, ya) (gx, gy) _ HG h1 h0).mono ?_) | (with_reducible refine (pminus_at (xc, yc) (xa, ya) (ix, iy) _ HI h2 h0).mono ?_)); rintro e w2 ⟨rfl, hg⟩; exact ⟨rfl, ⟨w2, (After.o _).trans hg⟩, rfl⟩) | (go_at_call 37; (first | (with_reducible refine (pleast_at (gx, gy) (ix, iy) r s _ HS w1h w2h w3h hr2).mono ?_)); rintro e w2 ⟨rfl, hg⟩; exact ⟨rfl, ⟨w2, (After.o _).trans hg⟩, rfl⟩))) | quiet_step ((first | (go_at_call 29; (first | (with_reducible refine (pminus_at (xb, yb) (xa, ya) (gx, gy) _ HG h1 h0).mono ?_) | (with_reducible refine (pminus_at (xc, yc) (xa, ya) (ix, iy) _ HI h2 h0).mono ?_)); rintro e w2 ⟨rfl, hg⟩; exact ⟨rfl, ⟨w2, (After.o _).trans hg⟩, rfl⟩) | (go_at_call 37; (first | (with_reducible refine (pleast_at (gx, gy) (ix, iy) r s _ HS w1h w2h w3h hr2).mono ?_)); rintro e w2 ⟨rfl, hg⟩; exact ⟨rfl, ⟨w2, (After.o _).trans hg⟩, rfl⟩))))
          refine wpQuiet_nil ?_
          rintro _ ⟨x, rfl⟩
          replace g0 := g0.trans x.o
          generalize x.w = w3 at *
          cases tz
          · have hz : ¬ s ≤ 0 := of_decide_eq_false HZ.out
            go_wp2
            go_ret2
            exact ⟨rfl, g0⟩
          · have hz : s ≤ 0 := of_decide_eq_true HZ.out
            go_wp2
            go_ret2
            exact ⟨rfl, g0⟩
theorem pnear_at (p a b : Pt) (r : Int) (t : Bool) (f : Int) (w : World) (H : Hid (nrV p a b r = t ∧ nrE p a b r = f)) :
    Calls Try.prog 16 #[.agg #[.int .i64 p.1, .int .i64 p.2], .agg #[.int .i64 a.1, .int .i64 a.2], .agg #[.int .i64 b.1, .int .i64 b.2], .int .i64 r] w fun e w' => e = .returned (.tuple #[.bool t, .int .i64 f]) ∧ Own w w' := by
  obtain ⟨rfl, rfl⟩ := H.out
  exact pnear_any p a b r w
set_option maxRecDepth 100000 in
set_option maxHeartbeats 4000000 in
theorem ptouch_bad (p q : Mo) (w : World) (h : (okM p && okM q) = false) :
    Calls Try.prog 18 #[.agg #[.int .i64 p.f.1, .int .i64 p.f.2, .int .i64 p.t.1, .int .i64 p.t.2, .int .i64 p.r], .agg #[.int .i64 q.f.1, .int .i64 q.f.2, .int .i64 q.t.1, .int .i64 q.t.2, .int .i64 q.r]] w fun e w' => e = .returned (.tuple #[.bool false, .int .i64 1]) ∧ Own w w' := by
  obtain ⟨t0, h0⟩ : ∃ t, okM p = t := ⟨_, rfl⟩
  obtain ⟨t1, h1⟩ : ∃ t, okM q = t := ⟨_, rfl⟩
  rw [h0, h1] at h
  have HP := Lib.hid h0
  have HQ := Lib.hid h1
  clear h0 h1
  obtain ⟨⟨xa, ya⟩, ⟨xb, yb⟩, ra⟩ := p
  obtain ⟨⟨xc, yc⟩, ⟨xd, yd⟩, rb⟩ := q
  cases t0
  · clear h
    go_enter Try.func18, Try.ntmps18
    go_upto_region 1 with (fail)
    have k0 : ((w.alloc (.cells #[.int .i64 xa, .int .i64 ya, .int .i64 xb, .int .i64 yb, .int .i64 ra] 36)).alloc (.cells #[.int .i64 xc, .int .i64 yc, .int .i64 xd, .int .i64 yd, .int .i64 rb] 36)).cell? ⟨w.heap.size, 0, none⟩ = some (.int .i64 xa) := by go_simp
    have k1 : ((w.alloc (.cells #[.int .i64 xa, .int .i64 ya, .int .i64 xb, .int .i64 yb, .int .i64 ra] 36)).alloc (.cells #[.int .i64 xc, .int .i64 yc, .int .i64 xd, .int .i64 yd, .int .i64 rb] 36)).cell? ⟨w.heap.size, 1, none⟩ = some (.int .i64 ya) := by go_simp
    have k2 : ((w.alloc (.cells #[.int .i64 xa, .int .i64 ya, .int .i64 xb, .int .i64 yb, .int .i64 ra] 36)).alloc (.cells #[.int .i64 xc, .int .i64 yc, .int .i64 xd, .int .i64 yd, .int .i64 rb] 36)).cell? ⟨w.heap.size, 2, none⟩ = some (.int .i64 xb) := by go_simp
    have k3 : ((w.alloc (.cells #[.int .i64 xa, .int .i64 ya, .int .i64 xb, .int .i64 yb, .int .i64 ra] 36)).alloc (.cells #[.int .i64 xc, .int .i64 yc, .int .i64 xd, .int .i64 yd, .int .i64 rb] 36)).cell? ⟨w.heap.size, 3, none⟩ = some (.int .i64 yb) := by go_simp
    have k4 : ((w.alloc (.cells #[.int .i64 xa, .int .i64 ya, .int .i64 xb, .int .i64 yb, .int .i64 ra] 36)).alloc (.cells #[.int .i64 xc, .int .i64 yc, .int .i64 xd, .int .i64 yd, .int .i64 rb] 36)).cell? ⟨w.heap.size, 4, none⟩ = some (.int .i64 ra) := by go_simp
    have k5 : ((w.alloc (.cells #[.int .i64 xa, .int .i64 ya, .int .i64 xb, .int .i64 yb, .int .i64 ra] 36)).alloc (.cells #[.int .i64 xc, .int .i64 yc, .int .i64 xd, .int .i64 yd, .int .i64 rb] 36)).cell? ⟨w.heap.size + 1, 0, none⟩ = some (.int .i64 xc) := by go_simp
    have k6 : ((w.alloc (.cells #[.int .i64 xa, .int .i64 ya, .int .i64 xb, .int .i64 yb, .int .i64 ra] 36)).alloc (.cells #[.int .i64 xc, .int .i64 yc, .int .i64 xd, .int .i64 yd, .int .i64 rb] 36)).cell? ⟨w.heap.size + 1, 1, none⟩ = some (.int .i64 yc) := by go_simp
    have k7 : ((w.alloc (.cells #[.int .i64 xa, .int .i64 ya, .int .i64 xb, .int .i64 yb, .int .i64 ra] 36)).alloc (.cells #[.int .i64 xc, .int .i64 yc, .int .i64 xd, .int .i64 yd, .int .i64 rb] 36)).cell? ⟨w.heap.size + 1, 2, none⟩ = some (.int .i64 xd) := by go_simp
    have k8 : ((w.alloc (.cells #[.int .i64 xa, .int .i64 ya, .int .i64 xb, .int .i64 yb, .int .i64 ra] 36)).alloc (.cells #[.int .i64 xc, .int .i64 yc, .int .i64 xd, .int .i64 yd, .int .i64 rb] 36)).cell? ⟨w.heap.size + 1, 3, none⟩ = some (.int .i64 yd) := by go_simp
    have k9 : ((w.alloc (.cells #[.int .i64 xa, .int .i64 ya, .int .i64 xb, .int .i64 yb, .int .i64 ra] 36)).alloc (.cells #[.int .i64 xc, .int .i64 yc, .int .i64 xd, .int .i64 yd, .int .i64 rb] 36)).cell? ⟨w.heap.size + 1, 4, none⟩ = some (.int .i64 rb) := by go_simp
    have g0 : Own w ((w.alloc (.cells #[.int .i64 xa, .int .i64 ya, .int .i64 xb, .int .i64 yb, .int .i64 ra] 36)).alloc (.cells #[.int .i64 xc, .int .i64 yc, .int .i64 xd, .int .i64 yd, .int .i64 rb] 36)) := (((Own.refl w).alloc _).alloc _)
    generalize hW : ((w.alloc (.cells #[.int .i64 xa, .int .i64 ya, .int .i64 xb, .int .i64 yb, .int .i64 ra] 36)).alloc (.cells #[.int .i64 xc, .int .i64 yc, .int .i64 xd, .int .i64 yd, .int .i64 rb] 36)) = W0 at *
    clear hW
    go_wp2_with (first | (go_at_call 40; (first | (with_reducible refine (pmotion_at ⟨(xa, ya), (xb, yb), ra⟩ _ _ HP).mono ?_) | (with_reducible refine (pmotion_at ⟨(xc, yc), (xd, yd), rb⟩ _ _ HQ).mono ?_)); rintro e w1 ⟨rfl, hg⟩; replace k0 := hg.cell k0; replace k1 := hg.cell k1; replace k2 := hg.cell k2; replace k3 := hg.cell k3; replace k4 := hg.cell k4; replace k5 := hg.cell k5; replace k6 := hg.cell k6; replace k7 := hg.cell k7; replace k8 := hg.cell k8; replace k9 := hg.cell k9; replace g0 : Own w w1 := Own.trans (by first | exact g0 | exact Own.drewN g0 _) hg; clear hg))
    go_ret2
    exact ⟨rfl, g0⟩
  · cases t1
    · clear h
      go_enter Try.func18, Try.ntmps18
      go_upto_region 1 with (fail)
      have k0 : ((w.alloc (.cells #[.int .i64 xa, .int .i64 ya, .int .i64 xb, .int .i64 yb, .int .i64 ra] 36)).alloc (.cells #[.int .i64 xc, .int .i64 yc, .int .i64 xd, .int .i64 yd, .int .i64 rb] 36)).cell? ⟨w.heap.size, 0, none⟩ = some (.int .i64 xa) := by go_simp
      have k1 : ((w.alloc (.cells #[.int .i64 xa, .int .i64 ya, .int .i64 xb, .int .i64 yb, .int .i64 ra] 36)).alloc (.cells #[.int .i64 xc, .int .i64 yc, .int .i64 xd, .int .i64 yd, .int .i64 rb] 36)).cell? ⟨w.heap.size, 1, none⟩ = some (.int .i64 ya) := by go_simp
      have k2 : ((w.alloc (.cells #[.int .i64 xa, .int .i64 ya, .int .i64 xb, .int .i64 yb, .int .i64 ra] 36)).alloc (.cells #[.int .i64 xc, .int .i64 yc, .int .i64 xd, .int .i64 yd, .int .i64 rb] 36)).cell? ⟨w.heap.size, 2, none⟩ = some (.int .i64 xb) := by go_simp
      have k3 : ((w.alloc (.cells #[.int .i64 xa, .int .i64 ya, .int .i64 xb, .int .i64 yb, .int .i64 ra] 36)).alloc (.cells #[.int .i64 xc, .int .i64 yc, .int .i64 xd, .int .i64 yd, .int .i64 rb] 36)).cell? ⟨w.heap.size, 3, none⟩ = some (.int .i64 yb) := by go_simp
      have k4 : ((w.alloc (.cells #[.int .i64 xa, .int .i64 ya, .int .i64 xb, .int .i64 yb, .int .i64 ra] 36)).alloc (.cells #[.int .i64 xc, .int .i64 yc, .int .i64 xd, .int .i64 yd, .int .i64 rb] 36)).cell? ⟨w.heap.size, 4, none⟩ = some (.int .i64 ra) := by go_simp
      have k5 : ((w.alloc (.cells #[.int .i64 xa, .int .i64 ya, .int .i64 xb, .int .i64 yb, .int .i64 ra] 36)).alloc (.cells #[.int .i64 xc, .int .i64 yc, .int .i64 xd, .int .i64 yd, .int .i64 rb] 36)).cell? ⟨w.heap.size + 1, 0, none⟩ = some (.int .i64 xc) := by go_simp
      have k6 : ((w.alloc (.cells #[.int .i64 xa, .int .i64 ya, .int .i64 xb, .int .i64 yb, .int .i64 ra] 36)).alloc (.cells #[.int .i64 xc, .int .i64 yc, .int .i64 xd, .int .i64 yd, .int .i64 rb] 36)).cell? ⟨w.heap.size + 1, 1, none⟩ = some (.int .i64 yc) := by go_simp
      have k7 : ((w.alloc (.cells #[.int .i64 xa, .int .i64 ya, .int .i64 xb, .int .i64 yb, .int .i64 ra] 36)).alloc (.cells #[.int .i64 xc, .int .i64 yc, .int .i64 xd, .int .i64 yd, .int .i64 rb] 36)).cell? ⟨w.heap.size + 1, 2, none⟩ = some (.int .i64 xd) := by go_simp
      have k8 : ((w.alloc (.cells #[.int .i64 xa, .int .i64 ya, .int .i64 xb, .int .i64 yb, .int .i64 ra] 36)).alloc (.cells #[.int .i64 xc, .int .i64 yc, .int .i64 xd, .int .i64 yd, .int .i64 rb] 36)).cell? ⟨w.heap.size + 1, 3, none⟩ = some (.int .i64 yd) := by go_simp
      have k9 : ((w.alloc (.cells #[.int .i64 xa, .int .i64 ya, .int .i64 xb, .int .i64 yb, .int .i64 ra] 36)).alloc (.cells #[.int .i64 xc, .int .i64 yc, .int .i64 xd, .int .i64 yd, .int .i64 rb] 36)).cell? ⟨w.heap.size + 1, 4, none⟩ = some (.int .i64 rb) := by go_simp
      have g0 : Own w ((w.alloc (.cells #[.int .i64 xa, .int .i64 ya, .int .i64 xb, .int .i64 yb, .int .i64 ra] 36)).alloc (.cells #[.int .i64 xc, .int .i64 yc, .int .i64 xd, .int .i64 yd, .int .i64 rb] 36)) := (((Own.refl w).alloc _).alloc _)
      generalize hW : ((w.alloc (.cells #[.int .i64 xa, .int .i64 ya, .int .i64 xb, .int .i64 yb, .int .i64 ra] 36)).alloc (.cells #[.int .i64 xc, .int .i64 yc, .int .i64 xd, .int .i64 yd, .int .i64 rb] 36)) = W0 at *
      clear hW
      go_wp2_with (first | (go_at_call 40; (first | (with_reducible refine (pmotion_at ⟨(xa, ya), (xb, yb), ra⟩ _ _ HP).mono ?_) | (with_reducible refine (pmotion_at ⟨(xc, yc), (xd, yd), rb⟩ _ _ HQ).mono ?_)); rintro e w1 ⟨rfl, hg⟩; replace k0 := hg.cell k0; replace k1 := hg.cell k1; replace k2 := hg.cell k2; replace k3 := hg.cell k3; replace k4 := hg.cell k4; replace k5 := hg.cell k5; replace k6 := hg.cell k6; replace k7 := hg.cell k7; replace k8 := hg.cell k8; replace k9 := hg.cell k9; replace g0 : Own w w1 := Own.trans (by first | exact g0 | exact Own.drewN g0 _) hg; clear hg))
      go_ret2
      exact ⟨rfl, g0⟩
    · cases h
set_option maxRecDepth 100000 in
set_option maxHeartbeats 8000000 in
theorem ptouch_good (p q : Mo) (w : World) (hp : okM p = true) (hq : okM q = true) :
    Calls Try.prog 18 #[.agg #[.int .i64 p.f.1, .int .i64 p.f.2, .int .i64 p.t.1, .int .i64 p.t.2, .int .i64 p.r], .agg #[.int .i64 q.f.1, .int .i64 q.f.2, .int .i64 q.t.1, .int .i64 q.t.2, .int .i64 q.r]] w fun e w' => e = .returned (.tuple #[.bool (touchB p q), .int .i64 0]) ∧ Own w w' := by
  have HP := Lib.hid hp
  have HQ := Lib.hid hq
  unfold okM at hp hq
  rw [Bool.and_eq_true, Bool.and_eq_true] at hp hq
  obtain ⟨h1, h2, hra⟩ := hp
  obtain ⟨h3, h4, hrb⟩ := hq
  replace h1 := small_of h1
  replace h2 := small_of h2
  replace h3 := small_of h3
  replace h4 := small_of h4
  rw [okR_iff] at hra hrb
  rw [← touch_least]
  have hv1 := wide_sub h3 h1
  have hv2 := wide_sub h4 h2
  have hrr : 0 ≤ p.r + q.r ∧ p.r + q.r ≤ 65536 := by omega
  have irr : IntKind.i64.wrap (p.r + q.r) = p.r + q.r := IntWalk.i64_in _ (by omega)
  obtain ⟨⟨gx, gy⟩, hg⟩ : ∃ g, sub q.f p.f = g := ⟨_, rfl⟩
  obtain ⟨⟨ix, iy⟩, hi⟩ : ∃ g, sub q.t p.t = g := ⟨_, rfl⟩
  have hv3 : (-65536 ≤ gx ∧ gx ≤ 65536) ∧ (-65536 ≤ gy ∧ gy ≤ 65536) ∧ (-65536 ≤ ix ∧ ix ≤ 65536) ∧ (-65536 ≤ iy ∧ iy ≤ 65536) := by
    have e1 := congrArg Prod.fst hg
    have e2 := congrArg Prod.snd hg
    have e3 := congrArg Prod.fst hi
    have e4 := congrArg Prod.snd hi
    unfold sub at e1 e2 e3 e4
    unfold Small at h1 h2 h3 h4
    simp only at e1 e2 e3 e4
    omega
  have hv4 : Wide (sub (ix, iy) (gx, gy)) := by unfold Wide sub; simp only; omega
  clear hv3
  rw [hg] at hv1 ⊢
  rw [hi] at hv2 ⊢
  replace h1 := wide_small h1
  replace h2 := wide_small h2
  replace h3 := wide_small h3
  replace h4 := wide_small h4
  obtain ⟨s, hs⟩ : ∃ s, leastV (gx, gy) (ix, iy) (p.r + q.r) = s := ⟨_, rfl⟩
  rw [hs]
  obtain ⟨tz, htz⟩ : ∃ t, decide (s < 0) = t := ⟨_, rfl⟩
  rw [htz]
  have HZ := Lib.hid htz
  clear htz
  have HG := Lib.hid hg
  have HI := Lib.hid hi
  have HS := Lib.hid hs
  clear hs hg hi
  obtain ⟨⟨xa, ya⟩, ⟨xb, yb⟩, ra⟩ := p
  obtain ⟨⟨xc, yc⟩, ⟨xd, yd⟩, rb⟩ := q
  simp only at h1 h2 h3 h4 hra hrb hrr irr HP HQ HG HI HS
  go_enter Try.func18, Try.ntmps18
  go_upto_region 1 with (fail)
  have k0 : ((w.alloc (.cells #[.int .i64 xa, .int .i64 ya, .int .i64 xb, .int .i64 yb, .int .i64 ra] 36)).alloc (.cells #[.int .i64 xc, .int .i64 yc, .int .i64 xd, .int .i64 yd, .int .i64 rb] 36)).cell? ⟨w.heap.size, 0, none⟩ = some (.int .i64 xa) := by go_simp
  have k1 : ((w.alloc (.cells #[.int .i64 xa, .int .i64 ya, .int .i64 xb, .int .i64 yb, .int .i64 ra] 36)).alloc (.cells #[.int .i64 xc, .int .i64 yc, .int .i64 xd, .int .i64 yd, .int .i64 rb] 36)).cell? ⟨w.heap.size, 1, none⟩ = some (.int .i64 ya) := by go_simp
  have k2 : ((w.alloc (.cells #[.int .i64 xa, .int .i64 ya, .int .i64 xb, .int .i64 yb, .int .i64 ra] 36)).alloc (.cells #[.int .i64 xc, .int .i64 yc, .int .i64 xd, .int .i64 yd, .int .i64 rb] 36)).cell? ⟨w.heap.size, 2, none⟩ = some (.int .i64 xb) := by go_simp
  have k3 : ((w.alloc (.cells #[.int .i64 xa, .int .i64 ya, .int .i64 xb, .int .i64 yb, .int .i64 ra] 36)).alloc (.cells #[.int .i64 xc, .int .i64 yc, .int .i64 xd, .int .i64 yd, .int .i64 rb] 36)).cell? ⟨w.heap.size, 3, none⟩ = some (.int .i64 yb) := by go_simp
  have k4 : ((w.alloc (.cells #[.int .i64 xa, .int .i64 ya, .int .i64 xb, .int .i64 yb, .int .i64 ra] 36)).alloc (.cells #[.int .i64 xc, .int .i64 yc, .int .i64 xd, .int .i64 yd, .int .i64 rb] 36)).cell? ⟨w.heap.size, 4, none⟩ = some (.int .i64 ra) := by go_simp
  have k5 : ((w.alloc (.cells #[.int .i64 xa, .int .i64 ya, .int .i64 xb, .int .i64 yb, .int .i64 ra] 36)).alloc (.cells #[.int .i64 xc, .int .i64 yc, .int .i64 xd, .int .i64 yd, .int .i64 rb] 36)).cell? ⟨w.heap.size + 1, 0, none⟩ = some (.int .i64 xc) := by go_simp
  have k6 : ((w.alloc (.cells #[.int .i64 xa, .int .i64 ya, .int .i64 xb, .int .i64 yb, .int .i64 ra] 36)).alloc (.cells #[.int .i64 xc, .int .i64 yc, .int .i64 xd, .int .i64 yd, .int .i64 rb] 36)).cell? ⟨w.heap.size + 1, 1, none⟩ = some (.int .i64 yc) := by go_simp
  have k7 : ((w.alloc (.cells #[.int .i64 xa, .int .i64 ya, .int .i64 xb, .int .i64 yb, .int .i64 ra] 36)).alloc (.cells #[.int .i64 xc, .int .i64 yc, .int .i64 xd, .int .i64 yd, .int .i64 rb] 36)).cell? ⟨w.heap.size + 1, 2, none⟩ = some (.int .i64 xd) := by go_simp
  have k8 : ((w.alloc (.cells #[.int .i64 xa, .int .i64 ya, .int .i64 xb, .int .i64 yb, .int .i64 ra] 36)).alloc (.cells #[.int .i64 xc, .int .i64 yc, .int .i64 xd, .int .i64 yd, .int .i64 rb] 36)).cell? ⟨w.heap.size + 1, 3, none⟩ = some (.int .i64 yd) := by go_simp
  have k9 : ((w.alloc (.cells #[.int .i64 xa, .int .i64 ya, .int .i64 xb, .int .i64 yb, .int .i64 ra] 36)).alloc (.cells #[.int .i64 xc, .int .i64 yc, .int .i64 xd, .int .i64 yd, .int .i64 rb] 36)).cell? ⟨w.heap.size + 1, 4, none⟩ = some (.int .i64 rb) := by go_simp
  have g0 : Own w ((w.alloc (.cells #[.int .i64 xa, .int .i64 ya, .int .i64 xb, .int .i64 yb, .int .i64 ra] 36)).alloc (.cells #[.int .i64 xc, .int .i64 yc, .int .i64 xd, .int .i64 yd, .int .i64 rb] 36)) := (((Own.refl w).alloc _).alloc _)
  generalize hW : ((w.alloc (.cells #[.int .i64 xa, .int .i64 ya, .int .i64 xb, .int .i64 yb, .int .i64 ra] 36)).alloc (.cells #[.int .i64 xc, .int .i64 yc, .int .i64 xd, .int .i64 yd, .int .i64 rb] 36)) = W0 at *
  clear hW
  go_upto_region 3 with (first | (go_at_call 40; (first | (with_reducible refine (pmotion_at ⟨(xa, ya), (xb, yb), ra⟩ _ _ HP).mono ?_) | (with_reducible refine (pmotion_at ⟨(xc, yc), (xd, yd), rb⟩ _ _ HQ).mono ?_)); rintro e w1 ⟨rfl, hg⟩; replace k0 := hg.cell k0; replace k1 := hg.cell k1; replace k2 := hg.cell k2; replace k3 := hg.cell k3; replace k4 := hg.cell k4; replace k5 := hg.cell k5; replace k6 := hg.cell k6; replace k7 := hg.cell k7; replace k8 := hg.cell k8; replace k9 := hg.cell k9; replace g0 : Own w w1 := Own.trans (by first | exact g0 | exact Own.drewN g0 _) hg; clear hg))
  have c0 : ∀ x : After w1, x.w.cell? ⟨w.heap.size, 0, none⟩ = some (.int .i64 xa) := fun x => x.o.cell k0
  have c1 : ∀ x : After w1, x.w.cell? ⟨w.heap.size, 1, none⟩ = some (.int .i64 ya) := fun x => x.o.cell k1
  have c2 : ∀ x : After w1, x.w.cell? ⟨w.heap.size, 2, none⟩ = some (.int .i64 xb) := fun x => x.o.cell k2
  have c3 : ∀ x : After w1, x.w.cell? ⟨w.heap.size, 3, none⟩ = some (.int .i64 yb) := fun x => x.o.cell k3
  have c4 : ∀ x : After w1, x.w.cell? ⟨w.heap.size, 4, none⟩ = some (.int .i64 ra) := fun x => x.o.cell k4
  have c5 : ∀ x : After w1, x.w.cell? ⟨w.heap.size + 1, 0, none⟩ = some (.int .i64 xc) := fun x => x.o.cell k5
  have c6 : ∀ x : After w1, x.w.cell? ⟨w.heap.size + 1, 1, none⟩ = some (.int .i64 yc) := fun x => x.o.cell k6
  have c7 : ∀ x : After w1, x.w.cell? ⟨w.heap.size + 1, 2, none⟩ = some (.int .i64 xd) := fun x => x.o.cell k7
  have c8 : ∀ x : After w1, x.w.cell? ⟨w.heap.size + 1, 3, none⟩ = some (.int .i64 yd) := fun x => x.o.cell k8
  have c9 : ∀ x : After w1, x.w.cell? ⟨w.heap.size + 1, 4, none⟩ = some (.int .i64 rb) := fun x => x.o.cell k9
  clear k0 k1 k2 k3 k4 k5 k6 k7 k8 k9
  refine region_after w1 (by kernel_rfl) (by kernel_rfl) ?_
  repeat (first | go_big_quiet_step ((first | (go_at_call 29; (first | (with_reducible refine (pminus_at (xc, yc) (xa, ya) (gx, gy) _ HG h3 h1).mono ?_) | (with_reducible refine (pminus_at (xd, yd) (xb, yb) (ix, iy) _ HI h4 h2).mono ?_)); rintro e w2 ⟨rfl, hg⟩; exact ⟨rfl, ⟨w2, (After.o _).trans hg⟩, rfl⟩) | (go_at_call 37; (first | (with_reducible refine (pleast_at (gx, gy) (ix, iy) (ra + rb) s _ HS hv1 hv2 hv4 hrr).mono ?_)); rintro e w2 ⟨rfl, hg⟩; exact ⟨rfl, ⟨w2, (After.o _).trans hg⟩, rfl⟩))) | quiet_step ((first | (go_at_call 29; (first | (with_reducible refine (pminus_at (xc, yc) (xa, ya) (gx, gy) _ HG h3 h1).mono ?_) | (with_reducible refine (pminus_at (xd, yd) (xb, yb) (ix, iy) _ HI h4 h2).mono ?_)); rintro e w2 ⟨rfl, hg⟩; exact ⟨rfl, ⟨w2, (After.o _).trans hg⟩, rfl⟩) | (go_at_call 37; (first | (with_reducible refine (pleast_at (gx, gy) (ix, iy) (ra + rb) s _ HS hv1 hv2 hv4 hrr).mono ?_)); rintro e w2 ⟨rfl, hg⟩; exact ⟨rfl, ⟨w2, (After.o _).trans hg⟩, rfl⟩))))
  refine wpQuiet_nil ?_
  rintro _ ⟨x, rfl⟩
  replace g0 := g0.trans x.o
  generalize x.w = w3 at *
  cases tz
  · have hz : ¬ s < 0 := of_decide_eq_false HZ.out
    go_wp2
    go_ret2
    exact ⟨rfl, g0⟩
  · have hz : s < 0 := of_decide_eq_true HZ.out
    go_wp2
    go_ret2
    exact ⟨rfl, g0⟩
theorem ptouch_any (p q : Mo) (w : World) :
    Calls Try.prog 18 #[.agg #[.int .i64 p.f.1, .int .i64 p.f.2, .int .i64 p.t.1, .int .i64 p.t.2, .int .i64 p.r], .agg #[.int .i64 q.f.1, .int .i64 q.f.2, .int .i64 q.t.1, .int .i64 q.t.2, .int .i64 q.r]] w fun e w' => e = .returned (.tuple #[.bool (touchV p q), .int .i64 (touchE p q)]) ∧ Own w w' := by
  unfold touchV touchE
  by_cases h : (okM p && okM q) = true
  · rw [if_pos h, h, Bool.true_and]
    rw [Bool.and_eq_true] at h
    exact ptouch_good p q w h.1 h.2
  · rw [if_neg h, Bool.of_not_eq_true h, Bool.false_and]
    exact ptouch_bad p q w (Bool.of_not_eq_true h)
theorem ptouch_at (p q : Mo) (t : Bool) (f : Int) (w : World) (H : Hid (touchV p q = t ∧ touchE p q = f)) :
    Calls Try.prog 18 #[.agg #[.int .i64 p.f.1, .int .i64 p.f.2, .int .i64 p.t.1, .int .i64 p.t.2, .int .i64 p.r], .agg #[.int .i64 q.f.1, .int .i64 q.f.2, .int .i64 q.t.1, .int .i64 q.t.2, .int .i64 q.r]] w fun e w' => e = .returned (.tuple #[.bool t, .int .i64 f]) ∧ Own w w' := by
  obtain ⟨rfl, rfl⟩ := H.out
  exact ptouch_any p q w
end Go.Proofs.Ytnakacflaaelnaa.GeoW
