/-
  Walks of Dist2, Cross and Near of the specification of package geom: what a call returns for every input. Condition: none.
-/
import Derived.Test.YtnakacflaaelnaaGeomA
namespace Go.Proofs.Ytnakacflaaelnaa.GeoW
open Go.ChangeShapes Go.WideShapes Go.ChangeAt Go.RowKit
open NumP NumW GeoP

theorem ret_bi {a b : Bool} {c d : Int} (h : a = b) (h2 : c = d) : Ending.returned (.tuple #[.bool a, .int .i64 c]) = .returned (.tuple #[.bool b, .int .i64 d]) := by rw [h, h2]
set_option maxRecDepth 100000 in
theorem rdist_any (p q : Pt) (w : World) :
    Calls Try.prog 12 #[.agg #[.int .i64 p.1, .int .i64 p.2], .agg #[.int .i64 q.1, .int .i64 q.2]] w fun e w' => e = .returned (.tuple #[.int .i64 (distV p q), .int .i64 (distE p q)]) ∧ Own w w' := by
  obtain ⟨t0, ht0⟩ : ∃ t, okP p = t := ⟨_, rfl⟩
  obtain ⟨t1, ht1⟩ : ∃ t, okP q = t := ⟨_, rfl⟩
  have hv : distV p q = if (t0 && t1) = true then sq p q else 0 := by unfold distV; rw [ht0, ht1]
  have he : distE p q = if (t0 && t1) = true then 0 else 1 := by unfold distE; rw [ht0, ht1]
  rw [hv, he]
  clear hv he
  have HP0 := Lib.hid ht0
  have HP1 := Lib.hid ht1
  cases t0
  · clear ht0 ht1
    obtain ⟨xa, ya⟩ := p
    obtain ⟨xb, yb⟩ := q
    go_enter Try.func12, Try.ntmps12
    go_upto_region 1 with (fail)
    have k0 : ((w.alloc (.cells #[.int .i64 xa, .int .i64 ya] 23)).alloc (.cells #[.int .i64 xb, .int .i64 yb] 23)).cell? ⟨w.heap.size, 0, none⟩ = some (.int .i64 xa) := by go_simp
    have k1 : ((w.alloc (.cells #[.int .i64 xa, .int .i64 ya] 23)).alloc (.cells #[.int .i64 xb, .int .i64 yb] 23)).cell? ⟨w.heap.size, 1, none⟩ = some (.int .i64 ya) := by go_simp
    have k2 : ((w.alloc (.cells #[.int .i64 xa, .int .i64 ya] 23)).alloc (.cells #[.int .i64 xb, .int .i64 yb] 23)).cell? ⟨w.heap.size + 1, 0, none⟩ = some (.int .i64 xb) := by go_simp
    have k3 : ((w.alloc (.cells #[.int .i64 xa, .int .i64 ya] 23)).alloc (.cells #[.int .i64 xb, .int .i64 yb] 23)).cell? ⟨w.heap.size + 1, 1, none⟩ = some (.int .i64 yb) := by go_simp
    have g0 : Own w ((w.alloc (.cells #[.int .i64 xa, .int .i64 ya] 23)).alloc (.cells #[.int .i64 xb, .int .i64 yb] 23)) := (((Own.refl w).alloc _).alloc _)
    generalize hW : ((w.alloc (.cells #[.int .i64 xa, .int .i64 ya] 23)).alloc (.cells #[.int .i64 xb, .int .i64 yb] 23)) = W0 at *
    clear hW
    go_wp2_with (first | (go_at_call 31; (first | (with_reducible refine (rvalid_at (xa, ya) _ _ HP0).mono ?_) | (with_reducible refine (rvalid_at (xb, yb) _ _ HP1).mono ?_)); rintro e w1 ⟨rfl, hg⟩; replace k0 := hg.cell k0; replace k1 := hg.cell k1; replace k2 := hg.cell k2; replace k3 := hg.cell k3; replace g0 : Own w w1 := Own.trans (by first | exact g0 | exact Own.drewN g0 _) hg; clear hg))
    go_ret2
    exact ⟨rfl, g0⟩
  · skip
    cases t1
    · clear ht0 ht1
      obtain ⟨xa, ya⟩ := p
      obtain ⟨xb, yb⟩ := q
      go_enter Try.func12, Try.ntmps12
      go_upto_region 1 with (fail)
      have k0 : ((w.alloc (.cells #[.int .i64 xa, .int .i64 ya] 23)).alloc (.cells #[.int .i64 xb, .int .i64 yb] 23)).cell? ⟨w.heap.size, 0, none⟩ = some (.int .i64 xa) := by go_simp
      have k1 : ((w.alloc (.cells #[.int .i64 xa, .int .i64 ya] 23)).alloc (.cells #[.int .i64 xb, .int .i64 yb] 23)).cell? ⟨w.heap.size, 1, none⟩ = some (.int .i64 ya) := by go_simp
      have k2 : ((w.alloc (.cells #[.int .i64 xa, .int .i64 ya] 23)).alloc (.cells #[.int .i64 xb, .int .i64 yb] 23)).cell? ⟨w.heap.size + 1, 0, none⟩ = some (.int .i64 xb) := by go_simp
      have k3 : ((w.alloc (.cells #[.int .i64 xa, .int .i64 ya] 23)).alloc (.cells #[.int .i64 xb, .int .i64 yb] 23)).cell? ⟨w.heap.size + 1, 1, none⟩ = some (.int .i64 yb) := by go_simp
      have g0 : Own w ((w.alloc (.cells #[.int .i64 xa, .int .i64 ya] 23)).alloc (.cells #[.int .i64 xb, .int .i64 yb] 23)) := (((Own.refl w).alloc _).alloc _)
      generalize hW : ((w.alloc (.cells #[.int .i64 xa, .int .i64 ya] 23)).alloc (.cells #[.int .i64 xb, .int .i64 yb] 23)) = W0 at *
      clear hW
      go_wp2_with (first | (go_at_call 31; (first | (with_reducible refine (rvalid_at (xa, ya) _ _ HP0).mono ?_) | (with_reducible refine (rvalid_at (xb, yb) _ _ HP1).mono ?_)); rintro e w1 ⟨rfl, hg⟩; replace k0 := hg.cell k0; replace k1 := hg.cell k1; replace k2 := hg.cell k2; replace k3 := hg.cell k3; replace g0 : Own w w1 := Own.trans (by first | exact g0 | exact Own.drewN g0 _) hg; clear hg))
      go_ret2
      exact ⟨rfl, g0⟩
    · skip
      have h1 := small_of ht0
      have h2 := small_of ht1
      clear ht0 ht1
      obtain ⟨s, hs⟩ : ∃ s, sq p q = s := ⟨_, rfl⟩
      rw [hs]
      have HS := Lib.hid hs
      clear hs
      obtain ⟨xa, ya⟩ := p
      obtain ⟨xb, yb⟩ := q
      go_enter Try.func12, Try.ntmps12
      go_upto_region 1 with (fail)
      have k0 : ((w.alloc (.cells #[.int .i64 xa, .int .i64 ya] 23)).alloc (.cells #[.int .i64 xb, .int .i64 yb] 23)).cell? ⟨w.heap.size, 0, none⟩ = some (.int .i64 xa) := by go_simp
      have k1 : ((w.alloc (.cells #[.int .i64 xa, .int .i64 ya] 23)).alloc (.cells #[.int .i64 xb, .int .i64 yb] 23)).cell? ⟨w.heap.size, 1, none⟩ = some (.int .i64 ya) := by go_simp
      have k2 : ((w.alloc (.cells #[.int .i64 xa, .int .i64 ya] 23)).alloc (.cells #[.int .i64 xb, .int .i64 yb] 23)).cell? ⟨w.heap.size + 1, 0, none⟩ = some (.int .i64 xb) := by go_simp
      have k3 : ((w.alloc (.cells #[.int .i64 xa, .int .i64 ya] 23)).alloc (.cells #[.int .i64 xb, .int .i64 yb] 23)).cell? ⟨w.heap.size + 1, 1, none⟩ = some (.int .i64 yb) := by go_simp
      have g0 : Own w ((w.alloc (.cells #[.int .i64 xa, .int .i64 ya] 23)).alloc (.cells #[.int .i64 xb, .int .i64 yb] 23)) := (((Own.refl w).alloc _).alloc _)
      generalize hW : ((w.alloc (.cells #[.int .i64 xa, .int .i64 ya] 23)).alloc (.cells #[.int .i64 xb, .int .i64 yb] 23)) = W0 at *
      clear hW
      go_wp2_with (first | (go_at_call 31; (first | (with_reducible refine (rvalid_at (xa, ya) _ _ HP0).mono ?_) | (with_reducible refine (rvalid_at (xb, yb) _ _ HP1).mono ?_)); rintro e w1 ⟨rfl, hg⟩; replace k0 := hg.cell k0; replace k1 := hg.cell k1; replace k2 := hg.cell k2; replace k3 := hg.cell k3; replace g0 : Own w w1 := Own.trans (by first | exact g0 | exact Own.drewN g0 _) hg; clear hg) | (go_at_call 32; (with_reducible refine (rsq_at (xa, ya) (xb, yb) s _ HS h1 h2).mono ?_); rintro e w1 ⟨rfl, hg⟩; replace k0 := hg.cell k0; replace k1 := hg.cell k1; replace k2 := hg.cell k2; replace k3 := hg.cell k3; replace g0 : Own w w1 := Own.trans (by first | exact g0 | exact Own.drewN g0 _) hg; clear hg))
      go_ret2
      exact ⟨rfl, g0⟩
theorem rdist_at (p q : Pt) (v f : Int) (w : World) (H : Hid (distV p q = v ∧ distE p q = f)) :
    Calls Try.prog 12 #[.agg #[.int .i64 p.1, .int .i64 p.2], .agg #[.int .i64 q.1, .int .i64 q.2]] w fun e w' => e = .returned (.tuple #[.int .i64 v, .int .i64 f]) ∧ Own w w' := by
  obtain ⟨rfl, rfl⟩ := H.out
  exact rdist_any p q w
set_option maxRecDepth 100000 in
theorem rcross_any (o p q : Pt) (w : World) :
    Calls Try.prog 14 #[.agg #[.int .i64 o.1, .int .i64 o.2], .agg #[.int .i64 p.1, .int .i64 p.2], .agg #[.int .i64 q.1, .int .i64 q.2]] w fun e w' => e = .returned (.tuple #[.int .i64 (crossV o p q), .int .i64 (crossE o p q)]) ∧ Own w w' := by
  obtain ⟨t0, ht0⟩ : ∃ t, okP o = t := ⟨_, rfl⟩
  obtain ⟨t1, ht1⟩ : ∃ t, okP p = t := ⟨_, rfl⟩
  obtain ⟨t2, ht2⟩ : ∃ t, okP q = t := ⟨_, rfl⟩
  have hv : crossV o p q = if (t0 && (t1 && t2)) = true then cr o p q else 0 := by unfold crossV; rw [ht0, ht1, ht2]
  have he : crossE o p q = if (t0 && (t1 && t2)) = true then 0 else 1 := by unfold crossE; rw [ht0, ht1, ht2]
  rw [hv, he]
  clear hv he
  have HP0 := Lib.hid ht0
  have HP1 := Lib.hid ht1
  have HP2 := Lib.hid ht2
  cases t0
  · clear ht0 ht1 ht2
    obtain ⟨xa, ya⟩ := o
    obtain ⟨xb, yb⟩ := p
    obtain ⟨xc, yc⟩ := q
    go_enter Try.func14, Try.ntmps14
    go_upto_region 1 with (fail)
    have k0 : (((w.alloc (.cells #[.int .i64 xa, .int .i64 ya] 23)).alloc (.cells #[.int .i64 xb, .int .i64 yb] 23)).alloc (.cells #[.int .i64 xc, .int .i64 yc] 23)).cell? ⟨w.heap.size, 0, none⟩ = some (.int .i64 xa) := by go_simp
    have k1 : (((w.alloc (.cells #[.int .i64 xa, .int .i64 ya] 23)).alloc (.cells #[.int .i64 xb, .int .i64 yb] 23)).alloc (.cells #[.int .i64 xc, .int .i64 yc] 23)).cell? ⟨w.heap.size, 1, none⟩ = some (.int .i64 ya) := by go_simp
    have k2 : (((w.alloc (.cells #[.int .i64 xa, .int .i64 ya] 23)).alloc (.cells #[.int .i64 xb, .int .i64 yb] 23)).alloc (.cells #[.int .i64 xc, .int .i64 yc] 23)).cell? ⟨w.heap.size + 1, 0, none⟩ = some (.int .i64 xb) := by go_simp
    have k3 : (((w.alloc (.cells #[.int .i64 xa, .int .i64 ya] 23)).alloc (.cells #[.int .i64 xb, .int .i64 yb] 23)).alloc (.cells #[.int .i64 xc, .int .i64 yc] 23)).cell? ⟨w.heap.size + 1, 1, none⟩ = some (.int .i64 yb) := by go_simp
    have k4 : (((w.alloc (.cells #[.int .i64 xa, .int .i64 ya] 23)).alloc (.cells #[.int .i64 xb, .int .i64 yb] 23)).alloc (.cells #[.int .i64 xc, .int .i64 yc] 23)).cell? ⟨w.heap.size + 2, 0, none⟩ = some (.int .i64 xc) := by go_simp
    have k5 : (((w.alloc (.cells #[.int .i64 xa, .int .i64 ya] 23)).alloc (.cells #[.int .i64 xb, .int .i64 yb] 23)).alloc (.cells #[.int .i64 xc, .int .i64 yc] 23)).cell? ⟨w.heap.size + 2, 1, none⟩ = some (.int .i64 yc) := by go_simp
    have g0 : Own w (((w.alloc (.cells #[.int .i64 xa, .int .i64 ya] 23)).alloc (.cells #[.int .i64 xb, .int .i64 yb] 23)).alloc (.cells #[.int .i64 xc, .int .i64 yc] 23)) := ((((Own.refl w).alloc _).alloc _).alloc _)
    generalize hW : (((w.alloc (.cells #[.int .i64 xa, .int .i64 ya] 23)).alloc (.cells #[.int .i64 xb, .int .i64 yb] 23)).alloc (.cells #[.int .i64 xc, .int .i64 yc] 23)) = W0 at *
    clear hW
    go_wp2_with (first | (go_at_call 31; (first | (with_reducible refine (rvalid_at (xa, ya) _ _ HP0).mono ?_) | (with_reducible refine (rvalid_at (xb, yb) _ _ HP1).mono ?_) | (with_reducible refine (rvalid_at (xc, yc) _ _ HP2).mono ?_)); rintro e w1 ⟨rfl, hg⟩; replace k0 := hg.cell k0; replace k1 := hg.cell k1; replace k2 := hg.cell k2; replace k3 := hg.cell k3; replace k4 := hg.cell k4; replace k5 := hg.cell k5; replace g0 : Own w w1 := Own.trans (by first | exact g0 | exact Own.drewN g0 _) hg; clear hg))
    go_ret2
    exact ⟨rfl, g0⟩
  · skip
    cases t1
    · clear ht0 ht1 ht2
      obtain ⟨xa, ya⟩ := o
      obtain ⟨xb, yb⟩ := p
      obtain ⟨xc, yc⟩ := q
      go_enter Try.func14, Try.ntmps14
      go_upto_region 1 with (fail)
      have k0 : (((w.alloc (.cells #[.int .i64 xa, .int .i64 ya] 23)).alloc (.cells #[.int .i64 xb, .int .i64 yb] 23)).alloc (.cells #[.int .i64 xc, .int .i64 yc] 23)).cell? ⟨w.heap.size, 0, none⟩ = some (.int .i64 xa) := by go_simp
      have k1 : (((w.alloc (.cells #[.int .i64 xa, .int .i64 ya] 23)).alloc (.cells #[.int .i64 xb, .int .i64 yb] 23)).alloc (.cells #[.int .i64 xc, .int .i64 yc] 23)).cell? ⟨w.heap.size, 1, none⟩ = some (.int .i64 ya) := by go_simp
      have k2 : (((w.alloc (.cells #[.int .i64 xa, .int .i64 ya] 23)).alloc (.cells #[.int .i64 xb, .int .i64 yb] 23)).alloc (.cells #[.int .i64 xc, .int .i64 yc] 23)).cell? ⟨w.heap.size + 1, 0, none⟩ = some (.int .i64 xb) := by go_simp
      have k3 : (((w.alloc (.cells #[.int .i64 xa, .int .i64 ya] 23)).alloc (.cells #[.int .i64 xb, .int .i64 yb] 23)).alloc (.cells #[.int .i64 xc, .int .i64 yc] 23)).cell? ⟨w.heap.size + 1, 1, none⟩ = some (.int .i64 yb) := by go_simp
      have k4 : (((w.alloc (.cells #[.int .i64 xa, .int .i64 ya] 23)).alloc (.cells #[.int .i64 xb, .int .i64 yb] 23)).alloc (.cells #[.int .i64 xc, .int .i64 yc] 23)).cell? ⟨w.heap.size + 2, 0, none⟩ = some (.int .i64 xc) := by go_simp
      have k5 : (((w.alloc (.cells #[.int .i64 xa, .int .i64 ya] 23)).alloc (.cells #[.int .i64 xb, .int .i64 yb] 23)).alloc (.cells #[.int .i64 xc, .int .i64 yc] 23)).cell? ⟨w.heap.size + 2, 1, none⟩ = some (.int .i64 yc) := by go_simp
      have g0 : Own w (((w.alloc (.cells #[.int .i64 xa, .int .i64 ya] 23)).alloc (.cells #[.int .i64 xb, .int .i64 yb] 23)).alloc (.cells #[.int .i64 xc, .int .i64 yc] 23)) := ((((Own.refl w).alloc _).alloc _).alloc _)
      generalize hW : (((w.alloc (.cells #[.int .i64 xa, .int .i64 ya] 23)).alloc (.cells #[.int .i64 xb, .int .i64 yb] 23)).alloc (.cells #[.int .i64 xc, .int .i64 yc] 23)) = W0 at *
      clear hW
      go_wp2_with (first | (go_at_call 31; (first | (with_reducible refine (rvalid_at (xa, ya) _ _ HP0).mono ?_) | (with_reducible refine (rvalid_at (xb, yb) _ _ HP1).mono ?_) | (with_reducible refine (rvalid_at (xc, yc) _ _ HP2).mono ?_)); rintro e w1 ⟨rfl, hg⟩; replace k0 := hg.cell k0; replace k1 := hg.cell k1; replace k2 := hg.cell k2; replace k3 := hg.cell k3; replace k4 := hg.cell k4; replace k5 := hg.cell k5; replace g0 : Own w w1 := Own.trans (by first | exact g0 | exact Own.drewN g0 _) hg; clear hg))
      go_ret2
      exact ⟨rfl, g0⟩
    · skip
      cases t2
      · clear ht0 ht1 ht2
        obtain ⟨xa, ya⟩ := o
        obtain ⟨xb, yb⟩ := p
        obtain ⟨xc, yc⟩ := q
        go_enter Try.func14, Try.ntmps14
        go_upto_region 1 with (fail)
        have k0 : (((w.alloc (.cells #[.int .i64 xa, .int .i64 ya] 23)).alloc (.cells #[.int .i64 xb, .int .i64 yb] 23)).alloc (.cells #[.int .i64 xc, .int .i64 yc] 23)).cell? ⟨w.heap.size, 0, none⟩ = some (.int .i64 xa) := by go_simp
        have k1 : (((w.alloc (.cells #[.int .i64 xa, .int .i64 ya] 23)).alloc (.cells #[.int .i64 xb, .int .i64 yb] 23)).alloc (.cells #[.int .i64 xc, .int .i64 yc] 23)).cell? ⟨w.heap.size, 1, none⟩ = some (.int .i64 ya) := by go_simp
        have k2 : (((w.alloc (.cells #[.int .i64 xa, .int .i64 ya] 23)).alloc (.cells #[.int .i64 xb, .int .i64 yb] 23)).alloc (.cells #[.int .i64 xc, .int .i64 yc] 23)).cell? ⟨w.heap.size + 1, 0, none⟩ = some (.int .i64 xb) := by go_simp
        have k3 : (((w.alloc (.cells #[.int .i64 xa, .int .i64 ya] 23)).alloc (.cells #[.int .i64 xb, .int .i64 yb] 23)).alloc (.cells #[.int .i64 xc, .int .i64 yc] 23)).cell? ⟨w.heap.size + 1, 1, none⟩ = some (.int .i64 yb) := by go_simp
        have k4 : (((w.alloc (.cells #[.int .i64 xa, .int .i64 ya] 23)).alloc (.cells #[.int .i64 xb, .int .i64 yb] 23)).alloc (.cells #[.int .i64 xc, .int .i64 yc] 23)).cell? ⟨w.heap.size + 2, 0, none⟩ = some (.int .i64 xc) := by go_simp
        have k5 : (((w.alloc (.cells #[.int .i64 xa, .int .i64 ya] 23)).alloc (.cells #[.int .i64 xb, .int .i64 yb] 23)).alloc (.cells #[.int .i64 xc, .int .i64 yc] 23)).cell? ⟨w.heap.size + 2, 1, none⟩ = some (.int .i64 yc) := by go_simp
        have g0 : Own w (((w.alloc (.cells #[.int .i64 xa, .int .i64 ya] 23)).alloc (.cells #[.int .i64 xb, .int .i64 yb] 23)).alloc (.cells #[.int .i64 xc, .int .i64 yc] 23)) := ((((Own.refl w).alloc _).alloc _).alloc _)
        generalize hW : (((w.alloc (.cells #[.int .i64 xa, .int .i64 ya] 23)).alloc (.cells #[.int .i64 xb, .int .i64 yb] 23)).alloc (.cells #[.int .i64 xc, .int .i64 yc] 23)) = W0 at *
        clear hW
        go_wp2_with (first | (go_at_call 31; (first | (with_reducible refine (rvalid_at (xa, ya) _ _ HP0).mono ?_) | (with_reducible refine (rvalid_at (xb, yb) _ _ HP1).mono ?_) | (with_reducible refine (rvalid_at (xc, yc) _ _ HP2).mono ?_)); rintro e w1 ⟨rfl, hg⟩; replace k0 := hg.cell k0; replace k1 := hg.cell k1; replace k2 := hg.cell k2; replace k3 := hg.cell k3; replace k4 := hg.cell k4; replace k5 := hg.cell k5; replace g0 : Own w w1 := Own.trans (by first | exact g0 | exact Own.drewN g0 _) hg; clear hg))
        go_ret2
        exact ⟨rfl, g0⟩
      · skip
        have h0 := small_of ht0
        have h1 := small_of ht1
        have h2 := small_of ht2
        clear ht0 ht1 ht2
        obtain ⟨s, hs⟩ : ∃ s, cr o p q = s := ⟨_, rfl⟩
        rw [hs]
        have HS := Lib.hid hs
        clear hs
        obtain ⟨xa, ya⟩ := o
        obtain ⟨xb, yb⟩ := p
        obtain ⟨xc, yc⟩ := q
        go_enter Try.func14, Try.ntmps14
        go_upto_region 1 with (fail)
        have k0 : (((w.alloc (.cells #[.int .i64 xa, .int .i64 ya] 23)).alloc (.cells #[.int .i64 xb, .int .i64 yb] 23)).alloc (.cells #[.int .i64 xc, .int .i64 yc] 23)).cell? ⟨w.heap.size, 0, none⟩ = some (.int .i64 xa) := by go_simp
        have k1 : (((w.alloc (.cells #[.int .i64 xa, .int .i64 ya] 23)).alloc (.cells #[.int .i64 xb, .int .i64 yb] 23)).alloc (.cells #[.int .i64 xc, .int .i64 yc] 23)).cell? ⟨w.heap.size, 1, none⟩ = some (.int .i64 ya) := by go_simp
        have k2 : (((w.alloc (.cells #[.int .i64 xa, .int .i64 ya] 23)).alloc (.cells #[.int .i64 xb, .int .i64 yb] 23)).alloc (.cells #[.int .i64 xc, .int .i64 yc] 23)).cell? ⟨w.heap.size + 1, 0, none⟩ = some (.int .i64 xb) := by go_simp
        have k3 : (((w.alloc (.cells #[.int .i64 xa, .int .i64 ya] 23)).alloc (.cells #[.int .i64 xb, .int .i64 yb] 23)).alloc (.cells #[.int .i64 xc, .int .i64 yc] 23)).cell? ⟨w.heap.size + 1, 1, none⟩ = some (.int .i64 yb) := by go_simp
        have k4 : (((w.alloc (.cells #[.int .i64 xa, .int .i64 ya] 23)).alloc (.cells #[.int .i64 xb, .int .i64 yb] 23)).alloc (.cells #[.int .i64 xc, .int .i64 yc] 23)).cell? ⟨w.heap.size + 2, 0, none⟩ = some (.int .i64 xc) := by go_simp
        have k5 : (((w.alloc (.cells #[.int .i64 xa, .int .i64 ya] 23)).alloc (.cells #[.int .i64 xb, .int .i64 yb] 23)).alloc (.cells #[.int .i64 xc, .int .i64 yc] 23)).cell? ⟨w.heap.size + 2, 1, none⟩ = some (.int .i64 yc) := by go_simp
        have g0 : Own w (((w.alloc (.cells #[.int .i64 xa, .int .i64 ya] 23)).alloc (.cells #[.int .i64 xb, .int .i64 yb] 23)).alloc (.cells #[.int .i64 xc, .int .i64 yc] 23)) := ((((Own.refl w).alloc _).alloc _).alloc _)
        generalize hW : (((w.alloc (.cells #[.int .i64 xa, .int .i64 ya] 23)).alloc (.cells #[.int .i64 xb, .int .i64 yb] 23)).alloc (.cells #[.int .i64 xc, .int .i64 yc] 23)) = W0 at *
        clear hW
        go_wp2_with (first | (go_at_call 31; (first | (with_reducible refine (rvalid_at (xa, ya) _ _ HP0).mono ?_) | (with_reducible refine (rvalid_at (xb, yb) _ _ HP1).mono ?_) | (with_reducible refine (rvalid_at (xc, yc) _ _ HP2).mono ?_)); rintro e w1 ⟨rfl, hg⟩; replace k0 := hg.cell k0; replace k1 := hg.cell k1; replace k2 := hg.cell k2; replace k3 := hg.cell k3; replace k4 := hg.cell k4; replace k5 := hg.cell k5; replace g0 : Own w w1 := Own.trans (by first | exact g0 | exact Own.drewN g0 _) hg; clear hg) | (go_at_call 34; (with_reducible refine (rcr_at (xa, ya) (xb, yb) (xc, yc) s _ HS h0 h1 h2).mono ?_); rintro e w1 ⟨rfl, hg⟩; replace k0 := hg.cell k0; replace k1 := hg.cell k1; replace k2 := hg.cell k2; replace k3 := hg.cell k3; replace k4 := hg.cell k4; replace k5 := hg.cell k5; replace g0 : Own w w1 := Own.trans (by first | exact g0 | exact Own.drewN g0 _) hg; clear hg))
        go_ret2
        exact ⟨rfl, g0⟩
theorem rcross_at (o p q : Pt) (v f : Int) (w : World) (H : Hid (crossV o p q = v ∧ crossE o p q = f)) :
    Calls Try.prog 14 #[.agg #[.int .i64 o.1, .int .i64 o.2], .agg #[.int .i64 p.1, .int .i64 p.2], .agg #[.int .i64 q.1, .int .i64 q.2]] w fun e w' => e = .returned (.tuple #[.int .i64 v, .int .i64 f]) ∧ Own w w' := by
  obtain ⟨rfl, rfl⟩ := H.out
  exact rcross_any o p q w
set_option maxRecDepth 100000 in
set_option maxHeartbeats 2000000 in
theorem rnear_good (p a b : Pt) (r : Int) (w : World) (h0 : Small p) (h1 : Small a) (h2 : Small b) (hr0 : 0 ≤ r) (hr1 : r ≤ 32768) (HP0 : Hid (okP p = true)) (HP1 : Hid (okP a = true)) (HP2 : Hid (okP b = true)) (HR : Hid (okR r = true)) :
    Calls Try.prog 17 #[.agg #[.int .i64 p.1, .int .i64 p.2], .agg #[.int .i64 a.1, .int .i64 a.2], .agg #[.int .i64 b.1, .int .i64 b.2], .int .i64 r] w fun e w' => e = .returned (.tuple #[.bool (nearB p a b r), .int .i64 0]) ∧ Own w w' := by
  have ia := sq_in h0 h1
  have ib := sq_in h0 h2
  have is := sq_in h1 h2
  have ic := cr_in h1 h2 h0
  have irr := mul_in (a := r) (b := r) (by omega) (by omega)
  obtain ⟨sa, hsa⟩ : ∃ s, sq p a = s := ⟨_, rfl⟩
  obtain ⟨sb, hsb⟩ : ∃ s, sq p b = s := ⟨_, rfl⟩
  obtain ⟨ss, hss⟩ : ∃ s, sq a b = s := ⟨_, rfl⟩
  obtain ⟨c, hc⟩ : ∃ s, cr a b p = s := ⟨_, rfl⟩
  obtain ⟨v, hv⟩ : ∃ v, cmp3 (c * c) (r * r * ss) = v := ⟨_, rfl⟩
  have hn : nearB p a b r = if along p a b ≤ 0 then decide (sa ≤ r * r) else if ss ≤ along p a b then decide (sb ≤ r * r) else decide (c * c ≤ r * r * ss) := by unfold nearB; rw [hsa, hsb, hss, hc]
  rw [hsa] at ia
  rw [hsb] at ib
  rw [hss] at is
  rw [hc] at ic
  have hok : cmpOk c c (r * r) ss = true := (cmpOk_iff _ _ _ _).2 ⟨(small_iff _).2 (by omega), (small_iff _).2 (by omega), (small_iff _).2 (by omega), (small_iff _).2 (by omega)⟩
  have hk := cmp_ok hok
  rw [hv] at hk
  have HK := Lib.hid hk
  have hvi : decide (v ≤ 0) = decide (c * c ≤ r * r * ss) := by
    have h3 := cmp3_iff (c * c) (r * r * ss)
    have h4 := cmp3_bd (c * c) (r * r * ss)
    rw [hv] at h3 h4
    exact decide_eq_decide.2 (by omega)
  have HV := Lib.hid hvi
  clear hok hk hvi hv
  have HA := Lib.hid hsa
  have HB := Lib.hid hsb
  have HS := Lib.hid hss
  have HC := Lib.hid hc
  clear hsa hsb hss hc
  have b0 := h0
  have b1 := h1
  have b2 := h2
  unfold Small at b0 b1 b2
  obtain ⟨⟨b01, b02⟩, b03, b04⟩ := b0
  obtain ⟨⟨b11, b12⟩, b13, b14⟩ := b1
  obtain ⟨⟨b21, b22⟩, b23, b24⟩ := b2
  rw [hn]
  clear hn
  unfold along
  obtain ⟨xa, ya⟩ := p
  obtain ⟨xb, yb⟩ := a
  obtain ⟨xc, yc⟩ := b
  simp only at b01 b02 b03 b04 b11 b12 b13 b14 b21 b22 b23 b24 ⊢
  have m1 := mul_in (a := xa - xb) (b := xc - xb) (by omega) (by omega)
  have m2 := mul_in (a := ya - yb) (b := yc - yb) (by omega) (by omega)
  by_cases c1 : (xa - xb) * (xc - xb) + (ya - yb) * (yc - yb) ≤ 0
  · rw [if_pos c1]
    go_enter Try.func17, Try.ntmps17
    go_upto_region 1 with (fail)
    have k0 : (((w.alloc (.cells #[.int .i64 xa, .int .i64 ya] 23)).alloc (.cells #[.int .i64 xb, .int .i64 yb] 23)).alloc (.cells #[.int .i64 xc, .int .i64 yc] 23)).cell? ⟨w.heap.size, 0, none⟩ = some (.int .i64 xa) := by go_simp
    have k1 : (((w.alloc (.cells #[.int .i64 xa, .int .i64 ya] 23)).alloc (.cells #[.int .i64 xb, .int .i64 yb] 23)).alloc (.cells #[.int .i64 xc, .int .i64 yc] 23)).cell? ⟨w.heap.size, 1, none⟩ = some (.int .i64 ya) := by go_simp
    have k2 : (((w.alloc (.cells #[.int .i64 xa, .int .i64 ya] 23)).alloc (.cells #[.int .i64 xb, .int .i64 yb] 23)).alloc (.cells #[.int .i64 xc, .int .i64 yc] 23)).cell? ⟨w.heap.size + 1, 0, none⟩ = some (.int .i64 xb) := by go_simp
    have k3 : (((w.alloc (.cells #[.int .i64 xa, .int .i64 ya] 23)).alloc (.cells #[.int .i64 xb, .int .i64 yb] 23)).alloc (.cells #[.int .i64 xc, .int .i64 yc] 23)).cell? ⟨w.heap.size + 1, 1, none⟩ = some (.int .i64 yb) := by go_simp
    have k4 : (((w.alloc (.cells #[.int .i64 xa, .int .i64 ya] 23)).alloc (.cells #[.int .i64 xb, .int .i64 yb] 23)).alloc (.cells #[.int .i64 xc, .int .i64 yc] 23)).cell? ⟨w.heap.size + 2, 0, none⟩ = some (.int .i64 xc) := by go_simp
    have k5 : (((w.alloc (.cells #[.int .i64 xa, .int .i64 ya] 23)).alloc (.cells #[.int .i64 xb, .int .i64 yb] 23)).alloc (.cells #[.int .i64 xc, .int .i64 yc] 23)).cell? ⟨w.heap.size + 2, 1, none⟩ = some (.int .i64 yc) := by go_simp
    have g0 : Own w (((w.alloc (.cells #[.int .i64 xa, .int .i64 ya] 23)).alloc (.cells #[.int .i64 xb, .int .i64 yb] 23)).alloc (.cells #[.int .i64 xc, .int .i64 yc] 23)) := ((((Own.refl w).alloc _).alloc _).alloc _)
    generalize hW : (((w.alloc (.cells #[.int .i64 xa, .int .i64 ya] 23)).alloc (.cells #[.int .i64 xb, .int .i64 yb] 23)).alloc (.cells #[.int .i64 xc, .int .i64 yc] 23)) = W0 at *
    clear hW
    go_wp2_with (first | (go_at_call 31; (first | (with_reducible refine (rvalid_at (xa, ya) _ _ HP0).mono ?_) | (with_reducible refine (rvalid_at (xb, yb) _ _ HP1).mono ?_) | (with_reducible refine (rvalid_at (xc, yc) _ _ HP2).mono ?_)); rintro e w1 ⟨rfl, hg⟩; replace k0 := hg.cell k0; replace k1 := hg.cell k1; replace k2 := hg.cell k2; replace k3 := hg.cell k3; replace k4 := hg.cell k4; replace k5 := hg.cell k5; replace g0 : Own w w1 := Own.trans (by first | exact g0 | exact Own.drewN g0 _) hg; clear hg) | (go_at_call 38; (with_reducible refine (rradius_at r _ _ HR).mono ?_); rintro e w1 ⟨rfl, rfl⟩) | (go_at_call 32; (first | (with_reducible refine (rsq_at (xa, ya) (xb, yb) _ _ HA h0 h1).mono ?_) | (with_reducible refine (rsq_at (xa, ya) (xc, yc) _ _ HB h0 h2).mono ?_) | (with_reducible refine (rsq_at (xb, yb) (xc, yc) _ _ HS h1 h2).mono ?_)); rintro e w1 ⟨rfl, hg⟩; replace k0 := hg.cell k0; replace k1 := hg.cell k1; replace k2 := hg.cell k2; replace k3 := hg.cell k3; replace k4 := hg.cell k4; replace k5 := hg.cell k5; replace g0 : Own w w1 := Own.trans (by first | exact g0 | exact Own.drewN g0 _) hg; clear hg) | (go_at_call 34; (with_reducible refine (rcr_at (xb, yb) (xc, yc) (xa, ya) _ _ HC h1 h2 h0).mono ?_); rintro e w1 ⟨rfl, hg⟩; replace k0 := hg.cell k0; replace k1 := hg.cell k1; replace k2 := hg.cell k2; replace k3 := hg.cell k3; replace k4 := hg.cell k4; replace k5 := hg.cell k5; replace g0 : Own w w1 := Own.trans (by first | exact g0 | exact Own.drewN g0 _) hg; clear hg) | (go_at_call 39; (with_reducible refine (rcmp_at _ _ _ _ _ _ _ HK).mono ?_); rintro e w1 ⟨rfl, hg0⟩; have hg := Own.of_grown hg0; clear hg0; replace k0 := hg.cell k0; replace k1 := hg.cell k1; replace k2 := hg.cell k2; replace k3 := hg.cell k3; replace k4 := hg.cell k4; replace k5 := hg.cell k5; replace g0 : Own w w1 := Own.trans (by first | exact g0 | exact Own.drewN g0 _) hg; clear hg))
    go_ret2
    exact ⟨rfl, g0⟩
  · rw [if_neg c1]
    by_cases c2 : ss ≤ (xa - xb) * (xc - xb) + (ya - yb) * (yc - yb)
    · rw [if_pos c2]
      go_enter Try.func17, Try.ntmps17
      go_upto_region 1 with (fail)
      have k0 : (((w.alloc (.cells #[.int .i64 xa, .int .i64 ya] 23)).alloc (.cells #[.int .i64 xb, .int .i64 yb] 23)).alloc (.cells #[.int .i64 xc, .int .i64 yc] 23)).cell? ⟨w.heap.size, 0, none⟩ = some (.int .i64 xa) := by go_simp
      have k1 : (((w.alloc (.cells #[.int .i64 xa, .int .i64 ya] 23)).alloc (.cells #[.int .i64 xb, .int .i64 yb] 23)).alloc (.cells #[.int .i64 xc, .int .i64 yc] 23)).cell? ⟨w.heap.size, 1, none⟩ = some (.int .i64 ya) := by go_simp
      have k2 : (((w.alloc (.cells #[.int .i64 xa, .int .i64 ya] 23)).alloc (.cells #[.int .i64 xb, .int .i64 yb] 23)).alloc (.cells #[.int .i64 xc, .int .i64 yc] 23)).cell? ⟨w.heap.size + 1, 0, none⟩ = some (.int .i64 xb) := by go_simp
      have k3 : (((w.alloc (.cells #[.int .i64 xa, .int .i64 ya] 23)).alloc (.cells #[.int .i64 xb, .int .i64 yb] 23)).alloc (.cells #[.int .i64 xc, .int .i64 yc] 23)).cell? ⟨w.heap.size + 1, 1, none⟩ = some (.int .i64 yb) := by go_simp
      have k4 : (((w.alloc (.cells #[.int .i64 xa, .int .i64 ya] 23)).alloc (.cells #[.int .i64 xb, .int .i64 yb] 23)).alloc (.cells #[.int .i64 xc, .int .i64 yc] 23)).cell? ⟨w.heap.size + 2, 0, none⟩ = some (.int .i64 xc) := by go_simp
      have k5 : (((w.alloc (.cells #[.int .i64 xa, .int .i64 ya] 23)).alloc (.cells #[.int .i64 xb, .int .i64 yb] 23)).alloc (.cells #[.int .i64 xc, .int .i64 yc] 23)).cell? ⟨w.heap.size + 2, 1, none⟩ = some (.int .i64 yc) := by go_simp
      have g0 : Own w (((w.alloc (.cells #[.int .i64 xa, .int .i64 ya] 23)).alloc (.cells #[.int .i64 xb, .int .i64 yb] 23)).alloc (.cells #[.int .i64 xc, .int .i64 yc] 23)) := ((((Own.refl w).alloc _).alloc _).alloc _)
      generalize hW : (((w.alloc (.cells #[.int .i64 xa, .int .i64 ya] 23)).alloc (.cells #[.int .i64 xb, .int .i64 yb] 23)).alloc (.cells #[.int .i64 xc, .int .i64 yc] 23)) = W0 at *
      clear hW
      go_wp2_with (first | (go_at_call 31; (first | (with_reducible refine (rvalid_at (xa, ya) _ _ HP0).mono ?_) | (with_reducible refine (rvalid_at (xb, yb) _ _ HP1).mono ?_) | (with_reducible refine (rvalid_at (xc, yc) _ _ HP2).mono ?_)); rintro e w1 ⟨rfl, hg⟩; replace k0 := hg.cell k0; replace k1 := hg.cell k1; replace k2 := hg.cell k2; replace k3 := hg.cell k3; replace k4 := hg.cell k4; replace k5 := hg.cell k5; replace g0 : Own w w1 := Own.trans (by first | exact g0 | exact Own.drewN g0 _) hg; clear hg) | (go_at_call 38; (with_reducible refine (rradius_at r _ _ HR).mono ?_); rintro e w1 ⟨rfl, rfl⟩) | (go_at_call 32; (first | (with_reducible refine (rsq_at (xa, ya) (xb, yb) _ _ HA h0 h1).mono ?_) | (with_reducible refine (rsq_at (xa, ya) (xc, yc) _ _ HB h0 h2).mono ?_) | (with_reducible refine (rsq_at (xb, yb) (xc, yc) _ _ HS h1 h2).mono ?_)); rintro e w1 ⟨rfl, hg⟩; replace k0 := hg.cell k0; replace k1 := hg.cell k1; replace k2 := hg.cell k2; replace k3 := hg.cell k3; replace k4 := hg.cell k4; replace k5 := hg.cell k5; replace g0 : Own w w1 := Own.trans (by first | exact g0 | exact Own.drewN g0 _) hg; clear hg) | (go_at_call 34; (with_reducible refine (rcr_at (xb, yb) (xc, yc) (xa, ya) _ _ HC h1 h2 h0).mono ?_); rintro e w1 ⟨rfl, hg⟩; replace k0 := hg.cell k0; replace k1 := hg.cell k1; replace k2 := hg.cell k2; replace k3 := hg.cell k3; replace k4 := hg.cell k4; replace k5 := hg.cell k5; replace g0 : Own w w1 := Own.trans (by first | exact g0 | exact Own.drewN g0 _) hg; clear hg) | (go_at_call 39; (with_reducible refine (rcmp_at _ _ _ _ _ _ _ HK).mono ?_); rintro e w1 ⟨rfl, hg0⟩; have hg := Own.of_grown hg0; clear hg0; replace k0 := hg.cell k0; replace k1 := hg.cell k1; replace k2 := hg.cell k2; replace k3 := hg.cell k3; replace k4 := hg.cell k4; replace k5 := hg.cell k5; replace g0 : Own w w1 := Own.trans (by first | exact g0 | exact Own.drewN g0 _) hg; clear hg))
      go_ret2
      exact ⟨rfl, g0⟩
    · rw [if_neg c2]
      go_enter Try.func17, Try.ntmps17
      go_upto_region 1 with (fail)
      have k0 : (((w.alloc (.cells #[.int .i64 xa, .int .i64 ya] 23)).alloc (.cells #[.int .i64 xb, .int .i64 yb] 23)).alloc (.cells #[.int .i64 xc, .int .i64 yc] 23)).cell? ⟨w.heap.size, 0, none⟩ = some (.int .i64 xa) := by go_simp
      have k1 : (((w.alloc (.cells #[.int .i64 xa, .int .i64 ya] 23)).alloc (.cells #[.int .i64 xb, .int .i64 yb] 23)).alloc (.cells #[.int .i64 xc, .int .i64 yc] 23)).cell? ⟨w.heap.size, 1, none⟩ = some (.int .i64 ya) := by go_simp
      have k2 : (((w.alloc (.cells #[.int .i64 xa, .int .i64 ya] 23)).alloc (.cells #[.int .i64 xb, .int .i64 yb] 23)).alloc (.cells #[.int .i64 xc, .int .i64 yc] 23)).cell? ⟨w.heap.size + 1, 0, none⟩ = some (.int .i64 xb) := by go_simp
      have k3 : (((w.alloc (.cells #[.int .i64 xa, .int .i64 ya] 23)).alloc (.cells #[.int .i64 xb, .int .i64 yb] 23)).alloc (.cells #[.int .i64 xc, .int .i64 yc] 23)).cell? ⟨w.heap.size + 1, 1, none⟩ = some (.int .i64 yb) := by go_simp
      have k4 : (((w.alloc (.cells #[.int .i64 xa, .int .i64 ya] 23)).alloc (.cells #[.int .i64 xb, .int .i64 yb] 23)).alloc (.cells #[.int .i64 xc, .int .i64 yc] 23)).cell? ⟨w.heap.size + 2, 0, none⟩ = some (.int .i64 xc) := by go_simp
      have k5 : (((w.alloc (.cells #[.int .i64 xa, .int .i64 ya] 23)).alloc (.cells #[.int .i64 xb, .int .i64 yb] 23)).alloc (.cells #[.int .i64 xc, .int .i64 yc] 23)).cell? ⟨w.heap.size + 2, 1, none⟩ = some (.int .i64 yc) := by go_simp
      have g0 : Own w (((w.alloc (.cells #[.int .i64 xa, .int .i64 ya] 23)).alloc (.cells #[.int .i64 xb, .int .i64 yb] 23)).alloc (.cells #[.int .i64 xc, .int .i64 yc] 23)) := ((((Own.refl w).alloc _).alloc _).alloc _)
      generalize hW : (((w.alloc (.cells #[.int .i64 xa, .int .i64 ya] 23)).alloc (.cells #[.int .i64 xb, .int .i64 yb] 23)).alloc (.cells #[.int .i64 xc, .int .i64 yc] 23)) = W0 at *
      clear hW
      go_wp2_with (first | (go_at_call 31; (first | (with_reducible refine (rvalid_at (xa, ya) _ _ HP0).mono ?_) | (with_reducible refine (rvalid_at (xb, yb) _ _ HP1).mono ?_) | (with_reducible refine (rvalid_at (xc, yc) _ _ HP2).mono ?_)); rintro e w1 ⟨rfl, hg⟩; replace k0 := hg.cell k0; replace k1 := hg.cell k1; replace k2 := hg.cell k2; replace k3 := hg.cell k3; replace k4 := hg.cell k4; replace k5 := hg.cell k5; replace g0 : Own w w1 := Own.trans (by first | exact g0 | exact Own.drewN g0 _) hg; clear hg) | (go_at_call 38; (with_reducible refine (rradius_at r _ _ HR).mono ?_); rintro e w1 ⟨rfl, rfl⟩) | (go_at_call 32; (first | (with_reducible refine (rsq_at (xa, ya) (xb, yb) _ _ HA h0 h1).mono ?_) | (with_reducible refine (rsq_at (xa, ya) (xc, yc) _ _ HB h0 h2).mono ?_) | (with_reducible refine (rsq_at (xb, yb) (xc, yc) _ _ HS h1 h2).mono ?_)); rintro e w1 ⟨rfl, hg⟩; replace k0 := hg.cell k0; replace k1 := hg.cell k1; replace k2 := hg.cell k2; replace k3 := hg.cell k3; replace k4 := hg.cell k4; replace k5 := hg.cell k5; replace g0 : Own w w1 := Own.trans (by first | exact g0 | exact Own.drewN g0 _) hg; clear hg) | (go_at_call 34; (with_reducible refine (rcr_at (xb, yb) (xc, yc) (xa, ya) _ _ HC h1 h2 h0).mono ?_); rintro e w1 ⟨rfl, hg⟩; replace k0 := hg.cell k0; replace k1 := hg.cell k1; replace k2 := hg.cell k2; replace k3 := hg.cell k3; replace k4 := hg.cell k4; replace k5 := hg.cell k5; replace g0 : Own w w1 := Own.trans (by first | exact g0 | exact Own.drewN g0 _) hg; clear hg) | (go_at_call 39; (with_reducible refine (rcmp_at _ _ _ _ _ _ _ HK).mono ?_); rintro e w1 ⟨rfl, hg0⟩; have hg := Own.of_grown hg0; clear hg0; replace k0 := hg.cell k0; replace k1 := hg.cell k1; replace k2 := hg.cell k2; replace k3 := hg.cell k3; replace k4 := hg.cell k4; replace k5 := hg.cell k5; replace g0 : Own w w1 := Own.trans (by first | exact g0 | exact Own.drewN g0 _) hg; clear hg))
      go_ret2
      exact ⟨ret_bi HV.out rfl, g0⟩
set_option maxRecDepth 100000 in
theorem rnear_any (p a b : Pt) (r : Int) (w : World) :
    Calls Try.prog 17 #[.agg #[.int .i64 p.1, .int .i64 p.2], .agg #[.int .i64 a.1, .int .i64 a.2], .agg #[.int .i64 b.1, .int .i64 b.2], .int .i64 r] w fun e w' => e = .returned (.tuple #[.bool (nrV p a b r), .int .i64 (nrE p a b r)]) ∧ Own w w' := by
  obtain ⟨t0, ht0⟩ : ∃ t, okP p = t := ⟨_, rfl⟩
  obtain ⟨t1, ht1⟩ : ∃ t, okP a = t := ⟨_, rfl⟩
  obtain ⟨t2, ht2⟩ : ∃ t, okP b = t := ⟨_, rfl⟩
  obtain ⟨t3, ht3⟩ : ∃ t, okR r = t := ⟨_, rfl⟩
  have hv : nrV p a b r = (t0 && t1 && (t2 && t3) && nearB p a b r) := by unfold nrV nearOk; rw [ht0, ht1, ht2, ht3]
  have he : nrE p a b r = if (t0 && t1 && (t2 && t3)) = true then 0 else 1 := by unfold nrE nearOk; rw [ht0, ht1, ht2, ht3]
  rw [hv, he]
  clear hv he
  have HP0 := Lib.hid ht0
  have HP1 := Lib.hid ht1
  have HP2 := Lib.hid ht2
  have HR := Lib.hid ht3
  cases t0
  · clear ht0 ht1 ht2 ht3
    obtain ⟨xa, ya⟩ := p
    obtain ⟨xb, yb⟩ := a
    obtain ⟨xc, yc⟩ := b
    go_enter Try.func17, Try.ntmps17
    go_upto_region 1 with (fail)
    have k0 : (((w.alloc (.cells #[.int .i64 xa, .int .i64 ya] 23)).alloc (.cells #[.int .i64 xb, .int .i64 yb] 23)).alloc (.cells #[.int .i64 xc, .int .i64 yc] 23)).cell? ⟨w.heap.size, 0, none⟩ = some (.int .i64 xa) := by go_simp
    have k1 : (((w.alloc (.cells #[.int .i64 xa, .int .i64 ya] 23)).alloc (.cells #[.int .i64 xb, .int .i64 yb] 23)).alloc (.cells #[.int .i64 xc, .int .i64 yc] 23)).cell? ⟨w.heap.size, 1, none⟩ = some (.int .i64 ya) := by go_simp
    have k2 : (((w.alloc (.cells #[.int .i64 xa, .int .i64 ya] 23)).alloc (.cells #[.int .i64 xb, .int .i64 yb] 23)).alloc (.cells #[.int .i64 xc, .int .i64 yc] 23)).cell? ⟨w.heap.size + 1, 0, none⟩ = some (.int .i64 xb) := by go_simp
    have k3 : (((w.alloc (.cells #[.int .i64 xa, .int .i64 ya] 23)).alloc (.cells #[.int .i64 xb, .int .i64 yb] 23)).alloc (.cells #[.int .i64 xc, .int .i64 yc] 23)).cell? ⟨w.heap.size + 1, 1, none⟩ = some (.int .i64 yb) := by go_simp
    have k4 : (((w.alloc (.cells #[.int .i64 xa, .int .i64 ya] 23)).alloc (.cells #[.int .i64 xb, .int .i64 yb] 23)).alloc (.cells #[.int .i64 xc, .int .i64 yc] 23)).cell? ⟨w.heap.size + 2, 0, none⟩ = some (.int .i64 xc) := by go_simp
    have k5 : (((w.alloc (.cells #[.int .i64 xa, .int .i64 ya] 23)).alloc (.cells #[.int .i64 xb, .int .i64 yb] 23)).alloc (.cells #[.int .i64 xc, .int .i64 yc] 23)).cell? ⟨w.heap.size + 2, 1, none⟩ = some (.int .i64 yc) := by go_simp
    have g0 : Own w (((w.alloc (.cells #[.int .i64 xa, .int .i64 ya] 23)).alloc (.cells #[.int .i64 xb, .int .i64 yb] 23)).alloc (.cells #[.int .i64 xc, .int .i64 yc] 23)) := ((((Own.refl w).alloc _).alloc _).alloc _)
    generalize hW : (((w.alloc (.cells #[.int .i64 xa, .int .i64 ya] 23)).alloc (.cells #[.int .i64 xb, .int .i64 yb] 23)).alloc (.cells #[.int .i64 xc, .int .i64 yc] 23)) = W0 at *
    clear hW
    go_wp2_with (first | (go_at_call 31; (first | (with_reducible refine (rvalid_at (xa, ya) _ _ HP0).mono ?_) | (with_reducible refine (rvalid_at (xb, yb) _ _ HP1).mono ?_) | (with_reducible refine (rvalid_at (xc, yc) _ _ HP2).mono ?_)); rintro e w1 ⟨rfl, hg⟩; replace k0 := hg.cell k0; replace k1 := hg.cell k1; replace k2 := hg.cell k2; replace k3 := hg.cell k3; replace k4 := hg.cell k4; replace k5 := hg.cell k5; replace g0 : Own w w1 := Own.trans (by first | exact g0 | exact Own.drewN g0 _) hg; clear hg) | (go_at_call 38; (with_reducible refine (rradius_at r _ _ HR).mono ?_); rintro e w1 ⟨rfl, rfl⟩))
    go_ret2
    exact ⟨rfl, g0⟩
  · skip
    cases t1
    · clear ht0 ht1 ht2 ht3
      obtain ⟨xa, ya⟩ := p
      obtain ⟨xb, yb⟩ := a
      obtain ⟨xc, yc⟩ := b
      go_enter Try.func17, Try.ntmps17
      go_upto_region 1 with (fail)
      have k0 : (((w.alloc (.cells #[.int .i64 xa, .int .i64 ya] 23)).alloc (.cells #[.int .i64 xb, .int .i64 yb] 23)).alloc (.cells #[.int .i64 xc, .int .i64 yc] 23)).cell? ⟨w.heap.size, 0, none⟩ = some (.int .i64 xa) := by go_simp
      have k1 : (((w.alloc (.cells #[.int .i64 xa, .int .i64 ya] 23)).alloc (.cells #[.int .i64 xb, .int .i64 yb] 23)).alloc (.cells #[.int .i64 xc, .int .i64 yc] 23)).cell? ⟨w.heap.size, 1, none⟩ = some (.int .i64 ya) := by go_simp
      have k2 : (((w.alloc (.cells #[.int .i64 xa, .int .i64 ya] 23)).alloc (.cells #[.int .i64 xb, .int .i64 yb] 23)).alloc (.cells #[.int .i64 xc, .int .i64 yc] 23)).cell? ⟨w.heap.size + 1, 0, none⟩ = some (.int .i64 xb) := by go_simp
      have k3 : (((w.alloc (.cells #[.int .i64 xa, .int .i64 ya] 23)).alloc (.cells #[.int .i64 xb, .int .i64 yb] 23)).alloc (.cells #[.int .i64 xc, .int .i64 yc] 23)).cell? ⟨w.heap.size + 1, 1, none⟩ = some (.int .i64 yb) := by go_simp
      have k4 : (((w.alloc (.cells #[.int .i64 xa, .int .i64 ya] 23)).alloc (.cells #[.int .i64 xb, .int .i64 yb] 23)).alloc (.cells #[.int .i64 xc, .int .i64 yc] 23)).cell? ⟨w.heap.size + 2, 0, none⟩ = some (.int .i64 xc) := by go_simp
      have k5 : (((w.alloc (.cells #[.int .i64 xa, .int .i64 ya] 23)).alloc (.cells #[.int .i64 xb, .int .i64 yb] 23)).alloc (.cells #[.int .i64 xc, .int .i64 yc] 23)).cell? ⟨w.heap.size + 2, 1, none⟩ = some (.int .i64 yc) := by go_simp
      have g0 : Own w (((w.alloc (.cells #[.int .i64 xa, .int .i64 ya] 23)).alloc (.cells #[.int .i64 xb, .int .i64 yb] 23)).alloc (.cells #[.int .i64 xc, .int .i64 yc] 23)) := ((((Own.refl w).alloc _).alloc _).alloc _)
      generalize hW : (((w.alloc (.cells #[.int .i64 xa, .int .i64 ya] 23)).alloc (.cells #[.int .i64 xb, .int .i64 yb] 23)).alloc (.cells #[.int .i64 xc, .int .i64 yc] 23)) = W0 at *
      clear hW
      go_wp2_with (first | (go_at_call 31; (first | (with_reducible refine (rvalid_at (xa, ya) _ _ HP0).mono ?_) | (with_reducible refine (rvalid_at (xb, yb) _ _ HP1).mono ?_) | (with_reducible refine (rvalid_at (xc, yc) _ _ HP2).mono ?_)); rintro e w1 ⟨rfl, hg⟩; replace k0 := hg.cell k0; replace k1 := hg.cell k1; replace k2 := hg.cell k2; replace k3 := hg.cell k3; replace k4 := hg.cell k4; replace k5 := hg.cell k5; replace g0 : Own w w1 := Own.trans (by first | exact g0 | exact Own.drewN g0 _) hg; clear hg) | (go_at_call 38; (with_reducible refine (rradius_at r _ _ HR).mono ?_); rintro e w1 ⟨rfl, rfl⟩))
      go_ret2
      exact ⟨rfl, g0⟩
    · skip
      cases t2
      · clear ht0 ht1 ht2 ht3
        obtain ⟨xa, ya⟩ := p
        obtain ⟨xb, yb⟩ := a
        obtain ⟨xc, yc⟩ := b
        go_enter Try.func17, Try.ntmps17
        go_upto_region 1 with (fail)
        have k0 : (((w.alloc (.cells #[.int .i64 xa, .int .i64 ya] 23)).alloc (.cells #[.int .i64 xb, .int .i64 yb] 23)).alloc (.cells #[.int .i64 xc, .int .i64 yc] 23)).cell? ⟨w.heap.size, 0, none⟩ = some (.int .i64 xa) := by go_simp
        have k1 : (((w.alloc (.cells #[.int .i64 xa, .int .i64 ya] 23)).alloc (.cells #[.int .i64 xb, .int .i64 yb] 23)).alloc (.cells #[.int .i64 xc, .int .i64 yc] 23)).cell? ⟨w.heap.size, 1, none⟩ = some (.int .i64 ya) := by go_simp
        have k2 : (((w.alloc (.cells #[.int .i64 xa, .int .i64 ya] 23)).alloc (.cells #[.int .i64 xb, .int .i64 yb] 23)).alloc (.cells #[.int .i64 xc, .int .i64 yc] 23)).cell? ⟨w.heap.size + 1, 0, none⟩ = some (.int .i64 xb) := by go_simp
        have k3 : (((w.alloc (.cells #[.int .i64 xa, .int .i64 ya] 23)).alloc (.cells #[.int .i64 xb, .int .i64 yb] 23)).alloc (.cells #[.int .i64 xc, .int .i64 yc] 23)).cell? ⟨w.heap.size + 1, 1, none⟩ = some (.int .i64 yb) := by go_simp
        have k4 : (((w.alloc (.cells #[.int .i64 xa, .int .i64 ya] 23)).alloc (.cells #[.int .i64 xb, .int .i64 yb] 23)).alloc (.cells #[.int .i64 xc, .int .i64 yc] 23)).cell? ⟨w.heap.size + 2, 0, none⟩ = some (.int .i64 xc) := by go_simp
        have k5 : (((w.alloc (.cells #[.int .i64 xa, .int .i64 ya] 23)).alloc (.cells #[.int .i64 xb, .int .i64 yb] 23)).alloc (.cells #[.int .i64 xc, .int .i64 yc] 23)).cell? ⟨w.heap.size + 2, 1, none⟩ = some (.int .i64 yc) := by go_simp
        have g0 : Own w (((w.alloc (.cells #[.int .i64 xa, .int .i64 ya] 23)).alloc (.cells #[.int .i64 xb, .int .i64 yb] 23)).alloc (.cells #[.int .i64 xc, .int .i64 yc] 23)) := ((((Own.refl w).alloc _).alloc _).alloc _)
        generalize hW : (((w.alloc (.cells #[.int .i64 xa, .int .i64 ya] 23)).alloc (.cells #[.int .i64 xb, .int .i64 yb] 23)).alloc (.cells #[.int .i64 xc, .int .i64 yc] 23)) = W0 at *
        clear hW
        go_wp2_with (first | (go_at_call 31; (first | (with_reducible refine (rvalid_at (xa, ya) _ _ HP0).mono ?_) | (with_reducible refine (rvalid_at (xb, yb) _ _ HP1).mono ?_) | (with_reducible refine (rvalid_at (xc, yc) _ _ HP2).mono ?_)); rintro e w1 ⟨rfl, hg⟩; replace k0 := hg.cell k0; replace k1 := hg.cell k1; replace k2 := hg.cell k2; replace k3 := hg.cell k3; replace k4 := hg.cell k4; replace k5 := hg.cell k5; replace g0 : Own w w1 := Own.trans (by first | exact g0 | exact Own.drewN g0 _) hg; clear hg) | (go_at_call 38; (with_reducible refine (rradius_at r _ _ HR).mono ?_); rintro e w1 ⟨rfl, rfl⟩))
        go_ret2
        exact ⟨rfl, g0⟩
      · skip
        cases t3
        · clear ht0 ht1 ht2 ht3
          obtain ⟨xa, ya⟩ := p
          obtain ⟨xb, yb⟩ := a
          obtain ⟨xc, yc⟩ := b
          go_enter Try.func17, Try.ntmps17
          go_upto_region 1 with (fail)
          have k0 : (((w.alloc (.cells #[.int .i64 xa, .int .i64 ya] 23)).alloc (.cells #[.int .i64 xb, .int .i64 yb] 23)).alloc (.cells #[.int .i64 xc, .int .i64 yc] 23)).cell? ⟨w.heap.size, 0, none⟩ = some (.int .i64 xa) := by go_simp
          have k1 : (((w.alloc (.cells #[.int .i64 xa, .int .i64 ya] 23)).alloc (.cells #[.int .i64 xb, .int .i64 yb] 23)).alloc (.cells #[.int .i64 xc, .int .i64 yc] 23)).cell? ⟨w.heap.size, 1, none⟩ = some (.int .i64 ya) := by go_simp
          have k2 : (((w.alloc (.cells #[.int .i64 xa, .int .i64 ya] 23)).alloc (.cells #[.int .i64 xb, .int .i64 yb] 23)).alloc (.cells #[.int .i64 xc, .int .i64 yc] 23)).cell? ⟨w.heap.size + 1, 0, none⟩ = some (.int .i64 xb) := by go_simp
          have k3 : (((w.alloc (.cells #[.int .i64 xa, .int .i64 ya] 23)).alloc (.cells #[.int .i64 xb, .int .i64 yb] 23)).alloc (.cells #[.int .i64 xc, .int .i64 yc] 23)).cell? ⟨w.heap.size + 1, 1, none⟩ = some (.int .i64 yb) := by go_simp
          have k4 : (((w.alloc (.cells #[.int .i64 xa, .int .i64 ya] 23)).alloc (.cells #[.int .i64 xb, .int .i64 yb] 23)).alloc (.cells #[.int .i64 xc, .int .i64 yc] 23)).cell? ⟨w.heap.size + 2, 0, none⟩ = some (.int .i64 xc) := by go_simp
          have k5 : (((w.alloc (.cells #[.int .i64 xa, .int .i64 ya] 23)).alloc (.cells #[.int .i64 xb, .int .i64 yb] 23)).alloc (.cells #[.int .i64 xc, .int .i64 yc] 23)).cell? ⟨w.heap.size + 2, 1, none⟩ = some (.int .i64 yc) := by go_simp
          have g0 : Own w (((w.alloc (.cells #[.int .i64 xa, .int .i64 ya] 23)).alloc (.cells #[.int .i64 xb, .int .i64 yb] 23)).alloc (.cells #[.int .i64 xc, .int .i64 yc] 23)) := ((((Own.refl w).alloc _).alloc _).alloc _)
          generalize hW : (((w.alloc (.cells #[.int .i64 xa, .int .i64 ya] 23)).alloc (.cells #[.int .i64 xb, .int .i64 yb] 23)).alloc (.cells #[.int .i64 xc, .int .i64 yc] 23)) = W0 at *
          clear hW
          go_wp2_with (first | (go_at_call 31; (first | (with_reducible refine (rvalid_at (xa, ya) _ _ HP0).mono ?_) | (with_reducible refine (rvalid_at (xb, yb) _ _ HP1).mono ?_) | (with_reducible refine (rvalid_at (xc, yc) _ _ HP2).mono ?_)); rintro e w1 ⟨rfl, hg⟩; replace k0 := hg.cell k0; replace k1 := hg.cell k1; replace k2 := hg.cell k2; replace k3 := hg.cell k3; replace k4 := hg.cell k4; replace k5 := hg.cell k5; replace g0 : Own w w1 := Own.trans (by first | exact g0 | exact Own.drewN g0 _) hg; clear hg) | (go_at_call 38; (with_reducible refine (rradius_at r _ _ HR).mono ?_); rintro e w1 ⟨rfl, rfl⟩))
          go_ret2
          exact ⟨rfl, g0⟩
        · skip
          have h0 := small_of ht0
          have h1 := small_of ht1
          have h2 := small_of ht2
          have hr := (okR_iff r).1 ht3
          clear ht0 ht1 ht2 ht3
          exact rnear_good p a b r w h0 h1 h2 hr.1 hr.2 HP0 HP1 HP2 HR
theorem rnear_at (p a b : Pt) (r : Int) (t : Bool) (f : Int) (w : World) (H : Hid (nrV p a b r = t ∧ nrE p a b r = f)) :
    Calls Try.prog 17 #[.agg #[.int .i64 p.1, .int .i64 p.2], .agg #[.int .i64 a.1, .int .i64 a.2], .agg #[.int .i64 b.1, .int .i64 b.2], .int .i64 r] w fun e w' => e = .returned (.tuple #[.bool t, .int .i64 f]) ∧ Own w w' := by
  obtain ⟨rfl, rfl⟩ := H.out
  exact rnear_any p a b r w
end Go.Proofs.Ytnakacflaaelnaa.GeoW
