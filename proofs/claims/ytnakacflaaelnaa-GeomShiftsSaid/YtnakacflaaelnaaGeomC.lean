/-
  Walks of Touch of the specification of package geom: what a call returns for every input. Condition: none.
-/
import Derived.Test.YtnakacflaaelnaaGeomB
namespace Go.Proofs.Ytnakacflaaelnaa.GeoW
open Go.ChangeShapes Go.WideShapes Go.ChangeAt Go.RowKit
open NumP NumW GeoP

theorem mul_in2 {a b : Int} (ha : -131072 ≤ a ∧ a ≤ 131072) (hb : -131072 ≤ b ∧ b ≤ 131072) : -17179869184 ≤ a * b ∧ a * b ≤ 17179869184 := by
  have := mul_bd ha hb
  omega
/-- What Touch says, by the tests in the order of the specification. -/
theorem touch_parts {xa ya xb yb ra xc yc xd yd rb s1 s2 v : Int} (h1 : sq (xa, ya) (xc, yc) = s1) (h2 : sq (xb, yb) (xd, yd) = s2)
    (hv : cmp3 (((xa - xc) * (yb - yd - (ya - yc)) - (ya - yc) * (xb - xd - (xa - xc))) * ((xa - xc) * (yb - yd - (ya - yc)) - (ya - yc) * (xb - xd - (xa - xc)))) ((ra + rb) * (ra + rb) * ((xb - xd - (xa - xc)) * (xb - xd - (xa - xc)) + (yb - yd - (ya - yc)) * (yb - yd - (ya - yc)))) = v) :
    touchB ⟨(xa, ya), (xb, yb), ra⟩ ⟨(xc, yc), (xd, yd), rb⟩ = if s1 < (ra + rb) * (ra + rb) then true else if s2 < (ra + rb) * (ra + rb) then true else if -((xa - xc) * (xb - xd - (xa - xc)) + (ya - yc) * (yb - yd - (ya - yc))) ≤ 0 then false
      else if (xb - xd - (xa - xc)) * (xb - xd - (xa - xc)) + (yb - yd - (ya - yc)) * (yb - yd - (ya - yc)) ≤ -((xa - xc) * (xb - xd - (xa - xc)) + (ya - yc) * (yb - yd - (ya - yc))) then false else decide (v < 0) := by
  have h3 := (cmp3_iff (((xa - xc) * (yb - yd - (ya - yc)) - (ya - yc) * (xb - xd - (xa - xc))) * ((xa - xc) * (yb - yd - (ya - yc)) - (ya - yc) * (xb - xd - (xa - xc)))) ((ra + rb) * (ra + rb) * ((xb - xd - (xa - xc)) * (xb - xd - (xa - xc)) + (yb - yd - (ya - yc)) * (yb - yd - (ya - yc))))).1
  have h4 := cmp3_bd (((xa - xc) * (yb - yd - (ya - yc)) - (ya - yc) * (xb - xd - (xa - xc))) * ((xa - xc) * (yb - yd - (ya - yc)) - (ya - yc) * (xb - xd - (xa - xc)))) ((ra + rb) * (ra + rb) * ((xb - xd - (xa - xc)) * (xb - xd - (xa - xc)) + (yb - yd - (ya - yc)) * (yb - yd - (ya - yc))))
  rw [hv] at h3 h4
  unfold touchB hitB
  simp only
  rw [← h1, ← h2]
  unfold sq
  simp only
  rw [show xa - xc + (xb - xd - (xa - xc)) = xb - xd by omega, show ya - yc + (yb - yd - (ya - yc)) = yb - yd by omega]
  generalize (xa - xc) * (xa - xc) + (ya - yc) * (ya - yc) = S1 at *
  generalize (xb - xd) * (xb - xd) + (yb - yd) * (yb - yd) = S2 at *
  generalize (ra + rb) * (ra + rb) = R at *
  generalize hL : -((xa - xc) * (xb - xd - (xa - xc)) + (ya - yc) * (yb - yd - (ya - yc))) = L at *
  generalize hA : (xb - xd - (xa - xc)) * (xb - xd - (xa - xc)) + (yb - yd - (ya - yc)) * (yb - yd - (ya - yc)) = A at *
  generalize ((xa - xc) * (yb - yd - (ya - yc)) - (ya - yc) * (xb - xd - (xa - xc))) * ((xa - xc) * (yb - yd - (ya - yc)) - (ya - yc) * (xb - xd - (xa - xc))) = C at *
  have e5 : decide (C < R * A) = decide (v < 0) := decide_eq_decide.2 (by rw [← h3]; omega)
  rw [e5]
  by_cases c1 : S1 < R
  · simp [c1]
  · by_cases c2 : S2 < R
    · simp [c1, c2]
    · by_cases c3 : L ≤ 0
      · simp [c1, c2, c3, show ¬ 0 < L by omega]
      · by_cases c4 : A ≤ L
        · simp [c1, c2, c3, c4, show ¬ L < A by omega]
        · simp [c1, c2, c3, c4, show 0 < L by omega, show L < A by omega]
set_option maxRecDepth 100000 in
theorem rmotion_at (m : Mo) (t : Bool) (w : World) (H : Hid (okM m = t)) :
    Calls Try.prog 41 #[.agg #[.int .i64 m.f.1, .int .i64 m.f.2, .int .i64 m.t.1, .int .i64 m.t.2, .int .i64 m.r]] w fun e w' => e = .returned (.bool t) ∧ Own w w' := by
  obtain ⟨⟨xa, ya⟩, ⟨xb, yb⟩, r⟩ := m
  have ht := H.out
  clear H
  unfold okM at ht
  simp only at ht
  obtain ⟨t0, h0⟩ : ∃ t, okP (xa, ya) = t := ⟨_, rfl⟩
  obtain ⟨t1, h1⟩ : ∃ t, okP (xb, yb) = t := ⟨_, rfl⟩
  obtain ⟨t2, h2⟩ : ∃ t, okR r = t := ⟨_, rfl⟩
  rw [h0, h1, h2] at ht
  subst ht
  have HP0 := Lib.hid h0
  have HP1 := Lib.hid h1
  have HR := Lib.hid h2
  clear h0 h1 h2
  cases t0
  · skip
    go_enter Try.func41, Try.ntmps41
    go_upto_region 1 with (fail)
    have k0 : (w.alloc (.cells #[.int .i64 xa, .int .i64 ya, .int .i64 xb, .int .i64 yb, .int .i64 r] 36)).cell? ⟨w.heap.size, 0, none⟩ = some (.int .i64 xa) := by go_simp
    have k1 : (w.alloc (.cells #[.int .i64 xa, .int .i64 ya, .int .i64 xb, .int .i64 yb, .int .i64 r] 36)).cell? ⟨w.heap.size, 1, none⟩ = some (.int .i64 ya) := by go_simp
    have k2 : (w.alloc (.cells #[.int .i64 xa, .int .i64 ya, .int .i64 xb, .int .i64 yb, .int .i64 r] 36)).cell? ⟨w.heap.size, 2, none⟩ = some (.int .i64 xb) := by go_simp
    have k3 : (w.alloc (.cells #[.int .i64 xa, .int .i64 ya, .int .i64 xb, .int .i64 yb, .int .i64 r] 36)).cell? ⟨w.heap.size, 3, none⟩ = some (.int .i64 yb) := by go_simp
    have k4 : (w.alloc (.cells #[.int .i64 xa, .int .i64 ya, .int .i64 xb, .int .i64 yb, .int .i64 r] 36)).cell? ⟨w.heap.size, 4, none⟩ = some (.int .i64 r) := by go_simp
    have g0 : Own w (w.alloc (.cells #[.int .i64 xa, .int .i64 ya, .int .i64 xb, .int .i64 yb, .int .i64 r] 36)) := ((Own.refl w).alloc _)
    generalize hW : (w.alloc (.cells #[.int .i64 xa, .int .i64 ya, .int .i64 xb, .int .i64 yb, .int .i64 r] 36)) = W0 at *
    clear hW
    go_wp2_with (first | (go_at_call 31; (first | (with_reducible refine (rvalid_at (xa, ya) _ _ HP0).mono ?_) | (with_reducible refine (rvalid_at (xb, yb) _ _ HP1).mono ?_)); rintro e w1 ⟨rfl, hg⟩; replace k0 := hg.cell k0; replace k1 := hg.cell k1; replace k2 := hg.cell k2; replace k3 := hg.cell k3; replace k4 := hg.cell k4; replace g0 : Own w w1 := Own.trans (by first | exact g0 | exact Own.drewN g0 _) hg; clear hg) | (go_at_call 38; (with_reducible refine (rradius_at r _ _ HR).mono ?_); rintro e w1 ⟨rfl, rfl⟩))
    go_ret
    exact ⟨rfl, g0⟩
  · cases t1
    · skip
      go_enter Try.func41, Try.ntmps41
      go_upto_region 1 with (fail)
      have k0 : (w.alloc (.cells #[.int .i64 xa, .int .i64 ya, .int .i64 xb, .int .i64 yb, .int .i64 r] 36)).cell? ⟨w.heap.size, 0, none⟩ = some (.int .i64 xa) := by go_simp
      have k1 : (w.alloc (.cells #[.int .i64 xa, .int .i64 ya, .int .i64 xb, .int .i64 yb, .int .i64 r] 36)).cell? ⟨w.heap.size, 1, none⟩ = some (.int .i64 ya) := by go_simp
      have k2 : (w.alloc (.cells #[.int .i64 xa, .int .i64 ya, .int .i64 xb, .int .i64 yb, .int .i64 r] 36)).cell? ⟨w.heap.size, 2, none⟩ = some (.int .i64 xb) := by go_simp
      have k3 : (w.alloc (.cells #[.int .i64 xa, .int .i64 ya, .int .i64 xb, .int .i64 yb, .int .i64 r] 36)).cell? ⟨w.heap.size, 3, none⟩ = some (.int .i64 yb) := by go_simp
      have k4 : (w.alloc (.cells #[.int .i64 xa, .int .i64 ya, .int .i64 xb, .int .i64 yb, .int .i64 r] 36)).cell? ⟨w.heap.size, 4, none⟩ = some (.int .i64 r) := by go_simp
      have g0 : Own w (w.alloc (.cells #[.int .i64 xa, .int .i64 ya, .int .i64 xb, .int .i64 yb, .int .i64 r] 36)) := ((Own.refl w).alloc _)
      generalize hW : (w.alloc (.cells #[.int .i64 xa, .int .i64 ya, .int .i64 xb, .int .i64 yb, .int .i64 r] 36)) = W0 at *
      clear hW
      go_wp2_with (first | (go_at_call 31; (first | (with_reducible refine (rvalid_at (xa, ya) _ _ HP0).mono ?_) | (with_reducible refine (rvalid_at (xb, yb) _ _ HP1).mono ?_)); rintro e w1 ⟨rfl, hg⟩; replace k0 := hg.cell k0; replace k1 := hg.cell k1; replace k2 := hg.cell k2; replace k3 := hg.cell k3; replace k4 := hg.cell k4; replace g0 : Own w w1 := Own.trans (by first | exact g0 | exact Own.drewN g0 _) hg; clear hg) | (go_at_call 38; (with_reducible refine (rradius_at r _ _ HR).mono ?_); rintro e w1 ⟨rfl, rfl⟩))
      go_ret
      exact ⟨rfl, g0⟩
    · cases t2
      all_goals
        go_enter Try.func41, Try.ntmps41
        go_upto_region 1 with (fail)
        have k0 : (w.alloc (.cells #[.int .i64 xa, .int .i64 ya, .int .i64 xb, .int .i64 yb, .int .i64 r] 36)).cell? ⟨w.heap.size, 0, none⟩ = some (.int .i64 xa) := by go_simp
        have k1 : (w.alloc (.cells #[.int .i64 xa, .int .i64 ya, .int .i64 xb, .int .i64 yb, .int .i64 r] 36)).cell? ⟨w.heap.size, 1, none⟩ = some (.int .i64 ya) := by go_simp
        have k2 : (w.alloc (.cells #[.int .i64 xa, .int .i64 ya, .int .i64 xb, .int .i64 yb, .int .i64 r] 36)).cell? ⟨w.heap.size, 2, none⟩ = some (.int .i64 xb) := by go_simp
        have k3 : (w.alloc (.cells #[.int .i64 xa, .int .i64 ya, .int .i64 xb, .int .i64 yb, .int .i64 r] 36)).cell? ⟨w.heap.size, 3, none⟩ = some (.int .i64 yb) := by go_simp
        have k4 : (w.alloc (.cells #[.int .i64 xa, .int .i64 ya, .int .i64 xb, .int .i64 yb, .int .i64 r] 36)).cell? ⟨w.heap.size, 4, none⟩ = some (.int .i64 r) := by go_simp
        have g0 : Own w (w.alloc (.cells #[.int .i64 xa, .int .i64 ya, .int .i64 xb, .int .i64 yb, .int .i64 r] 36)) := ((Own.refl w).alloc _)
        generalize hW : (w.alloc (.cells #[.int .i64 xa, .int .i64 ya, .int .i64 xb, .int .i64 yb, .int .i64 r] 36)) = W0 at *
        clear hW
        go_wp2_with (first | (go_at_call 31; (first | (with_reducible refine (rvalid_at (xa, ya) _ _ HP0).mono ?_) | (with_reducible refine (rvalid_at (xb, yb) _ _ HP1).mono ?_)); rintro e w1 ⟨rfl, hg⟩; replace k0 := hg.cell k0; replace k1 := hg.cell k1; replace k2 := hg.cell k2; replace k3 := hg.cell k3; replace k4 := hg.cell k4; replace g0 : Own w w1 := Own.trans (by first | exact g0 | exact Own.drewN g0 _) hg; clear hg) | (go_at_call 38; (with_reducible refine (rradius_at r _ _ HR).mono ?_); rintro e w1 ⟨rfl, rfl⟩))
        go_ret
        exact ⟨rfl, g0⟩
set_option maxRecDepth 100000 in
set_option maxHeartbeats 4000000 in
theorem rtouch_bad (p q : Mo) (w : World) (h : (okM p && okM q) = false) :
    Calls Try.prog 19 #[.agg #[.int .i64 p.f.1, .int .i64 p.f.2, .int .i64 p.t.1, .int .i64 p.t.2, .int .i64 p.r], .agg #[.int .i64 q.f.1, .int .i64 q.f.2, .int .i64 q.t.1, .int .i64 q.t.2, .int .i64 q.r]] w fun e w' => e = .returned (.tuple #[.bool false, .int .i64 1]) ∧ Own w w' := by
  obtain ⟨t0, h0⟩ : ∃ t, okM p = t := ⟨_, rfl⟩
  obtain ⟨t1, h1⟩ : ∃ t, okM q = t := ⟨_, rfl⟩
  rw [h0, h1] at h
  have HP := Lib.hid h0
  have HQ := Lib.hid h1
  clear h0 h1
  obtain ⟨⟨xa, ya⟩, ⟨xb, yb⟩, ra⟩ := p
  obtain ⟨⟨xc, yc⟩, ⟨xd, yd⟩, rb⟩ := q
  cases t0
  · clear h
    go_enter Try.func19, Try.ntmps19
    go_upto_region 1 with (fail)
    have k0 : ((w.alloc (.cells #[.int .i64 xa, .int .i64 ya, .int .i64 xb, .int .i64 yb, .int .i64 ra] 36)).alloc (.cells #[.int .i64 xc, .int .i64 yc, .int .i64 xd, .int .i64 yd, .int .i64 rb] 36)).cell? ⟨w.heap.size, 0, none⟩ = some (.int .i64 xa) := by go_simp
    have k1 : ((w.alloc (.cells #[.int .i64 xa, .int .i64 ya, .int .i64 xb, .int .i64 yb, .int .i64 ra] 36)).alloc (.cells #[.int .i64 xc, .int .i64 yc, .int .i64 xd, .int .i64 yd, .int .i64 rb] 36)).cell? ⟨w.heap.size, 1, none⟩ = some (.int .i64 ya) := by go_simp
    have k2 : ((w.alloc (.cells #[.int .i64 xa, .int .i64 ya, .int .i64 xb, .int .i64 yb, .int .i64 ra] 36)).alloc (.cells #[.int .i64 xc, .int .i64 yc, .int .i64 xd, .int .i64 yd, .int .i64 rb] 36)).cell? ⟨w.heap.size, 2, none⟩ = some (.int .i64 xb) := by go_simp
    have k3 : ((w.alloc (.cells #[.int .i64 xa, .int .i64 ya, .int .i64 xb, .int .i64 yb, .int .i64 ra] 36)).alloc (.cells #[.int .i64 xc, .int .i64 yc, .int .i64 xd, .int .i64 yd, .int .i64 rb] 36)).cell? ⟨w.heap.size, 3, none⟩ = some (.int .i64 yb) := by go_simp
    have k4 : ((w.alloc (.cells #[.int .i64 xa, .int .i64 ya, .int .i64 xb, .int .i64 yb, .int .i64 ra] 36)).alloc (.cells #[.int .i64 xc, .int .i64 yc, .int .i64 xd, .int .i64 yd, .int .i64 rb] 36)).cell? ⟨w.heap.size, 4, none⟩ = some (.int .i64 ra) := by go_simp
    have k5 : ((w.alloc (.cells #[.int .i64 xa, .int .i64 ya, .int .i64 xb, .int .i64 yb, .int .i64 ra] 36)).alloc (.cells #[.int .i64 xc, .int .i64 yc, .int .i64 xd, .int .i64 yd, .int .i64 rb] 36)).cell? ⟨w.heap.size + 1, 0, none⟩ = some (.int .i64 xc) := by go_simp
    have k6 : ((w.alloc (.cells #[.int .i64 xa, .int .i64 ya, .int .i64 xb, .int .i64 yb, .int .i64 ra] 36)).alloc (.cells #[.int .i64 xc, .int .i64 yc, .int .i64 xd, .int .i64 yd, .int .i64 rb] 36)).cell? ⟨w.heap.size + 1, 1, none⟩ = some (.int .i64 yc) := by go_simp
    have k7 : ((w.alloc (.cells #[.int .i64 xa, .int .i64 ya, .int .i64 xb, .int .i64 yb, .int .i64 ra] 36)).alloc (.cells #[.int .i64 xc, .int .i64 yc, .int .i64 xd, .int .i64 yd, .int .i64 rb] 36)).cell? ⟨w.heap.size + 1, 2, none⟩ = some (.int .i64 xd) := by go_simp
    have k8 : ((w.alloc (.cells #[.int .i64 xa, .int .i64 ya, .int .i64 xb, .int .i64 yb, .int .i64 ra] 36)).alloc (.cells #[.int .i64 xc, .int .i64 yc, .int .i64 xd, .int .i64 yd, .int .i64 rb] 36)).cell? ⟨w.heap.size + 1, 3, none⟩ = some (.int .i64 yd) := by go_simp
    have k9 : ((w.alloc (.cells #[.int .i64 xa, .int .i64 ya, .int .i64 xb, .int .i64 yb, .int .i64 ra] 36)).alloc (.cells #[.int .i64 xc, .int .i64 yc, .int .i64 xd, .int .i64 yd, .int .i64 rb] 36)).cell? ⟨w.heap.size + 1, 4, none⟩ = some (.int .i64 rb) := by go_simp
    have g0 : Own w ((w.alloc (.cells #[.int .i64 xa, .int .i64 ya, .int .i64 xb, .int .i64 yb, .int .i64 ra] 36)).alloc (.cells #[.int .i64 xc, .int .i64 yc, .int .i64 xd, .int .i64 yd, .int .i64 rb] 36)) := (((Own.refl w).alloc _).alloc _)
    generalize hW : ((w.alloc (.cells #[.int .i64 xa, .int .i64 ya, .int .i64 xb, .int .i64 yb, .int .i64 ra] 36)).alloc (.cells #[.int .i64 xc, .int .i64 yc, .int .i64 xd, .int .i64 yd, .int .i64 rb] 36)) = W0 at *
    clear hW
    go_wp2_with (first | (go_at_call 41; (first | (with_reducible refine (rmotion_at ⟨(xa, ya), (xb, yb), ra⟩ _ _ HP).mono ?_) | (with_reducible refine (rmotion_at ⟨(xc, yc), (xd, yd), rb⟩ _ _ HQ).mono ?_)); rintro e w1 ⟨rfl, hg⟩; replace k0 := hg.cell k0; replace k1 := hg.cell k1; replace k2 := hg.cell k2; replace k3 := hg.cell k3; replace k4 := hg.cell k4; replace k5 := hg.cell k5; replace k6 := hg.cell k6; replace k7 := hg.cell k7; replace k8 := hg.cell k8; replace k9 := hg.cell k9; replace g0 : Own w w1 := Own.trans (by first | exact g0 | exact Own.drewN g0 _) hg; clear hg) | (go_at_call 32; (first | (with_reducible refine (rsq_at (xa, ya) (xc, yc) _ _ HS1 h1 h3).mono ?_) | (with_reducible refine (rsq_at (xb, yb) (xd, yd) _ _ HS2 h2 h4).mono ?_)); rintro e w1 ⟨rfl, hg⟩; replace k0 := hg.cell k0; replace k1 := hg.cell k1; replace k2 := hg.cell k2; replace k3 := hg.cell k3; replace k4 := hg.cell k4; replace k5 := hg.cell k5; replace k6 := hg.cell k6; replace k7 := hg.cell k7; replace k8 := hg.cell k8; replace k9 := hg.cell k9; replace g0 : Own w w1 := Own.trans (by first | exact g0 | exact Own.drewN g0 _) hg; clear hg) | (go_at_call 39; (with_reducible refine (rcmp_at _ _ _ _ _ _ _ HK).mono ?_); rintro e w1 ⟨rfl, hg0⟩; have hg := Own.of_grown hg0; clear hg0; replace k0 := hg.cell k0; replace k1 := hg.cell k1; replace k2 := hg.cell k2; replace k3 := hg.cell k3; replace k4 := hg.cell k4; replace k5 := hg.cell k5; replace k6 := hg.cell k6; replace k7 := hg.cell k7; replace k8 := hg.cell k8; replace k9 := hg.cell k9; replace g0 : Own w w1 := Own.trans (by first | exact g0 | exact Own.drewN g0 _) hg; clear hg))
    go_ret2
    exact ⟨rfl, g0⟩
  · cases t1
    · clear h
      go_enter Try.func19, Try.ntmps19
      go_upto_region 1 with (fail)
      have k0 : ((w.alloc (.cells #[.int .i64 xa, .int .i64 ya, .int .i64 xb, .int .i64 yb, .int .i64 ra] 36)).alloc (.cells #[.int .i64 xc, .int .i64 yc, .int .i64 xd, .int .i64 yd, .int .i64 rb] 36)).cell? ⟨w.heap.size, 0, none⟩ = some (.int .i64 xa) := by go_simp
      have k1 : ((w.alloc (.cells #[.int .i64 xa, .int .i64 ya, .int .i64 xb, .int .i64 yb, .int .i64 ra] 36)).alloc (.cells #[.int .i64 xc, .int .i64 yc, .int .i64 xd, .int .i64 yd, .int .i64 rb] 36)).cell? ⟨w.heap.size, 1, none⟩ = some (.int .i64 ya) := by go_simp
      have k2 : ((w.alloc (.cells #[.int .i64 xa, .int .i64 ya, .int .i64 xb, .int .i64 yb, .int .i64 ra] 36)).alloc (.cells #[.int .i64 xc, .int .i64 yc, .int .i64 xd, .int .i64 yd, .int .i64 rb] 36)).cell? ⟨w.heap.size, 2, none⟩ = some (.int .i64 xb) := by go_simp
      have k3 : ((w.alloc (.cells #[.int .i64 xa, .int .i64 ya, .int .i64 xb, .int .i64 yb, .int .i64 ra] 36)).alloc (.cells #[.int .i64 xc, .int .i64 yc, .int .i64 xd, .int .i64 yd, .int .i64 rb] 36)).cell? ⟨w.heap.size, 3, none⟩ = some (.int .i64 yb) := by go_simp
      have k4 : ((w.alloc (.cells #[.int .i64 xa, .int .i64 ya, .int .i64 xb, .int .i64 yb, .int .i64 ra] 36)).alloc (.cells #[.int .i64 xc, .int .i64 yc, .int .i64 xd, .int .i64 yd, .int .i64 rb] 36)).cell? ⟨w.heap.size, 4, none⟩ = some (.int .i64 ra) := by go_simp
      have k5 : ((w.alloc (.cells #[.int .i64 xa, .int .i64 ya, .int .i64 xb, .int .i64 yb, .int .i64 ra] 36)).alloc (.cells #[.int .i64 xc, .int .i64 yc, .int .i64 xd, .int .i64 yd, .int .i64 rb] 36)).cell? ⟨w.heap.size + 1, 0, none⟩ = some (.int .i64 xc) := by go_simp
      have k6 : ((w.alloc (.cells #[.int .i64 xa, .int .i64 ya, .int .i64 xb, .int .i64 yb, .int .i64 ra] 36)).alloc (.cells #[.int .i64 xc, .int .i64 yc, .int .i64 xd, .int .i64 yd, .int .i64 rb] 36)).cell? ⟨w.heap.size + 1, 1, none⟩ = some (.int .i64 yc) := by go_simp
      have k7 : ((w.alloc (.cells #[.int .i64 xa, .int .i64 ya, .int .i64 xb, .int .i64 yb, .int .i64 ra] 36)).alloc (.cells #[.int .i64 xc, .int .i64 yc, .int .i64 xd, .int .i64 yd, .int .i64 rb] 36)).cell? ⟨w.heap.size + 1, 2, none⟩ = some (.int .i64 xd) := by go_simp
      have k8 : ((w.alloc (.cells #[.int .i64 xa, .int .i64 ya, .int .i64 xb, .int .i64 yb, .int .i64 ra] 36)).alloc (.cells #[.int .i64 xc, .int .i64 yc, .int .i64 xd, .int .i64 yd, .int .i64 rb] 36)).cell? ⟨w.heap.size + 1, 3, none⟩ = some (.int .i64 yd) := by go_simp
      have k9 : ((w.alloc (.cells #[.int .i64 xa, .int .i64 ya, .int .i64 xb, .int .i64 yb, .int .i64 ra] 36)).alloc (.cells #[.int .i64 xc, .int .i64 yc, .int .i64 xd, .int .i64 yd, .int .i64 rb] 36)).cell? ⟨w.heap.size + 1, 4, none⟩ = some (.int .i64 rb) := by go_simp
      have g0 : Own w ((w.alloc (.cells #[.int .i64 xa, .int .i64 ya, .int .i64 xb, .int .i64 yb, .int .i64 ra] 36)).alloc (.cells #[.int .i64 xc, .int .i64 yc, .int .i64 xd, .int .i64 yd, .int .i64 rb] 36)) := (((Own.refl w).alloc _).alloc _)
      generalize hW : ((w.alloc (.cells #[.int .i64 xa, .int .i64 ya, .int .i64 xb, .int .i64 yb, .int .i64 ra] 36)).alloc (.cells #[.int .i64 xc, .int .i64 yc, .int .i64 xd, .int .i64 yd, .int .i64 rb] 36)) = W0 at *
      clear hW
      go_wp2_with (first | (go_at_call 41; (first | (with_reducible refine (rmotion_at ⟨(xa, ya), (xb, yb), ra⟩ _ _ HP).mono ?_) | (with_reducible refine (rmotion_at ⟨(xc, yc), (xd, yd), rb⟩ _ _ HQ).mono ?_)); rintro e w1 ⟨rfl, hg⟩; replace k0 := hg.cell k0; replace k1 := hg.cell k1; replace k2 := hg.cell k2; replace k3 := hg.cell k3; replace k4 := hg.cell k4; replace k5 := hg.cell k5; replace k6 := hg.cell k6; replace k7 := hg.cell k7; replace k8 := hg.cell k8; replace k9 := hg.cell k9; replace g0 : Own w w1 := Own.trans (by first | exact g0 | exact Own.drewN g0 _) hg; clear hg) | (go_at_call 32; (first | (with_reducible refine (rsq_at (xa, ya) (xc, yc) _ _ HS1 h1 h3).mono ?_) | (with_reducible refine (rsq_at (xb, yb) (xd, yd) _ _ HS2 h2 h4).mono ?_)); rintro e w1 ⟨rfl, hg⟩; replace k0 := hg.cell k0; replace k1 := hg.cell k1; replace k2 := hg.cell k2; replace k3 := hg.cell k3; replace k4 := hg.cell k4; replace k5 := hg.cell k5; replace k6 := hg.cell k6; replace k7 := hg.cell k7; replace k8 := hg.cell k8; replace k9 := hg.cell k9; replace g0 : Own w w1 := Own.trans (by first | exact g0 | exact Own.drewN g0 _) hg; clear hg) | (go_at_call 39; (with_reducible refine (rcmp_at _ _ _ _ _ _ _ HK).mono ?_); rintro e w1 ⟨rfl, hg0⟩; have hg := Own.of_grown hg0; clear hg0; replace k0 := hg.cell k0; replace k1 := hg.cell k1; replace k2 := hg.cell k2; replace k3 := hg.cell k3; replace k4 := hg.cell k4; replace k5 := hg.cell k5; replace k6 := hg.cell k6; replace k7 := hg.cell k7; replace k8 := hg.cell k8; replace k9 := hg.cell k9; replace g0 : Own w w1 := Own.trans (by first | exact g0 | exact Own.drewN g0 _) hg; clear hg))
      go_ret2
      exact ⟨rfl, g0⟩
    · simp at h
set_option maxRecDepth 100000 in
set_option maxHeartbeats 8000000 in
theorem rtouch_good (p q : Mo) (w : World) (hp : okM p = true) (hq : okM q = true) :
    Calls Try.prog 19 #[.agg #[.int .i64 p.f.1, .int .i64 p.f.2, .int .i64 p.t.1, .int .i64 p.t.2, .int .i64 p.r], .agg #[.int .i64 q.f.1, .int .i64 q.f.2, .int .i64 q.t.1, .int .i64 q.t.2, .int .i64 q.r]] w fun e w' => e = .returned (.tuple #[.bool (touchB p q), .int .i64 0]) ∧ Own w w' := by
  have HP := Lib.hid hp
  have HQ := Lib.hid hq
  unfold okM at hp hq
  rw [Bool.and_eq_true, Bool.and_eq_true] at hp hq
  obtain ⟨h1, h2, hra⟩ := hp
  obtain ⟨h3, h4, hrb⟩ := hq
  replace h1 := small_of h1
  replace h2 := small_of h2
  replace h3 := small_of h3
  replace h4 := small_of h4
  rw [okR_iff] at hra hrb
  obtain ⟨ra0, ra1⟩ := hra
  obtain ⟨rb0, rb1⟩ := hrb
  have i1 := sq_in h1 h3
  have i2 := sq_in h2 h4
  obtain ⟨⟨xa, ya⟩, ⟨xb, yb⟩, ra⟩ := p
  obtain ⟨⟨xc, yc⟩, ⟨xd, yd⟩, rb⟩ := q
  simp only at h1 h2 h3 h4 ra0 ra1 rb0 rb1 i1 i2 HP HQ ⊢
  have b1 := h1
  have b2 := h2
  have b3 := h3
  have b4 := h4
  unfold Small at b1 b2 b3 b4
  simp only at b1 b2 b3 b4
  obtain ⟨⟨b11, b12⟩, b13, b14⟩ := b1
  obtain ⟨⟨b21, b22⟩, b23, b24⟩ := b2
  obtain ⟨⟨b31, b32⟩, b33, b34⟩ := b3
  obtain ⟨⟨b41, b42⟩, b43, b44⟩ := b4
  obtain ⟨s1, hs1⟩ : ∃ s, sq (xa, ya) (xc, yc) = s := ⟨_, rfl⟩
  obtain ⟨s2, hs2⟩ : ∃ s, sq (xb, yb) (xd, yd) = s := ⟨_, rfl⟩
  rw [hs1] at i1
  rw [hs2] at i2
  obtain ⟨v, hv⟩ : ∃ v, cmp3 (((xa - xc) * (yb - yd - (ya - yc)) - (ya - yc) * (xb - xd - (xa - xc))) * ((xa - xc) * (yb - yd - (ya - yc)) - (ya - yc) * (xb - xd - (xa - xc)))) ((ra + rb) * (ra + rb) * ((xb - xd - (xa - xc)) * (xb - xd - (xa - xc)) + (yb - yd - (ya - yc)) * (yb - yd - (ya - yc)))) = v := ⟨_, rfl⟩
  have HT := Lib.hid (touch_parts hs1 hs2 hv)
  have mr := mul_in (a := ra + rb) (b := ra + rb) (by omega) (by omega)
  have m1 := mul_in2 (a := xa - xc) (b := xb - xd - (xa - xc)) (by omega) (by omega)
  have m2 := mul_in2 (a := ya - yc) (b := yb - yd - (ya - yc)) (by omega) (by omega)
  have m3 := mul_in2 (a := xb - xd - (xa - xc)) (b := xb - xd - (xa - xc)) (by omega) (by omega)
  have m4 := mul_in2 (a := yb - yd - (ya - yc)) (b := yb - yd - (ya - yc)) (by omega) (by omega)
  have m5 := mul_in2 (a := xa - xc) (b := yb - yd - (ya - yc)) (by omega) (by omega)
  have m6 := mul_in2 (a := ya - yc) (b := xb - xd - (xa - xc)) (by omega) (by omega)
  have hok : cmpOk ((xa - xc) * (yb - yd - (ya - yc)) - (ya - yc) * (xb - xd - (xa - xc))) ((xa - xc) * (yb - yd - (ya - yc)) - (ya - yc) * (xb - xd - (xa - xc))) ((ra + rb) * (ra + rb)) ((xb - xd - (xa - xc)) * (xb - xd - (xa - xc)) + (yb - yd - (ya - yc)) * (yb - yd - (ya - yc))) = true := (cmpOk_iff _ _ _ _).2 ⟨(small_iff _).2 (by omega), (small_iff _).2 (by omega), (small_iff _).2 (by omega), (small_iff _).2 (by omega)⟩
  have hk := cmp_ok hok
  rw [hv] at hk
  have HK := Lib.hid hk
  have HS1 := Lib.hid hs1
  have HS2 := Lib.hid hs2
  clear hok hk hs1 hs2 hv
  rw [HT.out]
  clear HT
  by_cases c1 : s1 < (ra + rb) * (ra + rb)
  · rw [if_pos c1]
    go_enter Try.func19, Try.ntmps19
    go_upto_region 1 with (fail)
    have k0 : ((w.alloc (.cells #[.int .i64 xa, .int .i64 ya, .int .i64 xb, .int .i64 yb, .int .i64 ra] 36)).alloc (.cells #[.int .i64 xc, .int .i64 yc, .int .i64 xd, .int .i64 yd, .int .i64 rb] 36)).cell? ⟨w.heap.size, 0, none⟩ = some (.int .i64 xa) := by go_simp
    have k1 : ((w.alloc (.cells #[.int .i64 xa, .int .i64 ya, .int .i64 xb, .int .i64 yb, .int .i64 ra] 36)).alloc (.cells #[.int .i64 xc, .int .i64 yc, .int .i64 xd, .int .i64 yd, .int .i64 rb] 36)).cell? ⟨w.heap.size, 1, none⟩ = some (.int .i64 ya) := by go_simp
    have k2 : ((w.alloc (.cells #[.int .i64 xa, .int .i64 ya, .int .i64 xb, .int .i64 yb, .int .i64 ra] 36)).alloc (.cells #[.int .i64 xc, .int .i64 yc, .int .i64 xd, .int .i64 yd, .int .i64 rb] 36)).cell? ⟨w.heap.size, 2, none⟩ = some (.int .i64 xb) := by go_simp
    have k3 : ((w.alloc (.cells #[.int .i64 xa, .int .i64 ya, .int .i64 xb, .int .i64 yb, .int .i64 ra] 36)).alloc (.cells #[.int .i64 xc, .int .i64 yc, .int .i64 xd, .int .i64 yd, .int .i64 rb] 36)).cell? ⟨w.heap.size, 3, none⟩ = some (.int .i64 yb) := by go_simp
    have k4 : ((w.alloc (.cells #[.int .i64 xa, .int .i64 ya, .int .i64 xb, .int .i64 yb, .int .i64 ra] 36)).alloc (.cells #[.int .i64 xc, .int .i64 yc, .int .i64 xd, .int .i64 yd, .int .i64 rb] 36)).cell? ⟨w.heap.size, 4, none⟩ = some (.int .i64 ra) := by go_simp
    have k5 : ((w.alloc (.cells #[.int .i64 xa, .int .i64 ya, .int .i64 xb, .int .i64 yb, .int .i64 ra] 36)).alloc (.cells #[.int .i64 xc, .int .i64 yc, .int .i64 xd, .int .i64 yd, .int .i64 rb] 36)).cell? ⟨w.heap.size + 1, 0, none⟩ = some (.int .i64 xc) := by go_simp
    have k6 : ((w.alloc (.cells #[.int .i64 xa, .int .i64 ya, .int .i64 xb, .int .i64 yb, .int .i64 ra] 36)).alloc (.cells #[.int .i64 xc, .int .i64 yc, .int .i64 xd, .int .i64 yd, .int .i64 rb] 36)).cell? ⟨w.heap.size + 1, 1, none⟩ = some (.int .i64 yc) := by go_simp
    have k7 : ((w.alloc (.cells #[.int .i64 xa, .int .i64 ya, .int .i64 xb, .int .i64 yb, .int .i64 ra] 36)).alloc (.cells #[.int .i64 xc, .int .i64 yc, .int .i64 xd, .int .i64 yd, .int .i64 rb] 36)).cell? ⟨w.heap.size + 1, 2, none⟩ = some (.int .i64 xd) := by go_simp
    have k8 : ((w.alloc (.cells #[.int .i64 xa, .int .i64 ya, .int .i64 xb, .int .i64 yb, .int .i64 ra] 36)).alloc (.cells #[.int .i64 xc, .int .i64 yc, .int .i64 xd, .int .i64 yd, .int .i64 rb] 36)).cell? ⟨w.heap.size + 1, 3, none⟩ = some (.int .i64 yd) := by go_simp
    have k9 : ((w.alloc (.cells #[.int .i64 xa, .int .i64 ya, .int .i64 xb, .int .i64 yb, .int .i64 ra] 36)).alloc (.cells #[.int .i64 xc, .int .i64 yc, .int .i64 xd, .int .i64 yd, .int .i64 rb] 36)).cell? ⟨w.heap.size + 1, 4, none⟩ = some (.int .i64 rb) := by go_simp
    have g0 : Own w ((w.alloc (.cells #[.int .i64 xa, .int .i64 ya, .int .i64 xb, .int .i64 yb, .int .i64 ra] 36)).alloc (.cells #[.int .i64 xc, .int .i64 yc, .int .i64 xd, .int .i64 yd, .int .i64 rb] 36)) := (((Own.refl w).alloc _).alloc _)
    generalize hW : ((w.alloc (.cells #[.int .i64 xa, .int .i64 ya, .int .i64 xb, .int .i64 yb, .int .i64 ra] 36)).alloc (.cells #[.int .i64 xc, .int .i64 yc, .int .i64 xd, .int .i64 yd, .int .i64 rb] 36)) = W0 at *
    clear hW
    go_upto_region 4 with (first | (go_at_call 41; (first | (with_reducible refine (rmotion_at ⟨(xa, ya), (xb, yb), ra⟩ _ _ HP).mono ?_) | (with_reducible refine (rmotion_at ⟨(xc, yc), (xd, yd), rb⟩ _ _ HQ).mono ?_)); rintro e w1 ⟨rfl, hg⟩; replace k0 := hg.cell k0; replace k1 := hg.cell k1; replace k2 := hg.cell k2; replace k3 := hg.cell k3; replace k4 := hg.cell k4; replace k5 := hg.cell k5; replace k6 := hg.cell k6; replace k7 := hg.cell k7; replace k8 := hg.cell k8; replace k9 := hg.cell k9; replace g0 : Own w w1 := Own.trans (by first | exact g0 | exact Own.drewN g0 _) hg; clear hg) | (go_at_call 32; (first | (with_reducible refine (rsq_at (xa, ya) (xc, yc) _ _ HS1 h1 h3).mono ?_) | (with_reducible refine (rsq_at (xb, yb) (xd, yd) _ _ HS2 h2 h4).mono ?_)); rintro e w1 ⟨rfl, hg⟩; replace k0 := hg.cell k0; replace k1 := hg.cell k1; replace k2 := hg.cell k2; replace k3 := hg.cell k3; replace k4 := hg.cell k4; replace k5 := hg.cell k5; replace k6 := hg.cell k6; replace k7 := hg.cell k7; replace k8 := hg.cell k8; replace k9 := hg.cell k9; replace g0 : Own w w1 := Own.trans (by first | exact g0 | exact Own.drewN g0 _) hg; clear hg) | (go_at_call 39; (with_reducible refine (rcmp_at _ _ _ _ _ _ _ HK).mono ?_); rintro e w1 ⟨rfl, hg0⟩; have hg := Own.of_grown hg0; clear hg0; replace k0 := hg.cell k0; replace k1 := hg.cell k1; replace k2 := hg.cell k2; replace k3 := hg.cell k3; replace k4 := hg.cell k4; replace k5 := hg.cell k5; replace k6 := hg.cell k6; replace k7 := hg.cell k7; replace k8 := hg.cell k8; replace k9 := hg.cell k9; replace g0 : Own w w1 := Own.trans (by first | exact g0 | exact Own.drewN g0 _) hg; clear hg))
    go_quiet (fail)
    go_upto_region 5 with (fail)
    go_quiet (fail)
    go_wp2_with (first | (go_at_call 41; (first | (with_reducible refine (rmotion_at ⟨(xa, ya), (xb, yb), ra⟩ _ _ HP).mono ?_) | (with_reducible refine (rmotion_at ⟨(xc, yc), (xd, yd), rb⟩ _ _ HQ).mono ?_)); rintro e w1 ⟨rfl, hg⟩; replace k0 := hg.cell k0; replace k1 := hg.cell k1; replace k2 := hg.cell k2; replace k3 := hg.cell k3; replace k4 := hg.cell k4; replace k5 := hg.cell k5; replace k6 := hg.cell k6; replace k7 := hg.cell k7; replace k8 := hg.cell k8; replace k9 := hg.cell k9; replace g0 : Own w w1 := Own.trans (by first | exact g0 | exact Own.drewN g0 _) hg; clear hg) | (go_at_call 32; (first | (with_reducible refine (rsq_at (xa, ya) (xc, yc) _ _ HS1 h1 h3).mono ?_) | (with_reducible refine (rsq_at (xb, yb) (xd, yd) _ _ HS2 h2 h4).mono ?_)); rintro e w1 ⟨rfl, hg⟩; replace k0 := hg.cell k0; replace k1 := hg.cell k1; replace k2 := hg.cell k2; replace k3 := hg.cell k3; replace k4 := hg.cell k4; replace k5 := hg.cell k5; replace k6 := hg.cell k6; replace k7 := hg.cell k7; replace k8 := hg.cell k8; replace k9 := hg.cell k9; replace g0 : Own w w1 := Own.trans (by first | exact g0 | exact Own.drewN g0 _) hg; clear hg) | (go_at_call 39; (with_reducible refine (rcmp_at _ _ _ _ _ _ _ HK).mono ?_); rintro e w1 ⟨rfl, hg0⟩; have hg := Own.of_grown hg0; clear hg0; replace k0 := hg.cell k0; replace k1 := hg.cell k1; replace k2 := hg.cell k2; replace k3 := hg.cell k3; replace k4 := hg.cell k4; replace k5 := hg.cell k5; replace k6 := hg.cell k6; replace k7 := hg.cell k7; replace k8 := hg.cell k8; replace k9 := hg.cell k9; replace g0 : Own w w1 := Own.trans (by first | exact g0 | exact Own.drewN g0 _) hg; clear hg))
    go_ret2
    exact ⟨rfl, g0⟩
  · rw [if_neg c1]
    by_cases c2 : s2 < (ra + rb) * (ra + rb)
    · rw [if_pos c2]
      go_enter Try.func19, Try.ntmps19
      go_upto_region 1 with (fail)
      have k0 : ((w.alloc (.cells #[.int .i64 xa, .int .i64 ya, .int .i64 xb, .int .i64 yb, .int .i64 ra] 36)).alloc (.cells #[.int .i64 xc, .int .i64 yc, .int .i64 xd, .int .i64 yd, .int .i64 rb] 36)).cell? ⟨w.heap.size, 0, none⟩ = some (.int .i64 xa) := by go_simp
      have k1 : ((w.alloc (.cells #[.int .i64 xa, .int .i64 ya, .int .i64 xb, .int .i64 yb, .int .i64 ra] 36)).alloc (.cells #[.int .i64 xc, .int .i64 yc, .int .i64 xd, .int .i64 yd, .int .i64 rb] 36)).cell? ⟨w.heap.size, 1, none⟩ = some (.int .i64 ya) := by go_simp
      have k2 : ((w.alloc (.cells #[.int .i64 xa, .int .i64 ya, .int .i64 xb, .int .i64 yb, .int .i64 ra] 36)).alloc (.cells #[.int .i64 xc, .int .i64 yc, .int .i64 xd, .int .i64 yd, .int .i64 rb] 36)).cell? ⟨w.heap.size, 2, none⟩ = some (.int .i64 xb) := by go_simp
      have k3 : ((w.alloc (.cells #[.int .i64 xa, .int .i64 ya, .int .i64 xb, .int .i64 yb, .int .i64 ra] 36)).alloc (.cells #[.int .i64 xc, .int .i64 yc, .int .i64 xd, .int .i64 yd, .int .i64 rb] 36)).cell? ⟨w.heap.size, 3, none⟩ = some (.int .i64 yb) := by go_simp
      have k4 : ((w.alloc (.cells #[.int .i64 xa, .int .i64 ya, .int .i64 xb, .int .i64 yb, .int .i64 ra] 36)).alloc (.cells #[.int .i64 xc, .int .i64 yc, .int .i64 xd, .int .i64 yd, .int .i64 rb] 36)).cell? ⟨w.heap.size, 4, none⟩ = some (.int .i64 ra) := by go_simp
      have k5 : ((w.alloc (.cells #[.int .i64 xa, .int .i64 ya, .int .i64 xb, .int .i64 yb, .int .i64 ra] 36)).alloc (.cells #[.int .i64 xc, .int .i64 yc, .int .i64 xd, .int .i64 yd, .int .i64 rb] 36)).cell? ⟨w.heap.size + 1, 0, none⟩ = some (.int .i64 xc) := by go_simp
      have k6 : ((w.alloc (.cells #[.int .i64 xa, .int .i64 ya, .int .i64 xb, .int .i64 yb, .int .i64 ra] 36)).alloc (.cells #[.int .i64 xc, .int .i64 yc, .int .i64 xd, .int .i64 yd, .int .i64 rb] 36)).cell? ⟨w.heap.size + 1, 1, none⟩ = some (.int .i64 yc) := by go_simp
      have k7 : ((w.alloc (.cells #[.int .i64 xa, .int .i64 ya, .int .i64 xb, .int .i64 yb, .int .i64 ra] 36)).alloc (.cells #[.int .i64 xc, .int .i64 yc, .int .i64 xd, .int .i64 yd, .int .i64 rb] 36)).cell? ⟨w.heap.size + 1, 2, none⟩ = some (.int .i64 xd) := by go_simp
      have k8 : ((w.alloc (.cells #[.int .i64 xa, .int .i64 ya, .int .i64 xb, .int .i64 yb, .int .i64 ra] 36)).alloc (.cells #[.int .i64 xc, .int .i64 yc, .int .i64 xd, .int .i64 yd, .int .i64 rb] 36)).cell? ⟨w.heap.size + 1, 3, none⟩ = some (.int .i64 yd) := by go_simp
      have k9 : ((w.alloc (.cells #[.int .i64 xa, .int .i64 ya, .int .i64 xb, .int .i64 yb, .int .i64 ra] 36)).alloc (.cells #[.int .i64 xc, .int .i64 yc, .int .i64 xd, .int .i64 yd, .int .i64 rb] 36)).cell? ⟨w.heap.size + 1, 4, none⟩ = some (.int .i64 rb) := by go_simp
      have g0 : Own w ((w.alloc (.cells #[.int .i64 xa, .int .i64 ya, .int .i64 xb, .int .i64 yb, .int .i64 ra] 36)).alloc (.cells #[.int .i64 xc, .int .i64 yc, .int .i64 xd, .int .i64 yd, .int .i64 rb] 36)) := (((Own.refl w).alloc _).alloc _)
      generalize hW : ((w.alloc (.cells #[.int .i64 xa, .int .i64 ya, .int .i64 xb, .int .i64 yb, .int .i64 ra] 36)).alloc (.cells #[.int .i64 xc, .int .i64 yc, .int .i64 xd, .int .i64 yd, .int .i64 rb] 36)) = W0 at *
      clear hW
      go_upto_region 4 with (first | (go_at_call 41; (first | (with_reducible refine (rmotion_at ⟨(xa, ya), (xb, yb), ra⟩ _ _ HP).mono ?_) | (with_reducible refine (rmotion_at ⟨(xc, yc), (xd, yd), rb⟩ _ _ HQ).mono ?_)); rintro e w1 ⟨rfl, hg⟩; replace k0 := hg.cell k0; replace k1 := hg.cell k1; replace k2 := hg.cell k2; replace k3 := hg.cell k3; replace k4 := hg.cell k4; replace k5 := hg.cell k5; replace k6 := hg.cell k6; replace k7 := hg.cell k7; replace k8 := hg.cell k8; replace k9 := hg.cell k9; replace g0 : Own w w1 := Own.trans (by first | exact g0 | exact Own.drewN g0 _) hg; clear hg) | (go_at_call 32; (first | (with_reducible refine (rsq_at (xa, ya) (xc, yc) _ _ HS1 h1 h3).mono ?_) | (with_reducible refine (rsq_at (xb, yb) (xd, yd) _ _ HS2 h2 h4).mono ?_)); rintro e w1 ⟨rfl, hg⟩; replace k0 := hg.cell k0; replace k1 := hg.cell k1; replace k2 := hg.cell k2; replace k3 := hg.cell k3; replace k4 := hg.cell k4; replace k5 := hg.cell k5; replace k6 := hg.cell k6; replace k7 := hg.cell k7; replace k8 := hg.cell k8; replace k9 := hg.cell k9; replace g0 : Own w w1 := Own.trans (by first | exact g0 | exact Own.drewN g0 _) hg; clear hg) | (go_at_call 39; (with_reducible refine (rcmp_at _ _ _ _ _ _ _ HK).mono ?_); rintro e w1 ⟨rfl, hg0⟩; have hg := Own.of_grown hg0; clear hg0; replace k0 := hg.cell k0; replace k1 := hg.cell k1; replace k2 := hg.cell k2; replace k3 := hg.cell k3; replace k4 := hg.cell k4; replace k5 := hg.cell k5; replace k6 := hg.cell k6; replace k7 := hg.cell k7; replace k8 := hg.cell k8; replace k9 := hg.cell k9; replace g0 : Own w w1 := Own.trans (by first | exact g0 | exact Own.drewN g0 _) hg; clear hg))
      go_quiet (fail)
      go_upto_region 5 with (fail)
      go_quiet (fail)
      go_wp2_with (first | (go_at_call 41; (first | (with_reducible refine (rmotion_at ⟨(xa, ya), (xb, yb), ra⟩ _ _ HP).mono ?_) | (with_reducible refine (rmotion_at ⟨(xc, yc), (xd, yd), rb⟩ _ _ HQ).mono ?_)); rintro e w1 ⟨rfl, hg⟩; replace k0 := hg.cell k0; replace k1 := hg.cell k1; replace k2 := hg.cell k2; replace k3 := hg.cell k3; replace k4 := hg.cell k4; replace k5 := hg.cell k5; replace k6 := hg.cell k6; replace k7 := hg.cell k7; replace k8 := hg.cell k8; replace k9 := hg.cell k9; replace g0 : Own w w1 := Own.trans (by first | exact g0 | exact Own.drewN g0 _) hg; clear hg) | (go_at_call 32; (first | (with_reducible refine (rsq_at (xa, ya) (xc, yc) _ _ HS1 h1 h3).mono ?_) | (with_reducible refine (rsq_at (xb, yb) (xd, yd) _ _ HS2 h2 h4).mono ?_)); rintro e w1 ⟨rfl, hg⟩; replace k0 := hg.cell k0; replace k1 := hg.cell k1; replace k2 := hg.cell k2; replace k3 := hg.cell k3; replace k4 := hg.cell k4; replace k5 := hg.cell k5; replace k6 := hg.cell k6; replace k7 := hg.cell k7; replace k8 := hg.cell k8; replace k9 := hg.cell k9; replace g0 : Own w w1 := Own.trans (by first | exact g0 | exact Own.drewN g0 _) hg; clear hg) | (go_at_call 39; (with_reducible refine (rcmp_at _ _ _ _ _ _ _ HK).mono ?_); rintro e w1 ⟨rfl, hg0⟩; have hg := Own.of_grown hg0; clear hg0; replace k0 := hg.cell k0; replace k1 := hg.cell k1; replace k2 := hg.cell k2; replace k3 := hg.cell k3; replace k4 := hg.cell k4; replace k5 := hg.cell k5; replace k6 := hg.cell k6; replace k7 := hg.cell k7; replace k8 := hg.cell k8; replace k9 := hg.cell k9; replace g0 : Own w w1 := Own.trans (by first | exact g0 | exact Own.drewN g0 _) hg; clear hg))
      go_ret2
      exact ⟨rfl, g0⟩
    · rw [if_neg c2]
      by_cases c3 : -((xa - xc) * (xb - xd - (xa - xc)) + (ya - yc) * (yb - yd - (ya - yc))) ≤ 0
      · rw [if_pos c3]
        go_enter Try.func19, Try.ntmps19
        go_upto_region 1 with (fail)
        have k0 : ((w.alloc (.cells #[.int .i64 xa, .int .i64 ya, .int .i64 xb, .int .i64 yb, .int .i64 ra] 36)).alloc (.cells #[.int .i64 xc, .int .i64 yc, .int .i64 xd, .int .i64 yd, .int .i64 rb] 36)).cell? ⟨w.heap.size, 0, none⟩ = some (.int .i64 xa) := by go_simp
        have k1 : ((w.alloc (.cells #[.int .i64 xa, .int .i64 ya, .int .i64 xb, .int .i64 yb, .int .i64 ra] 36)).alloc (.cells #[.int .i64 xc, .int .i64 yc, .int .i64 xd, .int .i64 yd, .int .i64 rb] 36)).cell? ⟨w.heap.size, 1, none⟩ = some (.int .i64 ya) := by go_simp
        have k2 : ((w.alloc (.cells #[.int .i64 xa, .int .i64 ya, .int .i64 xb, .int .i64 yb, .int .i64 ra] 36)).alloc (.cells #[.int .i64 xc, .int .i64 yc, .int .i64 xd, .int .i64 yd, .int .i64 rb] 36)).cell? ⟨w.heap.size, 2, none⟩ = some (.int .i64 xb) := by go_simp
        have k3 : ((w.alloc (.cells #[.int .i64 xa, .int .i64 ya, .int .i64 xb, .int .i64 yb, .int .i64 ra] 36)).alloc (.cells #[.int .i64 xc, .int .i64 yc, .int .i64 xd, .int .i64 yd, .int .i64 rb] 36)).cell? ⟨w.heap.size, 3, none⟩ = some (.int .i64 yb) := by go_simp
        have k4 : ((w.alloc (.cells #[.int .i64 xa, .int .i64 ya, .int .i64 xb, .int .i64 yb, .int .i64 ra] 36)).alloc (.cells #[.int .i64 xc, .int .i64 yc, .int .i64 xd, .int .i64 yd, .int .i64 rb] 36)).cell? ⟨w.heap.size, 4, none⟩ = some (.int .i64 ra) := by go_simp
        have k5 : ((w.alloc (.cells #[.int .i64 xa, .int .i64 ya, .int .i64 xb, .int .i64 yb, .int .i64 ra] 36)).alloc (.cells #[.int .i64 xc, .int .i64 yc, .int .i64 xd, .int .i64 yd, .int .i64 rb] 36)).cell? ⟨w.heap.size + 1, 0, none⟩ = some (.int .i64 xc) := by go_simp
        have k6 : ((w.alloc (.cells #[.int .i64 xa, .int .i64 ya, .int .i64 xb, .int .i64 yb, .int .i64 ra] 36)).alloc (.cells #[.int .i64 xc, .int .i64 yc, .int .i64 xd, .int .i64 yd, .int .i64 rb] 36)).cell? ⟨w.heap.size + 1, 1, none⟩ = some (.int .i64 yc) := by go_simp
        have k7 : ((w.alloc (.cells #[.int .i64 xa, .int .i64 ya, .int .i64 xb, .int .i64 yb, .int .i64 ra] 36)).alloc (.cells #[.int .i64 xc, .int .i64 yc, .int .i64 xd, .int .i64 yd, .int .i64 rb] 36)).cell? ⟨w.heap.size + 1, 2, none⟩ = some (.int .i64 xd) := by go_simp
        have k8 : ((w.alloc (.cells #[.int .i64 xa, .int .i64 ya, .int .i64 xb, .int .i64 yb, .int .i64 ra] 36)).alloc (.cells #[.int .i64 xc, .int .i64 yc, .int .i64 xd, .int .i64 yd, .int .i64 rb] 36)).cell? ⟨w.heap.size + 1, 3, none⟩ = some (.int .i64 yd) := by go_simp
        have k9 : ((w.alloc (.cells #[.int .i64 xa, .int .i64 ya, .int .i64 xb, .int .i64 yb, .int .i64 ra] 36)).alloc (.cells #[.int .i64 xc, .int .i64 yc, .int .i64 xd, .int .i64 yd, .int .i64 rb] 36)).cell? ⟨w.heap.size + 1, 4, none⟩ = some (.int .i64 rb) := by go_simp
        have g0 : Own w ((w.alloc (.cells #[.int .i64 xa, .int .i64 ya, .int .i64 xb, .int .i64 yb, .int .i64 ra] 36)).alloc (.cells #[.int .i64 xc, .int .i64 yc, .int .i64 xd, .int .i64 yd, .int .i64 rb] 36)) := (((Own.refl w).alloc _).alloc _)
        generalize hW : ((w.alloc (.cells #[.int .i64 xa, .int .i64 ya, .int .i64 xb, .int .i64 yb, .int .i64 ra] 36)).alloc (.cells #[.int .i64 xc, .int .i64 yc, .int .i64 xd, .int .i64 yd, .int .i64 rb] 36)) = W0 at *
        clear hW
        go_upto_region 4 with (first | (go_at_call 41; (first | (with_reducible refine (rmotion_at ⟨(xa, ya), (xb, yb), ra⟩ _ _ HP).mono ?_) | (with_reducible refine (rmotion_at ⟨(xc, yc), (xd, yd), rb⟩ _ _ HQ).mono ?_)); rintro e w1 ⟨rfl, hg⟩; replace k0 := hg.cell k0; replace k1 := hg.cell k1; replace k2 := hg.cell k2; replace k3 := hg.cell k3; replace k4 := hg.cell k4; replace k5 := hg.cell k5; replace k6 := hg.cell k6; replace k7 := hg.cell k7; replace k8 := hg.cell k8; replace k9 := hg.cell k9; replace g0 : Own w w1 := Own.trans (by first | exact g0 | exact Own.drewN g0 _) hg; clear hg) | (go_at_call 32; (first | (with_reducible refine (rsq_at (xa, ya) (xc, yc) _ _ HS1 h1 h3).mono ?_) | (with_reducible refine (rsq_at (xb, yb) (xd, yd) _ _ HS2 h2 h4).mono ?_)); rintro e w1 ⟨rfl, hg⟩; replace k0 := hg.cell k0; replace k1 := hg.cell k1; replace k2 := hg.cell k2; replace k3 := hg.cell k3; replace k4 := hg.cell k4; replace k5 := hg.cell k5; replace k6 := hg.cell k6; replace k7 := hg.cell k7; replace k8 := hg.cell k8; replace k9 := hg.cell k9; replace g0 : Own w w1 := Own.trans (by first | exact g0 | exact Own.drewN g0 _) hg; clear hg) | (go_at_call 39; (with_reducible refine (rcmp_at _ _ _ _ _ _ _ HK).mono ?_); rintro e w1 ⟨rfl, hg0⟩; have hg := Own.of_grown hg0; clear hg0; replace k0 := hg.cell k0; replace k1 := hg.cell k1; replace k2 := hg.cell k2; replace k3 := hg.cell k3; replace k4 := hg.cell k4; replace k5 := hg.cell k5; replace k6 := hg.cell k6; replace k7 := hg.cell k7; replace k8 := hg.cell k8; replace k9 := hg.cell k9; replace g0 : Own w w1 := Own.trans (by first | exact g0 | exact Own.drewN g0 _) hg; clear hg))
        go_quiet (fail)
        go_upto_region 5 with (fail)
        go_quiet (fail)
        go_wp2_with (first | (go_at_call 41; (first | (with_reducible refine (rmotion_at ⟨(xa, ya), (xb, yb), ra⟩ _ _ HP).mono ?_) | (with_reducible refine (rmotion_at ⟨(xc, yc), (xd, yd), rb⟩ _ _ HQ).mono ?_)); rintro e w1 ⟨rfl, hg⟩; replace k0 := hg.cell k0; replace k1 := hg.cell k1; replace k2 := hg.cell k2; replace k3 := hg.cell k3; replace k4 := hg.cell k4; replace k5 := hg.cell k5; replace k6 := hg.cell k6; replace k7 := hg.cell k7; replace k8 := hg.cell k8; replace k9 := hg.cell k9; replace g0 : Own w w1 := Own.trans (by first | exact g0 | exact Own.drewN g0 _) hg; clear hg) | (go_at_call 32; (first | (with_reducible refine (rsq_at (xa, ya) (xc, yc) _ _ HS1 h1 h3).mono ?_) | (with_reducible refine (rsq_at (xb, yb) (xd, yd) _ _ HS2 h2 h4).mono ?_)); rintro e w1 ⟨rfl, hg⟩; replace k0 := hg.cell k0; replace k1 := hg.cell k1; replace k2 := hg.cell k2; replace k3 := hg.cell k3; replace k4 := hg.cell k4; replace k5 := hg.cell k5; replace k6 := hg.cell k6; replace k7 := hg.cell k7; replace k8 := hg.cell k8; replace k9 := hg.cell k9; replace g0 : Own w w1 := Own.trans (by first | exact g0 | exact Own.drewN g0 _) hg; clear hg) | (go_at_call 39; (with_reducible refine (rcmp_at _ _ _ _ _ _ _ HK).mono ?_); rintro e w1 ⟨rfl, hg0⟩; have hg := Own.of_grown hg0; clear hg0; replace k0 := hg.cell k0; replace k1 := hg.cell k1; replace k2 := hg.cell k2; replace k3 := hg.cell k3; replace k4 := hg.cell k4; replace k5 := hg.cell k5; replace k6 := hg.cell k6; replace k7 := hg.cell k7; replace k8 := hg.cell k8; replace k9 := hg.cell k9; replace g0 : Own w w1 := Own.trans (by first | exact g0 | exact Own.drewN g0 _) hg; clear hg))
        go_ret2
        exact ⟨rfl, g0⟩
      · rw [if_neg c3]
        by_cases c4 : (xb - xd - (xa - xc)) * (xb - xd - (xa - xc)) + (yb - yd - (ya - yc)) * (yb - yd - (ya - yc)) ≤ -((xa - xc) * (xb - xd - (xa - xc)) + (ya - yc) * (yb - yd - (ya - yc)))
        · rw [if_pos c4]
          go_enter Try.func19, Try.ntmps19
          go_upto_region 1 with (fail)
          have k0 : ((w.alloc (.cells #[.int .i64 xa, .int .i64 ya, .int .i64 xb, .int .i64 yb, .int .i64 ra] 36)).alloc (.cells #[.int .i64 xc, .int .i64 yc, .int .i64 xd, .int .i64 yd, .int .i64 rb] 36)).cell? ⟨w.heap.size, 0, none⟩ = some (.int .i64 xa) := by go_simp
          have k1 : ((w.alloc (.cells #[.int .i64 xa, .int .i64 ya, .int .i64 xb, .int .i64 yb, .int .i64 ra] 36)).alloc (.cells #[.int .i64 xc, .int .i64 yc, .int .i64 xd, .int .i64 yd, .int .i64 rb] 36)).cell? ⟨w.heap.size, 1, none⟩ = some (.int .i64 ya) := by go_simp
          have k2 : ((w.alloc (.cells #[.int .i64 xa, .int .i64 ya, .int .i64 xb, .int .i64 yb, .int .i64 ra] 36)).alloc (.cells #[.int .i64 xc, .int .i64 yc, .int .i64 xd, .int .i64 yd, .int .i64 rb] 36)).cell? ⟨w.heap.size, 2, none⟩ = some (.int .i64 xb) := by go_simp
          have k3 : ((w.alloc (.cells #[.int .i64 xa, .int .i64 ya, .int .i64 xb, .int .i64 yb, .int .i64 ra] 36)).alloc (.cells #[.int .i64 xc, .int .i64 yc, .int .i64 xd, .int .i64 yd, .int .i64 rb] 36)).cell? ⟨w.heap.size, 3, none⟩ = some (.int .i64 yb) := by go_simp
          have k4 : ((w.alloc (.cells #[.int .i64 xa, .int .i64 ya, .int .i64 xb, .int .i64 yb, .int .i64 ra] 36)).alloc (.cells #[.int .i64 xc, .int .i64 yc, .int .i64 xd, .int .i64 yd, .int .i64 rb] 36)).cell? ⟨w.heap.size, 4, none⟩ = some (.int .i64 ra) := by go_simp
          have k5 : ((w.alloc (.cells #[.int .i64 xa, .int .i64 ya, .int .i64 xb, .int .i64 yb, .int .i64 ra] 36)).alloc (.cells #[.int .i64 xc, .int .i64 yc, .int .i64 xd, .int .i64 yd, .int .i64 rb] 36)).cell? ⟨w.heap.size + 1, 0, none⟩ = some (.int .i64 xc) := by go_simp
          have k6 : ((w.alloc (.cells #[.int .i64 xa, .int .i64 ya, .int .i64 xb, .int .i64 yb, .int .i64 ra] 36)).alloc (.cells #[.int .i64 xc, .int .i64 yc, .int .i64 xd, .int .i64 yd, .int .i64 rb] 36)).cell? ⟨w.heap.size + 1, 1, none⟩ = some (.int .i64 yc) := by go_simp
          have k7 : ((w.alloc (.cells #[.int .i64 xa, .int .i64 ya, .int .i64 xb, .int .i64 yb, .int .i64 ra] 36)).alloc (.cells #[.int .i64 xc, .int .i64 yc, .int .i64 xd, .int .i64 yd, .int .i64 rb] 36)).cell? ⟨w.heap.size + 1, 2, none⟩ = some (.int .i64 xd) := by go_simp
          have k8 : ((w.alloc (.cells #[.int .i64 xa, .int .i64 ya, .int .i64 xb, .int .i64 yb, .int .i64 ra] 36)).alloc (.cells #[.int .i64 xc, .int .i64 yc, .int .i64 xd, .int .i64 yd, .int .i64 rb] 36)).cell? ⟨w.heap.size + 1, 3, none⟩ = some (.int .i64 yd) := by go_simp
          have k9 : ((w.alloc (.cells #[.int .i64 xa, .int .i64 ya, .int .i64 xb, .int .i64 yb, .int .i64 ra] 36)).alloc (.cells #[.int .i64 xc, .int .i64 yc, .int .i64 xd, .int .i64 yd, .int .i64 rb] 36)).cell? ⟨w.heap.size + 1, 4, none⟩ = some (.int .i64 rb) := by go_simp
          have g0 : Own w ((w.alloc (.cells #[.int .i64 xa, .int .i64 ya, .int .i64 xb, .int .i64 yb, .int .i64 ra] 36)).alloc (.cells #[.int .i64 xc, .int .i64 yc, .int .i64 xd, .int .i64 yd, .int .i64 rb] 36)) := (((Own.refl w).alloc _).alloc _)
          generalize hW : ((w.alloc (.cells #[.int .i64 xa, .int .i64 ya, .int .i64 xb, .int .i64 yb, .int .i64 ra] 36)).alloc (.cells #[.int .i64 xc, .int .i64 yc, .int .i64 xd, .int .i64 yd, .int .i64 rb] 36)) = W0 at *
          clear hW
          go_upto_region 4 with (first | (go_at_call 41; (first | (with_reducible refine (rmotion_at ⟨(xa, ya), (xb, yb), ra⟩ _ _ HP).mono ?_) | (with_reducible refine (rmotion_at ⟨(xc, yc), (xd, yd), rb⟩ _ _ HQ).mono ?_)); rintro e w1 ⟨rfl, hg⟩; replace k0 := hg.cell k0; replace k1 := hg.cell k1; replace k2 := hg.cell k2; replace k3 := hg.cell k3; replace k4 := hg.cell k4; replace k5 := hg.cell k5; replace k6 := hg.cell k6; replace k7 := hg.cell k7; replace k8 := hg.cell k8; replace k9 := hg.cell k9; replace g0 : Own w w1 := Own.trans (by first | exact g0 | exact Own.drewN g0 _) hg; clear hg) | (go_at_call 32; (first | (with_reducible refine (rsq_at (xa, ya) (xc, yc) _ _ HS1 h1 h3).mono ?_) | (with_reducible refine (rsq_at (xb, yb) (xd, yd) _ _ HS2 h2 h4).mono ?_)); rintro e w1 ⟨rfl, hg⟩; replace k0 := hg.cell k0; replace k1 := hg.cell k1; replace k2 := hg.cell k2; replace k3 := hg.cell k3; replace k4 := hg.cell k4; replace k5 := hg.cell k5; replace k6 := hg.cell k6; replace k7 := hg.cell k7; replace k8 := hg.cell k8; replace k9 := hg.cell k9; replace g0 : Own w w1 := Own.trans (by first | exact g0 | exact Own.drewN g0 _) hg; clear hg) | (go_at_call 39; (with_reducible refine (rcmp_at _ _ _ _ _ _ _ HK).mono ?_); rintro e w1 ⟨rfl, hg0⟩; have hg := Own.of_grown hg0; clear hg0; replace k0 := hg.cell k0; replace k1 := hg.cell k1; replace k2 := hg.cell k2; replace k3 := hg.cell k3; replace k4 := hg.cell k4; replace k5 := hg.cell k5; replace k6 := hg.cell k6; replace k7 := hg.cell k7; replace k8 := hg.cell k8; replace k9 := hg.cell k9; replace g0 : Own w w1 := Own.trans (by first | exact g0 | exact Own.drewN g0 _) hg; clear hg))
          go_quiet (fail)
          go_upto_region 5 with (fail)
          go_quiet (fail)
          go_wp2_with (first | (go_at_call 41; (first | (with_reducible refine (rmotion_at ⟨(xa, ya), (xb, yb), ra⟩ _ _ HP).mono ?_) | (with_reducible refine (rmotion_at ⟨(xc, yc), (xd, yd), rb⟩ _ _ HQ).mono ?_)); rintro e w1 ⟨rfl, hg⟩; replace k0 := hg.cell k0; replace k1 := hg.cell k1; replace k2 := hg.cell k2; replace k3 := hg.cell k3; replace k4 := hg.cell k4; replace k5 := hg.cell k5; replace k6 := hg.cell k6; replace k7 := hg.cell k7; replace k8 := hg.cell k8; replace k9 := hg.cell k9; replace g0 : Own w w1 := Own.trans (by first | exact g0 | exact Own.drewN g0 _) hg; clear hg) | (go_at_call 32; (first | (with_reducible refine (rsq_at (xa, ya) (xc, yc) _ _ HS1 h1 h3).mono ?_) | (with_reducible refine (rsq_at (xb, yb) (xd, yd) _ _ HS2 h2 h4).mono ?_)); rintro e w1 ⟨rfl, hg⟩; replace k0 := hg.cell k0; replace k1 := hg.cell k1; replace k2 := hg.cell k2; replace k3 := hg.cell k3; replace k4 := hg.cell k4; replace k5 := hg.cell k5; replace k6 := hg.cell k6; replace k7 := hg.cell k7; replace k8 := hg.cell k8; replace k9 := hg.cell k9; replace g0 : Own w w1 := Own.trans (by first | exact g0 | exact Own.drewN g0 _) hg; clear hg) | (go_at_call 39; (with_reducible refine (rcmp_at _ _ _ _ _ _ _ HK).mono ?_); rintro e w1 ⟨rfl, hg0⟩; have hg := Own.of_grown hg0; clear hg0; replace k0 := hg.cell k0; replace k1 := hg.cell k1; replace k2 := hg.cell k2; replace k3 := hg.cell k3; replace k4 := hg.cell k4; replace k5 := hg.cell k5; replace k6 := hg.cell k6; replace k7 := hg.cell k7; replace k8 := hg.cell k8; replace k9 := hg.cell k9; replace g0 : Own w w1 := Own.trans (by first | exact g0 | exact Own.drewN g0 _) hg; clear hg))
          go_ret2
          exact ⟨rfl, g0⟩
        · rw [if_neg c4]
          go_enter Try.func19, Try.ntmps19
          go_upto_region 1 with (fail)
          have k0 : ((w.alloc (.cells #[.int .i64 xa, .int .i64 ya, .int .i64 xb, .int .i64 yb, .int .i64 ra] 36)).alloc (.cells #[.int .i64 xc, .int .i64 yc, .int .i64 xd, .int .i64 yd, .int .i64 rb] 36)).cell? ⟨w.heap.size, 0, none⟩ = some (.int .i64 xa) := by go_simp
          have k1 : ((w.alloc (.cells #[.int .i64 xa, .int .i64 ya, .int .i64 xb, .int .i64 yb, .int .i64 ra] 36)).alloc (.cells #[.int .i64 xc, .int .i64 yc, .int .i64 xd, .int .i64 yd, .int .i64 rb] 36)).cell? ⟨w.heap.size, 1, none⟩ = some (.int .i64 ya) := by go_simp
          have k2 : ((w.alloc (.cells #[.int .i64 xa, .int .i64 ya, .int .i64 xb, .int .i64 yb, .int .i64 ra] 36)).alloc (.cells #[.int .i64 xc, .int .i64 yc, .int .i64 xd, .int .i64 yd, .int .i64 rb] 36)).cell? ⟨w.heap.size, 2, none⟩ = some (.int .i64 xb) := by go_simp
          have k3 : ((w.alloc (.cells #[.int .i64 xa, .int .i64 ya, .int .i64 xb, .int .i64 yb, .int .i64 ra] 36)).alloc (.cells #[.int .i64 xc, .int .i64 yc, .int .i64 xd, .int .i64 yd, .int .i64 rb] 36)).cell? ⟨w.heap.size, 3, none⟩ = some (.int .i64 yb) := by go_simp
          have k4 : ((w.alloc (.cells #[.int .i64 xa, .int .i64 ya, .int .i64 xb, .int .i64 yb, .int .i64 ra] 36)).alloc (.cells #[.int .i64 xc, .int .i64 yc, .int .i64 xd, .int .i64 yd, .int .i64 rb] 36)).cell? ⟨w.heap.size, 4, none⟩ = some (.int .i64 ra) := by go_simp
          have k5 : ((w.alloc (.cells #[.int .i64 xa, .int .i64 ya, .int .i64 xb, .int .i64 yb, .int .i64 ra] 36)).alloc (.cells #[.int .i64 xc, .int .i64 yc, .int .i64 xd, .int .i64 yd, .int .i64 rb] 36)).cell? ⟨w.heap.size + 1, 0, none⟩ = some (.int .i64 xc) := by go_simp
          have k6 : ((w.alloc (.cells #[.int .i64 xa, .int .i64 ya, .int .i64 xb, .int .i64 yb, .int .i64 ra] 36)).alloc (.cells #[.int .i64 xc, .int .i64 yc, .int .i64 xd, .int .i64 yd, .int .i64 rb] 36)).cell? ⟨w.heap.size + 1, 1, none⟩ = some (.int .i64 yc) := by go_simp
          have k7 : ((w.alloc (.cells #[.int .i64 xa, .int .i64 ya, .int .i64 xb, .int .i64 yb, .int .i64 ra] 36)).alloc (.cells #[.int .i64 xc, .int .i64 yc, .int .i64 xd, .int .i64 yd, .int .i64 rb] 36)).cell? ⟨w.heap.size + 1, 2, none⟩ = some (.int .i64 xd) := by go_simp
          have k8 : ((w.alloc (.cells #[.int .i64 xa, .int .i64 ya, .int .i64 xb, .int .i64 yb, .int .i64 ra] 36)).alloc (.cells #[.int .i64 xc, .int .i64 yc, .int .i64 xd, .int .i64 yd, .int .i64 rb] 36)).cell? ⟨w.heap.size + 1, 3, none⟩ = some (.int .i64 yd) := by go_simp
          have k9 : ((w.alloc (.cells #[.int .i64 xa, .int .i64 ya, .int .i64 xb, .int .i64 yb, .int .i64 ra] 36)).alloc (.cells #[.int .i64 xc, .int .i64 yc, .int .i64 xd, .int .i64 yd, .int .i64 rb] 36)).cell? ⟨w.heap.size + 1, 4, none⟩ = some (.int .i64 rb) := by go_simp
          have g0 : Own w ((w.alloc (.cells #[.int .i64 xa, .int .i64 ya, .int .i64 xb, .int .i64 yb, .int .i64 ra] 36)).alloc (.cells #[.int .i64 xc, .int .i64 yc, .int .i64 xd, .int .i64 yd, .int .i64 rb] 36)) := (((Own.refl w).alloc _).alloc _)
          generalize hW : ((w.alloc (.cells #[.int .i64 xa, .int .i64 ya, .int .i64 xb, .int .i64 yb, .int .i64 ra] 36)).alloc (.cells #[.int .i64 xc, .int .i64 yc, .int .i64 xd, .int .i64 yd, .int .i64 rb] 36)) = W0 at *
          clear hW
          go_upto_region 4 with (first | (go_at_call 41; (first | (with_reducible refine (rmotion_at ⟨(xa, ya), (xb, yb), ra⟩ _ _ HP).mono ?_) | (with_reducible refine (rmotion_at ⟨(xc, yc), (xd, yd), rb⟩ _ _ HQ).mono ?_)); rintro e w1 ⟨rfl, hg⟩; replace k0 := hg.cell k0; replace k1 := hg.cell k1; replace k2 := hg.cell k2; replace k3 := hg.cell k3; replace k4 := hg.cell k4; replace k5 := hg.cell k5; replace k6 := hg.cell k6; replace k7 := hg.cell k7; replace k8 := hg.cell k8; replace k9 := hg.cell k9; replace g0 : Own w w1 := Own.trans (by first | exact g0 | exact Own.drewN g0 _) hg; clear hg) | (go_at_call 32; (first | (with_reducible refine (rsq_at (xa, ya) (xc, yc) _ _ HS1 h1 h3).mono ?_) | (with_reducible refine (rsq_at (xb, yb) (xd, yd) _ _ HS2 h2 h4).mono ?_)); rintro e w1 ⟨rfl, hg⟩; replace k0 := hg.cell k0; replace k1 := hg.cell k1; replace k2 := hg.cell k2; replace k3 := hg.cell k3; replace k4 := hg.cell k4; replace k5 := hg.cell k5; replace k6 := hg.cell k6; replace k7 := hg.cell k7; replace k8 := hg.cell k8; replace k9 := hg.cell k9; replace g0 : Own w w1 := Own.trans (by first | exact g0 | exact Own.drewN g0 _) hg; clear hg) | (go_at_call 39; (with_reducible refine (rcmp_at _ _ _ _ _ _ _ HK).mono ?_); rintro e w1 ⟨rfl, hg0⟩; have hg := Own.of_grown hg0; clear hg0; replace k0 := hg.cell k0; replace k1 := hg.cell k1; replace k2 := hg.cell k2; replace k3 := hg.cell k3; replace k4 := hg.cell k4; replace k5 := hg.cell k5; replace k6 := hg.cell k6; replace k7 := hg.cell k7; replace k8 := hg.cell k8; replace k9 := hg.cell k9; replace g0 : Own w w1 := Own.trans (by first | exact g0 | exact Own.drewN g0 _) hg; clear hg))
          go_quiet (fail)
          go_upto_region 5 with (fail)
          go_quiet (fail)
          go_wp2_with (first | (go_at_call 41; (first | (with_reducible refine (rmotion_at ⟨(xa, ya), (xb, yb), ra⟩ _ _ HP).mono ?_) | (with_reducible refine (rmotion_at ⟨(xc, yc), (xd, yd), rb⟩ _ _ HQ).mono ?_)); rintro e w1 ⟨rfl, hg⟩; replace k0 := hg.cell k0; replace k1 := hg.cell k1; replace k2 := hg.cell k2; replace k3 := hg.cell k3; replace k4 := hg.cell k4; replace k5 := hg.cell k5; replace k6 := hg.cell k6; replace k7 := hg.cell k7; replace k8 := hg.cell k8; replace k9 := hg.cell k9; replace g0 : Own w w1 := Own.trans (by first | exact g0 | exact Own.drewN g0 _) hg; clear hg) | (go_at_call 32; (first | (with_reducible refine (rsq_at (xa, ya) (xc, yc) _ _ HS1 h1 h3).mono ?_) | (with_reducible refine (rsq_at (xb, yb) (xd, yd) _ _ HS2 h2 h4).mono ?_)); rintro e w1 ⟨rfl, hg⟩; replace k0 := hg.cell k0; replace k1 := hg.cell k1; replace k2 := hg.cell k2; replace k3 := hg.cell k3; replace k4 := hg.cell k4; replace k5 := hg.cell k5; replace k6 := hg.cell k6; replace k7 := hg.cell k7; replace k8 := hg.cell k8; replace k9 := hg.cell k9; replace g0 : Own w w1 := Own.trans (by first | exact g0 | exact Own.drewN g0 _) hg; clear hg) | (go_at_call 39; (with_reducible refine (rcmp_at _ _ _ _ _ _ _ HK).mono ?_); rintro e w1 ⟨rfl, hg0⟩; have hg := Own.of_grown hg0; clear hg0; replace k0 := hg.cell k0; replace k1 := hg.cell k1; replace k2 := hg.cell k2; replace k3 := hg.cell k3; replace k4 := hg.cell k4; replace k5 := hg.cell k5; replace k6 := hg.cell k6; replace k7 := hg.cell k7; replace k8 := hg.cell k8; replace k9 := hg.cell k9; replace g0 : Own w w1 := Own.trans (by first | exact g0 | exact Own.drewN g0 _) hg; clear hg))
          go_ret2
          exact ⟨rfl, g0⟩
theorem rtouch_any (p q : Mo) (w : World) :
    Calls Try.prog 19 #[.agg #[.int .i64 p.f.1, .int .i64 p.f.2, .int .i64 p.t.1, .int .i64 p.t.2, .int .i64 p.r], .agg #[.int .i64 q.f.1, .int .i64 q.f.2, .int .i64 q.t.1, .int .i64 q.t.2, .int .i64 q.r]] w fun e w' => e = .returned (.tuple #[.bool (touchV p q), .int .i64 (touchE p q)]) ∧ Own w w' := by
  unfold touchV touchE
  by_cases h : (okM p && okM q) = true
  · rw [if_pos h, h, Bool.true_and]
    rw [Bool.and_eq_true] at h
    exact rtouch_good p q w h.1 h.2
  · rw [if_neg h, Bool.of_not_eq_true h, Bool.false_and]
    exact rtouch_bad p q w (Bool.of_not_eq_true h)
theorem rtouch_at (p q : Mo) (t : Bool) (f : Int) (w : World) (H : Hid (touchV p q = t ∧ touchE p q = f)) :
    Calls Try.prog 19 #[.agg #[.int .i64 p.f.1, .int .i64 p.f.2, .int .i64 p.t.1, .int .i64 p.t.2, .int .i64 p.r], .agg #[.int .i64 q.f.1, .int .i64 q.f.2, .int .i64 q.t.1, .int .i64 q.t.2, .int .i64 q.r]] w fun e w' => e = .returned (.tuple #[.bool t, .int .i64 f]) ∧ Own w w' := by
  obtain ⟨rfl, rfl⟩ := H.out
  exact rtouch_any p q w
end Go.Proofs.Ytnakacflaaelnaa.GeoW
