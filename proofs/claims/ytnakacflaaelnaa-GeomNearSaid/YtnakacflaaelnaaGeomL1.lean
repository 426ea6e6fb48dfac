/-
  Walks of the laws GeomMeasures, GeomNear and GeomTouch: each returns true for every input. Condition: none.
-/
import Derived.Test.YtnakacflaaelnaaGeomI
namespace Go.Proofs.Ytnakacflaaelnaa.GeoW
open Go.ChangeShapes Go.WideShapes Go.ChangeAt Go.RowKit
open NumP NumW GeoP

set_option maxRecDepth 100000 in
set_option maxHeartbeats 4000000 in
theorem GeomMeasures_walk (a0 a1 a2 a3 a4 a5 : Int) (_b0 : -9223372036854775808 ≤ a0 ∧ a0 ≤ 9223372036854775807) (_b1 : -9223372036854775808 ≤ a1 ∧ a1 ≤ 9223372036854775807) (_b2 : -9223372036854775808 ≤ a2 ∧ a2 ≤ 9223372036854775807) (_b3 : -9223372036854775808 ≤ a3 ∧ a3 ≤ 9223372036854775807) (_b4 : -9223372036854775808 ≤ a4 ∧ a4 ≤ 9223372036854775807) (_b5 : -9223372036854775808 ≤ a5 ∧ a5 ≤ 9223372036854775807) (w : World) :
    Calls Try.prog 3 #[.agg #[.int .i64 a0, .int .i64 a1], .agg #[.int .i64 a2, .int .i64 a3], .agg #[.int .i64 a4, .int .i64 a5]] w fun e w' => e = .returned (.bool true) ∧ Own w w' := by
  clear _b0 _b1 _b2 _b3 _b4 _b5
  obtain ⟨d, hd⟩ : ∃ d, distV (a2, a3) (a4, a5) = d := ⟨_, rfl⟩
  obtain ⟨f, hf⟩ : ∃ d, distE (a2, a3) (a4, a5) = d := ⟨_, rfl⟩
  obtain ⟨c, hc⟩ : ∃ d, crossV (a0, a1) (a2, a3) (a4, a5) = d := ⟨_, rfl⟩
  obtain ⟨h, hh⟩ : ∃ d, crossE (a0, a1) (a2, a3) (a4, a5) = d := ⟨_, rfl⟩
  have HD := Lib.hid (And.intro hd hf)
  have HC := Lib.hid (And.intro hc hh)
  clear hd hf hc hh
  go_enter Try.func3, Try.ntmps3
  go_upto_region 1 with (fail)
  have k0 : (((w.alloc (.cells #[.int .i64 a0, .int .i64 a1] 23)).alloc (.cells #[.int .i64 a2, .int .i64 a3] 23)).alloc (.cells #[.int .i64 a4, .int .i64 a5] 23)).cell? ⟨w.heap.size, 0, none⟩ = some (.int .i64 a0) := by go_simp
  have k1 : (((w.alloc (.cells #[.int .i64 a0, .int .i64 a1] 23)).alloc (.cells #[.int .i64 a2, .int .i64 a3] 23)).alloc (.cells #[.int .i64 a4, .int .i64 a5] 23)).cell? ⟨w.heap.size, 1, none⟩ = some (.int .i64 a1) := by go_simp
  have k2 : (((w.alloc (.cells #[.int .i64 a0, .int .i64 a1] 23)).alloc (.cells #[.int .i64 a2, .int .i64 a3] 23)).alloc (.cells #[.int .i64 a4, .int .i64 a5] 23)).cell? ⟨w.heap.size + 1, 0, none⟩ = some (.int .i64 a2) := by go_simp
  have k3 : (((w.alloc (.cells #[.int .i64 a0, .int .i64 a1] 23)).alloc (.cells #[.int .i64 a2, .int .i64 a3] 23)).alloc (.cells #[.int .i64 a4, .int .i64 a5] 23)).cell? ⟨w.heap.size + 1, 1, none⟩ = some (.int .i64 a3) := by go_simp
  have k4 : (((w.alloc (.cells #[.int .i64 a0, .int .i64 a1] 23)).alloc (.cells #[.int .i64 a2, .int .i64 a3] 23)).alloc (.cells #[.int .i64 a4, .int .i64 a5] 23)).cell? ⟨w.heap.size + 2, 0, none⟩ = some (.int .i64 a4) := by go_simp
  have k5 : (((w.alloc (.cells #[.int .i64 a0, .int .i64 a1] 23)).alloc (.cells #[.int .i64 a2, .int .i64 a3] 23)).alloc (.cells #[.int .i64 a4, .int .i64 a5] 23)).cell? ⟨w.heap.size + 2, 1, none⟩ = some (.int .i64 a5) := by go_simp
  have g0 : Own w (((w.alloc (.cells #[.int .i64 a0, .int .i64 a1] 23)).alloc (.cells #[.int .i64 a2, .int .i64 a3] 23)).alloc (.cells #[.int .i64 a4, .int .i64 a5] 23)) := ((((Own.refl w).alloc _).alloc _).alloc _)
  generalize hW : (((w.alloc (.cells #[.int .i64 a0, .int .i64 a1] 23)).alloc (.cells #[.int .i64 a2, .int .i64 a3] 23)).alloc (.cells #[.int .i64 a4, .int .i64 a5] 23)) = W0 at *
  clear hW
  go_wp2_with (first
    | (go_at_call 11; refine (pdist_at (a2, a3) (a4, a5) d f _ HD).mono ?_; rintro e w1 ⟨rfl, hg⟩; replace k0 := hg.cell k0; replace k1 := hg.cell k1; replace k2 := hg.cell k2; replace k3 := hg.cell k3; replace k4 := hg.cell k4; replace k5 := hg.cell k5; replace g0 : Own w w1 := Own.trans (by first | exact g0 | exact Own.drewN g0 _) hg; clear hg)
    | (go_at_call 13; refine (pcross_at (a0, a1) (a2, a3) (a4, a5) c h _ HC).mono ?_; rintro e w1 ⟨rfl, hg⟩; replace k0 := hg.cell k0; replace k1 := hg.cell k1; replace k2 := hg.cell k2; replace k3 := hg.cell k3; replace k4 := hg.cell k4; replace k5 := hg.cell k5; replace g0 : Own w w1 := Own.trans (by first | exact g0 | exact Own.drewN g0 _) hg; clear hg)
    | (go_at_call 12; refine (rdist_at (a2, a3) (a4, a5) d f _ HD).mono ?_; rintro e w1 ⟨rfl, hg⟩; replace k0 := hg.cell k0; replace k1 := hg.cell k1; replace k2 := hg.cell k2; replace k3 := hg.cell k3; replace k4 := hg.cell k4; replace k5 := hg.cell k5; replace g0 : Own w w1 := Own.trans (by first | exact g0 | exact Own.drewN g0 _) hg; clear hg)
    | (go_at_call 14; refine (rcross_at (a0, a1) (a2, a3) (a4, a5) c h _ HC).mono ?_; rintro e w1 ⟨rfl, hg⟩; replace k0 := hg.cell k0; replace k1 := hg.cell k1; replace k2 := hg.cell k2; replace k3 := hg.cell k3; replace k4 := hg.cell k4; replace k5 := hg.cell k5; replace g0 : Own w w1 := Own.trans (by first | exact g0 | exact Own.drewN g0 _) hg; clear hg)
    | (go_at_call 15; refine (awake_any _).mono ?_; rintro e w1 ⟨rfl, hg⟩; replace g0 : Own w w1 := Own.trans (by first | exact g0 | exact Own.drewN g0 _) hg; clear hg))
  go_ret
  exact ⟨rfl, g0⟩
set_option maxRecDepth 100000 in
set_option maxHeartbeats 4000000 in
theorem GeomNear_walk (a0 a1 a2 a3 a4 a5 a6 : Int) (_b0 : -9223372036854775808 ≤ a0 ∧ a0 ≤ 9223372036854775807) (_b1 : -9223372036854775808 ≤ a1 ∧ a1 ≤ 9223372036854775807) (_b2 : -9223372036854775808 ≤ a2 ∧ a2 ≤ 9223372036854775807) (_b3 : -9223372036854775808 ≤ a3 ∧ a3 ≤ 9223372036854775807) (_b4 : -9223372036854775808 ≤ a4 ∧ a4 ≤ 9223372036854775807) (_b5 : -9223372036854775808 ≤ a5 ∧ a5 ≤ 9223372036854775807) (_b6 : -9223372036854775808 ≤ a6 ∧ a6 ≤ 9223372036854775807) (w : World) :
    Calls Try.prog 4 #[.agg #[.int .i64 a0, .int .i64 a1, .int .i64 a2, .int .i64 a3, .int .i64 a4, .int .i64 a5, .int .i64 a6]] w fun e w' => e = .returned (.bool true) ∧ Own w w' := by
  clear _b0 _b1 _b2 _b3 _b4 _b5 _b6
  obtain ⟨t, ht⟩ : ∃ d, nrV (a0, a1) (a2, a3) (a4, a5) a6 = d := ⟨_, rfl⟩
  obtain ⟨f, hf⟩ : ∃ d, nrE (a0, a1) (a2, a3) (a4, a5) a6 = d := ⟨_, rfl⟩
  have hs := near_swap (a0, a1) (a2, a3) (a4, a5) a6
  rw [ht, hf] at hs
  have HD := Lib.hid (And.intro ht hf)
  have HC := Lib.hid hs
  clear ht hf hs
  go_enter Try.func4, Try.ntmps4
  go_upto_region 1 with (fail)
  have k0 : (w.alloc (.cells #[.int .i64 a0, .int .i64 a1, .int .i64 a2, .int .i64 a3, .int .i64 a4, .int .i64 a5, .int .i64 a6] 31)).cell? ⟨w.heap.size, 0, none⟩ = some (.int .i64 a0) := by go_simp
  have k1 : (w.alloc (.cells #[.int .i64 a0, .int .i64 a1, .int .i64 a2, .int .i64 a3, .int .i64 a4, .int .i64 a5, .int .i64 a6] 31)).cell? ⟨w.heap.size, 1, none⟩ = some (.int .i64 a1) := by go_simp
  have k2 : (w.alloc (.cells #[.int .i64 a0, .int .i64 a1, .int .i64 a2, .int .i64 a3, .int .i64 a4, .int .i64 a5, .int .i64 a6] 31)).cell? ⟨w.heap.size, 2, none⟩ = some (.int .i64 a2) := by go_simp
  have k3 : (w.alloc (.cells #[.int .i64 a0, .int .i64 a1, .int .i64 a2, .int .i64 a3, .int .i64 a4, .int .i64 a5, .int .i64 a6] 31)).cell? ⟨w.heap.size, 3, none⟩ = some (.int .i64 a3) := by go_simp
  have k4 : (w.alloc (.cells #[.int .i64 a0, .int .i64 a1, .int .i64 a2, .int .i64 a3, .int .i64 a4, .int .i64 a5, .int .i64 a6] 31)).cell? ⟨w.heap.size, 4, none⟩ = some (.int .i64 a4) := by go_simp
  have k5 : (w.alloc (.cells #[.int .i64 a0, .int .i64 a1, .int .i64 a2, .int .i64 a3, .int .i64 a4, .int .i64 a5, .int .i64 a6] 31)).cell? ⟨w.heap.size, 5, none⟩ = some (.int .i64 a5) := by go_simp
  have k6 : (w.alloc (.cells #[.int .i64 a0, .int .i64 a1, .int .i64 a2, .int .i64 a3, .int .i64 a4, .int .i64 a5, .int .i64 a6] 31)).cell? ⟨w.heap.size, 6, none⟩ = some (.int .i64 a6) := by go_simp
  have g0 : Own w (w.alloc (.cells #[.int .i64 a0, .int .i64 a1, .int .i64 a2, .int .i64 a3, .int .i64 a4, .int .i64 a5, .int .i64 a6] 31)) := ((Own.refl w).alloc _)
  generalize hW : (w.alloc (.cells #[.int .i64 a0, .int .i64 a1, .int .i64 a2, .int .i64 a3, .int .i64 a4, .int .i64 a5, .int .i64 a6] 31)) = W0 at *
  clear hW
  go_wp2_with (first
    | (go_at_call 16; (first | (with_reducible refine (pnear_at (a0, a1) (a2, a3) (a4, a5) a6 t f _ HD).mono ?_) | (with_reducible refine (pnear_at (a0, a1) (a4, a5) (a2, a3) a6 t f _ HC).mono ?_)); rintro e w1 ⟨rfl, hg⟩; replace k0 := hg.cell k0; replace k1 := hg.cell k1; replace k2 := hg.cell k2; replace k3 := hg.cell k3; replace k4 := hg.cell k4; replace k5 := hg.cell k5; replace k6 := hg.cell k6; replace g0 : Own w w1 := Own.trans (by first | exact g0 | exact Own.drewN g0 _) hg; clear hg)
    | (go_at_call 17; refine (rnear_at (a0, a1) (a2, a3) (a4, a5) a6 t f _ HD).mono ?_; rintro e w1 ⟨rfl, hg⟩; replace k0 := hg.cell k0; replace k1 := hg.cell k1; replace k2 := hg.cell k2; replace k3 := hg.cell k3; replace k4 := hg.cell k4; replace k5 := hg.cell k5; replace k6 := hg.cell k6; replace g0 : Own w w1 := Own.trans (by first | exact g0 | exact Own.drewN g0 _) hg; clear hg)
    | (go_at_call 15; refine (awake_any _).mono ?_; rintro e w1 ⟨rfl, hg⟩; replace g0 : Own w w1 := Own.trans (by first | exact g0 | exact Own.drewN g0 _) hg; clear hg))
  go_ret
  exact ⟨rfl, g0⟩
set_option maxRecDepth 100000 in
set_option maxHeartbeats 4000000 in
theorem GeomTouch_walk (a0 a1 a2 a3 a4 a5 a6 a7 a8 a9 : Int) (_b0 : -9223372036854775808 ≤ a0 ∧ a0 ≤ 9223372036854775807) (_b1 : -9223372036854775808 ≤ a1 ∧ a1 ≤ 9223372036854775807) (_b2 : -9223372036854775808 ≤ a2 ∧ a2 ≤ 9223372036854775807) (_b3 : -9223372036854775808 ≤ a3 ∧ a3 ≤ 9223372036854775807) (_b4 : -9223372036854775808 ≤ a4 ∧ a4 ≤ 9223372036854775807) (_b5 : -9223372036854775808 ≤ a5 ∧ a5 ≤ 9223372036854775807) (_b6 : -9223372036854775808 ≤ a6 ∧ a6 ≤ 9223372036854775807) (_b7 : -9223372036854775808 ≤ a7 ∧ a7 ≤ 9223372036854775807) (_b8 : -9223372036854775808 ≤ a8 ∧ a8 ≤ 9223372036854775807) (_b9 : -9223372036854775808 ≤ a9 ∧ a9 ≤ 9223372036854775807) (w : World) :
    Calls Try.prog 5 #[.agg #[.int .i64 a0, .int .i64 a1, .int .i64 a2, .int .i64 a3, .int .i64 a4], .agg #[.int .i64 a5, .int .i64 a6, .int .i64 a7, .int .i64 a8, .int .i64 a9]] w fun e w' => e = .returned (.bool true) ∧ Own w w' := by
  clear _b0 _b1 _b2 _b3 _b4 _b5 _b6 _b7 _b8 _b9
  obtain ⟨t, ht⟩ : ∃ d, touchV ⟨(a0, a1), (a2, a3), a4⟩ ⟨(a5, a6), (a7, a8), a9⟩ = d := ⟨_, rfl⟩
  obtain ⟨f, hf⟩ : ∃ d, touchE ⟨(a0, a1), (a2, a3), a4⟩ ⟨(a5, a6), (a7, a8), a9⟩ = d := ⟨_, rfl⟩
  have hs := touch_swap ⟨(a0, a1), (a2, a3), a4⟩ ⟨(a5, a6), (a7, a8), a9⟩
  have hb := touch_back ⟨(a0, a1), (a2, a3), a4⟩ ⟨(a5, a6), (a7, a8), a9⟩
  simp only at hb
  rw [ht, hf] at hs hb
  have HD := Lib.hid (And.intro ht hf)
  have HC := Lib.hid hs
  have HB := Lib.hid hb
  clear ht hf hs hb
  go_enter Try.func5, Try.ntmps5
  go_upto_region 1 with (fail)
  have k0 : ((w.alloc (.cells #[.int .i64 a0, .int .i64 a1, .int .i64 a2, .int .i64 a3, .int .i64 a4] 36)).alloc (.cells #[.int .i64 a5, .int .i64 a6, .int .i64 a7, .int .i64 a8, .int .i64 a9] 36)).cell? ⟨w.heap.size, 0, none⟩ = some (.int .i64 a0) := by go_simp
  have k1 : ((w.alloc (.cells #[.int .i64 a0, .int .i64 a1, .int .i64 a2, .int .i64 a3, .int .i64 a4] 36)).alloc (.cells #[.int .i64 a5, .int .i64 a6, .int .i64 a7, .int .i64 a8, .int .i64 a9] 36)).cell? ⟨w.heap.size, 1, none⟩ = some (.int .i64 a1) := by go_simp
  have k2 : ((w.alloc (.cells #[.int .i64 a0, .int .i64 a1, .int .i64 a2, .int .i64 a3, .int .i64 a4] 36)).alloc (.cells #[.int .i64 a5, .int .i64 a6, .int .i64 a7, .int .i64 a8, .int .i64 a9] 36)).cell? ⟨w.heap.size, 2, none⟩ = some (.int .i64 a2) := by go_simp
  have k3 : ((w.alloc (.cells #[.int .i64 a0, .int .i64 a1, .int .i64 a2, .int .i64 a3, .int .i64 a4] 36)).alloc (.cells #[.int .i64 a5, .int .i64 a6, .int .i64 a7, .int .i64 a8, .int .i64 a9] 36)).cell? ⟨w.heap.size, 3, none⟩ = some (.int .i64 a3) := by go_simp
  have k4 : ((w.alloc (.cells #[.int .i64 a0, .int .i64 a1, .int .i64 a2, .int .i64 a3, .int .i64 a4] 36)).alloc (.cells #[.int .i64 a5, .int .i64 a6, .int .i64 a7, .int .i64 a8, .int .i64 a9] 36)).cell? ⟨w.heap.size, 4, none⟩ = some (.int .i64 a4) := by go_simp
  have k5 : ((w.alloc (.cells #[.int .i64 a0, .int .i64 a1, .int .i64 a2, .int .i64 a3, .int .i64 a4] 36)).alloc (.cells #[.int .i64 a5, .int .i64 a6, .int .i64 a7, .int .i64 a8, .int .i64 a9] 36)).cell? ⟨w.heap.size + 1, 0, none⟩ = some (.int .i64 a5) := by go_simp
  have k6 : ((w.alloc (.cells #[.int .i64 a0, .int .i64 a1, .int .i64 a2, .int .i64 a3, .int .i64 a4] 36)).alloc (.cells #[.int .i64 a5, .int .i64 a6, .int .i64 a7, .int .i64 a8, .int .i64 a9] 36)).cell? ⟨w.heap.size + 1, 1, none⟩ = some (.int .i64 a6) := by go_simp
  have k7 : ((w.alloc (.cells #[.int .i64 a0, .int .i64 a1, .int .i64 a2, .int .i64 a3, .int .i64 a4] 36)).alloc (.cells #[.int .i64 a5, .int .i64 a6, .int .i64 a7, .int .i64 a8, .int .i64 a9] 36)).cell? ⟨w.heap.size + 1, 2, none⟩ = some (.int .i64 a7) := by go_simp
  have k8 : ((w.alloc (.cells #[.int .i64 a0, .int .i64 a1, .int .i64 a2, .int .i64 a3, .int .i64 a4] 36)).alloc (.cells #[.int .i64 a5, .int .i64 a6, .int .i64 a7, .int .i64 a8, .int .i64 a9] 36)).cell? ⟨w.heap.size + 1, 3, none⟩ = some (.int .i64 a8) := by go_simp
  have k9 : ((w.alloc (.cells #[.int .i64 a0, .int .i64 a1, .int .i64 a2, .int .i64 a3, .int .i64 a4] 36)).alloc (.cells #[.int .i64 a5, .int .i64 a6, .int .i64 a7, .int .i64 a8, .int .i64 a9] 36)).cell? ⟨w.heap.size + 1, 4, none⟩ = some (.int .i64 a9) := by go_simp
  have g0 : Own w ((w.alloc (.cells #[.int .i64 a0, .int .i64 a1, .int .i64 a2, .int .i64 a3, .int .i64 a4] 36)).alloc (.cells #[.int .i64 a5, .int .i64 a6, .int .i64 a7, .int .i64 a8, .int .i64 a9] 36)) := (((Own.refl w).alloc _).alloc _)
  generalize hW : ((w.alloc (.cells #[.int .i64 a0, .int .i64 a1, .int .i64 a2, .int .i64 a3, .int .i64 a4] 36)).alloc (.cells #[.int .i64 a5, .int .i64 a6, .int .i64 a7, .int .i64 a8, .int .i64 a9] 36)) = W0 at *
  clear hW
  go_wp2_with (first
    | (go_at_call 18; (first | (with_reducible refine (ptouch_at ⟨(a0, a1), (a2, a3), a4⟩ ⟨(a5, a6), (a7, a8), a9⟩ t f _ HD).mono ?_) | (with_reducible refine (ptouch_at ⟨(a5, a6), (a7, a8), a9⟩ ⟨(a0, a1), (a2, a3), a4⟩ t f _ HC).mono ?_) | (with_reducible refine (ptouch_at ⟨(a2, a3), (a0, a1), a4⟩ ⟨(a7, a8), (a5, a6), a9⟩ t f _ HB).mono ?_)); rintro e w1 ⟨rfl, hg⟩; replace k0 := hg.cell k0; replace k1 := hg.cell k1; replace k2 := hg.cell k2; replace k3 := hg.cell k3; replace k4 := hg.cell k4; replace k5 := hg.cell k5; replace k6 := hg.cell k6; replace k7 := hg.cell k7; replace k8 := hg.cell k8; replace k9 := hg.cell k9; replace g0 : Own w w1 := Own.trans (by first | exact g0 | exact Own.drewN g0 _) hg; clear hg)
    | (go_at_call 19; refine (rtouch_at ⟨(a0, a1), (a2, a3), a4⟩ ⟨(a5, a6), (a7, a8), a9⟩ t f _ HD).mono ?_; rintro e w1 ⟨rfl, hg⟩; replace k0 := hg.cell k0; replace k1 := hg.cell k1; replace k2 := hg.cell k2; replace k3 := hg.cell k3; replace k4 := hg.cell k4; replace k5 := hg.cell k5; replace k6 := hg.cell k6; replace k7 := hg.cell k7; replace k8 := hg.cell k8; replace k9 := hg.cell k9; replace g0 : Own w w1 := Own.trans (by first | exact g0 | exact Own.drewN g0 _) hg; clear hg)
    | (go_at_call 15; refine (awake_any _).mono ?_; rintro e w1 ⟨rfl, hg⟩; replace g0 : Own w w1 := Own.trans (by first | exact g0 | exact Own.drewN g0 _) hg; clear hg))
  go_ret
  exact ⟨rfl, g0⟩
end Go.Proofs.Ytnakacflaaelnaa.GeoW
