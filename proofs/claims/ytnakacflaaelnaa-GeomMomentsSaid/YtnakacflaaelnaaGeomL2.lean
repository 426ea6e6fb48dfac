/-
  Walk of the law GeomMoments: it returns true for every input. Condition: none.
-/
import Derived.Test.YtnakacflaaelnaaGeomI
namespace Go.Proofs.Ytnakacflaaelnaa.GeoW
open Go.ChangeShapes Go.WideShapes Go.ChangeAt Go.RowKit
open NumP NumW GeoP

theorem mul_k {a b : Int} (ha : -65536 ≤ a ∧ a ≤ 65536) (hb : 0 ≤ b ∧ b ≤ 100) : -6553600 ≤ a * b ∧ a * b ≤ 6553600 := by
  have h1 := Int.mul_nonneg (show 0 ≤ 65536 - a by omega) hb.1
  have h2 := Int.mul_nonneg (show 0 ≤ 65536 + a by omega) hb.1
  rw [Int.sub_mul] at h1
  rw [Int.add_mul] at h2
  omega
theorem mul_x {a b : Int} (ha : -16777216 ≤ a ∧ a ≤ 16777216) (hb : -16777216 ≤ b ∧ b ≤ 16777216) : -281474976710656 ≤ a * b ∧ a * b ≤ 281474976710656 := by
  have := mul_bd ha hb
  omega
theorem touch_ok {p q : Mo} (h : touchE p q = 0) : okM p = true ∧ okM q = true := by
  unfold touchE at h
  by_cases g : (okM p && okM q) = true
  · rwa [Bool.and_eq_true] at g
  · rw [if_neg g] at h; omega
theorem touch_err {p q : Mo} (h : touchE p q ≠ 0) : touchV p q = false := by
  unfold touchE at h
  unfold touchV
  by_cases g : (okM p && okM q) = true
  · rw [if_pos g] at h; omega
  · rw [Bool.of_not_eq_true g]; rfl
set_option maxRecDepth 100000 in
set_option maxHeartbeats 8000000 in
theorem GeomMoments_walk (a0 a1 a2 a3 a4 a5 a6 a7 a8 a9 a10 a11 : Int) (_b0 : -9223372036854775808 ≤ a0 ∧ a0 ≤ 9223372036854775807) (_b1 : -9223372036854775808 ≤ a1 ∧ a1 ≤ 9223372036854775807) (_b2 : -9223372036854775808 ≤ a2 ∧ a2 ≤ 9223372036854775807) (_b3 : -9223372036854775808 ≤ a3 ∧ a3 ≤ 9223372036854775807) (_b4 : -9223372036854775808 ≤ a4 ∧ a4 ≤ 9223372036854775807) (_b5 : -9223372036854775808 ≤ a5 ∧ a5 ≤ 9223372036854775807) (_b6 : -9223372036854775808 ≤ a6 ∧ a6 ≤ 9223372036854775807) (_b7 : -9223372036854775808 ≤ a7 ∧ a7 ≤ 9223372036854775807) (_b8 : -9223372036854775808 ≤ a8 ∧ a8 ≤ 9223372036854775807) (_b9 : -9223372036854775808 ≤ a9 ∧ a9 ≤ 9223372036854775807) (b10 : 0 ≤ a10 ∧ a10 ≤ 255) (b11 : 0 ≤ a11 ∧ a11 ≤ 255) (w : World) :
    Calls Try.prog 6 #[.agg #[.int .i64 a0, .int .i64 a1, .int .i64 a2, .int .i64 a3, .int .i64 a4], .agg #[.int .i64 a5, .int .i64 a6, .int .i64 a7, .int .i64 a8, .int .i64 a9], .agg #[.int .u8 a10, .int .u8 a11]] w fun e w' => e = .returned (.bool true) ∧ Own w w' := by
  clear _b0 _b1 _b2 _b3 _b4 _b5 _b6 _b7 _b8 _b9
  obtain ⟨t, ht⟩ : ∃ d, touchV ⟨(a0, a1), (a2, a3), a4⟩ ⟨(a5, a6), (a7, a8), a9⟩ = d := ⟨_, rfl⟩
  obtain ⟨f, hf⟩ : ∃ d, touchE ⟨(a0, a1), (a2, a3), a4⟩ ⟨(a5, a6), (a7, a8), a9⟩ = d := ⟨_, rfl⟩
  have HD := Lib.hid (And.intro ht hf)
  by_cases hz : f = 0
  · subst hz
    obtain ⟨o1, o2⟩ := touch_ok hf
    unfold okM at o1 o2
    rw [Bool.and_eq_true, Bool.and_eq_true, okP_iff, okP_iff, okR_iff] at o1 o2
    obtain ⟨⟨⟨c0, c1⟩, c2, c3⟩, ⟨⟨c4, c5⟩, c6, c7⟩, c8, c9⟩ := o1
    obtain ⟨⟨⟨d0, d1⟩, d2, d3⟩, ⟨⟨d4, d5⟩, d6, d7⟩, d8, d9⟩ := o2
    simp only at c0 c1 c2 c3 c4 c5 c6 c7 c8 c9 d0 d1 d2 d3 d4 d5 d6 d7 d8 d9
    obtain ⟨n, hn⟩ : ∃ n, 1 + a10 % 100 = n := ⟨_, rfl⟩
    have n1 : 1 ≤ n := by omega
    have n2 : n ≤ 100 := by omega
    obtain ⟨k, hk⟩ : ∃ k, a11 % (n + 1) = k := ⟨_, rfl⟩
    have k0 : 0 ≤ k := by rw [← hk]; exact Int.emod_nonneg _ (by omega)
    have k1 : k ≤ n := by have := Int.emod_lt_of_pos a11 (show 0 < n + 1 by omega); omega
    have x1 := mul_k (a := a0 - a5) (b := n - k) (by omega) (by omega)
    have x2 := mul_k (a := a2 - a7) (b := k) (by omega) (by omega)
    have x3 := mul_k (a := a1 - a6) (b := n - k) (by omega) (by omega)
    have x4 := mul_k (a := a3 - a8) (b := k) (by omega) (by omega)
    have x5 := mul_k (a := a4 + a9) (b := n) (by omega) (by omega)
    have y1 := mul_x (a := (a0 - a5) * (n - k) + (a2 - a7) * k) (b := (a0 - a5) * (n - k) + (a2 - a7) * k) (by omega) (by omega)
    have y2 := mul_x (a := (a1 - a6) * (n - k) + (a3 - a8) * k) (b := (a1 - a6) * (n - k) + (a3 - a8) * k) (by omega) (by omega)
    have y3 := mul_x (a := (a4 + a9) * n) (b := (a4 + a9) * n) (by omega) (by omega)
    have hap := fun h => touch_apart (p := ⟨(a0, a1), (a2, a3), a4⟩) (q := ⟨(a5, a6), (a7, a8), a9⟩) (n := n) (k := k) h hf k0 k1 n1
    rw [ht] at hap
    simp only at hap
    have HAP := Lib.hid hap
    clear hap ht hf
    have np : ¬ (n + 1 = 0) := by omega
    cases t
    · have hle := HAP.out rfl
      clear HAP
      go_enter Try.func6, Try.ntmps6
      go_upto_region 1 with (fail)
      have k0 : (((w.alloc (.cells #[.int .i64 a0, .int .i64 a1, .int .i64 a2, .int .i64 a3, .int .i64 a4] 36)).alloc (.cells #[.int .i64 a5, .int .i64 a6, .int .i64 a7, .int .i64 a8, .int .i64 a9] 36)).alloc (.cells #[.int .u8 a10, .int .u8 a11] 39)).cell? ⟨w.heap.size, 0, none⟩ = some (.int .i64 a0) := by go_simp
      have k1 : (((w.alloc (.cells #[.int .i64 a0, .int .i64 a1, .int .i64 a2, .int .i64 a3, .int .i64 a4] 36)).alloc (.cells #[.int .i64 a5, .int .i64 a6, .int .i64 a7, .int .i64 a8, .int .i64 a9] 36)).alloc (.cells #[.int .u8 a10, .int .u8 a11] 39)).cell? ⟨w.heap.size, 1, none⟩ = some (.int .i64 a1) := by go_simp
      have k2 : (((w.alloc (.cells #[.int .i64 a0, .int .i64 a1, .int .i64 a2, .int .i64 a3, .int .i64 a4] 36)).alloc (.cells #[.int .i64 a5, .int .i64 a6, .int .i64 a7, .int .i64 a8, .int .i64 a9] 36)).alloc (.cells #[.int .u8 a10, .int .u8 a11] 39)).cell? ⟨w.heap.size, 2, none⟩ = some (.int .i64 a2) := by go_simp
      have k3 : (((w.alloc (.cells #[.int .i64 a0, .int .i64 a1, .int .i64 a2, .int .i64 a3, .int .i64 a4] 36)).alloc (.cells #[.int .i64 a5, .int .i64 a6, .int .i64 a7, .int .i64 a8, .int .i64 a9] 36)).alloc (.cells #[.int .u8 a10, .int .u8 a11] 39)).cell? ⟨w.heap.size, 3, none⟩ = some (.int .i64 a3) := by go_simp
      have k4 : (((w.alloc (.cells #[.int .i64 a0, .int .i64 a1, .int .i64 a2, .int .i64 a3, .int .i64 a4] 36)).alloc (.cells #[.int .i64 a5, .int .i64 a6, .int .i64 a7, .int .i64 a8, .int .i64 a9] 36)).alloc (.cells #[.int .u8 a10, .int .u8 a11] 39)).cell? ⟨w.heap.size, 4, none⟩ = some (.int .i64 a4) := by go_simp
      have k5 : (((w.alloc (.cells #[.int .i64 a0, .int .i64 a1, .int .i64 a2, .int .i64 a3, .int .i64 a4] 36)).alloc (.cells #[.int .i64 a5, .int .i64 a6, .int .i64 a7, .int .i64 a8, .int .i64 a9] 36)).alloc (.cells #[.int .u8 a10, .int .u8 a11] 39)).cell? ⟨w.heap.size + 1, 0, none⟩ = some (.int .i64 a5) := by go_simp
      have k6 : (((w.alloc (.cells #[.int .i64 a0, .int .i64 a1, .int .i64 a2, .int .i64 a3, .int .i64 a4] 36)).alloc (.cells #[.int .i64 a5, .int .i64 a6, .int .i64 a7, .int .i64 a8, .int .i64 a9] 36)).alloc (.cells #[.int .u8 a10, .int .u8 a11] 39)).cell? ⟨w.heap.size + 1, 1, none⟩ = some (.int .i64 a6) := by go_simp
      have k7 : (((w.alloc (.cells #[.int .i64 a0, .int .i64 a1, .int .i64 a2, .int .i64 a3, .int .i64 a4] 36)).alloc (.cells #[.int .i64 a5, .int .i64 a6, .int .i64 a7, .int .i64 a8, .int .i64 a9] 36)).alloc (.cells #[.int .u8 a10, .int .u8 a11] 39)).cell? ⟨w.heap.size + 1, 2, none⟩ = some (.int .i64 a7) := by go_simp
      have k8 : (((w.alloc (.cells #[.int .i64 a0, .int .i64 a1, .int .i64 a2, .int .i64 a3, .int .i64 a4] 36)).alloc (.cells #[.int .i64 a5, .int .i64 a6, .int .i64 a7, .int .i64 a8, .int .i64 a9] 36)).alloc (.cells #[.int .u8 a10, .int .u8 a11] 39)).cell? ⟨w.heap.size + 1, 3, none⟩ = some (.int .i64 a8) := by go_simp
      have k9 : (((w.alloc (.cells #[.int .i64 a0, .int .i64 a1, .int .i64 a2, .int .i64 a3, .int .i64 a4] 36)).alloc (.cells #[.int .i64 a5, .int .i64 a6, .int .i64 a7, .int .i64 a8, .int .i64 a9] 36)).alloc (.cells #[.int .u8 a10, .int .u8 a11] 39)).cell? ⟨w.heap.size + 1, 4, none⟩ = some (.int .i64 a9) := by go_simp
      have k10 : (((w.alloc (.cells #[.int .i64 a0, .int .i64 a1, .int .i64 a2, .int .i64 a3, .int .i64 a4] 36)).alloc (.cells #[.int .i64 a5, .int .i64 a6, .int .i64 a7, .int .i64 a8, .int .i64 a9] 36)).alloc (.cells #[.int .u8 a10, .int .u8 a11] 39)).cell? ⟨w.heap.size + 2, 0, none⟩ = some (.int .u8 a10) := by go_simp
      have k11 : (((w.alloc (.cells #[.int .i64 a0, .int .i64 a1, .int .i64 a2, .int .i64 a3, .int .i64 a4] 36)).alloc (.cells #[.int .i64 a5, .int .i64 a6, .int .i64 a7, .int .i64 a8, .int .i64 a9] 36)).alloc (.cells #[.int .u8 a10, .int .u8 a11] 39)).cell? ⟨w.heap.size + 2, 1, none⟩ = some (.int .u8 a11) := by go_simp
      have g0 : Own w (((w.alloc (.cells #[.int .i64 a0, .int .i64 a1, .int .i64 a2, .int .i64 a3, .int .i64 a4] 36)).alloc (.cells #[.int .i64 a5, .int .i64 a6, .int .i64 a7, .int .i64 a8, .int .i64 a9] 36)).alloc (.cells #[.int .u8 a10, .int .u8 a11] 39)) := ((((Own.refl w).alloc _).alloc _).alloc _)
      generalize hW : (((w.alloc (.cells #[.int .i64 a0, .int .i64 a1, .int .i64 a2, .int .i64 a3, .int .i64 a4] 36)).alloc (.cells #[.int .i64 a5, .int .i64 a6, .int .i64 a7, .int .i64 a8, .int .i64 a9] 36)).alloc (.cells #[.int .u8 a10, .int .u8 a11] 39)) = W0 at *
      clear hW
      go_wp2_with (first | (go_at_call 18; refine (ptouch_at ⟨(a0, a1), (a2, a3), a4⟩ ⟨(a5, a6), (a7, a8), a9⟩ _ _ _ HD).mono ?_; rintro e w1 ⟨rfl, hg⟩; replace k0 := hg.cell k0; replace k1 := hg.cell k1; replace k2 := hg.cell k2; replace k3 := hg.cell k3; replace k4 := hg.cell k4; replace k5 := hg.cell k5; replace k6 := hg.cell k6; replace k7 := hg.cell k7; replace k8 := hg.cell k8; replace k9 := hg.cell k9; replace k10 := hg.cell k10; replace k11 := hg.cell k11; replace g0 : Own w w1 := Own.trans (by first | exact g0 | exact Own.drewN g0 _) hg; clear hg) | (go_at_call 15; refine (awake_any _).mono ?_; rintro e w1 ⟨rfl, hg⟩; replace g0 : Own w w1 := Own.trans (by first | exact g0 | exact Own.drewN g0 _) hg; clear hg))
      go_ret
      exact ⟨rfl, g0⟩
    · clear HAP
      go_enter Try.func6, Try.ntmps6
      go_upto_region 1 with (fail)
      have k0 : (((w.alloc (.cells #[.int .i64 a0, .int .i64 a1, .int .i64 a2, .int .i64 a3, .int .i64 a4] 36)).alloc (.cells #[.int .i64 a5, .int .i64 a6, .int .i64 a7, .int .i64 a8, .int .i64 a9] 36)).alloc (.cells #[.int .u8 a10, .int .u8 a11] 39)).cell? ⟨w.heap.size, 0, none⟩ = some (.int .i64 a0) := by go_simp
      have k1 : (((w.alloc (.cells #[.int .i64 a0, .int .i64 a1, .int .i64 a2, .int .i64 a3, .int .i64 a4] 36)).alloc (.cells #[.int .i64 a5, .int .i64 a6, .int .i64 a7, .int .i64 a8, .int .i64 a9] 36)).alloc (.cells #[.int .u8 a10, .int .u8 a11] 39)).cell? ⟨w.heap.size, 1, none⟩ = some (.int .i64 a1) := by go_simp
      have k2 : (((w.alloc (.cells #[.int .i64 a0, .int .i64 a1, .int .i64 a2, .int .i64 a3, .int .i64 a4] 36)).alloc (.cells #[.int .i64 a5, .int .i64 a6, .int .i64 a7, .int .i64 a8, .int .i64 a9] 36)).alloc (.cells #[.int .u8 a10, .int .u8 a11] 39)).cell? ⟨w.heap.size, 2, none⟩ = some (.int .i64 a2) := by go_simp
      have k3 : (((w.alloc (.cells #[.int .i64 a0, .int .i64 a1, .int .i64 a2, .int .i64 a3, .int .i64 a4] 36)).alloc (.cells #[.int .i64 a5, .int .i64 a6, .int .i64 a7, .int .i64 a8, .int .i64 a9] 36)).alloc (.cells #[.int .u8 a10, .int .u8 a11] 39)).cell? ⟨w.heap.size, 3, none⟩ = some (.int .i64 a3) := by go_simp
      have k4 : (((w.alloc (.cells #[.int .i64 a0, .int .i64 a1, .int .i64 a2, .int .i64 a3, .int .i64 a4] 36)).alloc (.cells #[.int .i64 a5, .int .i64 a6, .int .i64 a7, .int .i64 a8, .int .i64 a9] 36)).alloc (.cells #[.int .u8 a10, .int .u8 a11] 39)).cell? ⟨w.heap.size, 4, none⟩ = some (.int .i64 a4) := by go_simp
      have k5 : (((w.alloc (.cells #[.int .i64 a0, .int .i64 a1, .int .i64 a2, .int .i64 a3, .int .i64 a4] 36)).alloc (.cells #[.int .i64 a5, .int .i64 a6, .int .i64 a7, .int .i64 a8, .int .i64 a9] 36)).alloc (.cells #[.int .u8 a10, .int .u8 a11] 39)).cell? ⟨w.heap.size + 1, 0, none⟩ = some (.int .i64 a5) := by go_simp
      have k6 : (((w.alloc (.cells #[.int .i64 a0, .int .i64 a1, .int .i64 a2, .int .i64 a3, .int .i64 a4] 36)).alloc (.cells #[.int .i64 a5, .int .i64 a6, .int .i64 a7, .int .i64 a8, .int .i64 a9] 36)).alloc (.cells #[.int .u8 a10, .int .u8 a11] 39)).cell? ⟨w.heap.size + 1, 1, none⟩ = some (.int .i64 a6) := by go_simp
      have k7 : (((w.alloc (.cells #[.int .i64 a0, .int .i64 a1, .int .i64 a2, .int .i64 a3, .int .i64 a4] 36)).alloc (.cells #[.int .i64 a5, .int .i64 a6, .int .i64 a7, .int .i64 a8, .int .i64 a9] 36)).alloc (.cells #[.int .u8 a10, .int .u8 a11] 39)).cell? ⟨w.heap.size + 1, 2, none⟩ = some (.int .i64 a7) := by go_simp
      have k8 : (((w.alloc (.cells #[.int .i64 a0, .int .i64 a1, .int .i64 a2, .int .i64 a3, .int .i64 a4] 36)).alloc (.cells #[.int .i64 a5, .int .i64 a6, .int .i64 a7, .int .i64 a8, .int .i64 a9] 36)).alloc (.cells #[.int .u8 a10, .int .u8 a11] 39)).cell? ⟨w.heap.size + 1, 3, none⟩ = some (.int .i64 a8) := by go_simp
      have k9 : (((w.alloc (.cells #[.int .i64 a0, .int .i64 a1, .int .i64 a2, .int .i64 a3, .int .i64 a4] 36)).alloc (.cells #[.int .i64 a5, .int .i64 a6, .int .i64 a7, .int .i64 a8, .int .i64 a9] 36)).alloc (.cells #[.int .u8 a10, .int .u8 a11] 39)).cell? ⟨w.heap.size + 1, 4, none⟩ = some (.int .i64 a9) := by go_simp
      have k10 : (((w.alloc (.cells #[.int .i64 a0, .int .i64 a1, .int .i64 a2, .int .i64 a3, .int .i64 a4] 36)).alloc (.cells #[.int .i64 a5, .int .i64 a6, .int .i64 a7, .int .i64 a8, .int .i64 a9] 36)).alloc (.cells #[.int .u8 a10, .int .u8 a11] 39)).cell? ⟨w.heap.size + 2, 0, none⟩ = some (.int .u8 a10) := by go_simp
      have k11 : (((w.alloc (.cells #[.int .i64 a0, .int .i64 a1, .int .i64 a2, .int .i64 a3, .int .i64 a4] 36)).alloc (.cells #[.int .i64 a5, .int .i64 a6, .int .i64 a7, .int .i64 a8, .int .i64 a9] 36)).alloc (.cells #[.int .u8 a10, .int .u8 a11] 39)).cell? ⟨w.heap.size + 2, 1, none⟩ = some (.int .u8 a11) := by go_simp
      have g0 : Own w (((w.alloc (.cells #[.int .i64 a0, .int .i64 a1, .int .i64 a2, .int .i64 a3, .int .i64 a4] 36)).alloc (.cells #[.int .i64 a5, .int .i64 a6, .int .i64 a7, .int .i64 a8, .int .i64 a9] 36)).alloc (.cells #[.int .u8 a10, .int .u8 a11] 39)) := ((((Own.refl w).alloc _).alloc _).alloc _)
      generalize hW : (((w.alloc (.cells #[.int .i64 a0, .int .i64 a1, .int .i64 a2, .int .i64 a3, .int .i64 a4] 36)).alloc (.cells #[.int .i64 a5, .int .i64 a6, .int .i64 a7, .int .i64 a8, .int .i64 a9] 36)).alloc (.cells #[.int .u8 a10, .int .u8 a11] 39)) = W0 at *
      clear hW
      go_wp2_with (first | (go_at_call 18; refine (ptouch_at ⟨(a0, a1), (a2, a3), a4⟩ ⟨(a5, a6), (a7, a8), a9⟩ _ _ _ HD).mono ?_; rintro e w1 ⟨rfl, hg⟩; replace k0 := hg.cell k0; replace k1 := hg.cell k1; replace k2 := hg.cell k2; replace k3 := hg.cell k3; replace k4 := hg.cell k4; replace k5 := hg.cell k5; replace k6 := hg.cell k6; replace k7 := hg.cell k7; replace k8 := hg.cell k8; replace k9 := hg.cell k9; replace k10 := hg.cell k10; replace k11 := hg.cell k11; replace g0 : Own w w1 := Own.trans (by first | exact g0 | exact Own.drewN g0 _) hg; clear hg) | (go_at_call 15; refine (awake_any _).mono ?_; rintro e w1 ⟨rfl, hg⟩; replace g0 : Own w w1 := Own.trans (by first | exact g0 | exact Own.drewN g0 _) hg; clear hg))
      go_ret
      exact ⟨rfl, g0⟩
  · have ht2 := touch_err (by rw [hf]; exact hz)
    rw [ht] at ht2
    subst ht2
    have hne : (f != 0) = true := bne_iff_ne.2 hz
    clear ht hf hz
    go_enter Try.func6, Try.ntmps6
    go_upto_region 1 with (fail)
    have k0 : (((w.alloc (.cells #[.int .i64 a0, .int .i64 a1, .int .i64 a2, .int .i64 a3, .int .i64 a4] 36)).alloc (.cells #[.int .i64 a5, .int .i64 a6, .int .i64 a7, .int .i64 a8, .int .i64 a9] 36)).alloc (.cells #[.int .u8 a10, .int .u8 a11] 39)).cell? ⟨w.heap.size, 0, none⟩ = some (.int .i64 a0) := by go_simp
    have k1 : (((w.alloc (.cells #[.int .i64 a0, .int .i64 a1, .int .i64 a2, .int .i64 a3, .int .i64 a4] 36)).alloc (.cells #[.int .i64 a5, .int .i64 a6, .int .i64 a7, .int .i64 a8, .int .i64 a9] 36)).alloc (.cells #[.int .u8 a10, .int .u8 a11] 39)).cell? ⟨w.heap.size, 1, none⟩ = some (.int .i64 a1) := by go_simp
    have k2 : (((w.alloc (.cells #[.int .i64 a0, .int .i64 a1, .int .i64 a2, .int .i64 a3, .int .i64 a4] 36)).alloc (.cells #[.int .i64 a5, .int .i64 a6, .int .i64 a7, .int .i64 a8, .int .i64 a9] 36)).alloc (.cells #[.int .u8 a10, .int .u8 a11] 39)).cell? ⟨w.heap.size, 2, none⟩ = some (.int .i64 a2) := by go_simp
    have k3 : (((w.alloc (.cells #[.int .i64 a0, .int .i64 a1, .int .i64 a2, .int .i64 a3, .int .i64 a4] 36)).alloc (.cells #[.int .i64 a5, .int .i64 a6, .int .i64 a7, .int .i64 a8, .int .i64 a9] 36)).alloc (.cells #[.int .u8 a10, .int .u8 a11] 39)).cell? ⟨w.heap.size, 3, none⟩ = some (.int .i64 a3) := by go_simp
    have k4 : (((w.alloc (.cells #[.int .i64 a0, .int .i64 a1, .int .i64 a2, .int .i64 a3, .int .i64 a4] 36)).alloc (.cells #[.int .i64 a5, .int .i64 a6, .int .i64 a7, .int .i64 a8, .int .i64 a9] 36)).alloc (.cells #[.int .u8 a10, .int .u8 a11] 39)).cell? ⟨w.heap.size, 4, none⟩ = some (.int .i64 a4) := by go_simp
    have k5 : (((w.alloc (.cells #[.int .i64 a0, .int .i64 a1, .int .i64 a2, .int .i64 a3, .int .i64 a4] 36)).alloc (.cells #[.int .i64 a5, .int .i64 a6, .int .i64 a7, .int .i64 a8, .int .i64 a9] 36)).alloc (.cells #[.int .u8 a10, .int .u8 a11] 39)).cell? ⟨w.heap.size + 1, 0, none⟩ = some (.int .i64 a5) := by go_simp
    have k6 : (((w.alloc (.cells #[.int .i64 a0, .int .i64 a1, .int .i64 a2, .int .i64 a3, .int .i64 a4] 36)).alloc (.cells #[.int .i64 a5, .int .i64 a6, .int .i64 a7, .int .i64 a8, .int .i64 a9] 36)).alloc (.cells #[.int .u8 a10, .int .u8 a11] 39)).cell? ⟨w.heap.size + 1, 1, none⟩ = some (.int .i64 a6) := by go_simp
    have k7 : (((w.alloc (.cells #[.int .i64 a0, .int .i64 a1, .int .i64 a2, .int .i64 a3, .int .i64 a4] 36)).alloc (.cells #[.int .i64 a5, .int .i64 a6, .int .i64 a7, .int .i64 a8, .int .i64 a9] 36)).alloc (.cells #[.int .u8 a10, .int .u8 a11] 39)).cell? ⟨w.heap.size + 1, 2, none⟩ = some (.int .i64 a7) := by go_simp
    have k8 : (((w.alloc (.cells #[.int .i64 a0, .int .i64 a1, .int .i64 a2, .int .i64 a3, .int .i64 a4] 36)).alloc (.cells #[.int .i64 a5, .int .i64 a6, .int .i64 a7, .int .i64 a8, .int .i64 a9] 36)).alloc (.cells #[.int .u8 a10, .int .u8 a11] 39)).cell? ⟨w.heap.size + 1, 3, none⟩ = some (.int .i64 a8) := by go_simp
    have k9 : (((w.alloc (.cells #[.int .i64 a0, .int .i64 a1, .int .i64 a2, .int .i64 a3, .int .i64 a4] 36)).alloc (.cells #[.int .i64 a5, .int .i64 a6, .int .i64 a7, .int .i64 a8, .int .i64 a9] 36)).alloc (.cells #[.int .u8 a10, .int .u8 a11] 39)).cell? ⟨w.heap.size + 1, 4, none⟩ = some (.int .i64 a9) := by go_simp
    have k10 : (((w.alloc (.cells #[.int .i64 a0, .int .i64 a1, .int .i64 a2, .int .i64 a3, .int .i64 a4] 36)).alloc (.cells #[.int .i64 a5, .int .i64 a6, .int .i64 a7, .int .i64 a8, .int .i64 a9] 36)).alloc (.cells #[.int .u8 a10, .int .u8 a11] 39)).cell? ⟨w.heap.size + 2, 0, none⟩ = some (.int .u8 a10) := by go_simp
    have k11 : (((w.alloc (.cells #[.int .i64 a0, .int .i64 a1, .int .i64 a2, .int .i64 a3, .int .i64 a4] 36)).alloc (.cells #[.int .i64 a5, .int .i64 a6, .int .i64 a7, .int .i64 a8, .int .i64 a9] 36)).alloc (.cells #[.int .u8 a10, .int .u8 a11] 39)).cell? ⟨w.heap.size + 2, 1, none⟩ = some (.int .u8 a11) := by go_simp
    have g0 : Own w (((w.alloc (.cells #[.int .i64 a0, .int .i64 a1, .int .i64 a2, .int .i64 a3, .int .i64 a4] 36)).alloc (.cells #[.int .i64 a5, .int .i64 a6, .int .i64 a7, .int .i64 a8, .int .i64 a9] 36)).alloc (.cells #[.int .u8 a10, .int .u8 a11] 39)) := ((((Own.refl w).alloc _).alloc _).alloc _)
    generalize hW : (((w.alloc (.cells #[.int .i64 a0, .int .i64 a1, .int .i64 a2, .int .i64 a3, .int .i64 a4] 36)).alloc (.cells #[.int .i64 a5, .int .i64 a6, .int .i64 a7, .int .i64 a8, .int .i64 a9] 36)).alloc (.cells #[.int .u8 a10, .int .u8 a11] 39)) = W0 at *
    clear hW
    go_wp2_with (first | (go_at_call 18; refine (ptouch_at ⟨(a0, a1), (a2, a3), a4⟩ ⟨(a5, a6), (a7, a8), a9⟩ _ _ _ HD).mono ?_; rintro e w1 ⟨rfl, hg⟩; replace k0 := hg.cell k0; replace k1 := hg.cell k1; replace k2 := hg.cell k2; replace k3 := hg.cell k3; replace k4 := hg.cell k4; replace k5 := hg.cell k5; replace k6 := hg.cell k6; replace k7 := hg.cell k7; replace k8 := hg.cell k8; replace k9 := hg.cell k9; replace k10 := hg.cell k10; replace k11 := hg.cell k11; replace g0 : Own w w1 := Own.trans (by first | exact g0 | exact Own.drewN g0 _) hg; clear hg) | (go_at_call 15; refine (awake_any _).mono ?_; rintro e w1 ⟨rfl, hg⟩; replace g0 : Own w w1 := Own.trans (by first | exact g0 | exact Own.drewN g0 _) hg; clear hg))
    go_ret
    exact ⟨rfl, g0⟩
end Go.Proofs.Ytnakacflaaelnaa.GeoW
