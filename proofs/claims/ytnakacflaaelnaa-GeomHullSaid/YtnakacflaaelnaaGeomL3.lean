/-
  Walks of the laws GeomHull and GeomInside: each returns true for every input. Condition: none.
-/
import Derived.Test.YtnakacflaaelnaaGeomI
namespace Go.Proofs.Ytnakacflaaelnaa.GeoW
open Go.ChangeShapes Go.WideShapes Go.ChangeAt Go.RowKit
open NumP NumW GeoP

set_option maxRecDepth 100000 in
set_option maxHeartbeats 4000000 in
theorem GeomHull_walk (l : List Pt) (sv : Value) (w : World) (HP : Hid (Pts w sv l)) :
    Calls Try.prog 7 #[sv] w fun e w' => e = .returned (.bool true) ∧ Own w w' := by
  obtain ⟨A, cap, hsv, hc1, hc2, _⟩ := HP.out.open
  obtain ⟨n, hn⟩ : ∃ n, l.length = n := ⟨_, rfl⟩
  rw [hn] at hsv hc1
  unfold maxLen at hc2
  clear hn
  subst hsv
  have g0 := Own.refl w
  by_cases h : 20 < n
  · have h2 : decide ((20 : Int) < n) = true := decide_eq_true (by omega)
    go_enter Try.func7, Try.ntmps7
    go_wp2_with (go_at_call 15; refine (awake_any _).mono ?_; rintro e w1 ⟨rfl, hg⟩; replace g0 : Own w w1 := g0.trans hg; clear hg)
    go_ret
    exact ⟨rfl, g0⟩
  · obtain ⟨f, hf⟩ : ∃ f, hullE l = f := ⟨_, rfl⟩
    have HF := Lib.hid hf
    clear hf
    go_enter Try.func7, Try.ntmps7
    go_wp2_with (go_at_call 20; refine (phull_at l _ _ HP).mono ?_)
    rintro e w2 ⟨hv, rfl, hk, hg⟩
    rw [HF.out]
    have HK := Lib.hid hk
    replace HP := Lib.hid (HP.out.own hg)
    replace g0 : Own w w2 := g0.trans hg
    clear hg hk
    go_wp2_with (go_at_call 21; refine (rhull_at l _ _ HP).mono ?_)
    rintro e w3 ⟨hv2, rfl, hk, hg⟩
    rw [HF.out]
    have HK2 := Lib.hid hk
    replace HK := Lib.hid (HK.out.own hg)
    replace g0 : Own w w3 := g0.trans hg
    clear hg hk HP
    go_wp2_with (first
      | (go_at_call 22; refine (rsame_at (hullL l) (hullL l) _ _ true _ HK HK2 (Lib.hid (decide_eq_true rfl))).mono ?_; rintro e w1 ⟨rfl, hg⟩; replace g0 : Own w w1 := g0.trans hg; clear hg)
      | (go_at_call 15; refine (awake_any _).mono ?_; rintro e w1 ⟨rfl, hg⟩; replace g0 : Own w w1 := g0.trans hg; clear hg))
    go_ret
    exact ⟨rfl, g0⟩

set_option maxRecDepth 100000 in
set_option maxHeartbeats 4000000 in
theorem GeomInside_walk (p : Pt) (l : List Pt) (sv : Value) (w : World) (HP : Hid (Pts w sv l)) :
    Calls Try.prog 8 #[.agg #[.int .i64 p.1, .int .i64 p.2], sv] w fun e w' => e = .returned (.bool true) ∧ Own w w' := by
  obtain ⟨A, cap, hsv, hc1, hc2, _⟩ := HP.out.open
  obtain ⟨n, hn⟩ : ∃ n, l.length = n := ⟨_, rfl⟩
  rw [hn] at hsv hc1
  unfold maxLen at hc2
  clear hn
  subst hsv
  obtain ⟨t, ht⟩ : ∃ t, insideV p l = t := ⟨_, rfl⟩
  obtain ⟨f, hf⟩ : ∃ t, insideE p l = t := ⟨_, rfl⟩
  have HI := Lib.hid (And.intro ht hf)
  clear ht hf
  obtain ⟨px, py⟩ := p
  by_cases h : 20 < n
  · have h2 : decide ((20 : Int) < n) = true := decide_eq_true (by omega)
    have g0 := (Own.refl w).alloc (.cells #[.int .i64 px, .int .i64 py] 23)
    go_enter Try.func8, Try.ntmps8
    go_wp2_with (go_at_call 15; refine (awake_any _).mono ?_; rintro e w1 ⟨rfl, hg⟩; replace g0 : Own w w1 := g0.trans hg; clear hg)
    go_ret
    exact ⟨rfl, g0⟩
  · go_enter Try.func8, Try.ntmps8
    go_upto_region 1 with (fail)
    have k0 : (w.alloc (.cells #[.int .i64 px, .int .i64 py] 23)).cell? ⟨w.heap.size, 0, none⟩ = some (.int .i64 px) := by go_simp
    have k1 : (w.alloc (.cells #[.int .i64 px, .int .i64 py] 23)).cell? ⟨w.heap.size, 1, none⟩ = some (.int .i64 py) := by go_simp
    have g0 : Own w (w.alloc (.cells #[.int .i64 px, .int .i64 py] 23)) := (Own.refl w).alloc _
    replace HP := Lib.hid (HP.out.own g0)
    generalize (w.alloc (.cells #[.int .i64 px, .int .i64 py] 23)) = W0 at *
    go_wp2_with (first
      | (go_at_call 23; refine (pinside_at (px, py) l _ t f _ HP HI).mono ?_; rintro e w1 ⟨rfl, hg⟩; replace k0 := hg.cell k0; replace k1 := hg.cell k1; replace HP := Lib.hid (HP.out.own hg); replace g0 : Own w w1 := g0.trans hg; clear hg)
      | (go_at_call 24; refine (rinside_at (px, py) l _ t f _ HP HI).mono ?_; rintro e w1 ⟨rfl, hg⟩; replace k0 := hg.cell k0; replace k1 := hg.cell k1; replace HP := Lib.hid (HP.out.own hg); replace g0 : Own w w1 := g0.trans hg; clear hg)
      | (go_at_call 15; refine (awake_any _).mono ?_; rintro e w1 ⟨rfl, hg⟩; replace g0 : Own w w1 := g0.trans hg; clear hg))
    go_ret
    exact ⟨rfl, g0⟩
end Go.Proofs.Ytnakacflaaelnaa.GeoW
