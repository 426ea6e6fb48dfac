/-
  Walks of the laws of package dir: DirGroup, DirEighths. Condition: the tables of words lie in memory (Wds).
-/
import Derived.Test.YtnkanndhmhdndaaDoorDirT
namespace Go.Proofs.YtnkanndhmhdndaaDoor.DirW
open Go.ChangeShapes Go.WideShapes Go.ChangeAt Go.RowKit
open PairW StrW DirP
set_option maxRecDepth 100000 in
set_option maxHeartbeats 2000000 in
theorem DirGroup_walk (d a b : Int) (w : World) (HT : Hid (Wds w)) :
    Calls Tryd.prog 7 #[.int .i64 d, .int .i64 a, .int .i64 b] w fun e w' => e = .returned (.bool true) ∧ Own w w' := by
  have g0 := Own.refl w
  by_cases h : 0 ≤ d ∧ d ≤ 8
  · obtain ⟨x, hx⟩ : ∃ x, rotV d a = x := ⟨_, rfl⟩
    obtain ⟨m, hm⟩ : ∃ x, mirV d = x := ⟨_, rfl⟩
    have ix := rot_in h a
    have im := mir_in h
    rw [hx] at ix
    rw [hm] at im
    obtain ⟨y, hy⟩ : ∃ y, rotV x b = y := ⟨_, rfl⟩
    obtain ⟨r, hr⟩ : ∃ r, a.tmod 8 = r := ⟨_, rfl⟩
    obtain ⟨q, hq⟩ : ∃ r, b.tmod 8 = r := ⟨_, rfl⟩
    obtain ⟨z, hz⟩ : ∃ z, rotV m (-r) = z := ⟨_, rfl⟩
    have br : -8 < r ∧ r < 8 ∧ (a - r) % 8 = 0 := by
      have e1 := Int.mul_tdiv_add_tmod a 8
      have e2 := Int.tmod_lt_of_pos a (show (0 : Int) < 8 by decide)
      have e3 := Int.lt_tmod_of_pos a (show (0 : Int) < 8 by decide)
      rw [← hr]
      omega
    have bq : -8 < q ∧ q < 8 ∧ (b - q) % 8 = 0 := by
      have e1 := Int.mul_tdiv_add_tmod b 8
      have e2 := Int.tmod_lt_of_pos b (show (0 : Int) < 8 by decide)
      have e3 := Int.lt_tmod_of_pos b (show (0 : Int) < 8 by decide)
      rw [← hq]
      omega
    have e0 : ∀ u : Int, 0 ≤ u ∧ u ≤ 8 → dirE u = 0 := fun u hu => if_pos hu
    have HX := Lib.hid (And.intro hx (e0 d h))
    have HM := Lib.hid (And.intro hm (e0 d h))
    have HY := Lib.hid (And.intro hy (e0 x ⟨ix.1, ix.2.1⟩))
    have HZ := Lib.hid (And.intro hz (e0 m ⟨im.1, im.2.1⟩))
    have HA := Lib.hid (show rotV d (r + q) = y ∧ dirE d = 0 from ⟨by rw [← hy, ← hx]; exact (rot_add h a b (r + q) (by omega)).symm, e0 d h⟩)
    have HB := Lib.hid (show rotV d 8 = d ∧ dirE d = 0 from ⟨rot_eight h, e0 d h⟩)
    have HC := Lib.hid (show mirV m = d ∧ dirE m = 0 from ⟨by rw [← hm]; exact mir_mir h, e0 m ⟨im.1, im.2.1⟩⟩)
    have HD := Lib.hid (show mirV x = z ∧ dirE x = 0 from ⟨by rw [← hz, ← hm, ← hx]; exact (mir_rot h a (-r) (by omega)).symm, e0 x ⟨ix.1, ix.2.1⟩⟩)
    have b1 : decide (d < 0) = false := decide_eq_false (by omega)
    have b2 : decide (8 < d) = false := decide_eq_false (by omega)
    have k1 : IntKind.i64.wrap (r + q) = r + q := IntWalk.i64_in _ (by omega)
    have k2 : IntKind.i64.wrap (-r) = -r := IntWalk.i64_in _ (by omega)
    obtain ⟨t, t1⟩ : ∃ t, (d == 0) = t := ⟨_, rfl⟩
    have t2 : (x == 0) = t := by rw [← t1, Bool.eq_iff_iff, beq_iff_eq, beq_iff_eq]; exact ix.2.2
    have t3 : (m == 0) = t := by rw [← t1, Bool.eq_iff_iff, beq_iff_eq, beq_iff_eq]; exact im.2.2
    clear h hx hm hy hz ix im br bq e0
    go_enter Tryd.func7, Tryd.ntmps7
    go_wp2_with (first
      | (go_at_call 18; with_reducible refine (protate_at d a x 0 _ HX).mono ?_; rintro e w1 ⟨rfl, rfl⟩)
      | (go_at_call 18; with_reducible refine (protate_at x b y 0 _ HY).mono ?_; rintro e w1 ⟨rfl, rfl⟩)
      | (go_at_call 18; with_reducible refine (protate_at m (-r) z 0 _ HZ).mono ?_; rintro e w1 ⟨rfl, rfl⟩)
      | (go_at_call 11; with_reducible refine (pmirror_at d m 0 _ HM).mono ?_; rintro e w1 ⟨rfl, rfl⟩)
      | (go_at_call 24; with_reducible refine (rotates_yes y d (r + q) _ HA).mono ?_; rintro e w1 ⟨rfl, rfl⟩)
      | (go_at_call 24; with_reducible refine (rotates_yes d d 8 _ HB).mono ?_; rintro e w1 ⟨rfl, rfl⟩)
      | (go_at_call 25; with_reducible refine (mirrors_yes d m _ HC).mono ?_; rintro e w1 ⟨rfl, rfl⟩)
      | (go_at_call 25; with_reducible refine (mirrors_yes z x _ HD).mono ?_; rintro e w1 ⟨rfl, rfl⟩)
      | (go_at_call 17; with_reducible refine (awake_at _ (Lib.hid (HT.out.own g0))).mono ?_; rintro e w9 ⟨rfl, hg⟩; replace g0 : Own w w9 := g0.trans hg; clear hg))
    go_ret
    exact ⟨rfl, g0⟩
  · by_cases k : d < 0
    · have b1 : decide (d < 0) = true := decide_eq_true k
      have HX := Lib.hid (show rotV d a = 0 ∧ dirE d = 1 by unfold rotV dirE; rw [if_neg h, if_neg h]; exact ⟨rfl, rfl⟩)
      have HM := Lib.hid (show mirV d = 0 ∧ dirE d = 1 by unfold mirV dirE; rw [if_neg h, if_neg h]; exact ⟨rfl, rfl⟩)
      clear h k
      go_enter Tryd.func7, Tryd.ntmps7
      go_wp2_with (first
        | (go_at_call 18; with_reducible refine (protate_at d a 0 1 _ HX).mono ?_; rintro e w1 ⟨rfl, rfl⟩)
        | (go_at_call 11; with_reducible refine (pmirror_at d 0 1 _ HM).mono ?_; rintro e w1 ⟨rfl, rfl⟩)
        | (go_at_call 17; with_reducible refine (awake_at _ (Lib.hid (HT.out.own g0))).mono ?_; rintro e w9 ⟨rfl, hg⟩; replace g0 : Own w w9 := g0.trans hg; clear hg))
      go_ret
      exact ⟨rfl, g0⟩
    · have b1 : decide (d < 0) = false := decide_eq_false k
      have b2 : decide (8 < d) = true := decide_eq_true (by omega)
      have HX := Lib.hid (show rotV d a = 0 ∧ dirE d = 1 by unfold rotV dirE; rw [if_neg h, if_neg h]; exact ⟨rfl, rfl⟩)
      have HM := Lib.hid (show mirV d = 0 ∧ dirE d = 1 by unfold mirV dirE; rw [if_neg h, if_neg h]; exact ⟨rfl, rfl⟩)
      clear h k
      go_enter Tryd.func7, Tryd.ntmps7
      go_wp2_with (first
        | (go_at_call 18; with_reducible refine (protate_at d a 0 1 _ HX).mono ?_; rintro e w1 ⟨rfl, rfl⟩)
        | (go_at_call 11; with_reducible refine (pmirror_at d 0 1 _ HM).mono ?_; rintro e w1 ⟨rfl, rfl⟩)
        | (go_at_call 17; with_reducible refine (awake_at _ (Lib.hid (HT.out.own g0))).mono ?_; rintro e w9 ⟨rfl, hg⟩; replace g0 : Own w w9 := g0.trans hg; clear hg))
      go_ret
      exact ⟨rfl, g0⟩
set_option maxRecDepth 100000 in
set_option maxHeartbeats 2000000 in
theorem DirEighths_walk (d n : Int) (w : World) (HT : Hid (Wds w)) :
    Calls Tryd.prog 8 #[.int .i64 d, .int .i64 n] w fun e w' => e = .returned (.bool true) ∧ Own w w' := by
  have g0 := Own.refl w
  obtain ⟨y, hy⟩ : ∃ y, rotV 1 n = y := ⟨_, rfl⟩
  have iy : 1 ≤ y ∧ y ≤ 8 ∧ y = n % 8 + 1 := by
    have := rot_of (d := 1) (by omega) n
    omega
  obtain ⟨z, hz⟩ : ∃ z, y - 1 = z := ⟨_, rfl⟩
  obtain ⟨r, hr⟩ : ∃ r, n.tmod 8 = r := ⟨_, rfl⟩
  have br : -8 < r ∧ r < 8 ∧ (n - r) % 8 = 0 := by
    have e1 := Int.mul_tdiv_add_tmod n 8
    have e2 := Int.tmod_lt_of_pos n (show (0 : Int) < 8 by decide)
    have e3 := Int.lt_tmod_of_pos n (show (0 : Int) < 8 by decide)
    rw [← hr]
    omega
  have HY := Lib.hid (show rotV 1 n = y ∧ dirE 1 = 0 from ⟨hy, rfl⟩)
  have HZ := Lib.hid (show eigV y = z ∧ eigE y = 0 by unfold eigV eigE; rw [if_pos (by omega), if_pos (by omega), if_neg (by omega)]; exact ⟨hz, rfl⟩)
  have b1 : decide (0 ≤ z) = true := decide_eq_true (by omega)
  have b2 : decide (z ≤ 7) = true := decide_eq_true (by omega)
  have k1 : IntKind.i64.wrap (r - z) = r - z := IntWalk.i64_in _ (by omega)
  have k2 : (r - z).tmod 8 = 0 := Int.tmod_eq_zero_of_dvd (by omega)
  clear hy iy hz br
  by_cases h : 1 ≤ d ∧ d ≤ 8
  · have HX := Lib.hid (show eigV d = d - 1 ∧ eigE d = 0 by unfold eigV eigE; rw [if_pos h, if_pos (by omega), if_neg (by omega)]; exact ⟨rfl, rfl⟩)
    have HR := Lib.hid (show rotV 1 (d - 1) = d ∧ dirE 1 = 0 from ⟨rot_eig h, rfl⟩)
    have c1 : decide (d - 1 < 0) = false := decide_eq_false (by omega)
    have c2 : decide (7 < d - 1) = false := decide_eq_false (by omega)
    generalize d - 1 = x at *
    clear h
    go_enter Tryd.func8, Tryd.ntmps8
    go_wp2_with (first
      | (go_at_call 13; with_reducible refine (peighth_at d x 0 _ HX).mono ?_; rintro e w1 ⟨rfl, rfl⟩)
      | (go_at_call 24; with_reducible refine (rotates_yes d 1 x _ HR).mono ?_; rintro e w1 ⟨rfl, rfl⟩)
      | (go_at_call 18; with_reducible refine (protate_at 1 n y 0 _ HY).mono ?_; rintro e w1 ⟨rfl, rfl⟩)
      | (go_at_call 13; with_reducible refine (peighth_at y z 0 _ HZ).mono ?_; rintro e w1 ⟨rfl, rfl⟩)
      | (go_at_call 17; with_reducible refine (awake_at _ (Lib.hid (HT.out.own g0))).mono ?_; rintro e w9 ⟨rfl, hg⟩; replace g0 : Own w w9 := g0.trans hg; clear hg))
    go_ret
    exact ⟨rfl, g0⟩
  · obtain ⟨f, hf⟩ : ∃ f, eigE d = f := ⟨_, rfl⟩
    have c1 : (f == 0) = false := beq_eq_false_iff_ne.2 (by
      rw [← hf]
      unfold eigE
      by_cases k : 0 ≤ d ∧ d ≤ 8
      · rw [if_pos k, if_pos (by omega)]; decide
      · rw [if_neg k]; decide)
    have HX := Lib.hid (show eigV d = 0 ∧ eigE d = f from ⟨by unfold eigV; rw [if_neg h], hf⟩)
    clear h hf
    go_enter Tryd.func8, Tryd.ntmps8
    go_wp2_with (first
      | (go_at_call 13; with_reducible refine (peighth_at d 0 f _ HX).mono ?_; rintro e w1 ⟨rfl, rfl⟩)
      | (go_at_call 18; with_reducible refine (protate_at 1 n y 0 _ HY).mono ?_; rintro e w1 ⟨rfl, rfl⟩)
      | (go_at_call 13; with_reducible refine (peighth_at y z 0 _ HZ).mono ?_; rintro e w1 ⟨rfl, rfl⟩)
      | (go_at_call 17; with_reducible refine (awake_at _ (Lib.hid (HT.out.own g0))).mono ?_; rintro e w9 ⟨rfl, hg⟩; replace g0 : Own w w9 := g0.trans hg; clear hg))
    go_ret
    exact ⟨rfl, g0⟩
end Go.Proofs.YtnkanndhmhdndaaDoor.DirW
