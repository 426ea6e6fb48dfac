/-
  Walks of Round, Floor and Lerp of package num and of the specification: what each call returns for every input, at every world. Condition: the arguments are numbers of 64 bits.
-/
import Derived.Test.YtbmcompnhjbdkaaDoorNumA
namespace Go.Proofs.YtbmcompnhjbdkaaDoor.NumW
open Go.ChangeShapes Go.WideShapes Go.ChangeAt Go.RowKit
open NumP

theorem down_at (a b q r : Int) (w : World) (H : Hid (a / b = q ∧ a % b = r)) (ha0 : -1152921504606846976 ≤ a) (ha1 : a ≤ 1152921504606846976) (hb : 1 ≤ b) (hb1 : b ≤ 1152921504606846976) :
    Calls Tryd.prog 31 #[.int .i64 a, .int .i64 b] w fun e w' => e = .returned (.tuple #[.int .i64 q, .int .i64 r]) ∧ Drew w w' := by
  obtain ⟨rfl, rfl⟩ := H.out
  exact down_any a b w ha0 ha1 hb hb1

set_option maxHeartbeats 800000 in
theorem nearest_any (a b : Int) (w : World) (ha0 : -1152921504606846976 ≤ a) (ha1 : a ≤ 1152921504606846976) (hb : 1 ≤ b) (hb1 : b ≤ 1152921504606846976) :
    Calls Tryd.prog 29 #[.int .i64 a, .int .i64 b] w fun e w' => e = .returned (.int .i64 (nearV a b)) ∧ Drew w w' := by
  have hm := mod_bd a b hb
  have hd := div_bd a b _ hb ha0 ha1
  obtain ⟨q, hq⟩ : ∃ q, a / b = q := ⟨_, rfl⟩
  obtain ⟨r, hr⟩ : ∃ r, a % b = r := ⟨_, rfl⟩
  rw [hq] at hd
  rw [hr] at hm
  have H := Lib.hid (show a / b = q ∧ a % b = r from ⟨hq, hr⟩)
  clear hq hr
  by_cases c1 : b < 2 * r
  · have HN := Lib.hid (near_hi H.out c1)
    have c2 : b - r < r := by omega
    go_enter Tryd.func29, Tryd.ntmps29
    go_wp2_with (go_at_call 31; refine (down_at _ _ q r _ H (by omega) (by omega) (by omega) (by omega)).mono ?_; rintro e w' ⟨rfl, ⟨n1, rfl⟩⟩)
    go_ret
    exact ⟨ret_int HN.out.symm, (Drew.refl _).step _⟩
  · by_cases c2 : 2 * r < b
    · have HN := Lib.hid (near_lo H.out c2)
      have c3 : ¬ b - r < r := by omega
      have c4 : r < b - r := by omega
      go_enter Tryd.func29, Tryd.ntmps29
      go_wp2_with (go_at_call 31; refine (down_at _ _ q r _ H (by omega) (by omega) (by omega) (by omega)).mono ?_; rintro e w' ⟨rfl, ⟨n1, rfl⟩⟩)
      go_ret
      exact ⟨ret_int HN.out.symm, (Drew.refl _).step _⟩
    · have c3 : ¬ b - r < r := by omega
      have c4 : (r == b - r) = true := beq_iff_eq.2 (by omega)
      by_cases c5 : q % 2 = 0
      · have HN := Lib.hid (near_even H.out (by omega) c5)
        have c6 := tmod2_ne q c5
        clear c5 c1 c2
        go_enter Tryd.func29, Tryd.ntmps29
        go_wp2_with (go_at_call 31; refine (down_at _ _ q r _ H (by omega) (by omega) (by omega) (by omega)).mono ?_; rintro e w' ⟨rfl, ⟨n1, rfl⟩⟩)
        go_ret
        exact ⟨ret_int HN.out.symm, (Drew.refl _).step _⟩
      · have HN := Lib.hid (near_odd H.out (by omega) c5)
        have c6 := tmod2_eq q c5
        clear c5 c1 c2
        go_enter Tryd.func29, Tryd.ntmps29
        go_wp2_with (go_at_call 31; refine (down_at _ _ q r _ H (by omega) (by omega) (by omega) (by omega)).mono ?_; rintro e w' ⟨rfl, ⟨n1, rfl⟩⟩)
        go_ret
        exact ⟨ret_int HN.out.symm, (Drew.refl _).step _⟩

/-! ### Floor -/
set_option maxHeartbeats 800000 in
theorem floor_any (a b : Int) (w : World) :
    Calls Tryd.prog 27 #[.int .i64 a, .int .i64 b] w fun e w' => e = .returned (.tuple #[.int .i64 (floorQ a b), .int .i64 (floorR a b), .int .i64 (floorE a b)]) ∧ Drew w w' := by
  by_cases ha : smallB a = false
  · have HE := Lib.hid (floorE_range (a := a) (b := b) (Or.inl ha))
    have HV := Lib.hid (floor_err (a := a) (b := b) (by rw [HE.out]; decide))
    go_enter Tryd.func27, Tryd.ntmps27
    go_wp2_with (go_at_call 30; refine (small_any _ _).mono ?_; rintro e w' ⟨rfl, rfl⟩)
    go_ret3
    exact ⟨ret_three HV.out.1.symm HV.out.2.symm HE.out.symm, Drew.refl _⟩
  · have ha := Bool.of_not_eq_false ha
    by_cases hb : smallB b = false
    · have HE := Lib.hid (floorE_range (a := a) (b := b) (Or.inr hb))
      have HV := Lib.hid (floor_err (a := a) (b := b) (by rw [HE.out]; decide))
      go_enter Tryd.func27, Tryd.ntmps27
      go_wp2_with (go_at_call 30; refine (small_any _ _).mono ?_; rintro e w' ⟨rfl, rfl⟩)
      go_ret3
      exact ⟨ret_three HV.out.1.symm HV.out.2.symm HE.out.symm, Drew.refl _⟩
    · have hb := Bool.of_not_eq_false hb
      obtain ⟨a0, a1⟩ := (small_iff a).1 ha
      obtain ⟨b0, b1⟩ := (small_iff b).1 hb
      by_cases h0 : b = 0
      · have HE := Lib.hid (show floorE a b = 11 by rw [h0]; exact floorE_div ha)
        have HV := Lib.hid (floor_err (a := a) (b := b) (by rw [HE.out]; decide))
        have h1 : 0 ≤ b := by omega
        have h2 : b ≤ 0 := by omega
        clear h0
        go_enter Tryd.func27, Tryd.ntmps27
        go_wp2_with (go_at_call 30; refine (small_any _ _).mono ?_; rintro e w' ⟨rfl, rfl⟩)
        go_ret3
        exact ⟨ret_three HV.out.1.symm HV.out.2.symm HE.out.symm, Drew.refl _⟩
      · by_cases hn : b < 0
        · have HE := Lib.hid (floorE_neg ha hb hn)
          have HV := Lib.hid (floor_err (a := a) (b := b) (by rw [HE.out]; decide))
          clear h0
          go_enter Tryd.func27, Tryd.ntmps27
          go_wp2_with (go_at_call 30; refine (small_any _ _).mono ?_; rintro e w' ⟨rfl, rfl⟩)
          go_ret3
          exact ⟨ret_three HV.out.1.symm HV.out.2.symm HE.out.symm, Drew.refl _⟩
        · have hp : 1 ≤ b := by omega
          have HE := Lib.hid (floor_ok ha hb hp)
          have ht := tmod_bd a b hp
          have hq := tdiv_bd a b _ hp a0 a1
          clear h0 hn
          by_cases h : a.tmod b < 0
          · have H := Lib.hid (down_neg a b hp h)
            by_cases h0 : 0 ≤ a
            · exact absurd (Int.tmod_nonneg b h0) (by omega)
            · go_enter Tryd.func27, Tryd.ntmps27
              go_wp2_with (go_at_call 30; refine (small_any _ _).mono ?_; rintro e w' ⟨rfl, rfl⟩)
              go_quiet (fail)
              go_wp2
              go_ret3
              exact ⟨ret_three (H.out.1.trans HE.out.2.1.symm) (H.out.2.trans HE.out.2.2.symm) HE.out.1.symm, (Drew.refl _).step _⟩
          · have H := Lib.hid (down_pos a b hp (by omega))
            by_cases h0 : 0 ≤ a
            · have hm := mod_bd a b hp
              go_enter Tryd.func27, Tryd.ntmps27
              go_wp2_with (go_at_call 30; refine (small_any _ _).mono ?_; rintro e w' ⟨rfl, rfl⟩)
              go_quiet (fail)
              go_wp2
              go_ret3
              exact ⟨ret_three (H.out.1.trans HE.out.2.1.symm) HE.out.2.2.symm HE.out.1.symm, (Drew.refl _).step _⟩
            · go_enter Tryd.func27, Tryd.ntmps27
              go_wp2_with (go_at_call 30; refine (small_any _ _).mono ?_; rintro e w' ⟨rfl, rfl⟩)
              go_quiet (fail)
              go_wp2
              go_ret3
              exact ⟨ret_three (H.out.1.trans HE.out.2.1.symm) (H.out.2.trans HE.out.2.2.symm) HE.out.1.symm, (Drew.refl _).step _⟩

end Go.Proofs.YtbmcompnhjbdkaaDoor.NumW
