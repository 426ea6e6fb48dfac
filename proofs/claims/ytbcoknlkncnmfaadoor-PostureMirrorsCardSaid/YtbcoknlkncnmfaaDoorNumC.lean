/-
  Walks of Round and Lerp of package num and of Round, Floor and Lerp of the specification: what each call returns for every input, at every world. Condition: the arguments are numbers of 64 bits.
-/
import Derived.Test.YtbcoknlkncnmfaaDoorNumB
namespace Go.Proofs.YtbcoknlkncnmfaaDoor.NumW
open Go.ChangeShapes Go.WideShapes Go.ChangeAt Go.RowKit
open NumP

theorem floor_at (a b q r f : Int) (w : World) (H : Hid (floorQ a b = q ∧ floorR a b = r ∧ floorE a b = f)) :
    Calls Tryd.prog 87 #[.int .i64 a, .int .i64 b] w fun e w' => e = .returned (.tuple #[.int .i64 q, .int .i64 r, .int .i64 f]) ∧ Drew w w' := by
  obtain ⟨rfl, rfl, rfl⟩ := H.out
  exact floor_any a b w

theorem neg_small (a : Int) (h0 : -9223372036854775808 ≤ a) (h1 : a ≤ 9223372036854775807) : smallB (wrap64 (-a)) = smallB a := by
  rw [Bool.eq_iff_iff, small_iff, small_iff]
  unfold wrap64
  omega

/-- Round where an argument isn't small. -/
theorem round_bad (a b : Int) (w : World) (ha0 : -9223372036854775808 ≤ a) (ha1 : a ≤ 9223372036854775807) (hb0 : -9223372036854775808 ≤ b) (hb1 : b ≤ 9223372036854775807) (h : smallB a = false ∨ smallB b = false) :
    Calls Tryd.prog 84 #[.int .i64 a, .int .i64 b] w fun e w' => e = .returned (.tuple #[.int .i64 0, .int .i64 1]) ∧ Drew w w' := by
  by_cases hn : b < 0
  · have HE := floorE_range (a := wrap64 (-a)) (b := wrap64 (-b)) (by rw [neg_small a ha0 ha1, neg_small b hb0 hb1]; exact h)
    have HV := floor_err (a := wrap64 (-a)) (b := wrap64 (-b)) (by rw [HE]; decide)
    have HF := Lib.hid (show floorQ (wrap64 (-a)) (wrap64 (-b)) = 0 ∧ floorR (wrap64 (-a)) (wrap64 (-b)) = 0 ∧ floorE (wrap64 (-a)) (wrap64 (-b)) = 1 from ⟨HV.1, HV.2, HE⟩)
    clear HE HV h ha0 ha1 hb0 hb1
    go_enter Tryd.func84, Tryd.ntmps84
    go_wp2_with (go_at_call 87; refine (floor_at _ _ 0 0 1 _ HF).mono ?_; rintro e w' ⟨rfl, ⟨n1, rfl⟩⟩)
    go_ret2
    exact ⟨rfl, (Drew.refl _).step _⟩
  · have HE := floorE_range h
    have HV := floor_err (a := a) (b := b) (by rw [HE]; decide)
    have HF := Lib.hid (show floorQ a b = 0 ∧ floorR a b = 0 ∧ floorE a b = 1 from ⟨HV.1, HV.2, HE⟩)
    clear HE HV h ha0 ha1 hb0 hb1
    go_enter Tryd.func84, Tryd.ntmps84
    go_wp2_with (go_at_call 87; refine (floor_at _ _ 0 0 1 _ HF).mono ?_; rintro e w' ⟨rfl, ⟨n1, rfl⟩⟩)
    go_ret2
    exact ⟨rfl, (Drew.refl _).step _⟩

/-- Round by 0. -/
theorem round_zero (a : Int) (w : World) (ha : smallB a = true) :
    Calls Tryd.prog 84 #[.int .i64 a, .int .i64 0] w fun e w' => e = .returned (.tuple #[.int .i64 0, .int .i64 11]) ∧ Drew w w' := by
  have HE := floorE_div ha
  have HV := floor_err (a := a) (b := 0) (by rw [HE]; decide)
  have HF := Lib.hid (show floorQ a 0 = 0 ∧ floorR a 0 = 0 ∧ floorE a 0 = 11 from ⟨HV.1, HV.2, HE⟩)
  clear HE HV ha
  go_enter Tryd.func84, Tryd.ntmps84
  go_wp2_with (go_at_call 87; refine (floor_at _ _ 0 0 11 _ HF).mono ?_; rintro e w' ⟨rfl, ⟨n1, rfl⟩⟩)
  go_ret2
  exact ⟨rfl, (Drew.refl _).step _⟩

set_option maxHeartbeats 800000 in
/-- Round by a positive number. -/
theorem round_pos (a b : Int) (w : World) (ha : smallB a = true) (hs : smallB b = true) (hb : 1 ≤ b) :
    Calls Tryd.prog 84 #[.int .i64 a, .int .i64 b] w fun e w' => e = .returned (.tuple #[.int .i64 (nearV a b), .int .i64 0]) ∧ Drew w w' := by
  obtain ⟨a0, a1⟩ := (small_iff a).1 ha
  obtain ⟨b0, b1⟩ := (small_iff b).1 hs
  have hm := mod_bd a b hb
  have hd := div_bd a b _ hb a0 a1
  have ho := floor_ok ha hs hb
  obtain ⟨q, hq⟩ : ∃ q, a / b = q := ⟨_, rfl⟩
  obtain ⟨r, hr⟩ : ∃ r, a % b = r := ⟨_, rfl⟩
  rw [hq] at hd
  rw [hr] at hm
  rw [hq, hr] at ho
  have H := Lib.hid (show a / b = q ∧ a % b = r from ⟨hq, hr⟩)
  have HF := Lib.hid (show floorQ a b = q ∧ floorR a b = r ∧ floorE a b = 0 from ⟨ho.2.1, ho.2.2, ho.1⟩)
  clear hq hr ho ha hs
  have hn : ¬ b < 0 := by omega
  by_cases c5 : q % 2 = 0
  · have c6 := tmod2_ne q c5
    by_cases c1 : b < 2 * r
    · have HN := Lib.hid (near_hi H.out c1)
      clear c5
      go_enter Tryd.func84, Tryd.ntmps84
      go_wp2_with (go_at_call 87; refine (floor_at _ _ q r 0 _ HF).mono ?_; rintro e w' ⟨rfl, ⟨n1, rfl⟩⟩)
      go_ret2
      exact ⟨ret_two HN.out.symm rfl, (Drew.refl _).step _⟩
    · by_cases c2 : 2 * r < b
      · have HN := Lib.hid (near_lo H.out c2)
        clear c5
        go_enter Tryd.func84, Tryd.ntmps84
        go_wp2_with (go_at_call 87; refine (floor_at _ _ q r 0 _ HF).mono ?_; rintro e w' ⟨rfl, ⟨n1, rfl⟩⟩)
        go_ret2
        exact ⟨ret_two HN.out.symm rfl, (Drew.refl _).step _⟩
      · have HN := Lib.hid (near_even H.out (by omega) c5)
        have c4 : (2 * r == b) = true := beq_iff_eq.2 (by omega)
        clear c5 c2
        go_enter Tryd.func84, Tryd.ntmps84
        go_wp2_with (go_at_call 87; refine (floor_at _ _ q r 0 _ HF).mono ?_; rintro e w' ⟨rfl, ⟨n1, rfl⟩⟩)
        go_ret2
        exact ⟨ret_two HN.out.symm rfl, (Drew.refl _).step _⟩
  · have c6 := tmod2_eq q c5
    by_cases c1 : b < 2 * r
    · have HN := Lib.hid (near_hi H.out c1)
      clear c5
      go_enter Tryd.func84, Tryd.ntmps84
      go_wp2_with (go_at_call 87; refine (floor_at _ _ q r 0 _ HF).mono ?_; rintro e w' ⟨rfl, ⟨n1, rfl⟩⟩)
      go_ret2
      exact ⟨ret_two HN.out.symm rfl, (Drew.refl _).step _⟩
    · by_cases c2 : 2 * r < b
      · have HN := Lib.hid (near_lo H.out c2)
        clear c5
        go_enter Tryd.func84, Tryd.ntmps84
        go_wp2_with (go_at_call 87; refine (floor_at _ _ q r 0 _ HF).mono ?_; rintro e w' ⟨rfl, ⟨n1, rfl⟩⟩)
        go_ret2
        exact ⟨ret_two HN.out.symm rfl, (Drew.refl _).step _⟩
      · have HN := Lib.hid (near_odd H.out (by omega) c5)
        have c4 : (2 * r == b) = true := beq_iff_eq.2 (by omega)
        clear c5 c2
        go_enter Tryd.func84, Tryd.ntmps84
        go_wp2_with (go_at_call 87; refine (floor_at _ _ q r 0 _ HF).mono ?_; rintro e w' ⟨rfl, ⟨n1, rfl⟩⟩)
        go_ret2
        exact ⟨ret_two HN.out.symm rfl, (Drew.refl _).step _⟩
set_option maxHeartbeats 800000 in
/-- Round by a negative number. -/
theorem round_neg (a b : Int) (w : World) (ha : smallB a = true) (hs : smallB b = true) (hb : 1 ≤ b) :
    Calls Tryd.prog 84 #[.int .i64 (-a), .int .i64 (-b)] w fun e w' => e = .returned (.tuple #[.int .i64 (nearV a b), .int .i64 0]) ∧ Drew w w' := by
  obtain ⟨a0, a1⟩ := (small_iff a).1 ha
  obtain ⟨b0, b1⟩ := (small_iff b).1 hs
  have hm := mod_bd a b hb
  have hd := div_bd a b _ hb a0 a1
  have ho := floor_ok ha hs hb
  obtain ⟨q, hq⟩ : ∃ q, a / b = q := ⟨_, rfl⟩
  obtain ⟨r, hr⟩ : ∃ r, a % b = r := ⟨_, rfl⟩
  rw [hq] at hd
  rw [hr] at hm
  rw [hq, hr] at ho
  have H := Lib.hid (show a / b = q ∧ a % b = r from ⟨hq, hr⟩)
  have HF := Lib.hid (show floorQ a b = q ∧ floorR a b = r ∧ floorE a b = 0 from ⟨ho.2.1, ho.2.2, ho.1⟩)
  clear hq hr ho ha hs
  have hn : -b < 0 := by omega
  by_cases c5 : q % 2 = 0
  · have c6 := tmod2_ne q c5
    by_cases c1 : b < 2 * r
    · have HN := Lib.hid (near_hi H.out c1)
      clear c5
      go_enter Tryd.func84, Tryd.ntmps84
      go_wp2_with (go_at_call 87; refine (floor_at _ _ q r 0 _ HF).mono ?_; rintro e w' ⟨rfl, ⟨n1, rfl⟩⟩)
      go_ret2
      exact ⟨ret_two HN.out.symm rfl, (Drew.refl _).step _⟩
    · by_cases c2 : 2 * r < b
      · have HN := Lib.hid (near_lo H.out c2)
        clear c5
        go_enter Tryd.func84, Tryd.ntmps84
        go_wp2_with (go_at_call 87; refine (floor_at _ _ q r 0 _ HF).mono ?_; rintro e w' ⟨rfl, ⟨n1, rfl⟩⟩)
        go_ret2
        exact ⟨ret_two HN.out.symm rfl, (Drew.refl _).step _⟩
      · have HN := Lib.hid (near_even H.out (by omega) c5)
        have c4 : (2 * r == b) = true := beq_iff_eq.2 (by omega)
        clear c5 c2
        go_enter Tryd.func84, Tryd.ntmps84
        go_wp2_with (go_at_call 87; refine (floor_at _ _ q r 0 _ HF).mono ?_; rintro e w' ⟨rfl, ⟨n1, rfl⟩⟩)
        go_ret2
        exact ⟨ret_two HN.out.symm rfl, (Drew.refl _).step _⟩
  · have c6 := tmod2_eq q c5
    by_cases c1 : b < 2 * r
    · have HN := Lib.hid (near_hi H.out c1)
      clear c5
      go_enter Tryd.func84, Tryd.ntmps84
      go_wp2_with (go_at_call 87; refine (floor_at _ _ q r 0 _ HF).mono ?_; rintro e w' ⟨rfl, ⟨n1, rfl⟩⟩)
      go_ret2
      exact ⟨ret_two HN.out.symm rfl, (Drew.refl _).step _⟩
    · by_cases c2 : 2 * r < b
      · have HN := Lib.hid (near_lo H.out c2)
        clear c5
        go_enter Tryd.func84, Tryd.ntmps84
        go_wp2_with (go_at_call 87; refine (floor_at _ _ q r 0 _ HF).mono ?_; rintro e w' ⟨rfl, ⟨n1, rfl⟩⟩)
        go_ret2
        exact ⟨ret_two HN.out.symm rfl, (Drew.refl _).step _⟩
      · have HN := Lib.hid (near_odd H.out (by omega) c5)
        have c4 : (2 * r == b) = true := beq_iff_eq.2 (by omega)
        clear c5 c2
        go_enter Tryd.func84, Tryd.ntmps84
        go_wp2_with (go_at_call 87; refine (floor_at _ _ q r 0 _ HF).mono ?_; rintro e w' ⟨rfl, ⟨n1, rfl⟩⟩)
        go_ret2
        exact ⟨ret_two HN.out.symm rfl, (Drew.refl _).step _⟩

end Go.Proofs.YtbcoknlkncnmfaaDoor.NumW
