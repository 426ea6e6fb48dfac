/-
  Walks of Round and Lerp of package num: what each call returns for every input, at every world. Condition: Round's arguments are numbers of 64 bits.
-/
import Derived.Test.YtpgeiflbmcjaaaaNumC
namespace Go.Proofs.Ytpgeiflbmcjaaaa.NumW
open Go.ChangeShapes Go.WideShapes Go.ChangeAt Go.RowKit
open NumP
theorem small_neg (a : Int) : smallB (-a) = smallB a := by rw [Bool.eq_iff_iff, small_iff, small_iff]; omega

/-- Round, whatever the arguments are. -/
theorem round_any (a b : Int) (w : World) (ha0 : -9223372036854775808 ≤ a) (ha1 : a ≤ 9223372036854775807) (hb0 : -9223372036854775808 ≤ b) (hb1 : b ≤ 9223372036854775807) :
    Calls Try.prog 38 #[.int .i64 a, .int .i64 b] w fun e w' => e = .returned (.tuple #[.int .i64 (roundV a b), .int .i64 (roundE a b)]) ∧ Drew w w' := by
  by_cases h : smallB a = false ∨ smallB b = false
  · have HE := roundE_range h
    have HV := round_err (a := a) (b := b) (by rw [HE]; decide)
    rw [HE, HV]
    exact round_bad a b w ha0 ha1 hb0 hb1 h
  · have ha : smallB a = true := Bool.of_not_eq_false fun x => h (Or.inl x)
    have hb : smallB b = true := Bool.of_not_eq_false fun x => h (Or.inr x)
    by_cases h0 : b = 0
    · subst h0
      rw [roundE_div ha, round_err (by rw [roundE_div ha]; decide)]
      exact round_zero a w ha
    · have ho := round_ok ha hb h0
      rw [ho.1, ho.2]
      by_cases hn : b < 0
      · rw [if_pos hn]
        have := round_neg (-a) (-b) w (by rw [small_neg]; exact ha) (by rw [small_neg]; exact hb) (by omega)
        rw [Int.neg_neg, Int.neg_neg] at this
        exact this
      · rw [if_neg hn]
        exact round_pos a b w ha hb (by omega)
theorem round_at (a b v f : Int) (w : World) (H : Hid (roundV a b = v ∧ roundE a b = f)) (ha0 : -9223372036854775808 ≤ a) (ha1 : a ≤ 9223372036854775807) (hb0 : -9223372036854775808 ≤ b) (hb1 : b ≤ 9223372036854775807) :
    Calls Try.prog 38 #[.int .i64 a, .int .i64 b] w fun e w' => e = .returned (.tuple #[.int .i64 v, .int .i64 f]) ∧ Drew w w' := by
  obtain ⟨rfl, rfl⟩ := H.out
  exact round_any a b w ha0 ha1 hb0 hb1

/-! ### Lerp -/
theorem lerpOk_false (a b k d : Int) : lerpOk a b k d = false ↔ endB a = false ∨ endB b = false ∨ d < 1 ∨ 524288 < d ∨ k < 0 ∨ d < k := by
  rw [← Bool.not_eq_true, lerpOk_iff, end_not, end_not]; omega

set_option maxHeartbeats 800000 in
theorem lerp_yes (a b k d : Int) (w : World) (h : lerpOk a b k d = true) :
    Calls Try.prog 42 #[.int .i64 a, .int .i64 b, .int .i64 k, .int .i64 d] w fun e w' => e = .returned (.tuple #[.int .i64 (lerpV a b k d), .int .i64 (lerpE a b k d)]) ∧ Drew w w' := by
  obtain ⟨h1, h2, h3, h4⟩ := (lerpOk_iff a b k d).1 h
  obtain ⟨b1, b2, b3⟩ := lerp_bds h
  have ha := (end_iff a).2 h1
  have hb := (end_iff b).2 h2
  have ho := lerp_ok h
  have s1 := (small_iff (a * (d - k) + b * k)).2 (by omega)
  have s2 := (small_iff d).2 (by omega)
  have hr := round_ok s1 s2 (by omega)
  rw [if_neg (by omega), ← ho.2] at hr
  have HR := Lib.hid (show roundV (a * (d - k) + b * k) d = lerpV a b k d ∧ roundE (a * (d - k) + b * k) d = 0 from ⟨hr.2, hr.1⟩)
  have HO := Lib.hid ho.1
  clear hr ho s1 s2 h
  go_enter Try.func42, Try.ntmps42
  go_wp2_with (first | (go_at_call 46; refine (isEnd_any _ _).mono ?_; rintro e w' ⟨rfl, rfl⟩) | (go_at_call 38; refine (round_at _ _ (lerpV a b k d) 0 _ HR (by omega) (by omega) (by omega) (by omega)).mono ?_; rintro e w' ⟨rfl, ⟨n1, rfl⟩⟩))
  go_ret2
  exact ⟨ret_two rfl HO.out.symm, (Drew.refl _).step _⟩

set_option maxHeartbeats 800000 in
theorem lerp_bad (a b k d : Int) (w : World) (h : lerpOk a b k d = false) :
    Calls Try.prog 42 #[.int .i64 a, .int .i64 b, .int .i64 k, .int .i64 d] w fun e w' => e = .returned (.tuple #[.int .i64 (lerpV a b k d), .int .i64 (lerpE a b k d)]) ∧ Drew w w' := by
  have ho := lerp_no h
  rw [ho.1, ho.2]
  rw [lerpOk_false] at h
  clear ho
  by_cases ha : endB a = false
  · clear h
    go_enter Try.func42, Try.ntmps42
    go_wp2_with (go_at_call 46; refine (isEnd_any _ _).mono ?_; rintro e w' ⟨rfl, rfl⟩)
    go_ret2
    exact ⟨rfl, Drew.refl _⟩
  · have ha := Bool.of_not_eq_false ha
    by_cases hb : endB b = false
    · clear h
      go_enter Try.func42, Try.ntmps42
      go_wp2_with (go_at_call 46; refine (isEnd_any _ _).mono ?_; rintro e w' ⟨rfl, rfl⟩)
      go_ret2
      exact ⟨rfl, Drew.refl _⟩
    · have hb := Bool.of_not_eq_false hb
      have h5 : d < 1 ∨ 524288 < d ∨ k < 0 ∨ d < k := by
        rcases h with h | h | h
        · rw [ha] at h; simp at h
        · rw [hb] at h; simp at h
        · exact h
      clear h
      by_cases c1 : d < 1
      · clear h5
        go_enter Try.func42, Try.ntmps42
        go_wp2_with (go_at_call 46; refine (isEnd_any _ _).mono ?_; rintro e w' ⟨rfl, rfl⟩)
        go_ret2
        exact ⟨rfl, Drew.refl _⟩
      · by_cases c2 : 524288 < d
        · clear h5
          go_enter Try.func42, Try.ntmps42
          go_wp2_with (go_at_call 46; refine (isEnd_any _ _).mono ?_; rintro e w' ⟨rfl, rfl⟩)
          go_ret2
          exact ⟨rfl, Drew.refl _⟩
        · by_cases c3 : k < 0
          · clear h5
            go_enter Try.func42, Try.ntmps42
            go_wp2_with (go_at_call 46; refine (isEnd_any _ _).mono ?_; rintro e w' ⟨rfl, rfl⟩)
            go_ret2
            exact ⟨rfl, Drew.refl _⟩
          · have c4 : d < k := by omega
            clear h5
            go_enter Try.func42, Try.ntmps42
            go_wp2_with (go_at_call 46; refine (isEnd_any _ _).mono ?_; rintro e w' ⟨rfl, rfl⟩)
            go_ret2
            exact ⟨rfl, Drew.refl _⟩
theorem lerp_any (a b k d : Int) (w : World) :
    Calls Try.prog 42 #[.int .i64 a, .int .i64 b, .int .i64 k, .int .i64 d] w fun e w' => e = .returned (.tuple #[.int .i64 (lerpV a b k d), .int .i64 (lerpE a b k d)]) ∧ Drew w w' := by
  by_cases h : lerpOk a b k d = true
  · exact lerp_yes a b k d w h
  · exact lerp_bad a b k d w (Bool.of_not_eq_true h)
theorem lerp_at (a b k d v f : Int) (w : World) (H : Hid (lerpV a b k d = v ∧ lerpE a b k d = f)) :
    Calls Try.prog 42 #[.int .i64 a, .int .i64 b, .int .i64 k, .int .i64 d] w fun e w' => e = .returned (.tuple #[.int .i64 v, .int .i64 f]) ∧ Drew w w' := by
  obtain ⟨rfl, rfl⟩ := H.out
  exact lerp_any a b k d w

end Go.Proofs.Ytpgeiflbmcjaaaa.NumW
