/-
  Walks of Round and Lerp of package num: what each call returns for every input, at every world. Condition: Round's arguments are numbers of 64 bits.
-/
import Derived.Test.YtbcoknlkncnmfaaDoorNumC
namespace Go.Proofs.YtbcoknlkncnmfaaDoor.NumW
open Go.ChangeShapes Go.WideShapes Go.ChangeAt Go.RowKit
open NumP
theorem small_neg (a : Int) : smallB (-a) = smallB a := by rw [Bool.eq_iff_iff, small_iff, small_iff]; omega

/-- Round, whatever the arguments are. -/
theorem round_any (a b : Int) (w : World) (ha0 : -9223372036854775808 ≤ a) (ha1 : a ≤ 9223372036854775807) (hb0 : -9223372036854775808 ≤ b) (hb1 : b ≤ 9223372036854775807) :
    Calls Tryd.prog 84 #[.int .i64 a, .int .i64 b] w fun e w' => e = .returned (.tuple #[.int .i64 (roundV a b), .int .i64 (roundE a b)]) ∧ Drew w w' := by
  by_cases h : smallB a = false ∨ smallB b = false
  · have HE := roundE_range h
    have HV := round_err (a := a) (b := b) (by rw [HE]; decide)
    rw [HE, HV]
    exact round_bad a b w ha0 ha1 hb0 hb1 h
  · have ha : smallB a = true := Bool.of_not_eq_false fun x => h (Or.inl x)
    have hb : smallB b = true := Bool.of_not_eq_false fun x => h (Or.inr x)
    by_cases h0 : b = 0
    · subst h0
      rw [roundE_div ha, round_err (by rw [roundE_div ha]; decide)]
      exact round_zero a w ha
    · have ho := round_ok ha hb h0
      rw [ho.1, ho.2]
      by_cases hn : b < 0
      · rw [if_pos hn]
        have := round_neg (-a) (-b) w (by rw [small_neg]; exact ha) (by rw [small_neg]; exact hb) (by omega)
        rw [Int.neg_neg, Int.neg_neg] at this
        exact this
      · rw [if_neg hn]
        exact round_pos a b w ha hb (by omega)
theorem round_at (a b v f : Int) (w : World) (H : Hid (roundV a b = v ∧ roundE a b = f)) (ha0 : -9223372036854775808 ≤ a) (ha1 : a ≤ 9223372036854775807) (hb0 : -9223372036854775808 ≤ b) (hb1 : b ≤ 9223372036854775807) :
    Calls Tryd.prog 84 #[.int .i64 a, .int .i64 b] w fun e w' => e = .returned (.tuple #[.int .i64 v, .int .i64 f]) ∧ Drew w w' := by
  obtain ⟨rfl, rfl⟩ := H.out
  exact round_any a b w ha0 ha1 hb0 hb1

/-! ### Lerp -/
theorem lerpOk_false (a b k d : Int) : lerpOk a b k d = false ↔ endB a = false ∨ endB b = false ∨ d < 1 ∨ 524288 < d ∨ k < 0 ∨ d < k := by
  rw [← Bool.not_eq_true, lerpOk_iff, end_not, end_not]; omega


end Go.Proofs.YtbcoknlkncnmfaaDoor.NumW
