/-
  Walks of Round and Lerp of package num: what each call returns for every input, at every world. Condition: Round's arguments are numbers of 64 bits.
-/
import Derived.Test.YtmliajkbknjacaaNumC
namespace Go.Proofs.Ytmliajkbknjacaa.NumW
open Go.ChangeShapes Go.WideShapes Go.ChangeAt Go.RowKit
open NumP
theorem small_neg (a : Int) : smallB (-a) = smallB a := by rw [Bool.eq_iff_iff, small_iff, small_iff]; omega


/-! ### Lerp -/
theorem lerpOk_false (a b k d : Int) : lerpOk a b k d = false ↔ endB a = false ∨ endB b = false ∨ d < 1 ∨ 524288 < d ∨ k < 0 ∨ d < k := by
  rw [← Bool.not_eq_true, lerpOk_iff, end_not, end_not]; omega


end Go.Proofs.Ytmliajkbknjacaa.NumW
