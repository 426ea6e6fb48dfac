/-
  Walks of Between and of small functions of the specification of package angle: what each call returns for every input. Condition: none.
-/
import Derived.Test.YtbcoknlkncnmfaaDoorAngleB
namespace Go.Proofs.YtbcoknlkncnmfaaDoor.AngW
open Go.ChangeShapes Go.WideShapes Go.ChangeAt Go.RowKit
open NumP NumW AngP


/-! ### What the tests of Between have to know, case by case -/
theorem ne_of_beq {a b : Int} (h : ¬ a = b) : (a == b) = false := beq_eq_false_iff_ne.2 h
/-- The half turn's two ways: which angle decides, and what it says. -/
theorem half_cases (a b s : Int) : ((a == s) = true ∨ (a == s) = false ∧ (b == s) = true) ∧ halfV a b s = (if through a 0 = true then 128 else -128) ∨ (a == s) = false ∧ (b == s) = false ∧ halfV a b s = (if through a s = true then 128 else -128) := by
  unfold halfV
  by_cases c : a = s
  · exact Or.inl ⟨Or.inl (beq_iff_eq.2 c), by rw [if_pos (show a = s ∨ b = s from Or.inl c)]⟩
  · by_cases c2 : b = s
    · exact Or.inl ⟨Or.inr ⟨ne_of_beq c, beq_iff_eq.2 c2⟩, by rw [if_pos (show a = s ∨ b = s from Or.inr c2)]⟩
    · exact Or.inr ⟨ne_of_beq c, ne_of_beq c2, by rw [if_neg (show ¬ (a = s ∨ b = s) from fun h => h.elim c c2)]⟩

end Go.Proofs.YtbcoknlkncnmfaaDoor.AngW
