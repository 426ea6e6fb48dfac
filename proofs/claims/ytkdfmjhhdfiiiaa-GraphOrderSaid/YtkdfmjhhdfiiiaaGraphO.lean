/-
  What Order returns, as its two walks say it. Condition: none.
-/
import Derived.Test.YtkdfmjhhdfiiiaaGraphC
import Derived.Test.YtkdfmjhhdfiiiaaGraphPlainF
namespace Go.Proofs.Ytkdfmjhhdfiiiaa.GraW
open Go.ChangeShapes Go.WideShapes Go.ChangeAt Go.RowKit
open PairW CelW GraP
/-- What Order returns. -/
def ordE (N : Int) (l : List Ar) : Int := if chkE N l ≠ 0 then chkE N l else if (ordO N.toNat l).isSome = true then 0 else 15
def ordV (N : Int) (l : List Ar) : List Nat := if ordE N l = 0 then (ordO N.toNat l).getD [] else []
theorem ordV_bad {N : Int} {l : List Ar} (h : ordE N l ≠ 0) : ordV N l = [] := if_neg h
theorem ord_yes {n : Nat} {l : List Ar} {f : Int} {V : List Nat} (hce : chkE (n : Int) l = 0) (H : ordE n l = f ∧ ordV n l = V) : (∀ L, ordO n l = some L → 0 = f ∧ L = V) ∧ (ordO n l = none → 15 = f ∧ [] = V) := by
  refine ⟨fun L h => ?_, fun h => ?_⟩
  · have h1 : ordE n l = 0 := by unfold ordE; rw [if_neg (by rw [hce]; simp), Int.toNat_natCast, h]; rfl
    exact ⟨by rw [← H.1, h1], by rw [← H.2]; unfold ordV; rw [if_pos h1, Int.toNat_natCast, h]; rfl⟩
  · have h1 : ordE n l = 15 := by unfold ordE; rw [if_neg (by rw [hce]; simp), Int.toNat_natCast, h]; rfl
    exact ⟨by rw [← H.1, h1], by rw [← H.2, ordV_bad (by rw [h1]; decide)]⟩
end Go.Proofs.Ytkdfmjhhdfiiiaa.GraW
