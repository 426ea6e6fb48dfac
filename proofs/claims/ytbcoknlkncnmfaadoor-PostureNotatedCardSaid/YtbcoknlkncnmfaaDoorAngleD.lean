/-
  Walks of Turned of the specification of package angle: what a call returns for every input. Condition: none.
-/
import Derived.Test.YtbcoknlkncnmfaaDoorAngleC
import Derived.Test.YtbcoknlkncnmfaaDoorNumE
import Derived.Deep.RegionHeld3
import Derived.Deep.DeepCutAuto
import Derived.IntWalk
namespace Go.Proofs.YtbcoknlkncnmfaaDoor.AngW
open Go.ChangeShapes Go.WideShapes Go.ChangeAt Go.RowKit
open NumP NumW AngP

/-- Grown, closed to the walk. -/
structure Kept (w w' : World) : Prop where
  g : Grown w w'
theorem Kept.drew {w w' : World} (h : Kept w w') : Kept w w'.drew := ⟨h.g⟩
theorem Kept.drewN {w w' : World} (h : Kept w w') (n : Nat) : Kept w (w'.drewN n) := ⟨h.g⟩
theorem held_step {w wc w1 : World} {B C : Nat} {x y z u : Value} (hg : Grown wc w1) (h : wc.cell? ⟨B, 0, none⟩ = some x ∧ wc.cell? ⟨B, 1, none⟩ = some y ∧ wc.cell? ⟨C, 0, none⟩ = some z ∧ wc.cell? ⟨C, 1, none⟩ = some u ∧ Kept w wc) :
    w1.cell? ⟨B, 0, none⟩ = some x ∧ w1.cell? ⟨B, 1, none⟩ = some y ∧ w1.cell? ⟨C, 0, none⟩ = some z ∧ w1.cell? ⟨C, 1, none⟩ = some u ∧ Kept w w1 :=
  ⟨grown_cell hg h.1, grown_cell hg h.2.1, grown_cell hg h.2.2.1, grown_cell hg h.2.2.2.1, ⟨grown_trans h.2.2.2.2.g hg⟩⟩
theorem fresh_frozen (w : World) (k o : Nat) : w.frozen? ⟨w.heap.size + k, o, none⟩ = false := by
  simp [World.frozen?]

/-- Turned's value and error. -/
def turE (x y : Int) : Int := if inMM x y = true then 0 else 1
def turU (x y a : Int) : Int := if inMM x y = true then turX x y a else 0
def turV (x y a : Int) : Int := if inMM x y = true then turY x y a else 0
theorem near_round {s : Int} (h : -2147483648 ≤ s ∧ s ≤ 2147483648) : roundV s 16384 = nearV s 16384 ∧ roundE s 16384 = 0 := by
  have h1 := round_ok ((small_iff s).2 (by omega)) ((small_iff 16384).2 (by decide)) (by decide)
  rw [if_neg (by decide)] at h1
  exact ⟨h1.2, h1.1⟩
end Go.Proofs.YtbcoknlkncnmfaaDoor.AngW
