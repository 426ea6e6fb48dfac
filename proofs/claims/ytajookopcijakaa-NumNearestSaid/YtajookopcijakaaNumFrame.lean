/-
  The frame that the proofs of the statements about num share. Condition: none.
-/
import Derived.Test.YtajookopcijakaaNumI
import Derived.OpenShut
import Derived.Lib.SmallJoins
import Derived.RowKit3
namespace Go.Proofs.Ytajookopcijakaa.NumW
open Go.ChangeShapes Go.WideShapes Go.ChangeAt Go.RowKit
theorem own : ownKnob Try.prog.godebug = none := by kernel_rfl
theorem wf_bd {n : Int} (h : (Lit.int .i64 n).wf = true) : -9223372036854775808 ≤ n ∧ n ≤ 9223372036854775807 := by
  exact bounds_i64 h
theorem grown_drewN {W w' : World} (h : Grown W w') (n : Nat) : Grown W (w'.drewN n) := h
theorem grown_drew {W w' : World} (h : Drew W w') : Grown W w' := by
  obtain ⟨n, rfl⟩ := h
  exact grown_drewN (Grown.refl _) n
end Go.Proofs.Ytajookopcijakaa.NumW
