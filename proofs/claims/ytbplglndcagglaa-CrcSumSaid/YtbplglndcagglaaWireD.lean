/-
  Walks of the specification of package wire: size, TakeText. Condition: none.
-/
import Derived.Test.YtbplglndcagglaaWireE
import Derived.Test.YtbplglndcagglaaWireC
namespace Go.Proofs.Ytbplglndcagglaa.WirW
open Go.ChangeShapes Go.WideShapes Go.ChangeAt Go.RowKit
open PairW CelW WirP
/-- What size says of the length and its place. -/
def SizeIs (b : Bs) (most f x : Int) (m : Nat) : Prop := sizeE b most = f ∧ (if sizeE b most = 0 then takeV b else 0) = x ∧ (if sizeE b most = 0 then takeK b else 0) = m
end Go.Proofs.Ytbplglndcagglaa.WirW
