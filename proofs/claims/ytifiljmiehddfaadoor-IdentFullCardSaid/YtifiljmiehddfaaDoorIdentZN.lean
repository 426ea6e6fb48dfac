/-
  The program's functions answer for a nil table as the laws of package ident ask. Condition: none.
-/
import Derived.Test.YtifiljmiehddfaaDoorIdentPG
import Derived.Test.YtifiljmiehddfaaDoorIdentM
namespace Go.Proofs.YtifiljmiehddfaaDoor.NamW
open Go.ChangeShapes Go.WideShapes Go.ChangeAt Go.RowKit
open PairW NamP StrW
theorem identN : IdentN where
  add := fun s w _ => padd_nil s w
  index := fun s w _ => pindex_nil s w
  name := fun i w => pname_nil i w
  sorted := fun w => psorted_nil w
end Go.Proofs.YtifiljmiehddfaaDoor.NamW
