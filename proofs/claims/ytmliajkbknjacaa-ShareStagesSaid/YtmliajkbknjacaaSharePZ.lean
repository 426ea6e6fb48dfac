/-
  The program's package share is what the laws ask of it. Condition: none.
-/
import Derived.Test.YtmliajkbknjacaaSharePD
import Derived.Test.YtmliajkbknjacaaShareT
import Derived.Test.YtmliajkbknjacaaShareL1
import Derived.Test.YtmliajkbknjacaaShareL2
import Derived.Test.YtmliajkbknjacaaShareL3
import Derived.Test.YtmliajkbknjacaaShareL4
namespace Go.Proofs.Ytmliajkbknjacaa.ShaW
theorem shaC : ShaC := ⟨fun t ws v f M w _ _ HC HF HM => psplit_at t ws v f M w HC HF HM, fun t n f M w _ _ HF HM => pstages_at t n f M w HF HM⟩
end Go.Proofs.Ytmliajkbknjacaa.ShaW
