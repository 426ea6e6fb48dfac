/-
  Walks of the program of package aim: vertical, Of, Mirror. Condition: none.
-/
import Derived.Test.YtighpjhipgobiaaGreatDoorAimPA
import Derived.Test.YtighpjhipgobiaaGreatDoorDirPlain
import Derived.Test.YtighpjhipgobiaaGreatDoorAngBase
import Derived.Test.YtighpjhipgobiaaGreatDoorBlk
namespace Go.Proofs.YtighpjhipgobiaaGreatDoor.AimW
open Go.ChangeShapes Go.WideShapes Go.ChangeAt Go.RowKit
open PairW AimP BlkW
theorem infoA : (Tryz.prog.info? 28).map (·.size) = some 3 := by kernel_rfl
theorem two_blk (w : World) (c1 : Array Value) (T1 : TypeId) (c2 : Array Value) (T2 : TypeId) : Blk ((w.alloc (.cells c1 T1)).alloc (.cells c2 T2)) (w.heap.size + 1) c2 T2 := by
  have := Blk.new (w.alloc (.cells c1 T1)) c2 T2
  rw [size_alloc] at this
  exact this
end Go.Proofs.YtighpjhipgobiaaGreatDoor.AimW
