/-
  A start that meets what the rows list: each listed table holds what its initialiser lays. Condition: none.
-/
import Derived.Test.YtighpjhipgobiaaDoorCards
import Derived.Test.YtighpjhipgobiaaDoorTie
import Derived.Test.YtighpjhipgobiaaDoorBalanceQ
import Derived.OpenShut
import Derived.Lib.SmallJoins
import Derived.RowKit3
import Derived.Deep.DeepHandedRow
import Derived.Lib.LaidTab
import Derived.LaidSub
import Derived.Stop.LaidErr
namespace Go.Proofs.YtighpjhipgobiaaDoor.BalL
open Go.ChangeShapes Go.WideShapes Go.ChangeAt Go.RowKit Go.Joins
open BalQ BalW JntW JntQ PairW PrtW PstP FrmW
/-- The cells that a listed table lays. -/
def litCell : DataW Unit → Value
  | .lit (.int k z) => .int k z
  | .lit (.bool b) => .bool b
  | .lit (.string s) => .string ⟨s.toArray⟩
  | _ => undef
def partCells : DataW Unit → List Value
  | .agg ps => ps.map litCell
  | d => [litCell d]
def aggCells : DataW Unit → Array Value
  | .agg ps => (ps.flatMap partCells).toArray
  | _ => #[]
def layAt (h : Array Obj) (g : Nat) (d : DataW Unit) : Array Obj := h.modify g fun
  | .cells _ t frozen => .cells (aggCells d) t frozen
  | o => o
/-- A start for the witness. -/
noncomputable def laidWorld (os : Os) : World := { World.holding Tryd.prog os ⟨#[], #[], []⟩ with heap := layAt (layAt (layAt ((World.holding Tryd.prog os ⟨#[], #[], []⟩).heap) 2 Rows.laid_dancestudio_angle_sines) 0 Rows.laid_dancestudio_build_lengthBounds) 1 Rows.laid_dancestudio_joints_sides }
theorem laid0 (os : Os) (args : Array Value) : laidMet Tryd.prog [("dancestudio/angle.sines", Rows.laid_dancestudio_angle_sines), ("dancestudio/build.lengthBounds", Rows.laid_dancestudio_build_lengthBounds), ("dancestudio/joints.sides", Rows.laid_dancestudio_joints_sides)] ((laidWorld os).forCall (fun _ _ => 0) ⟨#[], args, []⟩).memory :=
  laidMet_of_run' 8 (by kernel_rfl) (by kernel_rfl)
theorem world_vars (os : Os) (args : Array Value) : ((laidWorld os).forCall (fun _ _ => 0) ⟨#[], args, []⟩).variablesB Tryd.checked.prog = true := by kernel_rfl
theorem world_rest (os : Os) (args : Array Value) : (((laidWorld os).forCall (fun _ _ => 0) ⟨#[], args, []⟩).heap.toList.drop Tryd.checked.prog.globals.size).take ((begin Tryd.checked.prog (fun _ _ => 0) default).world.heap.size - Tryd.checked.prog.globals.size) =
    (begin Tryd.checked.prog (fun _ _ => 0) default).world.heap.toList.drop Tryd.checked.prog.globals.size := by kernel_rfl
end Go.Proofs.YtighpjhipgobiaaDoor.BalL
