/-
  The frame that the proofs of the statements about angle share: the table of sines as the row lists it. Condition: none.
-/
import Derived.Test.YtbcoknlkncnmfaaDoorCards
import Derived.Test.YtbcoknlkncnmfaaDoorTie
import Derived.Test.YtbcoknlkncnmfaaDoorAngleB
import Derived.OpenShut
import Derived.Lib.SmallJoins
import Derived.RowKit3
import Derived.Deep.DeepHandedRow
import Derived.Lib.LaidTab
namespace Go.Proofs.YtbcoknlkncnmfaaDoor.AngW
open Go.ChangeShapes Go.WideShapes Go.ChangeAt Go.RowKit
open NumP NumW AngP
theorem own : ownKnob Tryd.prog.godebug = none := by kernel_rfl
theorem wf_bd {n : Int} (h : (Lit.int .i64 n).wf = true) : -9223372036854775808 ≤ n ∧ n ≤ 9223372036854775807 := bounds_i64 h
theorem wf_bd8 {n : Int} (h : (Lit.int .u8 n).wf = true) : 0 ≤ n ∧ n ≤ 255 := bounds_u8 h
/-- The table's cells hold the sines. -/
structure Tab (w : World) : Prop where
  cell : ∀ k : Nat, k < 65 → w.cell? ⟨1, k, none⟩ = some (.int .i64 (tabN k))
theorem gTab : Tryd.prog.globalNamed "dancestudio/angle.sines" = some 1 := by kernel_rfl
theorem gTabType : (Tryd.prog.globals[1]?).map (·.type) = some 75 := by kernel_rfl
theorem cellsTab : Tryd.prog.cellsOf 75 = 65 := by kernel_rfl
theorem cellsInt : Tryd.prog.cellsOf 3 = 1 := by kernel_rfl
theorem tab_met {W : World} (h : laidMetH Tryd.prog [("dancestudio/angle.sines", Rows.laid_dancestudio_angle_sines)] W) : Tab W := by
  have ht : Lib.TabIs Tryd.prog W "dancestudio/angle.sines" .i64 tabS := Lib.tabIs_of_head (rest := []) gTab gTabType Tryd.underlying75 Tryd.underlying3 cellsInt cellsTab h
  exact ⟨fun k hk => ht.cell gTab k hk⟩
/-- A start for the witness: the settled one, the table holding what its initialiser lays. -/
noncomputable def laidWorld (os : Os) : World :=
  { World.holding Tryd.prog os ⟨#[], #[], []⟩ with heap := (World.holding Tryd.prog os ⟨#[], #[], []⟩).heap.modify 1 fun
      | .cells _ t frozen => .cells tabCells t frozen
      | o => o }
end Go.Proofs.YtbcoknlkncnmfaaDoor.AngW
