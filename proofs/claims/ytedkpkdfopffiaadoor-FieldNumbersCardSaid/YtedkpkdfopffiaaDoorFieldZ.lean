/-
  The program's functions keep what the laws of package field ask of them. Condition: none.
-/
import Derived.Test.YtedkpkdfopffiaaDoorFieldPD
import Derived.Test.YtedkpkdfopffiaaDoorFieldPN
import Derived.Shelf.Vars
namespace Go.Proofs.YtedkpkdfopffiaaDoor.NamW
open Go.ChangeShapes Go.WideShapes Go.ChangeAt Go.RowKit
open PairW NamP StrW FldP
theorem mx_shaped {w : World} (h : w.ShapedOpen Tryd.prog) : Mx w :=
  Go.Proofs.cell_of_shapedOpen_int (zero := #[.int .i64 0]) (t := 3) h (of_decide_eq_true (by kernel_rfl)) (by kernel_rfl) rfl (by kernel_rfl) (by kernel_rfl) Tryd.underlying3
theorem fieldC : FieldC where
  join := pjoin_at
  split := psplit_at
  lines := plines_at
  number := pnumber_at
theorem fieldD : NumbersC := fun l sv f w HP HS hl H => by
  refine (pnumbers_at l sv f w HP HS hl H).mono ?_
  rintro e w' ⟨v, rfl, hr, hg⟩
  exact ⟨v, rfl, ints_of_row hr, hg⟩
end Go.Proofs.YtedkpkdfopffiaaDoor.NamW
