/-
  The program of package wire keeps what the laws ask of it. Condition: none.
-/
import Derived.Test.YteaidfocbhadjaaWireV
import Derived.Test.YteaidfocbhadjaaWirePC
import Derived.Test.YteaidfocbhadjaaWirePE
namespace Go.Proofs.Yteaidfocbhadjaa.WirW
open Go.ChangeShapes Go.WideShapes Go.ChangeAt Go.RowKit
open PairW CelW WirP
theorem putC : PutC where
  int b v n w HB hn hl := pput_at b v n w HB hn hl
  text b v s w HB hl := pputtext_at b v s w HB hl
  list b l v vl w HB HL hi hl := pputlist_at b l v vl w HB HL hi hl
theorem takeC : TakeC where
  int b v f x m w HB H := (ptake_at b v f x m w HB H).mono fun _ _ h => ⟨h.1, h.2 ▸ Own.refl w⟩
  text b V v most f m w HB _ _ H := (ptaketext_at b V v most f m w HB H).mono fun _ _ h => ⟨h.1, h.2 ▸ Own.refl w⟩
  list b V v most f m w HB hl _ H := ptakelist_at b V v most f m w HB hl H
end Go.Proofs.Yteaidfocbhadjaa.WirW
