/-
  The program of package crc keeps what the laws ask of it. Condition: none.
-/
import Derived.Test.YtbplglndcagglaaCrcE
import Derived.Test.YtbplglndcagglaaCrcPC
namespace Go.Proofs.Ytbplglndcagglaa.CrcW
open Go.ChangeShapes Go.WideShapes Go.ChangeAt Go.RowKit
open PairW CelW WirP CrcP WirW
theorem crcC : CrcC where
  sum b v t w HB _ H := (psum_at b v t w HB H).mono fun _ _ h => ⟨h.1, h.2 ▸ Own.refl w⟩
  extend s b v t w hs HB _ H := (pext_at s b v t w hs HB H).mono fun _ _ h => ⟨h.1, h.2 ▸ Own.refl w⟩
  frame c v w HB _ := pframe_at c v w HB
  op b V v f m w HB _ H := popen_at b V v f m w HB H
  all b L n v w HB hl H := pall_at b L n v w HB (by omega) H
end Go.Proofs.Ytbplglndcagglaa.CrcW
