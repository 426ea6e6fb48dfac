/-
  Walks of the specification of package wire: Bytes, Ints, of lists that are equal; the laws' own copy. Condition: none.
-/
import Derived.Test.YtbplglndcagglaaWireF
import Derived.Test.YtbplglndcagglaaWireG
import Derived.Laws.BytesString
namespace Go.Proofs.Ytbplglndcagglaa.WirW
open Go.ChangeShapes Go.WideShapes Go.ChangeAt Go.RowKit
open PairW CelW WirP
theorem conv_cel {P : Program} {w : World} {v : Value} {b : Bs} (h : Cel w v (cellsU b)) {src e dst : TypeId} (hs : P.underlying src = some (.slice e)) (he : P.underlying e = some (.int .u8)) (hd : P.underlying dst = some .string) :
    (convert src dst v).run P w = .ok (.string (strB b)) w := by
  obtain ⟨A, cap, rfl, h1, h2, h3⟩ := cel_cells h
  cases A with
  | none =>
    have h0 : b = [] := by
      refine List.eq_nil_of_length_eq_zero ?_
      refine Nat.eq_zero_of_not_pos fun h0 => ?_
      obtain ⟨g, off, hg, _⟩ := h3 h0
      cases hg
    subst h0
    rw [run_convert_bytes_string w src dst e none _ cap hs he hd]
    simp [Conv.bytesToString]
    rfl
  | some ad =>
    by_cases h0 : 0 < b.length
    · obtain ⟨g, off, hg, hc⟩ := h3 h0
      injection hg with hg
      subst hg
      exact conv_at rfl hc hs he hd
    · obtain rfl := List.eq_nil_of_length_eq_zero (Nat.eq_zero_of_not_pos h0)
      obtain ⟨g, off, f⟩ := ad
      rw [run_convert_bytes_string w src dst e _ _ cap hs he hd]
      simp [Conv.bytesToString, loadCells]
      rfl
end Go.Proofs.Ytbplglndcagglaa.WirW
