/-
  Walks of letter, digit, Valid, end and bare of the specification of package ident: what a call returns for every input. Condition: none.
-/
import Derived.Test.YtedkpkdfopffiaaDoorPairs
import Derived.Test.YtedkpkdfopffiaaDoorNamePlain
import Derived.WalkLawsBesides
namespace Go.Proofs.YtedkpkdfopffiaaDoor.NamW
open Go.ChangeShapes Go.WideShapes Go.ChangeAt Go.RowKit
open PairW NamP
/-- The bytes of a string. -/
abbrev bs (s : ByteArray) : Bs := s.data.toList
theorem bs_len (s : ByteArray) : (bs s).length = s.size := Array.length_toList
theorem bs_at (s : ByteArray) (k : Nat) (h : k < s.size) : atB (bs s) k = s[k] := by
  unfold atB bs
  rw [List.getD_eq_getElem?_getD, List.getElem?_eq_getElem (by rw [bs_len]; exact h)]
  rfl
theorem vld_no {s : ByteArray} {k : Nat} (h1 : 1 ≤ k) (h2 : k < s.size) (h : okAt (bs s) k = false) : vldB (bs s) = false := Bool.of_not_eq_true fun e => by
  have := ((vldB_iff _).1 e).2.2.2 k h1 (by rw [bs_len]; exact h2)
  rw [h] at this
  cases this
theorem okAt_s (s : ByteArray) (k : Nat) (h : k < s.size) : okAt (bs s) k = ((letB s[k] || digB s[k] || decide (s[k].toNat = 45)) && !(decide (s[k].toNat = 45) && (decide (k + 1 = s.size) || decide ((atB (bs s) (k + 1)).toNat = 45)))) := by
  unfold okAt
  rw [bs_at s k h, bs_len]
end Go.Proofs.YtedkpkdfopffiaaDoor.NamW
