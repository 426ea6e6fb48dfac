/-
  Walks of the specification of package wire: PutText. Condition: none.
-/
import Derived.Test.YtbplglndcagglaaWireA
import Derived.Lib.AppendStr
namespace Go.Proofs.Ytbplglndcagglaa.WirW
open Go.ChangeShapes Go.WideShapes Go.ChangeAt Go.RowKit
open PairW CelW WirP
theorem own_form {w : World} {base n : Nat} {e : TypeId} {v : Value} {xs : List Value} (h : w.ownsRow base e 1 v n xs) (h0 : 0 < n) : ∃ g cap, v = .slice (some ⟨g, 0, none⟩) n cap := by
  rcases h.2 with ⟨_, h2⟩ | ⟨g, cap, cur, rfl, _⟩
  · omega
  · exact ⟨g, cap, rfl⟩
theorem own_str {w w1 w2 : World} {base n : Nat} {e : TypeId} {v : Value} {xs : List Value} (q : Own w w1) (h : w1.ownsRow base e 1 v n xs) (hg : w1.grownBy w2 v.ownBlock) (hb : w.heap.size ≤ base) : Own w w2 := q.grown hg fun k hk => by
  have := (h.lt k hk).1
  omega
end Go.Proofs.Ytbplglndcagglaa.WirW
