/-
  A region of determined values without a store: all duties over one frame, which is written out once. Nothing of the program. Condition: none.
-/
import Derived.Test.YtbcoknlkncnmfaaDoorRegDet
namespace Go.Proofs.YtbcoknlkncnmfaaDoor.RegD
open Go RegI PairW BlkW
theorem allsteps_mono {f g : Oper → Nat → Prop} (h : ∀ o i, f o i → g o i) : ∀ {k : Nat} {l : List Oper}, AllSteps f k l → AllSteps g k l
  | _, [], _ => trivial
  | _, _ :: _, hs => ⟨h _ _ hs.1, allsteps_mono h hs.2⟩
/-- What each operation owes, and what comes behind, at the frames G. -/
def DutyO (P : Program) (l : List Oper) (A : Act) (c : Nat → Value) (wb : World) (Q : Exit → Act → World → Prop) (G : (Nat → Value) → Act) : Prop :=
  AllSteps (fun o _ => ∀ u w, Own wb w → wpList P l.toArray (DPost A o c w) [o] (G u) w) 0 l ∧ ∀ u w', Own wb w' → Q .normal (G u) w'
theorem region_duty {P : Program} {id : Nat} {l : List Oper} {Q : Exit → Act → World → Prop} {A : Act} {w : World} (D : List Nat) (c : Nat → Value) (hm : P.follows .mixedOrders = true) (hk : okReg l D = true) (hb : ∀ d, d ∈ D → d < A.tmps.size)
    (h : DutyO P l A c w Q (fun u => FF A D [] c u)) : (Code.region id l.toArray true).wp P Q A w :=
  region_own D c hm hk hb (allsteps_mono (fun _ _ hs => det_own hs) h.1) h.2
end Go.Proofs.YtbcoknlkncnmfaaDoor.RegD
