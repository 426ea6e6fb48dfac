/-
  Package wire: what the laws ask of the program. Condition: none.
-/
import Derived.Test.YteaidfocbhadjaaWireH
import Derived.Test.YteaidfocbhadjaaWireI
namespace Go.Proofs.Yteaidfocbhadjaa.WirW
open Go.ChangeShapes Go.WideShapes Go.ChangeAt Go.RowKit
open PairW CelW WirP
/-- What the laws ask of the program's functions that write. -/
structure PutC : Prop where
  int : ∀ (b : Bs) (v : Value) (n : Int) (w : World), Hid (Cel w v (cellsU b)) → I64 n → b.length ≤ 140737488355000 →
    Calls Try.prog 14 #[v, .int .i64 n] w fun e w' => ∃ v', e = .returned v' ∧ w'.ownsRow w.heap.size 5 1 v' (b ++ encI n).length (cellsU (b ++ encI n)) ∧ Own w w'
  text : ∀ (b : Bs) (v : Value) (s : ByteArray) (w : World), Hid (Cel w v (cellsU b)) → b.length + s.size ≤ 1000000000000 →
    Calls Try.prog 20 #[v, .string s] w fun e w' => ∃ v', e = .returned v' ∧ w'.ownsRow w.heap.size 5 1 v' (b ++ encT s.data.toList).length (cellsU (b ++ encT s.data.toList)) ∧ Own w w'
  list : ∀ (b : Bs) (l : List Int) (v vl : Value) (w : World), Hid (Cel w v (cellsU b)) → Hid (Cel w vl (cellsI l)) → In64 l → b.length + 10 * (l.length + 1) ≤ 1000000000000 →
    Calls Try.prog 25 #[v, vl] w fun e w' => ∃ v', e = .returned v' ∧ w'.ownsRow w.heap.size 5 1 v' (b ++ encL l).length (cellsU (b ++ encL l)) ∧ Own w w'
/-- What the laws ask of the program's functions that read. -/
structure TakeC : Prop where
  int : ∀ (b : Bs) (v : Value) (f x : Int) (m : Nat) (w : World), Hid (Cel w v (cellsU b)) → Hid (takeE b = f ∧ takeV b = x ∧ takeK b = m) →
    Calls Try.prog 11 #[v] w fun e w' => e = .returned (.tuple #[.int .i64 x, .int .i64 (m : Int), .int .i64 f]) ∧ Own w w'
  text : ∀ (b V : Bs) (v : Value) (most f : Int) (m : Nat) (w : World), Hid (Cel w v (cellsU b)) → b.length ≤ 1000000000000 → I64 most → Hid (textE b most = f ∧ textV b most = V ∧ textK b most = m) →
    Calls Try.prog 18 #[v, .int .i64 most] w fun e w' => e = .returned (.tuple #[.string (strB V), .int .i64 (m : Int), .int .i64 f]) ∧ Own w w'
  list : ∀ (b : Bs) (V : List Int) (v : Value) (most f : Int) (m : Nat) (w : World), Hid (Cel w v (cellsU b)) → b.length ≤ 1000000000000 → I64 most → Hid (listE b most = f ∧ listV b most = V ∧ listK b most = m) →
    Calls Try.prog 22 #[v, .int .i64 most] w fun e w' => ∃ vl, e = .returned (.tuple #[vl, .int .i64 (m : Int), .int .i64 f]) ∧ w'.ownsRow w.heap.size 3 1 vl V.length (cellsI V) ∧ Own w w'
end Go.Proofs.Yteaidfocbhadjaa.WirW
