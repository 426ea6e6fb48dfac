/-
  What the laws of package field ask of the program's functions: one structure, to be paid by the walks of the landed code. Condition: none.
-/
import Derived.Test.YtedkpkdfopffiaaDoorFieldU
import Derived.Test.YtedkpkdfopffiaaDoorFieldX
namespace Go.Proofs.YtedkpkdfopffiaaDoor.NamW
open Go.ChangeShapes Go.WideShapes Go.ChangeAt Go.RowKit
open PairW NamP StrW FldP
/-- The slice value v holds the integers of l. -/
def Ints (w : World) (v : Value) (l : List Int) : Prop :=
  ∃ (A : Option Addr) (cap : Nat), v = .slice A l.length cap ∧ l.length ≤ cap ∧ cap ≤ maxLen ∧
    (0 < l.length → ∃ b off : Nat, A = some ⟨b, off, none⟩ ∧ ∀ i, i < l.length → w.cell? ⟨b, off + i, none⟩ = some (.int .i64 (l.getD i 0)))
theorem Ints.own {w w' : World} {v : Value} {l : List Int} (h : Ints w v l) (hg : Own w w') : Ints w' v l := by
  obtain ⟨A, cap, h1, h2, h3, h4⟩ := h
  refine ⟨A, cap, h1, h2, h3, fun h0 => ?_⟩
  obtain ⟨b, off, h5, h6⟩ := h4 h0
  exact ⟨b, off, h5, fun i hi => hg.cell (h6 i hi)⟩
theorem ints_of_row {w : World} {base : Nat} {e : TypeId} {v : Value} {l : List Int} (h : w.ownsRow base e 1 v l.length (cellsZ l)) : Ints w v l := by
  rcases h.2 with ⟨h1, h2⟩ | ⟨g, cap, cur, rfl, hb, hh, hn, hm, hs, ht⟩
  · obtain rfl := List.eq_nil_of_length_eq_zero h2
    rw [h1]
    exact ⟨none, 0, rfl, Nat.le_refl _, Nat.zero_le _, fun h => absurd h (by simp)⟩
  · refine ⟨_, cap, rfl, hn, hm, fun _ => ⟨g, 0, rfl, fun i hi => ?_⟩⟩
    rw [Nat.zero_add]
    refine (World.ownsRow.cellAt h i (by omega)).trans ?_
    unfold cellsZ
    rw [List.getElem?_map, List.getElem?_eq_getElem hi, List.getD_eq_getElem?_getD, List.getElem?_eq_getElem hi]
    rfl
/-- The library's variable MaxLen holds some integer (where the program has it). -/
def Mx (w : World) : Prop := ∃ m : Int, w.cell? ⟨0, 0, none⟩ = some (.int .i64 m)
theorem mxo {w w' : World} (M : Hid (Mx w)) (g : Own w w') : Hid (Mx w') := Lib.hid (let ⟨m, h⟩ := M.out; ⟨m, g.cell h⟩)
/-- What the laws ask of the program. -/
structure FieldC : Prop where

  join : ∀ (l : Ss) (sv : Value) (f : Int) (w : World), Hid (Strs w sv l) → Hid (Sm l) → l.length ≤ 10000 → Hid (joinE (fl l) = f) → Hid (Mx w) →
    Calls Tryd.prog 12 #[sv] w fun e w' => ∃ r, e = .returned (.tuple #[.string r, .int .i64 f]) ∧ bs r = joinV (fl l) ∧ Own w w'

  split : ∀ (s : ByteArray) (f : Int) (w : World), s.size ≤ 100000 → Hid (splitE (bs s) = f) → Hid (Mx w) →
    Calls Tryd.prog 14 #[.string s] w fun e w' => ∃ l v, e = .returned (.tuple #[v, .int .i64 f]) ∧ Strs w' v l ∧ fl l = splitV (bs s) ∧ Own w w'
  lines : ∀ (s : ByteArray) (f : Int) (w : World), s.size ≤ 100000 → Hid (linesE (bs s) = f) → Hid (Mx w) →
    Calls Tryd.prog 17 #[.string s] w fun e w' => ∃ L v, e = .returned (.tuple #[v, .int .i64 f]) ∧ Lns w' v L ∧ L.map fl = linesV (bs s) ∧ Own w w'
  number : ∀ (s : ByteArray) (v f : Int) (w : World), s.size ≤ 100000 → Hid (numberV (bs s) = v ∧ numberE (bs s) = f) →
    Calls Tryd.prog 22 #[.string s] w fun e w' => e = .returned (.tuple #[.int .i64 v, .int .i64 f]) ∧ Own w w'
/-- What the laws ask of Numbers. -/
def NumbersC : Prop := ∀ (l : Ss) (sv : Value) (f : Int) (w : World), Hid (Strs w sv l) → Hid (Sm l) → l.length ≤ 10000 → Hid (numbersE (fl l) = f) →
    Calls Tryd.prog 20 #[sv] w fun e w' => ∃ v, e = .returned (.tuple #[v, .int .i64 f]) ∧ Ints w' v (numbersV (fl l)) ∧ Own w w'
end Go.Proofs.YtedkpkdfopffiaaDoor.NamW
