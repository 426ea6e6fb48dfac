/-
  strconv.Itoa as ident's laws call it, names with numerals as texts, and what the laws ask of a nil table. Condition: none.
-/
import Derived.Test.YtifiljmiehddfaaDoorIdentR
import Derived.Test.YtifiljmiehddfaaDoorNamePlainD
import Derived.Test.YtifiljmiehddfaaDoorItoaShelf
namespace Go.Proofs.YtifiljmiehddfaaDoor.NamW
open Go.ChangeShapes Go.WideShapes Go.ChangeAt Go.RowKit
open PairW NamP StrW
open Go.Lib (decDigits)
/-- The library's table of powers of ten reads as its initialiser lays it. -/
def PowTab (w : World) : Prop := Lib.TabIs Tryd.prog w "internal/strconv.uint64pow10" .u64 Lib.pow10Tab
theorem PowTab.own {w w' : World} (h : PowTab w) (hg : Own w w') : PowTab w' := by
  unfold PowTab Lib.TabIs World.var? at *
  cases hn : Tryd.prog.globalNamed "internal/strconv.uint64pow10" with
  | none => simp [hn] at h
  | some g =>
    simp only [hn, Option.bind_some] at h ⊢
    have hlt : g < w.heap.size := by
      rcases Nat.lt_or_ge g w.heap.size with h' | h'
      · exact h'
      · rw [Array.getElem?_eq_none h'] at h; simp at h
    rw [hg.block g hlt]
    exact h
theorem own_grow (w : World) (k : Nat) (os : Array Obj) : Own w (Sort.grow (w.drewN k) os) := by
  refine ⟨rfl, rfl, ?_, fun i hi => ?_⟩
  · show w.heap.size ≤ (w.heap ++ os).size
    rw [Array.size_append]
    omega
  · show (w.heap ++ os)[i]? = w.heap[i]?
    rw [Array.getElem?_append_left hi]
/-- The decimal numeral as a text. -/
def decS (n : Nat) : ByteArray := ⟨(decDigits n).toArray⟩
theorem itoa_at (n : Nat) (r : ByteArray) (w : World) (hn : n < 4294967296) (HT : Hid (PowTab w)) (H : Hid (decS n = r)) :
    Calls Tryd.prog 19 #[.int .i64 (n : Int)] w fun e w' => e = .returned (.string r) ∧ Own w w' := by
  refine (Tryd.strconv_Itoa (n : Int) (by omega) (by omega) w HT.out).mono ?_
  rintro e w' ⟨rfl, k, os, rfl⟩
  refine ⟨?_, own_grow w k os⟩
  rw [Lib.itoa_nonneg, ← H.out]
  rfl
theorem bs_dec (n : Nat) : bs (decS n) = decDigits n := rfl
theorem bs_append (a b : ByteArray) : bs (a ++ b) = bs a ++ bs b := by
  unfold bs
  rw [ByteArray.data_append, Array.toList_append]
/-- What the laws ask of a nil table. -/
structure IdentN : Prop where
  add : ∀ (s : ByteArray) (w : World), s.size ≤ maxLen → Calls Tryd.prog 23 #[.pointer none, .string s] w fun e w' => e = .returned (.tuple #[.int .i64 0, .int .i64 10]) ∧ Own w w'
  index : ∀ (s : ByteArray) (w : World), s.size ≤ maxLen → Calls Tryd.prog 18 #[.pointer none, .string s] w fun e w' => e = .returned (.tuple #[.int .i64 0, .bool false]) ∧ Own w w'
  name : ∀ (i : Int) (w : World), Calls Tryd.prog 17 #[.pointer none, .int .i64 i] w fun e w' => e = .returned (.tuple #[.string ⟨#[]⟩, .int .i64 10]) ∧ Own w w'
  sorted : ∀ (w : World), Calls Tryd.prog 26 #[.pointer none] w fun e w' => ∃ A cap, e = .returned (.slice A 0 cap) ∧ Own w w'
end Go.Proofs.YtifiljmiehddfaaDoor.NamW
