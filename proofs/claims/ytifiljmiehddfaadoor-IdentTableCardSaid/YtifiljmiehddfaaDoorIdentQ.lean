/-
  What the laws of package ident ask of the program's functions: one structure, to be paid by the walks of the landed code. Condition: none.
-/
import Derived.Test.YtifiljmiehddfaaDoorIdentE
namespace Go.Proofs.YtifiljmiehddfaaDoor.NamW
open Go.ChangeShapes Go.WideShapes Go.ChangeAt Go.RowKit
open PairW NamP StrW
def newE (l : Ss) : Int := if l.all vldS = true then (if l.Nodup then (if 512 < l.length then 3 else 0) else 7) else 8
theorem new_bad {l : Ss} {k : Nat} (h : k < l.length) (hv : vldS (atS l k) = false) : newE l = 8 := by
  unfold newE
  rw [if_neg]
  intro e
  have := List.all_eq_true.1 e _ (atS_mem h)
  rw [hv] at this
  cases this
theorem all_vld {l : Ss} (h : ∀ j, j < l.length → vldS (atS l j) = true) : l.all vldS = true := List.all_eq_true.2 fun x hx => by
  obtain ⟨i, hi, e⟩ := List.mem_iff_getElem.1 hx
  have := h i hi
  rw [atS_get hi, e] at this
  exact this
theorem mem_take_of {l : Ss} {k : Nat} {s : ByteArray} (h : s ∈ l.take k) : ∃ j, j < k ∧ j < l.length ∧ atS l j = s := by
  obtain ⟨i, hi, e⟩ := List.mem_iff_getElem.1 h
  rw [List.length_take] at hi
  refine ⟨i, by omega, by omega, ?_⟩
  rw [atS_get (by omega), ← e, List.getElem_take]
theorem nodup_of {l : Ss} (h : ∀ j, j < l.length → atS l j ∉ l.take j) : l.Nodup := by
  refine List.pairwise_iff_getElem.2 fun i j hi hj hij e => ?_
  refine h j hj ?_
  rw [atS_get hj, ← e]
  refine List.mem_iff_getElem.2 ⟨i, by rw [List.length_take]; omega, ?_⟩
  rw [List.getElem_take]
theorem nodup_take {l : Ss} (h : l.Nodup) {j : Nat} (hj : j < l.length) : atS l j ∉ l.take j := fun hm => by
  obtain ⟨i, h1, h2, e⟩ := mem_take_of hm
  have := List.pairwise_iff_getElem.1 h i j h2 hj h1
  rw [atS_get hj, atS_get h2] at e
  exact this e
theorem new_twice {l : Ss} {k : Nat} (hv : l.all vldS = true) (h : k < l.length) (hm : atS l k ∈ l.take k) : newE l = 7 := by
  unfold newE
  rw [if_pos hv, if_neg (fun e => nodup_take e h hm)]
theorem new_full {l : Ss} (hv : l.all vldS = true) (hd : l.Nodup) (h : 512 < l.length) : newE l = 3 := by
  unfold newE
  rw [if_pos hv, if_pos hd, if_pos h]
theorem new_ok {l : Ss} (hv : l.all vldS = true) (hd : l.Nodup) (h : ¬ 512 < l.length) : newE l = 0 := by
  unfold newE
  rw [if_pos hv, if_pos hd, if_neg h]
theorem new_zero {l : Ss} (h : newE l = 0) : l.all vldS = true ∧ l.Nodup ∧ l.length ≤ 512 := by
  unfold newE at h
  by_cases h1 : l.all vldS = true
  · rw [if_pos h1] at h
    by_cases h2 : l.Nodup
    · rw [if_pos h2] at h
      by_cases h3 : 512 < l.length
      · rw [if_pos h3] at h; omega
      · exact ⟨h1, h2, by omega⟩
    · rw [if_neg h2] at h; omega
  · rw [if_neg h1] at h; omega
theorem strs_row {w : World} {base n : Nat} {e : TypeId} {sv : Value} {l : Ss} (h : w.ownsRow base e 1 sv n (cellsS l)) (hn : l.length = n) : Strs w sv l := by
  subst hn
  exact strs_of_row h
/-- What a call that makes a table leaves. -/
def NewRet (T : World → (Nat → Prop) → Nat → Ss → Prop) (l : Ss) (f : Int) (w : World) (e : Ending) (w' : World) : Prop :=
  (f ≠ 0 ∧ e = .returned (.tuple #[.pointer none, .int .i64 f]) ∧ Own w w') ∨
  (f = 0 ∧ ∃ g F, e = .returned (.tuple #[.pointer (some ⟨g, 0, none⟩), .int .i64 0]) ∧ Own w w' ∧ T w' F g l ∧ ∀ k, F k → w.heap.size ≤ k)
theorem NewRet.bad {T : World → (Nat → Prop) → Nat → Ss → Prop} {l : Ss} {f : Int} {w w' : World} {n : Int} (h : f = n) (hn : n ≠ 0) (hg : Own w w') : NewRet T l f w (.returned (.tuple #[.pointer none, .int .i64 n])) w' := .inl ⟨by rw [h]; exact hn, by rw [h], hg⟩
/-- What the laws ask of the program: T says what table lies at a block, and in which blocks its memory lies. -/
structure IdentC (T : World → (Nat → Prop) → Nat → Ss → Prop) : Prop where
  chg : ∀ {w w' : World} {F G : Nat → Prop} {g : Nat} {l : Ss}, T w F g l → Chg G w w' → (∀ k, F k → ¬ G k) → T w' F g l
  lt : ∀ {w : World} {F : Nat → Prop} {g : Nat} {l : Ss} {k : Nat}, T w F g l → F k → k < w.heap.size
  short : ∀ {w : World} {F : Nat → Prop} {g : Nat} {l : Ss}, T w F g l → Short l
  valid : ∀ (s : ByteArray) (t : Bool) (w : World), s.size ≤ maxLen → Hid (vldB (bs s) = t) →
    Calls Tryd.prog 11 #[.string s] w fun e w' => e = .returned (.bool t) ∧ Own w w'
  less : ∀ (a b : ByteArray) (t : Bool) (w : World), a.size ≤ maxLen → b.size ≤ maxLen → Hid (lessB (bs a) (bs b) = t) →
    Calls Tryd.prog 14 #[.string a, .string b] w fun e w' => e = .returned (.bool t) ∧ Own w w'
  new : ∀ (l : Ss) (sv : Value) (f : Int) (w : World), Hid (Strs w sv l) → Hid (Short l) → l.length ≤ 1000 → Hid (newE l = f) →
    Calls Tryd.prog 16 #[sv] w (NewRet T l f w)
  index : ∀ (l : Ss) (s : ByteArray) (g : Nat) (F : Nat → Prop) (i : Int) (t : Bool) (w : World), s.size ≤ maxLen → Hid (T w F g l) → Hid (idxV l s = i ∧ decide (0 ≤ findI s l) = t) →
    Calls Tryd.prog 18 #[.pointer (some ⟨g, 0, none⟩), .string s] w fun e w' => e = .returned (.tuple #[.int .i64 i, .bool t]) ∧ Own w w'
  name : ∀ (l : Ss) (i : Int) (g : Nat) (F : Nat → Prop) (s : ByteArray) (f : Int) (w : World), Hid (T w F g l) → Hid (nameV l i = s ∧ nameE l i = f) →
    Calls Tryd.prog 17 #[.pointer (some ⟨g, 0, none⟩), .int .i64 i] w fun e w' => e = .returned (.tuple #[.string s, .int .i64 f]) ∧ Own w w'
  sorted : ∀ (l : Ss) (g n : Nat) (F : Nat → Prop) (w : World), Hid (T w F g l) → l.length = n → n ≤ 1000 →
    Calls Tryd.prog 26 #[.pointer (some ⟨g, 0, none⟩)] w fun e w' => ∃ A cap, e = .returned (.slice A n cap) ∧ w'.ownsRow w.heap.size 9 1 (.slice A n cap) n (cellsS (sortS l)) ∧ Own w w'
/-- What the laws ask of Add. -/
structure IdentA (T : World → (Nat → Prop) → Nat → Ss → Prop) : Prop where
  bad : ∀ (l : Ss) (s : ByteArray) (g : Nat) (F : Nat → Prop) (f : Int) (w : World), s.size ≤ maxLen → Hid (T w F g l) → Hid (addE l s = f) → f ≠ 0 →
    Calls Tryd.prog 23 #[.pointer (some ⟨g, 0, none⟩), .string s] w fun e w' => e = .returned (.tuple #[.int .i64 0, .int .i64 f]) ∧ Own w w'
  ok : ∀ (l : Ss) (s : ByteArray) (g : Nat) (F : Nat → Prop) (w : World), s.size ≤ maxLen → Hid (T w F g l) → Hid (addE l s = 0) →
    Calls Tryd.prog 23 #[.pointer (some ⟨g, 0, none⟩), .string s] w fun e w' => e = .returned (.tuple #[.int .i64 l.length, .int .i64 0]) ∧ Chg F w w' ∧ ∃ F', T w' F' g (l ++ [s]) ∧ ∀ k, F' k → F k ∨ w.heap.size ≤ k
theorem IdentC.own {T : World → (Nat → Prop) → Nat → Ss → Prop} (C : IdentC T) {w w' : World} {F : Nat → Prop} {g : Nat} {l : Ss} (h : T w F g l) (hg : Own w w') : T w' F g l := C.chg h (Chg.of_own (F := fun _ => False) hg) fun _ _ h => h
end Go.Proofs.YtifiljmiehddfaaDoor.NamW
