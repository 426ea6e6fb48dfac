/-
  Slices of strings in memory, lists of strings compared and searched: what every walk over []string shares. Nothing of the program. Condition: none.
-/
import Derived.Test.YtmjokgddhainlaaPairs
namespace Go.Proofs.Ytmjokgddhainlaa.StrW
open Go.ChangeShapes Go.WideShapes Go.ChangeAt Go.RowKit
open PairW
abbrev Ss := List ByteArray
def atS (l : Ss) (i : Nat) : ByteArray := l.getD i ByteArray.empty
theorem atS_get {l : Ss} {k : Nat} (h : k < l.length) : atS l k = l[k] := by unfold atS; rw [List.getD_eq_getElem?_getD, List.getElem?_eq_getElem h]; rfl
theorem atS_mem {l : Ss} {k : Nat} (h : k < l.length) : atS l k ∈ l := by rw [atS_get h]; exact List.getElem_mem h
/-- The slice value sv holds the strings of l; its address is asked for where there is one. -/
def Strs (w : World) (sv : Value) (l : Ss) : Prop :=
  ∃ (A : Option Addr) (cap : Nat), sv = .slice A l.length cap ∧ l.length ≤ cap ∧ cap ≤ maxLen ∧
    (0 < l.length → ∃ b off : Nat, A = some ⟨b, off, none⟩ ∧ ∀ i, i < l.length → w.cell? ⟨b, off + i, none⟩ = some (.string (atS l i)))
theorem Strs.own {w w' : World} {sv : Value} {l : Ss} (h : Strs w sv l) (hg : Own w w') : Strs w' sv l := by
  obtain ⟨A, cap, h1, h2, h3, h4⟩ := h
  refine ⟨A, cap, h1, h2, h3, fun h0 => ?_⟩
  obtain ⟨b, off, h5, h6⟩ := h4 h0
  exact ⟨b, off, h5, fun i hi => hg.cell (h6 i hi)⟩
theorem strs_nil (w : World) : Strs w (.slice none 0 0) [] := ⟨none, 0, rfl, Nat.le_refl _, Nat.zero_le _, fun h => absurd h (by simp)⟩
def cellsS (l : Ss) : List Value := l.map Value.string
theorem cellsS_len (l : Ss) : (cellsS l).length = l.length := List.length_map ..
theorem cellsS_at {l : Ss} {i : Nat} (h : i < l.length) : (cellsS l)[i]? = some (.string (atS l i)) := by
  unfold cellsS
  rw [List.getElem?_map, List.getElem?_eq_getElem h, atS_get h]
  rfl
theorem cellsS_snoc (l : Ss) (s : ByteArray) : cellsS (l ++ [s]) = cellsS l ++ [.string s] := by unfold cellsS; rw [List.map_append]; rfl
theorem strs_of_row {w : World} {base : Nat} {e : TypeId} {sv : Value} {l : Ss} (h : w.ownsRow base e 1 sv l.length (cellsS l)) : Strs w sv l := by
  rcases h.2 with ⟨h1, h2⟩ | ⟨g, cap, cur, rfl, hb, hh, hn, hm, hs, ht⟩
  · obtain rfl := List.eq_nil_of_length_eq_zero h2
    rw [h1]
    exact strs_nil w
  · refine ⟨_, cap, rfl, hn, hm, fun _ => ⟨g, 0, rfl, fun i hi => ?_⟩⟩
    rw [Nat.zero_add]
    exact (World.ownsRow.cellAt h i (by omega)).trans (cellsS_at hi)
theorem strs_lit {w : World} {B cap : Nat} {l : Ss} (hc : l.length ≤ cap) (hm : cap ≤ maxLen) (h : ∀ i, i < l.length → w.cell? ⟨B, i, none⟩ = some (.string (atS l i))) : Strs w (.slice (some ⟨B, 0, none⟩) l.length cap) l :=
  ⟨_, cap, rfl, hc, hm, fun _ => ⟨B, 0, rfl, fun i hi => by rw [Nat.zero_add]; exact h i hi⟩⟩
/-- No string is longer than the model lets it be. -/
def Short (l : Ss) : Prop := ∀ s ∈ l, s.size ≤ maxLen
theorem Short.at_ {l : Ss} (h : Short l) {i : Nat} (hi : i < l.length) : (atS l i).size ≤ maxLen := h _ (atS_mem hi)
theorem Short.snoc {l : Ss} {s : ByteArray} (h : Short l) (hs : s.size ≤ maxLen) : Short (l ++ [s]) := fun x hx => by
  rcases List.mem_append.1 hx with k | k
  · exact h x k
  · rw [List.mem_singleton.1 k]; exact hs
theorem str_inj {a b : ByteArray} (h : a.toList = b.toList) : a = b := bytes_inj (by rw [← ByteArray.toList_eq, ← ByteArray.toList_eq]; exact h)
theorem str_eq {a b : ByteArray} (h : a = b) : (a.toList == b.toList) = true := by rw [h]; exact beq_self_eq_true _
theorem str_ne {a b : ByteArray} (h : a ≠ b) : (a.toList == b.toList) = false := beq_eq_false_iff_ne.2 fun e => h (str_inj e)
theorem strs_eq {a b : Ss} (h : a.length = b.length) (he : ∀ i, i < a.length → atS a i = atS b i) : a = b := by
  refine List.ext_getElem h fun i h1 h2 => ?_
  have := he i h1
  rw [atS_get h1, atS_get h2] at this
  exact this
/-- Where a string stands in a list for the first time; -1 if it doesn't. -/
def findI (s : ByteArray) : Ss → Int
  | [] => -1
  | x :: r => if x.toList = s.toList then 0 else if findI s r < 0 then -1 else findI s r + 1
theorem find_hit {s : ByteArray} : ∀ {l : Ss} {k : Nat}, k < l.length → (∀ j, j < k → atS l j ≠ s) → atS l k = s → findI s l = k
  | [], _, h, _, _ => by simp at h
  | x :: r, 0, _, _, h => by
    unfold findI
    have h : x = s := h
    rw [if_pos (by rw [h])]
    rfl
  | x :: r, k + 1, hk, hn, h => by
    unfold findI
    have h0 : x ≠ s := hn 0 (by omega)
    have := find_hit (l := r) (k := k) (by simpa using hk) (fun j hj => hn (j + 1) (by omega)) h
    rw [if_neg (fun e => h0 (str_inj e)), this, if_neg (by omega)]
    rfl
theorem find_none {s : ByteArray} : ∀ {l : Ss}, (∀ j, j < l.length → atS l j ≠ s) → findI s l = -1
  | [], _ => rfl
  | x :: r, h => by
    unfold findI
    have h0 : x ≠ s := h 0 (by simp)
    have := find_none (l := r) fun j hj => h (j + 1) (by simp; omega)
    rw [if_neg (fun e => h0 (str_inj e)), this]
    rfl
theorem find_cases (s : ByteArray) : ∀ (l : Ss), (findI s l = -1 ∧ s ∉ l) ∨ ∃ k : Nat, findI s l = k ∧ k < l.length ∧ atS l k = s ∧ ∀ j, j < k → atS l j ≠ s
  | [] => .inl ⟨rfl, by simp⟩
  | x :: r => by
    by_cases e : x = s
    · refine .inr ⟨0, ?_, by simp, e, fun j hj => absurd hj (Nat.not_lt_zero _)⟩
      unfold findI
      rw [if_pos (by rw [e])]
      rfl
    · rcases find_cases s r with ⟨h1, h2⟩ | ⟨k, h1, h2, h3, h4⟩
      · refine .inl ⟨?_, fun h => ?_⟩
        · unfold findI
          rw [if_neg (fun k => e (str_inj k)), h1]
          rfl
        · rcases List.mem_cons.1 h with rfl | h
          · exact e rfl
          · exact h2 h
      · refine .inr ⟨k + 1, ?_, by simpa using h2, h3, fun j hj => ?_⟩
        · unfold findI
          rw [if_neg (fun k => e (str_inj k)), h1, if_neg (by omega)]
          rfl
        · cases j with
          | zero => exact e
          | succ j => exact h4 j (by omega)
theorem find_neg {s : ByteArray} {l : Ss} : findI s l < 0 ↔ s ∉ l := by
  rcases find_cases s l with ⟨h1, h2⟩ | ⟨k, h1, h2, h3, _⟩
  · exact ⟨fun _ => h2, fun _ => by omega⟩
  · exact ⟨fun h => by omega, fun h => absurd (h3 ▸ atS_mem h2) h⟩
theorem find_snoc {s : ByteArray} {l : Ss} (h : s ∉ l) : findI s (l ++ [s]) = l.length := by
  refine find_hit (by simp) (fun j hj e => ?_) ?_
  · have h1 : atS (l ++ [s]) j = atS l j := by unfold atS; rw [List.getD_eq_getElem?_getD, List.getD_eq_getElem?_getD, List.getElem?_append_left hj]
    exact h (by rw [← e, h1]; exact atS_mem hj)
  · unfold atS
    rw [List.getD_eq_getElem?_getD, List.getElem?_append_right (Nat.le_refl _), Nat.sub_self]
    rfl
end Go.Proofs.Ytmjokgddhainlaa.StrW
