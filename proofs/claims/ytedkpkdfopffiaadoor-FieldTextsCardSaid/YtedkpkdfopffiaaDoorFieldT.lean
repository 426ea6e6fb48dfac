/-
  Walk of the specification of package field: Lines. Condition: none.
-/
import Derived.Test.YtedkpkdfopffiaaDoorFieldS
namespace Go.Proofs.YtedkpkdfopffiaaDoor.NamW
open Go.ChangeShapes Go.WideShapes Go.ChangeAt Go.RowKit
open PairW NamP StrW FldP
/-- The cells xs hold the lists of L, in order. -/
def RowsL (w : World) (xs : List Value) (L : List Ss) : Prop := xs.length = L.length ∧ ∀ i, i < L.length → ∃ sv, xs[i]? = some sv ∧ Strs w sv (L.getD i [])
theorem RowsL.nil (w : World) : RowsL w [] [] := ⟨rfl, fun _ h => absurd h (Nat.not_lt_zero _)⟩
theorem RowsL.own {w w' : World} {xs : List Value} {L : List Ss} (h : RowsL w xs L) (hg : Own w w') : RowsL w' xs L :=
  ⟨h.1, fun i hi => let ⟨sv, h1, h2⟩ := h.2 i hi; ⟨sv, h1, h2.own hg⟩⟩
theorem getD_left {α : Type} {a b : List α} {d : α} {i : Nat} (h : i < a.length) : (a ++ b).getD i d = a.getD i d := by
  rw [List.getD_eq_getElem?_getD, List.getD_eq_getElem?_getD, List.getElem?_append_left h]
theorem getD_last {α : Type} {a : List α} {x d : α} : (a ++ [x]).getD a.length d = x := by
  rw [List.getD_eq_getElem?_getD, List.getElem?_append_right (Nat.le_refl _), Nat.sub_self]
  rfl
theorem RowsL.snoc {w : World} {xs : List Value} {L : List Ss} {sv : Value} {l : Ss} (h : RowsL w xs L) (hs : Strs w sv l) : RowsL w (xs ++ [sv]) (L ++ [l]) := by
  refine ⟨by rw [List.length_append, List.length_append, h.1]; rfl, fun i hi => ?_⟩
  by_cases c : i < L.length
  · obtain ⟨u, h1, h2⟩ := h.2 i c
    exact ⟨u, by rw [List.getElem?_append_left (by rw [h.1]; exact c)]; exact h1, by rw [getD_left c]; exact h2⟩
  · obtain rfl : i = L.length := by rw [List.length_append] at hi; simp at hi; omega
    exact ⟨sv, by rw [← h.1, List.getElem?_append_right (Nat.le_refl _), Nat.sub_self]; rfl, by rw [getD_last]; exact hs⟩
theorem RowsL.append {w : World} {xs ys : List Value} {L M : List Ss} (h : RowsL w xs L) (k : RowsL w ys M) : RowsL w (xs ++ ys) (L ++ M) := by
  refine ⟨by rw [List.length_append, List.length_append, h.1, k.1], fun i hi => ?_⟩
  by_cases c : i < L.length
  · obtain ⟨u, h1, h2⟩ := h.2 i c
    exact ⟨u, by rw [List.getElem?_append_left (by rw [h.1]; exact c)]; exact h1, by rw [getD_left c]; exact h2⟩
  · obtain ⟨u, h1, h2⟩ := k.2 (i - L.length) (by rw [List.length_append] at hi; omega)
    refine ⟨u, by rw [List.getElem?_append_right (by rw [h.1]; omega), h.1]; exact h1, ?_⟩
    rw [List.getD_eq_getElem?_getD, List.getElem?_append_right (by omega), ← List.getD_eq_getElem?_getD]
    exact h2
theorem strs_grown {w w' : World} {sv : Value} {l : Ss} {row : Option Nat} (h : Strs w sv l) (hg : w.grownBy w' row) (hn : ∀ b, sv.ownBlock = some b → row ≠ some b) : Strs w' sv l := by
  obtain ⟨A, cap, h1, h2, h3, h4⟩ := h
  refine ⟨A, cap, h1, h2, h3, fun h0 => ?_⟩
  obtain ⟨b, off, h5, h6⟩ := h4 h0
  refine ⟨b, off, h5, fun i hi => ?_⟩
  have hb : row ≠ some b := hn b (by rw [h1, h5]; rfl)
  exact (World.grownBy.cell_far hg ⟨b, off + i, none⟩ (block_lt_of_cell (h6 i hi)) (fun e => hb e.symm)).trans (h6 i hi)
theorem RowsL.grown {w w' : World} {xs : List Value} {L : List Ss} {row : Option Nat} (h : RowsL w xs L) (hg : w.grownBy w' row) (hn : ∀ sv ∈ xs, ∀ b, sv.ownBlock = some b → row ≠ some b) : RowsL w' xs L :=
  ⟨h.1, fun i hi => let ⟨sv, h1, h2⟩ := h.2 i hi; ⟨sv, h1, strs_grown h2 hg (hn sv (List.mem_of_getElem? h1))⟩⟩
/-- The form of a slice of strings (an arm of a walk opens no definition). -/
theorem row_slice {w : World} {base : Nat} {e : TypeId} {sv : Value} {l : Ss} (h : w.ownsRow base e 1 sv l.length (cellsS l)) : ∃ A cap, sv = .slice A l.length cap := by
  obtain ⟨A, cap, h1, _⟩ := strs_of_row h
  exact ⟨A, cap, h1⟩
/-- A row of slices is a list of lists. -/
theorem lns_of_row {w : World} {base n : Nat} {e : TypeId} {v : Value} {xs : List Value} {L : List Ss} (h : w.ownsRow base e 1 v n xs) (hr : RowsL w xs L) : Lns w v L ∧ n = L.length := by
  have hn : n = L.length := by have := h.1; rw [hr.1] at this; omega
  subst hn
  refine ⟨?_, rfl⟩
  rcases h.2 with ⟨h1, h2⟩ | ⟨g, cap, cur, rfl, hb, hh, hn, hm, hs, ht⟩
  · obtain rfl := List.eq_nil_of_length_eq_zero h2
    rw [h1]
    exact ⟨none, 0, rfl, Nat.le_refl _, Nat.zero_le _, fun h => absurd h (by simp)⟩
  · refine ⟨_, cap, rfl, hn, hm, fun _ => ⟨g, 0, rfl, fun i hi => ?_⟩⟩
    obtain ⟨sv, h1, h2⟩ := hr.2 i hi
    rw [Nat.zero_add]
    exact ⟨sv, (World.ownsRow.cellAt h i (by omega)).trans h1, h2⟩
/-- What is left of a text whose bytes from place a to place k are no line feeds. -/
def leftL (T : Bs) (a k : Nat) : List Bs := (segs ((T.drop a).take (k - a)).reverse (T.drop k)).filter fun l => !passed l
theorem left_start (T : Bs) : linesOf T = leftL T 0 0 := rfl
theorem left_end (T : Bs) (a : Nat) : leftL T a T.length = [] := by
  unfold leftL
  rw [List.drop_length]
  rfl
theorem drop_cons {T : Bs} {k : Nat} (h : k < T.length) : T.drop k = T[k] :: T.drop (k + 1) := List.drop_eq_getElem_cons h
theorem left_byte {T : Bs} {a k : Nat} (ha : a ≤ k) (h : k < T.length) (hc : T[k] ≠ 10) : leftL T a k = leftL T a (k + 1) := by
  unfold leftL
  rw [drop_cons h]
  show (if T[k] = 10 then _ else segs (T[k] :: ((T.drop a).take (k - a)).reverse) (T.drop (k + 1))).filter _ = _
  rw [if_neg hc]
  have e : (T.drop a).take (k + 1 - a) = (T.drop a).take (k - a) ++ [T[k]] := by
    rw [show k + 1 - a = (k - a) + 1 by omega, List.take_succ_eq_append_getElem (by rw [List.length_drop]; omega)]
    congr 2
    rw [List.getElem_drop]
    congr 1
    omega
  rw [e, List.reverse_append]
  rfl
theorem left_feed {T : Bs} {a k : Nat} (h : k < T.length) (hc : T[k] = 10) : leftL T a k = (if passed ((T.drop a).take (k - a)) = true then leftL T (k + 1) (k + 1) else (T.drop a).take (k - a) :: leftL T (k + 1) (k + 1)) := by
  unfold leftL
  rw [drop_cons h]
  show (if T[k] = 10 then ((T.drop a).take (k - a)).reverse.reverse :: segs [] (T.drop (k + 1)) else _).filter _ = _
  rw [if_pos hc, List.reverse_reverse, List.filter_cons]
  have e : ((T.drop (k + 1)).take (k + 1 - (k + 1))).reverse = [] := by rw [Nat.sub_self]; rfl
  rw [e]
  by_cases p : passed ((T.drop a).take (k - a)) = true
  · rw [p]; rfl
  · rw [Bool.of_not_eq_true p]; rfl
/-- The lists out of the lines that were split. -/
def DoneL (T : Bs) (a k : Nat) (L : List Ss) : Prop := ∃ D : List Bs, linesOf T = D ++ leftL T a k ∧ firstE D = 0 ∧ L.map fl = D.map splitV
theorem DoneL.start (T : Bs) : DoneL T 0 0 [] := ⟨[], left_start T, rfl, rfl⟩
theorem DoneL.byte {T : Bs} {a k : Nat} {L : List Ss} (h : DoneL T a k L) (ha : a ≤ k) (hk : k < T.length) (hc : T[k] ≠ 10) : DoneL T a (k + 1) L := by
  obtain ⟨D, h1, h2, h3⟩ := h
  exact ⟨D, by rw [h1, left_byte ha hk hc], h2, h3⟩
theorem DoneL.pass {T : Bs} {a k : Nat} {L : List Ss} (h : DoneL T a k L) (hk : k < T.length) (hc : T[k] = 10) (hp : passed ((T.drop a).take (k - a)) = true) : DoneL T (k + 1) (k + 1) L := by
  obtain ⟨D, h1, h2, h3⟩ := h
  exact ⟨D, by rw [h1, left_feed hk hc, if_pos hp], h2, h3⟩
theorem first_snoc {D : List Bs} {x : Bs} (h : firstE D = 0) : firstE (D ++ [x]) = splitE x := by
  rw [first_append, if_neg (by rw [h]; simp)]
  show (if splitE x ≠ 0 then splitE x else 0) = _
  by_cases c : splitE x ≠ 0
  · rw [if_pos c]
  · rw [if_neg c]; exact (Classical.not_not.1 c).symm
theorem DoneL.take {T : Bs} {a k : Nat} {L : List Ss} {l : Ss} (h : DoneL T a k L) (hk : k < T.length) (hc : T[k] = 10) (hp : passed ((T.drop a).take (k - a)) = false) (he : splitE ((T.drop a).take (k - a)) = 0) (hl : fl l = splitV ((T.drop a).take (k - a))) : DoneL T (k + 1) (k + 1) (L ++ [l]) := by
  obtain ⟨D, h1, h2, h3⟩ := h
  refine ⟨D ++ [(T.drop a).take (k - a)], by rw [h1, left_feed hk hc, if_neg (by rw [hp]; simp), List.append_assoc]; rfl, by rw [first_snoc h2, he], ?_⟩
  rw [List.map_append, List.map_append, h3]
  show _ ++ [fl l] = _ ++ [splitV _]
  rw [hl]
theorem DoneL.bad {T : Bs} {a k : Nat} {L : List Ss} (h : DoneL T a k L) (ht : ¬ (T ≠ [] ∧ T.getLast? ≠ some 10)) (hk : k < T.length) (hc : T[k] = 10) (hp : passed ((T.drop a).take (k - a)) = false) (he : splitE ((T.drop a).take (k - a)) ≠ 0) : linesE T = splitE ((T.drop a).take (k - a)) ∧ linesV T = [] := by
  obtain ⟨D, h1, h2, h3⟩ := h
  have e : linesE T = splitE ((T.drop a).take (k - a)) := by
    unfold linesE
    rw [if_neg ht, h1, left_feed hk hc, if_neg (by rw [hp]; simp), first_append, if_neg (by rw [h2]; simp)]
    show (if _ then _ else _) = _
    rw [if_pos he]
  exact ⟨e, by unfold linesV; rw [e, if_neg he]⟩
theorem DoneL.stop {T : Bs} {a : Nat} {L : List Ss} (h : DoneL T a T.length L) (ht : ¬ (T ≠ [] ∧ T.getLast? ≠ some 10)) : linesE T = 0 ∧ linesV T = L.map fl := by
  obtain ⟨D, h1, h2, h3⟩ := h
  rw [left_end, List.append_nil] at h1
  have e : linesE T = 0 := by unfold linesE; rw [if_neg ht, h1, h2]
  exact ⟨e, by unfold linesV; rw [if_pos e, h1, h3]⟩
theorem lines_form {T : Bs} (h : T ≠ [] ∧ T.getLast? ≠ some 10) : linesE T = 2 ∧ linesV T = [] := by
  have e : linesE T = 2 := by unfold linesE; rw [if_pos h]
  exact ⟨e, by unfold linesV; rw [e, if_neg (by decide)]⟩
end Go.Proofs.YtedkpkdfopffiaaDoor.NamW
