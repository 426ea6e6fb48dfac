/-
  A map from texts to their places in a list. Nothing of the program. Condition: none.
-/
import Derived.Maps.OwnSet
import Derived.Test.YtifiljmiehddfaaDoorStrs
namespace Go.Proofs.YtifiljmiehddfaaDoor.StrW
open Go.ChangeShapes Go.WideShapes Go.ChangeAt Go.RowKit Go.Maps
open PairW
abbrev keyL (s : ByteArray) : Lit := .string s.data.toList
abbrev numL (n : Int) : DataW Unit := .lit (.int .i64 n)
def numR : Ss → DataW Unit
  | [] => .map []
  | s :: r => (numR r).put (keyL s) (numL r.length)
/-- The map that gives each text of l its place. -/
def numD (l : Ss) : DataW Unit := numR l.reverse
theorem numD_nil : numD [] = .map [] := rfl
theorem numD_snoc (l : Ss) (s : ByteArray) : numD (l ++ [s]) = (numD l).put (keyL s) (numL l.length) := by
  unfold numD
  rw [List.reverse_append]
  show (numR l.reverse).put _ (numL (l.reverse.length : Nat)) = _
  rw [List.length_reverse]
theorem keyL_ne {a b : ByteArray} (h : a ≠ b) : keyL a ≠ keyL b := fun e => h (bytes_inj (by injection e))
theorem numD_map : ∀ l : Ss, IsMap (numD l) := fun l => by
  unfold numD
  generalize l.reverse = r
  induction r with
  | nil => exact isMap_empty
  | cons s r ih => exact ih.put _ _
theorem find_other {s t : ByteArray} {m : Ss} (e : s ≠ t) : findI s (m ++ [t]) = findI s m := by
  have hl : ∀ j, j < m.length → atS (m ++ [t]) j = atS m j := fun j hj => by unfold atS; rw [List.getD_eq_getElem?_getD, List.getD_eq_getElem?_getD, List.getElem?_append_left hj]
  rcases find_cases s m with ⟨h1, h2⟩ | ⟨k, h1, h2, h3, h4⟩
  · rw [h1]
    refine find_none fun j hj hh => ?_
    by_cases c : j < m.length
    · rw [hl j c] at hh
      exact h2 (hh ▸ atS_mem c)
    · obtain rfl : j = m.length := by simp at hj; omega
      unfold atS at hh
      rw [List.getD_eq_getElem?_getD, List.getElem?_append_right (Nat.le_refl _), Nat.sub_self] at hh
      exact e hh.symm
  · rw [h1]
    exact find_hit (by simp; omega) (fun j hj => by rw [hl j (by omega)]; exact h4 j hj) (by rw [hl k h2]; exact h3)
theorem numD_look (s : ByteArray) : ∀ (n : Nat) (l : Ss), l.length = n → l.Nodup → Maps.has (numD l) (keyL s) = decide (0 ≤ findI s l) ∧ (numD l).atKey (keyL s) (numL 0) = numL (if findI s l < 0 then 0 else findI s l) := by
  intro n
  induction n with
  | zero =>
    intro l hl _
    obtain rfl := List.eq_nil_of_length_eq_zero hl
    have hf : findI s [] < 0 := find_neg.2 (by simp)
    rw [if_pos hf, decide_eq_false (by omega)]
    exact ⟨rfl, rfl⟩
  | succ n ih =>
    intro l hl hd
    obtain ⟨m, t, rfl⟩ : ∃ m t, l = m ++ [t] := by
      rcases List.eq_nil_or_concat l with h | ⟨m, t, h⟩
      · rw [h] at hl; simp at hl
      · exact ⟨m, t, by rw [h, List.concat_eq_append]⟩
    have hml : m.length = n := by simpa using hl
    have hmd : m.Nodup := (List.nodup_append.1 hd).1
    obtain ⟨h1, h2⟩ := ih m hml hmd
    have ht : t ∉ m := fun h => ((List.nodup_append.1 hd).2.2 t h t (by simp)) rfl
    rw [numD_snoc]
    by_cases e : s = t
    · subst e
      rw [has_put_same (numD_map m) (show WideAt.IsKeyLit (keyL s) from trivial), atKey_put_same (numD_map m) (show WideAt.IsKeyLit (keyL s) from trivial)]
      have hf : findI s (m ++ [s]) = m.length := find_snoc ht
      rw [hf, decide_eq_true (by omega), if_neg (by omega)]
      exact ⟨rfl, rfl⟩
    · rw [has_put_other (keyL_ne e), atKey_put_other (keyL_ne e), h1, h2]
      rw [find_other e]
      exact ⟨rfl, rfl⟩
end Go.Proofs.YtifiljmiehddfaaDoor.StrW
