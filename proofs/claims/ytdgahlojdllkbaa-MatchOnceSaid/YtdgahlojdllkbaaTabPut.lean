/-
  A table of rows of one's own: one cell of one row stored into. Nothing of the program. Condition: none.
-/
import Derived.Test.YtdgahlojdllkbaaTabMid
namespace Go.Proofs.Ytdgahlojdllkbaa.TabW
open Go.ChangeShapes Go.WideShapes Go.ChangeAt Go.RowKit
open PairW CelW
section
variable {w : World} {base : Nat} {sT eI : TypeId} {v : Value} {rows : List (List Value)} {vs : List Value}
/-- A store into one cell of one row. -/
theorem TabV.put {i j gu m cu : Nat} {x : Value} {xs : List Value} (ne : eI ≠ sT) (h : TabV w base sT eI v rows vs) (hi : rows[i]? = some xs) (hu : vs[i]? = some (.slice (some ⟨gu, 0, none⟩) m cu)) : TabV (w.setCell ⟨gu, j, none⟩ x) base sT eI v (rows.set i (xs.set j x)) vs := by
  have hrow := h.inn i xs _ hi hu
  have hil := (List.getElem?_eq_some_iff.1 hi).1
  have hm : m = xs.length := by
    rcases hrow.2 with ⟨q, _⟩ | ⟨g', cap', cur, q, _⟩
    · cases q
    · injection q
  have key : ∀ {b2 : Nat} {u : Value} {n : Nat} {ys : List Value} {e : TypeId}, w.ownsRow b2 e 1 u n ys → u.ownBlock = none ∨ u.ownBlock ≠ some gu → (w.setCell ⟨gu, j, none⟩ x).ownsRow b2 e 1 u n ys := fun {b2 u n ys e} hr hd => row_stays hr fun k hk => by
    refine Below.heap_setCell _ _ _ _ ?_
    rcases hd with hd | hd
    · rw [hk] at hd
      cases hd
    · intro e
      exact hd (by rw [hk]; exact congrArg some e)
  refine ⟨by rw [List.length_set]; exact h.len, ?_, fun k ys u hy hk => ?_, h.ap⟩
  · rw [List.length_set]
    refine key h.out ?_
    rcases rows_apart hrow h.out ne with q | q
    · cases q
    · cases e : v.ownBlock with
      | none => exact .inl rfl
      | some b => exact .inr fun e2 => q (by rw [e, e2]; rfl)
  · rw [List.getElem?_set] at hy
    by_cases e : i = k
    · subst e
      rw [if_pos rfl, if_pos hil] at hy
      injection hy with hy
      subst hy
      rw [hu] at hk
      injection hk with hk
      subst hk
      rw [List.length_set]
      subst hm
      exact (World.ownsRow.stored hrow j x).1
    · rw [if_neg e] at hy
      refine key (h.inn k ys u hy hk) ?_
      rcases Nat.lt_or_gt_of_ne e with q | q
      · rcases h.ap i k _ u q hu hk with r | r
        · cases r
        · cases e2 : u.ownBlock with
          | none => exact .inl rfl
          | some b => exact .inr fun e3 => r (by rw [e2, e3]; rfl)
      · rcases h.ap k i u _ q hk hu with r | r
        · exact .inl r
        · exact .inr r
end
end Go.Proofs.Ytdgahlojdllkbaa.TabW
