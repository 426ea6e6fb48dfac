/-
  Lists of integers and of truths in memory. Nothing of the program. Condition: none.
-/
import Derived.Test.YtlepcahangkmiaaCells
import Derived.Laws.OwnMore
import Derived.OwnWalk
namespace Go.Proofs.Ytlepcahangkmiaa.CelW
open Go.ChangeShapes Go.WideShapes Go.ChangeAt Go.RowKit
open PairW
/-- A slice whose cells are the values of a list's elements, opened. -/
theorem cel_map {α : Type} {f : α → Value} {w : World} {v : Value} {l : List α} (h : Cel w v (l.map f)) : ∃ A cap, v = .slice A l.length cap ∧ l.length ≤ cap ∧ cap ≤ maxLen ∧ (0 < l.length → ∃ g off : Nat, A = some ⟨g, off, none⟩ ∧ ∀ i (hi : i < l.length), w.cell? ⟨g, off + i, none⟩ = some (f l[i])) := by
  obtain ⟨A, cap, h1, h2, h3, h4⟩ := h
  rw [List.length_map] at h1 h2 h4
  refine ⟨A, cap, h1, h2, h3, fun h0 => ?_⟩
  obtain ⟨b, off, h5, h6⟩ := h4 h0
  exact ⟨b, off, h5, fun i hi => h6 i _ (by rw [List.getElem?_map, List.getElem?_eq_getElem hi]; rfl)⟩
def cellsI (l : List Int) : List Value := l.map (Value.int .i64)
theorem cellsI_len (l : List Int) : (cellsI l).length = l.length := List.length_map ..
theorem cellsI_app (a b : List Int) : cellsI (a ++ b) = cellsI a ++ cellsI b := List.map_append
theorem cellsI_one (l : List Int) : ∀ u ∈ cellsI l, u.oneCell' = true := fun u hu => by
  obtain ⟨c, _, rfl⟩ := List.mem_map.1 hu
  rfl
theorem cel_ints {w : World} {v : Value} {l : List Int} (h : Cel w v (cellsI l)) : ∃ A cap, v = .slice A l.length cap ∧ l.length ≤ cap ∧ cap ≤ maxLen ∧ (0 < l.length → ∃ g off : Nat, A = some ⟨g, off, none⟩ ∧ ∀ i (hi : i < l.length), w.cell? ⟨g, off + i, none⟩ = some (.int .i64 l[i])) := cel_map h
def cellsT (l : List Bool) : List Value := l.map Value.bool
theorem cellsT_len (l : List Bool) : (cellsT l).length = l.length := List.length_map ..
theorem cel_bools {w : World} {v : Value} {l : List Bool} (h : Cel w v (cellsT l)) : ∃ A cap, v = .slice A l.length cap ∧ l.length ≤ cap ∧ cap ≤ maxLen ∧ (0 < l.length → ∃ g off : Nat, A = some ⟨g, off, none⟩ ∧ ∀ i (hi : i < l.length), w.cell? ⟨g, off + i, none⟩ = some (.bool l[i])) := cel_map h
theorem cellsT_set (l : List Bool) (i : Nat) (t : Bool) : (cellsT l).set i (.bool t) = cellsT (l.set i t) := by unfold cellsT; rw [List.map_set]
theorem cellsI_set (l : List Int) (i : Nat) (t : Int) : (cellsI l).set i (.int .i64 t) = cellsI (l.set i t) := by unfold cellsI; rw [List.map_set]
theorem cellsT_at {l : List Bool} {i : Nat} (h : i < l.length) : (cellsT l)[i]? = some (.bool l[i]) := by unfold cellsT; rw [List.getElem?_map, List.getElem?_eq_getElem h]; rfl
theorem cellsI_at {l : List Int} {i : Nat} (h : i < l.length) : (cellsI l)[i]? = some (.int .i64 l[i]) := by unfold cellsI; rw [List.getElem?_map, List.getElem?_eq_getElem h]; rfl
/-- The form of a row of one's own. -/
theorem rows_shape {w : World} {base n : Nat} {e : TypeId} {v : Value} {xs : List Value} (h : w.ownsRow base e 1 v n xs) : ∃ A cap, v = .slice A n cap := by
  rcases h.2 with ⟨h1, h2⟩ | ⟨g, cap, cur, rfl, _⟩
  · subst h2
    exact ⟨none, 0, h1⟩
  · exact ⟨_, cap, rfl⟩
/-- Values that were written out where they stand. -/
theorem cel_lit {w : World} {T : TypeId} {cs : Array Value} {xs : List Value} {k : Nat} (h : cs.toList = xs) (hk : xs.length = k) (hm : k ≤ maxLen) : Cel (w.alloc (.cells cs T)) (.slice (some ⟨w.heap.size, 0, none⟩) k k) xs := by
  subst hk
  refine ⟨_, xs.length, rfl, Nat.le_refl _, hm, fun _ => ⟨w.heap.size, 0, rfl, fun i u hu => ?_⟩⟩
  rw [Nat.zero_add]
  subst h
  have hu' : cs[i]? = some u := by simpa using hu
  have h0 : (w.alloc (.cells cs T)).heap[w.heap.size]? = some (.cells cs T (0, 0)) := heap_alloc_new w _
  unfold World.cell?
  simp only [h0]
  exact hu'
theorem row_down {w : World} {b0 b : Nat} {e : TypeId} {size : Nat} {sv : Value} {n : Nat} {xs : List Value} (h : w.ownsRow b e size sv n xs) (hb : b0 ≤ b) : w.ownsRow b0 e size sv n xs := by
  refine ⟨h.1, h.2.imp id ?_⟩
  rintro ⟨g, cap, cur, h1, h2, h3⟩
  exact ⟨g, cap, cur, h1, by omega, h3⟩
end Go.Proofs.Ytlepcahangkmiaa.CelW
