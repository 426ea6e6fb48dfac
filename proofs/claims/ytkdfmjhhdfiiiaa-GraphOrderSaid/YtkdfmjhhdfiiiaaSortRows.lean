/-
  A row of cells that the library sorts by a function of the caller's, for whatever is written there: from a row to the library's words and back. Nothing of the program. Condition: none.
-/
import Derived.Shelf.SlSortCmp.NoneTotal
import Derived.Laws.AppendOwn
import Derived.Test.YtkdfmjhhdfiiiaaPairs
namespace Go.Proofs.Ytkdfmjhhdfiiiaa.SorR
open Go.Sort Go.RowKit PairW
variable {α : Type} [Inhabited α] {c : α → Value} {w : World} {g n : Nat} {cur : Array Value} {e : TypeId} {os : Array Obj}
theorem row_holds {xs : List α} (hb : w.heap[g]? = some (.cells cur e (0, 0))) (ht : cur.toList.take xs.length = xs.map c) : Holds c w g 0 xs.toArray := fun j hj => by
  have hj : j < xs.length := by rw [← List.size_toArray]; exact hj
  constructor
  · have h : cur[j]? = some (c xs[j]) := by
      rw [← Array.getElem?_toList, ← List.getElem?_take_of_lt hj, ht, List.getElem?_map, List.getElem?_eq_getElem hj]
      rfl
    have hx : xs.toArray[j]! = xs[j] := by rw [getElem!_pos xs.toArray j (by simpa using hj)]; rfl
    rw [hx, ← h, Nat.zero_add]
    simp [World.cell?, hb]
  · simp [World.frozen?, hb]
theorem sorted_block (d : Array α) (hb : w.heap[g]? = some (.cells cur e (0, 0))) : (sortWorld c w g 0 n d os).heap[g]? = some (.cells (putCells c 0 d cur) e (0, 0)) := by
  have hg : g < w.heap.size := (Array.getElem?_eq_some_iff.1 hb).1
  show ((putRow c (Sort.ahead w n) g 0 d).heap ++ os)[g]? = _
  rw [Array.getElem?_append_left (by rw [Sort.size_putRow]; exact hg)]
  show (w.heap.modify g (onCells (putCells c 0 d)))[g]? = _
  rw [Array.getElem?_modify, if_pos rfl, hb]
  rfl
theorem sorted_grown (d : Array α) : w.grownBy (sortWorld c w g 0 n d os) (some g) := by
  refine ⟨rfl, rfl, rfl, ?_, fun k hk hne => ?_⟩
  · show w.heap.size ≤ ((putRow c (Sort.ahead w n) g 0 d).heap ++ os).size
    rw [Array.size_append, Sort.size_putRow]
    exact Nat.le_add_right _ _
  · show ((putRow c (Sort.ahead w n) g 0 d).heap ++ os)[k]? = _
    rw [Array.getElem?_append_left (by rw [Sort.size_putRow]; exact hk)]
    show (w.heap.modify g (onCells (putCells c 0 d)))[k]? = _
    rw [Array.getElem?_modify, if_neg (fun h => hne (by rw [h]))]
theorem put_take (d : Array α) (h : d.size ≤ cur.size) : (putCells c 0 d cur).toList.take d.size = d.toList.map c := by
  refine List.ext_getElem? fun j => ?_
  by_cases hj : j < d.size
  · rw [List.getElem?_take_of_lt hj, Array.getElem?_toList, List.getElem?_map, Array.getElem?_toList, Array.getElem?_eq_getElem hj]
    unfold putCells
    rw [Array.getElem?_mapIdx, Array.getElem?_eq_getElem (show j < cur.size by omega)]
    show some (if 0 ≤ j ∧ j < 0 + d.size then c d[j - 0]! else _) = some (c d[j])
    rw [if_pos ⟨Nat.zero_le _, by omega⟩, Nat.sub_zero, getElem!_pos d j hj]
  · rw [List.getElem?_take_eq_none (by omega), List.getElem?_eq_none (by rw [List.length_map, Array.length_toList]; omega)]
theorem sorted_row {base cap m : Nat} (d : Array α) (hd : d.size = m) (hbase : base ≤ g) (hb : w.heap[g]? = some (.cells cur e (0, 0))) (h1 : m ≤ cap) (h2 : cap ≤ maxLen) (h3 : cur.size = cap * 1) :
    (sortWorld c w g 0 n d os).ownsRow base e 1 (.slice (some ⟨g, 0, none⟩) m cap) m (d.toList.map c) := by
  refine ⟨by rw [List.length_map, Array.length_toList, hd, Nat.mul_one], .inr ⟨g, cap, _, rfl, hbase, sorted_block d hb, h1, h2, ?_, ?_⟩⟩
  · unfold putCells
    rw [Array.size_mapIdx, h3]
  · rw [Nat.mul_one, ← hd]
    exact put_take d (by omega)
end Go.Proofs.Ytkdfmjhhdfiiiaa.SorR
