/-
  A row of the call's own, cell by cell, for elements of any size. Nothing of the program. Condition: none.
-/
import Derived.Test.YtlepcahangkmiaaPairs
import Derived.Deep.DeepCutAuto
namespace Go.Proofs.Ytlepcahangkmiaa.TemW
open Go.ChangeShapes Go.WideShapes Go.ChangeAt Go.RowKit
open PairW
/-- Contents with one cell changed. -/
def st (j : Nat) (u : Value) (f : Nat → Value) : Nat → Value := fun i => if i = j then u else f i
theorem st_eq {j i : Nat} (h : i = j) (u : Value) (f : Nat → Value) : st j u f i = u := if_pos h
theorem st_ne {j i : Nat} (h : i ≠ j) (u : Value) (f : Nat → Value) : st j u f i = f i := if_neg h
/-- A row that the call owns: n elements of the given size, its cells those of f. -/
def Fn (w : World) (base g n : Nat) (e : TypeId) (size : Nat) (f : Nat → Value) : Prop := w.ownsRow base e size (.slice (some ⟨g, 0, none⟩) n n) n ((List.range (n * size)).map f)
section
variable {w w' : World} {base g n : Nat} {e : TypeId} {size : Nat} {f : Nat → Value}
theorem Fn.cell (h : Fn w base g n e size f) {j : Nat} (hj : j < n * size) : w.cell? ⟨g, j, none⟩ = some (f j) := by
  rw [World.ownsRow.cellAt h j hj, List.getElem?_map, List.getElem?_range hj]
  rfl
theorem Fn.frozen (h : Fn w base g n e size f) (j : Nat) : w.frozen? ⟨g, j, none⟩ = false := World.ownsRow.frozenAt h j
theorem Fn.own (h : Fn w base g n e size f) (hg : Own w w') : Fn w' base g n e size f := row_own h hg
theorem Fn.far (h : Fn w base g n e size f) {p : Addr} (hp : p.block ≠ g) (u : Value) : Fn (w.setCell p u) base g n e size f := row_set h hp u
theorem Fn.ge (h : Fn w base g n e size f) : base ≤ g := (World.ownsRow.lt h g rfl).1
theorem Fn.lt (h : Fn w base g n e size f) : g < w.heap.size := (World.ownsRow.lt h g rfl).2
theorem Fn.put (h : Fn w base g n e size f) (j : Nat) (u : Value) : Fn (w.setCell ⟨g, j, none⟩ u) base g n e size (st j u f) := by
  have := (World.ownsRow.stored h j u).1
  unfold Fn
  rw [show (List.range (n * size)).map (st j u f) = ((List.range (n * size)).map f).set j u from ?_]
  · exact this
  · refine List.ext_getElem? fun i => ?_
    rw [List.getElem?_set, List.getElem?_map, List.getElem?_map, List.length_map, List.length_range]
    by_cases hi : i < n * size
    · rw [List.getElem?_range hi]
      by_cases hj : j = i
      · subst hj
        simp [hi, st]
      · simp [hj, Ne.symm hj, st]
    · rw [List.getElem?_eq_none (by rw [List.length_range]; omega)]
      by_cases hj : j = i
      · subst hj
        simp [hi]
      · simp [hj]
/-- Contents that are the same where there are cells. -/
theorem Fn.to {f' : Nat → Value} (h : Fn w base g n e size f) (he : ∀ j, j < n * size → f j = f' j) : Fn w base g n e size f' := by
  unfold Fn
  rw [show (List.range (n * size)).map f' = (List.range (n * size)).map f from List.map_congr_left fun j hj => (he j (List.mem_range.1 hj)).symm]
  exact h
/-- A row made of a list of cells. -/
theorem Fn.of_list {xs : List Value} (h : w.ownsRow base e size (.slice (some ⟨g, 0, none⟩) n n) n xs) : Fn w base g n e size (fun j => xs.getD j undef) := by
  unfold Fn
  have hl := h.1
  rw [show (List.range (n * size)).map (fun j => xs.getD j undef) = xs from ?_]
  · exact h
  · refine List.ext_getElem? fun i => ?_
    rw [List.getElem?_map]
    by_cases hi : i < n * size
    · rw [List.getElem?_range hi]
      simp [List.getD_eq_getElem?_getD, List.getElem?_eq_getElem (show i < xs.length by omega)]
    · rw [List.getElem?_eq_none (by rw [List.length_range]; omega), List.getElem?_eq_none (by omega)]
      rfl
/-- The row as a list of pairs. -/
theorem Fn.pairs (h : Fn w base g n e 2 f) {M : List Pt} (hl : M.length = n) (hc : ∀ k, k < n → f (k * 2) = .int .i64 (at' M k).1 ∧ f (k * 2 + 1) = .int .i64 (at' M k).2) : w.ownsRow base e 2 (.slice (some ⟨g, 0, none⟩) n n) n (cellsP M) := by
  unfold Fn at h
  rw [show cellsP M = (List.range (n * 2)).map f from ?_]
  · exact h
  · refine List.ext_getElem? fun i => ?_
    rw [List.getElem?_map]
    by_cases hi : i < n * 2
    · rw [List.getElem?_range hi]
      obtain ⟨c0, c1⟩ := cellsP_at M (i / 2) (by omega)
      obtain ⟨d0, d1⟩ := hc (i / 2) (by omega)
      rcases Nat.mod_two_eq_zero_or_one i with x | x
      · have e : i = i / 2 * 2 := by omega
        rw [e, c0, ← d0]
        rfl
      · have e : i = i / 2 * 2 + 1 := by omega
        rw [e, c1, ← d1]
        rfl
    · rw [List.getElem?_eq_none (l := cellsP M) (by rw [cellsP_len]; omega), List.getElem?_eq_none (by rw [List.length_range]; omega)]
      rfl
/-- A row that was made: the same value in every cell. -/
theorem Fn.made {z : Array Value} {v : Value} (hz : ∀ i, z[i % z.size]! = v) (h : w.ownsRow base e size (.slice (some ⟨g, 0, none⟩) n n) n (madeCells z (n * size)).toList) : Fn w base g n e size (fun _ => v) := by
  unfold Fn
  rw [show (List.range (n * size)).map (fun _ => v) = (madeCells z (n * size)).toList from ?_]
  · exact h
  · unfold madeCells
    rw [Array.toList_map, Array.toList_range]
    exact List.map_congr_left fun i _ => (hz i).symm
end
end Go.Proofs.Ytlepcahangkmiaa.TemW
