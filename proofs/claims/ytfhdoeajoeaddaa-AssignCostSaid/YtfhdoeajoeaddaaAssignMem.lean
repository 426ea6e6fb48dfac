/-
  Tables of integers in memory. Nothing of the program. Condition: none.
-/
import Derived.Test.YtfhdoeajoeaddaaMatchMem
import Derived.Test.YtfhdoeajoeaddaaAssignPlainD
namespace Go.Proofs.Ytfhdoeajoeaddaa.AsgW
open Go.ChangeShapes Go.WideShapes Go.ChangeAt Go.RowKit
open PairW CelW TabW MchW AsgP
def cellsG (c : Tb) : List (List Value) := c.map cellsI
theorem cellsG_len (c : Tb) : (cellsG c).length = c.length := List.length_map ..
theorem cellsG_at {c : Tb} {i : Nat} {r : List Int} (h : c[i]? = some r) : (cellsG c)[i]? = some (cellsI r) := by unfold cellsG; rw [List.getElem?_map, h]; rfl
/-- A table, opened. -/
theorem gt_open {w : World} {v : Value} {c : Tb} (h : Cels w v (cellsG c)) : ∃ A cap, v = .slice A c.length cap ∧ c.length ≤ cap ∧ cap ≤ maxLen ∧ (0 < c.length → ∃ g off : Nat, A = some ⟨g, off, none⟩ ∧ ∀ (i : Nat) r, c[i]? = some r → ∃ u, w.cell? ⟨g, off + i, none⟩ = some u ∧ Cel w u (cellsI r)) := by
  obtain ⟨A, cap, rfl, h1, h2, h3⟩ := cels_open h
  rw [cellsG_len] at h1 h3 ⊢
  refine ⟨A, cap, rfl, h1, h2, fun h0 => ?_⟩
  obtain ⟨g, off, rfl, h4⟩ := h3 h0
  exact ⟨g, off, rfl, fun i r hr => h4 i _ (cellsG_at hr)⟩
/-- One row of a square table. -/
theorem gt_row {w : World} {v : Value} {c : Tb} {n i : Nat} (h : Cels w v (cellsG c)) (hs : Sqa c) (hn : c.length = n) (hi : i < n) : ∃ g off cap gr og cr : Nat, v = .slice (some ⟨g, off, none⟩) n cap ∧ n ≤ cap ∧ cap ≤ maxLen ∧ w.cell? ⟨g, off + i, none⟩ = some (.slice (some ⟨gr, og, none⟩) n cr) ∧ n ≤ cr ∧ cr ≤ maxLen ∧ ∀ j, j < n → w.cell? ⟨gr, og + j, none⟩ = some (.int .i64 (ct c i j)) := by
  obtain ⟨A, cap, rfl, h1, h2, h3⟩ := gt_open h
  obtain ⟨g, off, rfl, h4⟩ := h3 (by omega)
  obtain ⟨r, hr⟩ : ∃ r, c[i]? = some r := ⟨_, List.getElem?_eq_getElem (by omega)⟩
  obtain ⟨u, h5, h6⟩ := h4 i r hr
  obtain ⟨B, cr, rfl, h7, h8, h9⟩ := cel_int h6
  have hl := hs r (List.mem_of_getElem? hr)
  rw [hl, hn] at h5 h7 h9
  rw [hn] at h1 ⊢
  obtain ⟨gr, og, rfl, h10⟩ := h9 (by omega)
  exact ⟨g, off, cap, gr, og, cr, rfl, h1, h2, h5, h7, h8, fun j hj => h10 j _ (row_ct hr (by omega))⟩
theorem rowI_form {w : World} {base n : Nat} {e : TypeId} {v : Value} {xs : List Value} (h : w.ownsRow base e 1 v n xs) (h0 : 0 < n) : ∃ g cap, v = .slice (some ⟨g, 0, none⟩) n cap := by
  rcases h.2 with ⟨_, h2⟩ | ⟨g, cap, cur, rfl, _⟩
  · omega
  · exact ⟨g, cap, rfl⟩
end Go.Proofs.Ytfhdoeajoeaddaa.AsgW
