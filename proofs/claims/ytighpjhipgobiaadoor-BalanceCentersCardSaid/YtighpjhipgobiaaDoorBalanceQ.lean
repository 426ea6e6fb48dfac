/-
  Arguments of the laws of package balance, opened: three integers, movements. Condition: none.
-/
import Derived.Test.YtighpjhipgobiaaDoorJointsQ
import Derived.Test.YtighpjhipgobiaaDoorBalancePF
import Derived.Deep.Slices
import Derived.ChangeSlices
namespace Go.Proofs.YtighpjhipgobiaaDoor.BalQ
open Go.ChangeShapes Go.WideShapes Go.ChangeAt Go.RowKit Go.Joins
open JntQ PairW PrtW FrmW PstP BalW
theorem cells_a3 : Tryd.prog.cellsOf 45 = 3 := by kernel_rfl
theorem cells_mv : Tryd.prog.cellsOf 52 = 2 := by kernel_rfl
theorem cells_ps : Tryd.prog.cellsOf 49 = 1 := by kernel_rfl
theorem cells_is : Tryd.prog.cellsOf 50 = 1 := by kernel_rfl
section
variable {H : Type} {enc : TypeId × Value → H} {W : World} {base : Nat} {sp : Nat → Bool}
set_option maxRecDepth 100000 in
theorem po_cells {cs : List Value} {held : Bool} {fuel : Nat} {x : DataW H × List MemPlace} (h : DataW.trod enc Tryd.prog W base sp held fuel 31 cs = some x) : ∀ i, i < 22 → ∃ z, cs[i]? = some (.int .i64 z) := by
  obtain ⟨xs, m, _, _, hl, hlen, hf⟩ := DataW.trod_struct Tryd.underlying31 h
  match xs, hlen with
  | [y0, y1, y2, y3], _ =>
    have h0 := hf 0 _ rfl
    have h1 := hf 1 _ rfl
    have h2 := hf 2 _ rfl
    have h3 := hf 3 _ rfl
    simp [cells_int, cells_pt, cells_a6] at h0 h1 h2 h3
    obtain ⟨q0, q1⟩ := pt_cells h0
    have q2 := int_cell h1
    have q3 := int_cell h2
    have qt := a6_cells h3
    intro i hi
    by_cases c : i < 4
    · have t : i = 0 ∨ i = 1 ∨ i = 2 ∨ i = 3 := by omega
      rcases t with rfl | rfl | rfl | rfl
      · simpa [List.getElem?_take, List.getElem?_drop] using q0
      · simpa [List.getElem?_take, List.getElem?_drop] using q1
      · simpa [List.getElem?_take, List.getElem?_drop] using q2
      · simpa [List.getElem?_take, List.getElem?_drop] using q3
    · have := qt (i - 4) (by omega)
      simpa [List.getElem?_take, List.getElem?_drop, show i - 4 < 18 by omega, show 4 + (i - 4) = i by omega] using this
set_option maxRecDepth 100000 in
/-- A slice of poses. -/
theorem open_ps {cs : List Value} {fuel : Nat} {x : DataW H × List MemPlace} (h : DataW.trod enc Tryd.prog W base (fun _ => true) true fuel 49 cs = some x) :
    ∃ (A : Option Addr) (n c : Nat) (f : Nat → Vl), cs = [.slice A n c] ∧ n ≤ maxLen ∧ (0 < n → ∃ B off, A = some ⟨B, off, none⟩ ∧ ∀ i, i < n → Lie W B (off + i * 22) (cz 22 (f i))) := by
  rcases Go.Deep.open_slice Tryd.underlying49 h with ⟨rfl, _⟩ | ⟨a, len, cap, m, k, D, Pl, rfl, _, hl, hm, hmm, _, hall⟩
  · exact ⟨none, 0, 0, fun _ _ => 0, rfl, by unfold maxLen; omega, fun h => absurd h (by omega)⟩
  · simp only [if_true] at hmm
    subst hmm
    rw [cells_po] at hall
    obtain ⟨b, off, spot⟩ := a
    refine ⟨some ⟨b, off, spot⟩, len, m, fun i j => nmb (W.cell? ⟨b, off + i * 22 + j, none⟩), rfl, Nat.le_trans hl hm, fun h0 => ?_⟩
    have hs : spot = none := by
      obtain ⟨cs', h1, h2⟩ := hall 0 (by omega)
      obtain ⟨_, _, hcell⟩ := World.cells?_some h1
      obtain ⟨z, hz⟩ := po_cells h2 0 (by omega)
      have e := hcell 0 (by omega)
      rw [hz] at e
      simpa [Addr.add] using World.cell?_spot e
    subst hs
    have hc : ∀ i, i < m → ∀ j, j < 22 → ∃ z, W.cell? ⟨b, off + i * 22 + j, none⟩ = some (.int .i64 z) := fun i hi j hj => by
      obtain ⟨cs', h1, h2⟩ := hall i hi
      obtain ⟨_, _, hcell⟩ := World.cells?_some h1
      obtain ⟨z, hz⟩ := po_cells h2 j hj
      have e := hcell j hj
      rw [hz, Addr.add_lit, Addr.add_lit] at e
      exact ⟨z, e⟩
    refine ⟨b, off, rfl, fun i hi => lie_cz fun j hj => ?_⟩
    obtain ⟨z, hz⟩ := hc i (by omega) j hj
    have e : (fun (i j : Nat) => nmb (W.cell? ⟨b, off + i * 22 + j, none⟩)) i j = z := by
      show nmb (W.cell? ⟨b, off + i * 22 + j, none⟩) = z
      rw [hz]
      rfl
    rw [e]
    exact hz
set_option maxRecDepth 100000 in
/-- A slice of integers. -/
theorem open_iz {cs : List Value} {fuel : Nat} {x : DataW H × List MemPlace} (h : DataW.trod enc Tryd.prog W base (fun _ => true) true fuel 50 cs = some x) :
    ∃ (A : Option Addr) (n c : Nat) (q : Nat → Int), cs = [.slice A n c] ∧ n ≤ maxLen ∧ (0 < n → ∃ B off, A = some ⟨B, off, none⟩ ∧ ∀ i, i < n → W.cell? ⟨B, off + i, none⟩ = some (.int .i64 (q i))) := by
  rcases open_ints Tryd.underlying50 Tryd.underlying3 cells_int h with ⟨rfl, _⟩ | ⟨a, len, cap, zs, rfl, _, hl, hm, hz, _, hall, _⟩
  · exact ⟨none, 0, 0, fun _ => 0, rfl, by unfold maxLen; omega, fun h => absurd h (by omega)⟩
  · simp only [if_true] at hz
    obtain ⟨b, off, spot⟩ := a
    refine ⟨some ⟨b, off, spot⟩, len, cap, fun i => zs.getD i 0, rfl, Nat.le_trans hl hm, fun h0 => ?_⟩
    have hs : spot = none := by
      have := hall 0 (by omega)
      simpa [Addr.add] using World.cell?_spot this
    subst hs
    refine ⟨b, off, rfl, fun i hi => ?_⟩
    have := hall i (by omega)
    rw [Addr.add_lit] at this
    exact this
end
section
variable {H : Type} {enc : TypeId × Value → H} {W : World} {r : Reach} {b0 : Nat} {v : Value} {d : DataW H} {p : List MemPlace}
set_option maxRecDepth 100000 in
theorem open_mv (hv : Value.okWide Tryd.prog W r b0 52 v) (h : DataW.Trod enc Tryd.prog W 0 (fun _ => true) true 52 v d p) : ∃ (sv tv : Value) (f : Nat → Vl) (q : Nat → Int) (n m : Nat), v = .agg #[sv, tv] ∧ Mov sv tv f q n m W := by
  obtain ⟨cs, rfl, _⟩ := okWide_struct Tryd.underlying52 hv
  obtain ⟨k, h⟩ := h
  obtain ⟨y0, y1, k, _, hl, h0, h1⟩ := trod_struct2 Tryd.underlying52 h
  rw [cells_mv] at hl
  obtain ⟨cs⟩ := cs
  match cs, hl with
  | [c0, c1], _ =>
    simp [Value.cells, cells_ps, cells_is] at h0 h1
    obtain ⟨A, n, c, f, e0, hn, hp⟩ := open_ps h0
    obtain ⟨A2, m, c2, q, e1, hm, hq⟩ := open_iz h1
    simp at e0 e1
    subst e0
    subst e1
    exact ⟨_, _, f, q, n, m, rfl, ⟨A, c, rfl, hp⟩, ⟨A2, c2, rfl, hq⟩, hn, hm⟩
set_option maxRecDepth 100000 in
theorem open_a3 (hv : Value.okWide Tryd.prog W r b0 45 v) (h : DataW.Trod enc Tryd.prog W 0 (fun _ => true) true 45 v d p) : ∃ x y z : Int, v = .agg #[.int .i64 x, .int .i64 y, .int .i64 z] := by
  simp only [Value.okWide, Tryd.underlying45] at hv
  obtain ⟨cs, rfl, hs, _⟩ := hv
  obtain ⟨n, h⟩ := h
  obtain ⟨cs⟩ := cs
  have hl : cs.length = 3 := by
    obtain ⟨xs, m, _, _, hl, _, _⟩ := DataW.trod_array Tryd.underlying45 h
    rw [cells_a3] at hl
    exact hl
  match cs, hl with
  | [c0, c1, c2], _ =>
    obtain ⟨y0, y1, y2, m, _, h0, h1, h2⟩ := trod_array3 Tryd.underlying45 cells_int h
    obtain ⟨a, e0, _⟩ := trod_i h0
    obtain ⟨b, e1, _⟩ := trod_i h1
    obtain ⟨c, e2, _⟩ := trod_i h2
    simp at e0 e1 e2
    subst e0
    subst e1
    subst e2
    exact ⟨a, b, c, rfl⟩
end
end Go.Proofs.YtighpjhipgobiaaDoor.BalQ
