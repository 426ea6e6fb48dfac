/-
  Arguments of laws, opened: movements. Condition: none.
-/
import Derived.Test.YtmjokgddhainlaaFrame
import Derived.Test.YtmjokgddhainlaaMovMem
import Derived.Deep.Slices
import Derived.Deep.SlicePairs
import Derived.ChangeSlices
namespace Go.Proofs.Ytmjokgddhainlaa.MovQ
open Go.ChangeShapes Go.WideShapes Go.ChangeAt Go.RowKit Go.Joins
open PairW PrtW FrmW PstP MovW
def nmb (v : Option Value) : Int := match v with | some (.int .i64 z) => z | _ => 0
theorem cells_mv : Try.prog.cellsOf 52 = 2 := by kernel_rfl
theorem cells_ps : Try.prog.cellsOf 49 = 1 := by kernel_rfl
theorem cells_is : Try.prog.cellsOf 50 = 1 := by kernel_rfl
theorem cells_po : Try.prog.cellsOf 63 = 22 := by kernel_rfl
section
variable {H : Type} {enc : TypeId × Value → H} {W : World} {base : Nat} {sp : Nat → Bool}
theorem int_cell {cs : List Value} {held : Bool} {fuel : Nat} {x : DataW H × List MemPlace} (h : DataW.trod enc Try.prog W base sp held fuel 3 cs = some x) : ∃ z, cs[0]? = some (.int .i64 z) := by
  obtain ⟨a, e, _⟩ := trod_i h
  exact ⟨a, by rw [e]; rfl⟩
theorem cells_pt : Try.prog.cellsOf 60 = 2 := by kernel_rfl
theorem pt_cells {cs : List Value} {held : Bool} {fuel : Nat} {x : DataW H × List MemPlace} (h : DataW.trod enc Try.prog W base sp held fuel 60 cs = some x) : (∃ z, cs[0]? = some (.int .i64 z)) ∧ ∃ z, cs[1]? = some (.int .i64 z) := by
  obtain ⟨y0, y1, n, _, _, h0, h1⟩ := trod_struct2 Try.underlying60 h
  simp only [cells_int, List.drop_zero] at h0 h1
  obtain ⟨z0, e0⟩ := int_cell h0
  obtain ⟨z1, e1⟩ := int_cell h1
  exact ⟨⟨z0, by simpa [List.getElem?_take, List.getElem?_drop] using e0⟩, z1, by simpa [List.getElem?_take, List.getElem?_drop] using e1⟩
theorem cells_a6 : Try.prog.cellsOf 61 = 18 := by kernel_rfl
theorem cells_a6e : Try.prog.cellsOf 34 = 3 := by kernel_rfl
set_option maxRecDepth 100000 in
/-- An array of six structs of three integers. -/
theorem a6_cells {cs : List Value} {held : Bool} {fuel : Nat} {x : DataW H × List MemPlace} (h : DataW.trod enc Try.prog W base sp held fuel 61 cs = some x) : ∀ i, i < 18 → ∃ z, cs[i]? = some (.int .i64 z) := by
  cases fuel with
  | zero => simp [DataW.trod] at h
  | succ fuel =>
    simp only [DataW.trod, Try.underlying61, cells_a6e] at h
    split at h
    · obtain ⟨xs, hm, _⟩ := Option.map_eq_some_iff.1 h
      intro i hi
      have hxl : xs.length = 6 := by simpa using Lib.mapM_length hm
      obtain ⟨b, _, hf⟩ := Lib.mapM_at hm (i / 3) (i / 3) (List.getElem?_range (by omega))
      obtain ⟨y0, y1, y2, n, _, _, h0, h1, h2⟩ := Deep.trod_struct3 Try.underlying34 hf
      simp only [cells_int, List.drop_zero] at h0 h1 h2
      have t : i % 3 = 0 ∨ i % 3 = 1 ∨ i % 3 = 2 := by omega
      rcases t with t | t | t
      · obtain ⟨z, e⟩ := int_cell h0
        exact ⟨z, by simpa [List.getElem?_take, List.getElem?_drop, show i / 3 * 3 = i by omega] using e⟩
      · obtain ⟨z, e⟩ := int_cell h1
        exact ⟨z, by simpa [List.getElem?_take, List.getElem?_drop, show i / 3 * 3 + 1 = i by omega] using e⟩
      · obtain ⟨z, e⟩ := int_cell h2
        exact ⟨z, by simpa [List.getElem?_take, List.getElem?_drop, show i / 3 * 3 + 2 = i by omega] using e⟩
    · cases h
set_option maxRecDepth 100000 in
theorem po_cells {cs : List Value} {held : Bool} {fuel : Nat} {x : DataW H × List MemPlace} (h : DataW.trod enc Try.prog W base sp held fuel 63 cs = some x) : ∀ i, i < 22 → ∃ z, cs[i]? = some (.int .i64 z) := by
  obtain ⟨xs, m, _, _, hl, hlen, hf⟩ := DataW.trod_struct Try.underlying63 h
  match xs, hlen with
  | [y0, y1, y2, y3], _ =>
    have h0 := hf 0 _ rfl
    have h1 := hf 1 _ rfl
    have h2 := hf 2 _ rfl
    have h3 := hf 3 _ rfl
    simp [cells_int, cells_pt, cells_a6] at h0 h1 h2 h3
    obtain ⟨q0, q1⟩ := pt_cells h0
    have q2 := int_cell h1
    have q3 := int_cell h2
    have qt := a6_cells h3
    intro i hi
    by_cases c : i < 4
    · have t : i = 0 ∨ i = 1 ∨ i = 2 ∨ i = 3 := by omega
      rcases t with rfl | rfl | rfl | rfl
      · simpa [List.getElem?_take, List.getElem?_drop] using q0
      · simpa [List.getElem?_take, List.getElem?_drop] using q1
      · simpa [List.getElem?_take, List.getElem?_drop] using q2
      · simpa [List.getElem?_take, List.getElem?_drop] using q3
    · have := qt (i - 4) (by omega)
      simpa [List.getElem?_take, List.getElem?_drop, show i - 4 < 18 by omega, show 4 + (i - 4) = i by omega] using this
set_option maxRecDepth 100000 in
/-- A slice of poses. -/
theorem open_ps {cs : List Value} {fuel : Nat} {x : DataW H × List MemPlace} (h : DataW.trod enc Try.prog W base (fun _ => true) true fuel 49 cs = some x) :
    ∃ (A : Option Addr) (n c : Nat) (f : Nat → Vl), cs = [.slice A n c] ∧ n ≤ c ∧ n ≤ maxLen ∧ (0 < n → ∃ B off, A = some ⟨B, off, none⟩ ∧ ∀ i, i < n → Lie W B (off + i * 22) (cz 22 (f i))) := by
  rcases Go.Deep.open_slice Try.underlying49 h with ⟨rfl, _⟩ | ⟨a, len, cap, m, k, D, Pl, rfl, _, hl, hm, hmm, _, hall⟩
  · exact ⟨none, 0, 0, fun _ _ => 0, rfl, Nat.le_refl _, by unfold maxLen; omega, fun h => absurd h (by omega)⟩
  · simp only [if_true] at hmm
    subst hmm
    rw [cells_po] at hall
    obtain ⟨b, off, spot⟩ := a
    refine ⟨some ⟨b, off, spot⟩, len, m, fun i j => nmb (W.cell? ⟨b, off + i * 22 + j, none⟩), rfl, hl, Nat.le_trans hl hm, fun h0 => ?_⟩
    have hs : spot = none := by
      obtain ⟨cs', h1, h2⟩ := hall 0 (by omega)
      obtain ⟨_, _, hcell⟩ := World.cells?_some h1
      obtain ⟨z, hz⟩ := po_cells h2 0 (by omega)
      have e := hcell 0 (by omega)
      rw [hz] at e
      simpa [Addr.add] using World.cell?_spot e
    subst hs
    have hc : ∀ i, i < m → ∀ j, j < 22 → ∃ z, W.cell? ⟨b, off + i * 22 + j, none⟩ = some (.int .i64 z) := fun i hi j hj => by
      obtain ⟨cs', h1, h2⟩ := hall i hi
      obtain ⟨_, _, hcell⟩ := World.cells?_some h1
      obtain ⟨z, hz⟩ := po_cells h2 j hj
      have e := hcell j hj
      rw [hz, Addr.add_lit, Addr.add_lit] at e
      exact ⟨z, e⟩
    refine ⟨b, off, rfl, fun i hi => lie_cz fun j hj => ?_⟩
    obtain ⟨z, hz⟩ := hc i (by omega) j hj
    have e : (fun (i j : Nat) => nmb (W.cell? ⟨b, off + i * 22 + j, none⟩)) i j = z := by
      show nmb (W.cell? ⟨b, off + i * 22 + j, none⟩) = z
      rw [hz]
      rfl
    rw [e]
    exact hz
set_option maxRecDepth 100000 in
/-- A slice of integers. -/
theorem open_iz {cs : List Value} {fuel : Nat} {x : DataW H × List MemPlace} (h : DataW.trod enc Try.prog W base (fun _ => true) true fuel 50 cs = some x) :
    ∃ (A : Option Addr) (n c : Nat) (q : Nat → Int), cs = [.slice A n c] ∧ n ≤ c ∧ n ≤ maxLen ∧ (0 < n → ∃ B off, A = some ⟨B, off, none⟩ ∧ ∀ i, i < n → W.cell? ⟨B, off + i, none⟩ = some (.int .i64 (q i))) := by
  rcases open_ints Try.underlying50 Try.underlying3 cells_int h with ⟨rfl, _⟩ | ⟨a, len, cap, zs, rfl, _, hl, hm, hz, _, hall, _⟩
  · exact ⟨none, 0, 0, fun _ => 0, rfl, Nat.le_refl _, by unfold maxLen; omega, fun h => absurd h (by omega)⟩
  · simp only [if_true] at hz
    obtain ⟨b, off, spot⟩ := a
    refine ⟨some ⟨b, off, spot⟩, len, cap, fun i => zs.getD i 0, rfl, hl, Nat.le_trans hl hm, fun h0 => ?_⟩
    have hs : spot = none := by
      have := hall 0 (by omega)
      simpa [Addr.add] using World.cell?_spot this
    subst hs
    refine ⟨b, off, rfl, fun i hi => ?_⟩
    have := hall i (by omega)
    rw [Addr.add_lit] at this
    exact this
end
section
variable {H : Type} {enc : TypeId × Value → H} {W : World} {r : Reach} {b0 : Nat} {v : Value} {d : DataW H} {p : List MemPlace}
set_option maxRecDepth 100000 in
theorem open_mv (hv : Value.okWide Try.prog W r b0 52 v) (h : DataW.Trod enc Try.prog W 0 (fun _ => true) true 52 v d p) : ∃ (sv tv : Value) (f : Nat → Vl) (q : Nat → Int) (n m : Nat), v = .agg #[sv, tv] ∧ Mov sv tv f q n m W ∧ (∀ A c, sv = .slice A n c → n ≤ c) ∧ ∀ A c, tv = .slice A m c → m ≤ c := by
  obtain ⟨cs, rfl, _⟩ := okWide_struct Try.underlying52 hv
  obtain ⟨k, h⟩ := h
  obtain ⟨y0, y1, k, _, hl, h0, h1⟩ := trod_struct2 Try.underlying52 h
  rw [cells_mv] at hl
  obtain ⟨cs⟩ := cs
  match cs, hl with
  | [c0, c1], _ =>
    simp [Value.cells, cells_ps, cells_is] at h0 h1
    obtain ⟨A, n, c, f, e0, hnc, hn, hp⟩ := open_ps h0
    obtain ⟨A2, m, c2, q, e1, hmc, hm, hq⟩ := open_iz h1
    simp at e0 e1
    subst e0
    subst e1
    exact ⟨_, _, f, q, n, m, rfl, ⟨⟨A, c, rfl, hp⟩, ⟨A2, c2, rfl, hq⟩, hn, hm⟩, fun _ _ e => by injection e with _ _ e; omega, fun _ _ e => by injection e with _ _ e; omega⟩
end
end Go.Proofs.Ytmjokgddhainlaa.MovQ
