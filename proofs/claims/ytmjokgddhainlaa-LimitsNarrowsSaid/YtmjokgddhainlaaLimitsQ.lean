/-
  Arguments of the laws of package limits, opened: limits, aims, a limb with an aim. Condition: none.
-/
import Derived.Test.YtmjokgddhainlaaMovQ
import Derived.Test.YtmjokgddhainlaaLimitsMem
namespace Go.Proofs.Ytmjokgddhainlaa.LimQ
open Go.ChangeShapes Go.WideShapes Go.ChangeAt Go.RowKit Go.Joins
open MovQ LimW PairW PrtW FrmW PstP MovW
theorem cells_li : Try.prog.cellsOf 23 = 6 := by kernel_rfl
theorem cells_l6 : Try.prog.cellsOf 24 = 36 := by kernel_rfl
theorem cells_ls : Try.prog.cellsOf 26 = 40 := by kernel_rfl
theorem cells_bool : Try.prog.cellsOf 4 = 1 := by kernel_rfl
def bob (v : Option Value) : Int := match v with | some (.bool true) => 1 | _ => 0
section
variable {H : Type} {enc : TypeId × Value → H} {W : World} {base : Nat} {sp : Nat → Bool}
set_option maxRecDepth 100000 in
theorem li_cells {cs : List Value} {held : Bool} {fuel : Nat} {x : DataW H × List MemPlace} (h : DataW.trod enc Try.prog W base sp held fuel 23 cs = some x) : ∀ i, i < 6 → ∃ z, cs[i]? = some (.int .i64 z) := by
  obtain ⟨xs, m, _, _, hl, hlen, hf⟩ := DataW.trod_struct Try.underlying23 h
  match xs, hlen with
  | [y0, y1, y2, y3, y4, y5], _ =>
    have h0 := hf 0 _ rfl
    have h1 := hf 1 _ rfl
    have h2 := hf 2 _ rfl
    have h3 := hf 3 _ rfl
    have h4 := hf 4 _ rfl
    have h5 := hf 5 _ rfl
    simp [cells_int] at h0 h1 h2 h3 h4 h5
    have q0 := int_cell h0
    have q1 := int_cell h1
    have q2 := int_cell h2
    have q3 := int_cell h3
    have q4 := int_cell h4
    have q5 := int_cell h5
    intro i hi
    have t : i = 0 ∨ i = 1 ∨ i = 2 ∨ i = 3 ∨ i = 4 ∨ i = 5 := by omega
    rcases t with rfl | rfl | rfl | rfl | rfl | rfl
    · simpa [List.getElem?_take, List.getElem?_drop] using q0
    · simpa [List.getElem?_take, List.getElem?_drop] using q1
    · simpa [List.getElem?_take, List.getElem?_drop] using q2
    · simpa [List.getElem?_take, List.getElem?_drop] using q3
    · simpa [List.getElem?_take, List.getElem?_drop] using q4
    · simpa [List.getElem?_take, List.getElem?_drop] using q5
set_option maxRecDepth 100000 in
theorem l6_cells {cs : List Value} {held : Bool} {fuel : Nat} {x : DataW H × List MemPlace} (h : DataW.trod enc Try.prog W base sp held fuel 24 cs = some x) : ∀ i, i < 36 → ∃ z, cs[i]? = some (.int .i64 z) := by
  cases fuel with
  | zero => simp [DataW.trod] at h
  | succ fuel =>
    simp only [DataW.trod, Try.underlying24, cells_li] at h
    split at h
    · obtain ⟨xs, hm, _⟩ := Option.map_eq_some_iff.1 h
      intro i hi
      obtain ⟨b, _, hf⟩ := Lib.mapM_at hm (i / 6) (i / 6) (List.getElem?_range (by omega))
      obtain ⟨z, e⟩ := li_cells hf (i % 6) (by omega)
      exact ⟨z, by simpa [List.getElem?_take, List.getElem?_drop, show i % 6 < 6 by omega, show i / 6 * 6 + i % 6 = i by omega] using e⟩
    · cases h
theorem bool_cell {cs : List Value} {held : Bool} {fuel : Nat} {x : DataW H × List MemPlace} (h : DataW.trod enc Try.prog W base sp held fuel 4 cs = some x) : ∃ z, cs[0]? = some (.bool z) := by
  obtain ⟨a, e, _⟩ := DataW.trod_bool Try.underlying4 h
  exact ⟨a, by rw [e]; rfl⟩
set_option maxRecDepth 100000 in
theorem ls_cells {cs : List Value} {held : Bool} {fuel : Nat} {x : DataW H × List MemPlace} (h : DataW.trod enc Try.prog W base sp held fuel 26 cs = some x) : (∀ i, i < 40 → ¬ (i = 36 ∨ i = 37) → ∃ z, cs[i]? = some (.int .i64 z)) ∧ (∃ z, cs[36]? = some (.bool z)) ∧ ∃ z, cs[37]? = some (.bool z) := by
  obtain ⟨xs, m, _, _, hl, hlen, hf⟩ := DataW.trod_struct Try.underlying26 h
  match xs, hlen with
  | [y0, y1, y2, y3, y4], _ =>
    have h0 := hf 0 _ rfl
    have h1 := hf 1 _ rfl
    have h2 := hf 2 _ rfl
    have h3 := hf 3 _ rfl
    have h4 := hf 4 _ rfl
    simp [cells_int, cells_l6, cells_bool] at h0 h1 h2 h3 h4
    have q0 := l6_cells h0
    have q1 := bool_cell h1
    have q2 := bool_cell h2
    have q3 := int_cell h3
    have q4 := int_cell h4
    refine ⟨fun i hi hn => ?_, ?_, ?_⟩
    · by_cases c : i < 36
      · have := q0 i c
        simpa [List.getElem?_take, List.getElem?_drop, c] using this
      · have t : i = 38 ∨ i = 39 := by omega
        rcases t with rfl | rfl
        · simpa [List.getElem?_take, List.getElem?_drop] using q3
        · simpa [List.getElem?_take, List.getElem?_drop] using q4
    · simpa [List.getElem?_take, List.getElem?_drop] using q1
    · simpa [List.getElem?_take, List.getElem?_drop] using q2
end
section
variable {H : Type} {enc : TypeId × Value → H} {W : World} {r : Reach} {b0 : Nat} {v : Value} {d : DataW H} {p : List MemPlace}
set_option maxRecDepth 100000 in
theorem open_lz (hv : Value.okWide Try.prog W r b0 26 v) (h : DataW.Trod enc Try.prog W 0 (fun _ => true) true 26 v d p) : ∃ l : Vl, v = .agg (lz l) := by
  obtain ⟨cs, rfl, _⟩ := okWide_struct Try.underlying26 hv
  obtain ⟨k, h⟩ := h
  obtain ⟨xs, m, _, _, hl, _, _⟩ := DataW.trod_struct Try.underlying26 h
  rw [cells_ls] at hl
  obtain ⟨h1, ⟨p36, h2⟩, ⟨p37, h3⟩⟩ := ls_cells h
  rw [Array.getElem?_toList] at h2 h3
  refine ⟨fun i => if i = 36 ∨ i = 37 then bob ((Value.agg cs).cells[i]?) else nmb ((Value.agg cs).cells[i]?), ?_⟩
  have hsz : cs.size = 40 := by simpa [Value.cells] using hl
  refine congrArg Value.agg (lz_ext hsz fun i hi => ?_)
  have e : cs[i]? = (Value.agg cs).cells[i]? := by simp [Value.cells]
  rw [e]
  unfold lc
  by_cases c : i = 36 ∨ i = 37
  · rw [if_pos c]
    show (Value.agg cs).cells[i]? = some (.bool (decide ((if i = 36 ∨ i = 37 then bob ((Value.agg cs).cells[i]?) else nmb ((Value.agg cs).cells[i]?)) = 1)))
    rw [if_pos c]
    rcases c with rfl | rfl
    · rw [h2]; cases p36 <;> rfl
    · rw [h3]; cases p37 <;> rfl
  · rw [if_neg c]
    show (Value.agg cs).cells[i]? = some (.int .i64 (if i = 36 ∨ i = 37 then bob ((Value.agg cs).cells[i]?) else nmb ((Value.agg cs).cells[i]?)))
    rw [if_neg c]
    obtain ⟨z, hz⟩ := h1 i hi c
    rw [Array.getElem?_toList] at hz
    rw [hz]
    rfl
set_option maxRecDepth 100000 in
theorem open_ai (hv : Value.okWide Try.prog W r b0 34 v) (h : DataW.Trod enc Try.prog W 0 (fun _ => true) true 34 v d p) : ∃ z e u : Int, v = .agg #[.int .i64 z, .int .i64 e, .int .i64 u] := by
  obtain ⟨cs, rfl, _⟩ := okWide_struct Try.underlying34 hv
  obtain ⟨k, h⟩ := h
  obtain ⟨y0, y1, y2, n, _, hl, h0, h1, h2⟩ := Deep.trod_struct3 Try.underlying34 h
  rw [cells_a6e] at hl
  obtain ⟨cs⟩ := cs
  match cs, hl with
  | [c0, c1, c2], _ =>
    simp [Value.cells, cells_int] at h0 h1 h2
    obtain ⟨a, e0, _⟩ := trod_i h0
    obtain ⟨b, e1, _⟩ := trod_i h1
    obtain ⟨c, e2, _⟩ := trod_i h2
    simp at e0 e1 e2
    subst e0
    subst e1
    subst e2
    exact ⟨a, b, c, rfl⟩
theorem cells_tu : Try.prog.cellsOf 41 = 4 := by kernel_rfl
set_option maxRecDepth 100000 in
theorem open_tu (hv : Value.okWide Try.prog W r b0 41 v) (h : DataW.Trod enc Try.prog W 0 (fun _ => true) true 41 v d p) : ∃ k z e u : Int, v = .agg #[.int .i64 k, .int .i64 z, .int .i64 e, .int .i64 u] := by
  obtain ⟨cs, rfl, _⟩ := okWide_struct Try.underlying41 hv
  obtain ⟨k, h⟩ := h
  obtain ⟨y0, y1, n, _, hl, h0, h1⟩ := trod_struct2 Try.underlying41 h
  rw [cells_tu] at hl
  obtain ⟨cs⟩ := cs
  match cs, hl with
  | [c0, c1, c2, c3], _ =>
    simp [Value.cells, cells_int, cells_a6e] at h0 h1
    obtain ⟨x0, x1, x2, n, _, _, g0, g1, g2⟩ := Deep.trod_struct3 Try.underlying34 h1
    simp [cells_int] at g0 g1 g2
    obtain ⟨k, e, _⟩ := trod_i h0
    obtain ⟨a, e0, _⟩ := trod_i g0
    obtain ⟨b, e1, _⟩ := trod_i g1
    obtain ⟨c, e2, _⟩ := trod_i g2
    simp at e e0 e1 e2
    subst e
    subst e0
    subst e1
    subst e2
    exact ⟨k, a, b, c, rfl⟩
end
end Go.Proofs.Ytmjokgddhainlaa.LimQ
