/-
  Arguments of the laws of package assign, opened: tables of integers, a truth, a small number. Condition: none.
-/
import Derived.Test.YtfhdoeajoeaddaaAssignMem
import Derived.Test.YtfhdoeajoeaddaaMatchQ
import Derived.Deep.Matrix
namespace Go.Proofs.Ytfhdoeajoeaddaa.FrmW
open Go.ChangeShapes Go.WideShapes Go.ChangeAt Go.RowKit Go.Joins
open PairW CelW TabW MchW AsgP AsgW Go.Deep
theorem cells_rowi : Try.prog.cellsOf 23 = 1 := by kernel_rfl
section
variable {H : Type} {enc : TypeId × Value → H} {W : World} {r : Reach} {b0 : Nat} {v : Value} {d : DataW H} {p : List MemPlace}
set_option maxRecDepth 100000 in
theorem open_u16 (hv : Value.okWide Try.prog W r b0 36 v) (h : DataW.Trod enc Try.prog W 0 (fun _ => true) true 36 v d p) : ∃ a : Int, v = .int .u16 a ∧ 0 ≤ a := by
  obtain ⟨a, rfl⟩ := okWide_int Try.underlying36 hv
  obtain ⟨n, h⟩ := h
  obtain ⟨a', h1, _, h2⟩ := DataW.trod_int Try.underlying36 h
  obtain rfl : a = a' := by simpa [Value.cells] using h1
  have hb := bounds_u16 h2
  exact ⟨a, rfl, hb.1⟩
set_option maxRecDepth 100000 in
theorem open_tg (hv : Value.okWide Try.prog W r b0 22 v) (h : DataW.Trod enc Try.prog W 0 (fun _ => true) true 22 v d p) : ∃ c : Tb, Cels W v (cellsG c) := by
  obtain ⟨A, len, cap, rfl⟩ := okWide_slice Try.underlying22 hv
  obtain ⟨n, h⟩ := h
  rcases open_int_rows Try.underlying22 Try.underlying23 Try.underlying3 cells_rowi cells_int h with ⟨hc, _⟩ | ⟨a, len', cap', AA, LL, CC, ZZ, hc, _, hl, hm, _, hall⟩
  · have : (Value.slice A len cap) = .slice none 0 0 := by simpa [Value.cells] using hc
    rw [this]
    exact ⟨[], [], rfl, cel_nil W, fun i xs u h => by simp [cellsG] at h⟩
  · have e : (Value.slice A len cap) = .slice (some a) len' cap' := by simpa [Value.cells] using hc
    rw [e]
    have hlen : ∀ i, i < len' → ((ZZ i).take (LL i)).length = LL i := fun i hi => by
      obtain ⟨_, k2, _, k4, _⟩ := hall i (by omega)
      rw [List.length_take, k4]
      omega
    refine ⟨(List.range len').map fun i => (ZZ i).take (LL i), (List.range len').map fun i => .slice (AA i) (LL i) (CC i), by rw [List.length_map, cellsG_len, List.length_map],
      ⟨some a, cap', by rw [List.length_map, List.length_range], by rw [List.length_map, List.length_range]; exact hl, hm, fun h0 => ?_⟩, fun i xs u hxs hu => ?_⟩
    · rw [List.length_map, List.length_range] at h0
      have h1 := (hall 0 (by omega)).1
      obtain ⟨b, off, spot⟩ := a
      have hspot : spot = none := by simpa [Addr.add] using World.cell?_spot h1
      subst hspot
      refine ⟨b, off, rfl, fun i u hu => ?_⟩
      have hi : i < len' := by have := (List.getElem?_eq_some_iff.1 hu).1; rwa [List.length_map, List.length_range] at this
      rw [List.getElem?_map, List.getElem?_range hi] at hu
      obtain rfl : Value.slice (AA i) (LL i) (CC i) = u := by simpa using hu
      have h2 := (hall i (by omega)).1
      rwa [Addr.add_lit] at h2
    · have hi : i < len' := by have := (List.getElem?_eq_some_iff.1 hu).1; rwa [List.length_map, List.length_range] at this
      rw [List.getElem?_map, List.getElem?_range hi] at hu
      obtain rfl : Value.slice (AA i) (LL i) (CC i) = u := by simpa using hu
      obtain ⟨_, k2, k3, k4, _, k6, k5⟩ := hall i (by omega)
      unfold cellsG at hxs
      rw [List.getElem?_map, List.getElem?_map, List.getElem?_range hi] at hxs
      obtain rfl : cellsI ((ZZ i).take (LL i)) = xs := by simpa using hxs
      refine ⟨AA i, CC i, by rw [cellsI_len, hlen i hi], by rw [cellsI_len, hlen i hi]; exact k2, k3, fun h0 => ?_⟩
      rw [cellsI_len, hlen i hi] at h0
      cases ha : AA i with
      | none => have := k6 ha; omega
      | some a' =>
        have hcell := (k5 a' ha).2
        obtain ⟨b, off, spot⟩ := a'
        have hspot : spot = none := by simpa [Addr.add] using World.cell?_spot (hcell 0 (by omega))
        subst hspot
        refine ⟨b, off, rfl, fun k x hx => ?_⟩
        have hk : k < LL i := by have := (List.getElem?_eq_some_iff.1 hx).1; rwa [cellsI_len, hlen i hi] at this
        have h2 := hcell k (by omega)
        rw [Addr.add_lit] at h2
        rw [h2, ← hx, cellsI_at (by rw [hlen i hi]; exact hk), List.getElem_take, List.getD_eq_getElem?_getD, List.getElem?_eq_getElem (by omega)]
        rfl
end
end Go.Proofs.Ytfhdoeajoeaddaa.FrmW
