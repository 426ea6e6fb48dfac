/-
  Arguments of the laws of package match, opened: tables of truths, and how long they are. Condition: none.
-/
import Derived.Test.YtfhdoeajoeaddaaMatchMem
import Derived.Test.YtfhdoeajoeaddaaFrame
import Derived.Deep.Grids
namespace Go.Proofs.Ytfhdoeajoeaddaa.FrmW
open Go.ChangeShapes Go.WideShapes Go.ChangeAt Go.RowKit Go.Joins
open PairW CelW TabW MchP MchW Go.Deep
theorem cells_bool : Try.prog.cellsOf 4 = 1 := by kernel_rfl
theorem cells_rowb : Try.prog.cellsOf 39 = 1 := by kernel_rfl
theorem bytes_bool : Try.prog.bytesOf 4 = 1 := by kernel_rfl
theorem bytes_rowb : Try.prog.bytesOf 39 = 24 := by kernel_rfl
/-- The datum is a slice of rows as long as these. -/
def LenT {H : Type} (d : DataW H) (l : List (List Bool)) : Prop := l = [] ∨ ∃ (len : Nat) (A : Nat → Option Addr) (L C : Nat → Nat) (B : Nat → Nat → Bool) (spare : List (DataW H)), d = .slice ((List.range len).map fun r => boolRow (A r) (L r) (C r) (B r)) spare ∧ l = ((List.range len).map fun r => (List.range (L r)).map (B r)) ∧ ∀ r, r < len → A r = none → L r = 0
theorem wall_mem {H : Type} {P : Program} {e : TypeId} : ∀ {l : List (DataW H)} {d : DataW H}, d ∈ l → ∀ n ∈ d.weights P e, n ∈ DataW.weightsAll P e l
  | x :: l, d, h, n, hn => by
    rw [DataW.weightsAll, List.mem_append]
    rcases List.mem_cons.1 h with rfl | h
    · exact .inl hn
    · exact .inr (wall_mem h n hn)
theorem LenT.sized {H : Type} {ts : List TypeId} {ds : List (DataW H)} {j : Nat} {d : DataW H} {l : List (List Bool)} (h : (DataW.weightsEach Try.prog ts ds).all (· ≤ reachBytes) = true) (ht : ts[j]? = some 38) (hd : ds[j]? = some d) (hl : LenT d l) :
    l.length * 24 ≤ 140737488351232 ∧ ∀ r, r ∈ l → r.length ≤ 140737488351232 := by
  have h2 : reachBytes = 140737488351232 := by decide
  rcases hl with rfl | ⟨len, A, L, C, B, spare, rfl, rfl, hn⟩
  · exact ⟨by simp, fun r hr => absurd hr List.not_mem_nil⟩
  · constructor
    · have h1 := sized_slice h ht hd Try.underlying38
      rw [List.length_map, List.length_range, bytes_rowb, h2] at h1
      rw [List.length_map, List.length_range]
      omega
    · intro r hr
      obtain ⟨i, hi, rfl⟩ := List.mem_map.1 hr
      have hi := List.mem_range.1 hi
      rw [List.length_map, List.length_range]
      cases ha : A i with
      | none => rw [hn i hi ha]; omega
      | some a =>
        have hm : (L i + (C i - L i)) * 1 ∈ DataW.weightsEach Try.prog ts ds := by
          refine DataW.weights_mem_each ht hd _ ?_
          simp only [DataW.weights, Try.underlying38]
          refine List.mem_cons_of_mem _ (List.mem_append_left _ ?_)
          refine wall_mem (List.mem_map.2 ⟨i, List.mem_range.2 hi, rfl⟩) _ ?_
          unfold boolRow
          rw [ha]
          simp only [DataW.weights, Try.underlying39, bytes_bool, List.length_map, List.length_range]
          exact List.mem_cons_self ..
        have h1 := of_decide_eq_true (List.all_eq_true.1 h _ hm)
        rw [h2] at h1
        omega
section
variable {H : Type} {enc : TypeId × Value → H} {W : World} {r : Reach} {b0 : Nat} {v : Value} {d : DataW H} {p : List MemPlace}
set_option maxRecDepth 100000 in
theorem open_tb (hv : Value.okWide Try.prog W r b0 38 v) (h : DataW.Trod enc Try.prog W 0 (fun _ => true) true 38 v d p) : ∃ l : List (List Bool), Cels W v (cellsB l) ∧ LenT d l := by
  obtain ⟨A, len, cap, rfl⟩ := okWide_slice Try.underlying38 hv
  obtain ⟨n, h⟩ := h
  rcases open_bool_rows Try.underlying38 Try.underlying39 Try.underlying4 cells_rowb cells_bool h with ⟨hc, _⟩ | ⟨a, len', cap', AA, LL, CC, BB, hc, _, hl, hm, hx, hall⟩
  · have : (Value.slice A len cap) = .slice none 0 0 := by simpa [Value.cells] using hc
    rw [this]
    exact ⟨[], ⟨[], rfl, cel_nil W, fun i xs u h => by simp [cellsB] at h⟩, .inl rfl⟩
  · have e : (Value.slice A len cap) = .slice (some a) len' cap' := by simpa [Value.cells] using hc
    rw [e]
    have hd : d = _ := congrArg Prod.fst hx
    refine ⟨(List.range len').map fun i => (List.range (LL i)).map (BB i), ⟨(List.range len').map fun i => .slice (AA i) (LL i) (CC i), by rw [List.length_map, cellsB_len, List.length_map],
      ⟨some a, cap', by rw [List.length_map, List.length_range], by rw [List.length_map, List.length_range]; exact hl, hm, fun h0 => ?_⟩, fun i xs u hxs hu => ?_⟩, .inr ⟨len', AA, LL, CC, BB, _, hd, rfl, fun i hi hn => ?_⟩⟩
    · rw [List.length_map, List.length_range] at h0
      have h1 := (hall 0 (by omega)).1
      obtain ⟨b, off, spot⟩ := a
      have hspot : spot = none := by simpa [Addr.add] using World.cell?_spot h1
      subst hspot
      refine ⟨b, off, rfl, fun i u hu => ?_⟩
      have hi : i < len' := by have := (List.getElem?_eq_some_iff.1 hu).1; rwa [List.length_map, List.length_range] at this
      rw [List.getElem?_map, List.getElem?_range hi] at hu
      obtain rfl : Value.slice (AA i) (LL i) (CC i) = u := by simpa using hu
      have h2 := (hall i (by omega)).1
      rwa [Addr.add_lit] at h2
    · have hi : i < len' := by have := (List.getElem?_eq_some_iff.1 hu).1; rwa [List.length_map, List.length_range] at this
      rw [List.getElem?_map, List.getElem?_range hi] at hu
      obtain rfl : Value.slice (AA i) (LL i) (CC i) = u := by simpa using hu
      obtain ⟨_, k2, k3, k4, k5⟩ := hall i (by omega)
      unfold cellsB at hxs
      rw [List.getElem?_map, List.getElem?_map, List.getElem?_range hi] at hxs
      obtain rfl : cellsT ((List.range (LL i)).map (BB i)) = xs := by simpa using hxs
      refine ⟨AA i, CC i, by rw [cellsT_len, List.length_map, List.length_range], by rw [cellsT_len, List.length_map, List.length_range]; exact k2, k3, fun h0 => ?_⟩
      rw [cellsT_len, List.length_map, List.length_range] at h0
      cases ha : AA i with
      | none => have := k4 ha; omega
      | some a' =>
        have hcell := (k5 a' ha).2
        obtain ⟨b, off, spot⟩ := a'
        have hspot : spot = none := by simpa [Addr.add] using World.cell?_spot (hcell 0 (by omega))
        subst hspot
        refine ⟨b, off, rfl, fun k x hx => ?_⟩
        have hk : k < LL i := by have := (List.getElem?_eq_some_iff.1 hx).1; rwa [cellsT_len, List.length_map, List.length_range] at this
        have h2 := hcell k (by omega)
        rw [Addr.add_lit] at h2
        rw [h2, ← hx]
        unfold cellsT
        rw [List.getElem?_map, List.getElem?_map, List.getElem?_range hk]
        rfl
    · have h1 := (hall i (by omega)).2.2.2.1 hn
      have h2 := (hall i (by omega)).2.1
      omega
end
end Go.Proofs.Ytfhdoeajoeaddaa.FrmW
