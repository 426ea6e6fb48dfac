/-
  Arguments of the laws of package crc, opened: integers of 8 and 32 bits, lists of slices of bytes. Condition: none.
-/
import Derived.Test.YtbplglndcagglaaCrcE
import Derived.Test.YtbplglndcagglaaFrame
import Derived.Deep.Matrix
namespace Go.Proofs.Ytbplglndcagglaa.FrmW
open Go.ChangeShapes Go.WideShapes Go.ChangeAt Go.RowKit Go.Joins
open PairW CelW CrcW
theorem row_of {W : World} {A : Option Addr} {l c : Nat} {Z : List Int} (h1 : l ≤ c) (h2 : c ≤ maxLen) (h3 : Z.length = c) (h4 : ∀ n ∈ Z, (Lit.int .u8 n).wf = true) (h5 : A = none → c = 0)
    (h6 : ∀ a', A = some a' → ∀ i, i < c → W.cell? (a'.add i) = some (.int .u8 (Z.getD i 0))) : Cel W (.slice A l c) (cellsU ((Z.take l).map fun z => UInt8.ofNat z.toNat)) := by
  have hlen : (Z.take l).length = l := by rw [List.length_take]; omega
  refine ⟨A, c, by rw [cellsU_len, List.length_map, hlen], by rw [cellsU_len, List.length_map, hlen]; exact h1, h2, fun h0 => ?_⟩
  rw [cellsU_len, List.length_map, hlen] at h0
  cases A with
  | none => have := h5 rfl; omega
  | some a =>
    have hc := h6 a rfl
    obtain ⟨b, off, spot⟩ := a
    have hspot : spot = none := by simpa [Addr.add] using World.cell?_spot (hc 0 (by omega))
    subst hspot
    refine ⟨b, off, rfl, fun i u hu => ?_⟩
    have hi : i < l := by have := (List.getElem?_eq_some_iff.1 hu).1; rwa [cellsU_len, List.length_map, hlen] at this
    have k1 := hc i (by omega)
    have hb := bounds_u8 (h4 _ (List.getElem_mem (show i < Z.length by omega)))
    rw [Addr.add_lit] at k1
    rw [k1, ← hu]
    unfold cellsU
    rw [List.getElem?_map, List.getElem?_map, List.getElem?_take_of_lt hi, List.getD_eq_getElem?_getD, List.getElem?_eq_getElem (by omega)]
    show some (Value.int .u8 Z[i]) = some (Value.int .u8 ((UInt8.ofNat Z[i].toNat).toNat : Int))
    rw [UInt8.toNat_ofNat', Nat.mod_eq_of_lt (by omega), Int.toNat_of_nonneg hb.1]
section
variable {H : Type} {enc : TypeId × Value → H} {W : World} {r : Reach} {b0 : Nat} {v : Value} {d : DataW H} {p : List MemPlace}
set_option maxRecDepth 100000 in
theorem open_u32 (hv : Value.okWide Try.prog W r b0 22 v) (h : DataW.Trod enc Try.prog W 0 (fun _ => true) true 22 v d p) : ∃ a : Nat, v = .int .u32 (a : Int) ∧ a < 4294967296 := by
  obtain ⟨a, rfl⟩ := okWide_int Try.underlying22 hv
  obtain ⟨n, h⟩ := h
  obtain ⟨a', h1, _, h2⟩ := DataW.trod_int Try.underlying22 h
  obtain rfl : a = a' := by simpa [Value.cells] using h1
  have hb := bounds_u32 h2
  exact ⟨a.toNat, by rw [Int.toNat_of_nonneg hb.1], by omega⟩
set_option maxRecDepth 100000 in
theorem open_u8 (hv : Value.okWide Try.prog W r b0 5 v) (h : DataW.Trod enc Try.prog W 0 (fun _ => true) true 5 v d p) : ∃ a : Nat, v = .int .u8 (a : Int) ∧ a < 256 := by
  obtain ⟨a, rfl⟩ := okWide_int Try.underlying5 hv
  obtain ⟨n, h⟩ := h
  obtain ⟨a', h1, _, h2⟩ := DataW.trod_int Try.underlying5 h
  obtain rfl : a = a' := by simpa [Value.cells] using h1
  have hb := bounds_u8 h2
  exact ⟨a.toNat, by rw [Int.toNat_of_nonneg hb.1], by omega⟩
theorem cells_row8 : Try.prog.cellsOf 23 = 1 := by kernel_rfl
set_option maxRecDepth 100000 in
theorem open_bs (hv : Value.okWide Try.prog W r b0 37 v) (h : DataW.Trod enc Try.prog W 0 (fun _ => true) true 37 v d p) : ∃ L : List (List UInt8), Cels W v L := by
  obtain ⟨A, len, cap, rfl⟩ := okWide_slice Try.underlying37 hv
  obtain ⟨n, h⟩ := h
  rcases Go.Deep.open_int_rows Try.underlying37 Try.underlying23 Try.underlying5 cells_row8 cells_byte h with ⟨hc, _⟩ | ⟨a, len', cap', AA, LL, CC, ZZ, hc, _, hl, hm, _, hall⟩
  · have : (Value.slice A len cap) = .slice none 0 0 := by simpa [Value.cells] using hc
    rw [this]
    exact ⟨[], [], rfl, cel_nil W, fun i hi => absurd hi (Nat.not_lt_zero _)⟩
  · have e : (Value.slice A len cap) = .slice (some a) len' cap' := by simpa [Value.cells] using hc
    rw [e]
    refine ⟨(List.range len').map fun i => ((ZZ i).take (LL i)).map fun z => UInt8.ofNat z.toNat, (List.range len').map fun i => .slice (AA i) (LL i) (CC i), by rw [List.length_map, List.length_map],
      ⟨some a, cap', by rw [List.length_map, List.length_range], by rw [List.length_map, List.length_range]; exact hl, hm, fun h0 => ?_⟩, fun i hi u hu => ?_⟩
    · rw [List.length_map, List.length_range] at h0
      have h1 := (hall 0 (by omega)).1
      obtain ⟨b, off, spot⟩ := a
      have hspot : spot = none := by simpa [Addr.add] using World.cell?_spot h1
      subst hspot
      refine ⟨b, off, rfl, fun i u hu => ?_⟩
      have hi : i < len' := by have := (List.getElem?_eq_some_iff.1 hu).1; rwa [List.length_map, List.length_range] at this
      rw [List.getElem?_map, List.getElem?_range hi] at hu
      obtain rfl : Value.slice (AA i) (LL i) (CC i) = u := by simpa using hu
      have h2 := (hall i (by omega)).1
      rwa [Addr.add_lit] at h2
    · rw [List.length_map, List.length_range] at hi
      rw [List.getElem?_map, List.getElem?_range hi] at hu
      obtain rfl : Value.slice (AA i) (LL i) (CC i) = u := by simpa using hu
      obtain ⟨_, k2, k3, k4, k5, k6, k7⟩ := hall i (by omega)
      rw [List.getElem_map, List.getElem_range]
      exact row_of k2 k3 k4 k5 k6 fun a' ha => (k7 a' ha).2
end
end Go.Proofs.Ytbplglndcagglaa.FrmW
