/-
  Tables made row after row. No word of the program. Condition: none.
-/
import Derived.Test.YtfhdoeajoeaddaaAssignPlainE
import Derived.Test.YtfhdoeajoeaddaaAssignPlainB
namespace Go.Proofs.Ytfhdoeajoeaddaa.AsgP
open MchP (rel_le map_nodup PM Mx)
/-- The first m places of a row. -/
def rwF (g : Nat → Nat → Int) (i m : Nat) : List Int := (List.range m).map (g i)
/-- The first k rows of a table with n columns. -/
def tbF (g : Nat → Nat → Int) (n k : Nat) : Tb := (List.range k).map fun i => rwF g i n
section
variable {g : Nat → Nat → Int} {n k i j m : Nat}
theorem rwF_len : (rwF g i m).length = m := by unfold rwF; rw [List.length_map, List.length_range]
theorem tbF_len : (tbF g n k).length = k := by unfold tbF; rw [List.length_map, List.length_range]
theorem rwF_succ : rwF g i (m + 1) = rwF g i m ++ [g i m] := by unfold rwF; rw [List.range_succ, List.map_append]; rfl
theorem tbF_succ : tbF g n (k + 1) = tbF g n k ++ [rwF g k n] := by unfold tbF; rw [List.range_succ, List.map_append]; rfl
theorem tbF_at (h : i < k) : (tbF g n k)[i]? = some (rwF g i n) := by unfold tbF; rw [List.getElem?_map, List.getElem?_range h]; rfl
theorem rwF_at (h : j < m) : (rwF g i m)[j]? = some (g i j) := by unfold rwF; rw [List.getElem?_map, List.getElem?_range h]; rfl
theorem tbF_ct (hi : i < k) (hj : j < n) : ct (tbF g n k) i j = g i j := ct_of (tbF_at hi) (rwF_at hj)
theorem tbF_sqa : Sqa (tbF g n n) := fun r hr => by
  obtain ⟨i, _, rfl⟩ := List.mem_map.1 hr
  rw [rwF_len, tbF_len]
theorem tbF_chk (hn : n ≤ 16) (h : ∀ i, i < n → ∀ j, j < n → 0 ≤ g i j ∧ g i j ≤ 1099511627776) : chA (tbF g n n) = 0 :=
  chA_fine (by rw [tbF_len]; exact hn) tbF_sqa (rga_mk tbF_sqa fun i hi j hj => by
    rw [tbF_len] at hi hj
    rw [tbF_ct hi hj]
    exact h i hi j hj)
end
theorem tr_tbF {c : Tb} {n : Nat} (hn : c.length = n) : Tr c (tbF (fun i j => ct c j i) n n) :=
  ⟨by rw [tbF_len, hn], fun i hi j hj => tbF_ct (by omega) (by omega)⟩
/-- What a place costs after the number. -/
def groF (c : Tb) (p : Nat) (b : Int) (col : Bool) (i j : Nat) : Int := ct c i j + if (if col then j else i) = p then b else 0
theorem gro_tbF {c : Tb} {n p : Nat} {b : Int} {col : Bool} (hn : c.length = n) (hp : p < n) : Gro c (tbF (groF c p b col) n n) p b col :=
  ⟨by rw [tbF_len, hn], by omega, fun i hi j hj => tbF_ct (by omega) (by omega)⟩
/-- 0 where it is permitted. -/
def zoF (P : Nat → Nat → Bool) (i j : Nat) : Int := if P i j then 0 else 1
theorem zo_tbF {P : Nat → Nat → Bool} {n : Nat} (hd : ∀ i j, P i j = true → i < n ∧ j < n) : Zo (fun i j => P i j = true) (tbF (zoF P) n n) := by
  refine ⟨fun i j h => by rw [tbF_len]; exact hd i j h, fun i j h => ?_, fun i hi j hj h => ?_⟩
  · obtain ⟨h1, h2⟩ := hd i j h
    rw [tbF_ct h1 h2]
    unfold zoF
    rw [if_pos h]
  · rw [tbF_len] at hi hj
    rw [tbF_ct hi hj]
    unfold zoF
    rw [if_neg h]
theorem zo_chk {P : Nat → Nat → Bool} {n : Nat} (hn : n ≤ 16) : chA (tbF (zoF P) n n) = 0 := tbF_chk hn fun i _ j _ => by
  unfold zoF
  split <;> omega
end Go.Proofs.Ytfhdoeajoeaddaa.AsgP
