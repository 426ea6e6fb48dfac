/-
  Plain mathematics of layer num (no Go): square roots bit by bit, greatest common divisors. Condition: none.
-/
import Derived.Test.YtajookopcijakaaNumPlain
namespace Go.Proofs.Ytajookopcijakaa.NumP

/-! ### The root, bit by bit -/
/-- The root after k of the 26 bits. -/
def rootLoop (n : Int) : Nat → Int
  | 0 => 0
  | k + 1 => if (rootLoop n k + 2 ^ (25 - k)) * (rootLoop n k + 2 ^ (25 - k)) ≤ n then rootLoop n k + 2 ^ (25 - k) else rootLoop n k
def rootOk (n : Int) : Bool := decide (0 ≤ n) && decide (n ≤ 1125899906842624)
def rootE (n : Int) : Int := if rootOk n = true then 0 else 1
def rootV (n : Int) : Int := if rootOk n = true then rootLoop n 26 else 0
theorem pow_pos (k : Nat) : (1 : Int) ≤ 2 ^ k := by
  have : (0 : Int) < 2 ^ k := Int.pow_pos (by decide)
  omega
theorem pow_half (k : Nat) (h : k < 26) : (2 : Int) ^ (26 - k) = 2 ^ (25 - k) + 2 ^ (25 - k) := by
  rw [show 26 - k = (25 - k) + 1 by omega, Int.pow_succ]; omega
theorem root_bd (n : Int) : ∀ k : Nat, k ≤ 26 → 0 ≤ rootLoop n k ∧ rootLoop n k + 2 ^ (26 - k) ≤ 67108864 := by
  intro k
  induction k with
  | zero => intro _; have e : rootLoop n 0 = 0 := rfl; rw [e]; exact ⟨by decide, by decide⟩
  | succ k ih =>
    intro hk
    have h1 := ih (by omega)
    have h2 := pow_half k (by omega)
    have h3 := pow_pos (25 - k)
    rw [show 26 - (k + 1) = 25 - k by omega]
    unfold rootLoop
    split <;> omega
theorem root_inv (n : Int) (h0 : 0 ≤ n) (h1 : n ≤ 1125899906842624) : ∀ k : Nat, k ≤ 26 → rootLoop n k * rootLoop n k ≤ n ∧ n < (rootLoop n k + 2 ^ (26 - k)) * (rootLoop n k + 2 ^ (26 - k)) := by
  intro k
  induction k with
  | zero =>
    intro _
    have e : rootLoop n 0 = 0 := rfl
    rw [e]
    exact ⟨by omega, by rw [show ((0 : Int) + 2 ^ (26 - 0)) * (0 + 2 ^ (26 - 0)) = 4503599627370496 by decide]; omega⟩
  | succ k ih =>
    intro hk
    have g := ih (by omega)
    have h2 := pow_half k (by omega)
    rw [show 26 - (k + 1) = 25 - k by omega]
    have e : rootLoop n (k + 1) = if (rootLoop n k + 2 ^ (25 - k)) * (rootLoop n k + 2 ^ (25 - k)) ≤ n then rootLoop n k + 2 ^ (25 - k) else rootLoop n k := rfl
    rw [e]
    rw [h2] at g
    by_cases hc : (rootLoop n k + 2 ^ (25 - k)) * (rootLoop n k + 2 ^ (25 - k)) ≤ n
    · rw [if_pos hc]
      refine ⟨hc, ?_⟩
      rw [Int.add_assoc]
      exact g.2
    · rw [if_neg hc]
      exact ⟨g.1, by omega⟩
theorem root_prod (r p : Int) (h0 : 0 ≤ r) (h1 : 1 ≤ p) (h2 : r + (p + p) ≤ 67108864) : 0 ≤ (r + p) * (r + p) ∧ (r + p) * (r + p) ≤ 4503599627370496 := by
  have e0 : 0 ≤ r + p := by omega
  have e1 : r + p ≤ 67108864 := by omega
  have := Int.mul_le_mul e1 e1 e0 (by decide)
  exact ⟨Int.mul_nonneg e0 e0, by omega⟩
theorem root_spec (n : Int) (h0 : 0 ≤ n) (h1 : n ≤ 1125899906842624) :
    rootE n = 0 ∧ 0 ≤ rootV n ∧ rootV n ≤ 33554432 ∧ rootV n * rootV n ≤ n ∧ n < (rootV n + 1) * (rootV n + 1) := by
  have ho : rootOk n = true := by unfold rootOk; simp [h0, h1]
  unfold rootE rootV
  rw [if_pos ho, if_pos ho]
  have hb := root_bd n 26 (Nat.le_refl _)
  have hi := root_inv n h0 h1 26 (Nat.le_refl _)
  generalize rootLoop n 26 = r at *
  have e : (2 : Int) ^ (26 - 26) = 1 := by decide
  rw [e] at hb hi
  refine ⟨rfl, hb.1, ?_, hi.1, hi.2⟩
  by_cases hc : r ≤ 33554432
  · exact hc
  · have h5 := Int.mul_le_mul (show (33554433 : Int) ≤ r by omega) (show (33554433 : Int) ≤ r by omega) (by decide) hb.1
    omega
theorem root_no (n : Int) (h : n < 0 ∨ 1125899906842624 < n) : rootE n = 1 ∧ rootV n = 0 := by
  have ho : ¬ rootOk n = true := by unfold rootOk; simp; omega
  unfold rootE rootV; rw [if_neg ho, if_neg ho]; exact ⟨rfl, rfl⟩

/-! ### The greatest common divisor -/
def gcdV (a b : Int) : Int := if smallB a = true ∧ smallB b = true then (Int.gcd a b : Int) else 0
def gcdE (a b : Int) : Int := if smallB a = true ∧ smallB b = true then 0 else 1
theorem gcd_ok {a b : Int} (ha : smallB a = true) (hb : smallB b = true) : gcdV a b = (Int.gcd a b : Int) ∧ gcdE a b = 0 := by
  unfold gcdV gcdE; rw [if_pos ⟨ha, hb⟩, if_pos ⟨ha, hb⟩]; exact ⟨rfl, rfl⟩
theorem gcd_no {a b : Int} (h : smallB a = false ∨ smallB b = false) : gcdV a b = 0 ∧ gcdE a b = 1 := by
  have hn : ¬ (smallB a = true ∧ smallB b = true) := by rintro ⟨h1, h2⟩; rw [h1, h2] at h; simp at h
  unfold gcdV gcdE; rw [if_neg hn, if_neg hn]; exact ⟨rfl, rfl⟩
theorem gcd_step (a b : Int) : Int.gcd b (a.tmod b) = Int.gcd a b := by
  unfold Int.gcd
  rw [Int.natAbs_tmod, Nat.gcd_comm b.natAbs, ← Nat.gcd_rec, Nat.gcd_comm]
theorem gcd_step' (a b : Int) (ha : 0 ≤ a) : Int.gcd b (a % b) = Int.gcd a b := by
  rw [← Int.tmod_eq_emod_of_nonneg ha]; exact gcd_step a b
theorem gcd_end (a : Int) : (Int.gcd a 0 : Int) = a.natAbs := by
  unfold Int.gcd; rw [Int.natAbs_zero, Nat.gcd_zero_right]
theorem gcd_abs (a b : Int) : Int.gcd (a.natAbs : Int) (b.natAbs : Int) = Int.gcd a b := by
  unfold Int.gcd; rw [Int.natAbs_natCast, Int.natAbs_natCast]
theorem gcd_comm (a b : Int) : gcdV b a = gcdV a b ∧ gcdE b a = gcdE a b := by
  unfold gcdV gcdE
  rw [Int.gcd_comm b a]
  by_cases h : smallB a = true ∧ smallB b = true
  · rw [if_pos h, if_pos h, if_pos ⟨h.2, h.1⟩, if_pos ⟨h.2, h.1⟩]; exact ⟨rfl, rfl⟩
  · rw [if_neg h, if_neg h, if_neg (fun x => h ⟨x.2, x.1⟩), if_neg (fun x => h ⟨x.2, x.1⟩)]; exact ⟨rfl, rfl⟩
end Go.Proofs.Ytajookopcijakaa.NumP
