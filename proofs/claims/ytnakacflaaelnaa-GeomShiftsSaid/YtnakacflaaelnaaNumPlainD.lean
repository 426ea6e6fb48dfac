/-
  Plain mathematics of layer num (no Go): the order of two products by their signs and by limbs of 26 bits. Condition: none.
-/
import Derived.Test.YtnakacflaaelnaaNumPlainC
namespace Go.Proofs.Ytnakacflaaelnaa.NumP

/-- The three limbs of a number that is not negative. -/
def limbH (p : Int) : Int := p / 4503599627370496
def limbM (p : Int) : Int := p / 67108864 % 67108864
def limbL (p : Int) : Int := p % 67108864
theorem cmp3_limbs (p q : Int) : cmp3 p q = if limbH p = limbH q then (if limbM p = limbM q then cmp3 (limbL p) (limbL q) else cmp3 (limbM p) (limbM q)) else cmp3 (limbH p) (limbH q) := by
  unfold limbH limbM limbL
  by_cases h : p / 4503599627370496 = q / 4503599627370496
  · rw [if_pos h]
    by_cases h2 : p / 67108864 % 67108864 = q / 67108864 % 67108864
    · rw [if_pos h2]; exact cmp3_of (by omega) (by omega)
    · rw [if_neg h2]; exact cmp3_of (by omega) (by omega)
  · rw [if_neg h]; exact cmp3_of (by omega) (by omega)
theorem pos_mul {a b : Int} (ha : 0 < a) (hb : 0 < b) : 0 < a * b := Int.mul_pos ha hb
theorem sign_prod (a b : Int) : cmp3 a 0 * cmp3 b 0 = cmp3 (a * b) 0 := by
  rcases Int.lt_trichotomy a 0 with ha | ha | ha
  · rcases Int.lt_trichotomy b 0 with hb | hb | hb
    · rw [cmp3_lt ha, cmp3_lt hb, cmp3_gt (Int.mul_pos_of_neg_of_neg ha hb)]; rfl
    · rw [hb, Int.mul_zero, cmp3_eq rfl]; omega
    · rw [cmp3_lt ha, cmp3_gt hb, cmp3_lt (Int.mul_neg_of_neg_of_pos ha hb)]; rfl
  · rw [ha, Int.zero_mul, cmp3_eq rfl]; omega
  · rcases Int.lt_trichotomy b 0 with hb | hb | hb
    · rw [cmp3_gt ha, cmp3_lt hb, cmp3_lt (Int.mul_neg_of_pos_of_neg ha hb)]; rfl
    · rw [hb, Int.mul_zero, cmp3_eq rfl]; omega
    · rw [cmp3_gt ha, cmp3_gt hb, cmp3_gt (Int.mul_pos ha hb)]; rfl
theorem sign_bd (a b : Int) : -1 ≤ cmp3 a 0 * cmp3 b 0 ∧ cmp3 a 0 * cmp3 b 0 ≤ 1 := by rw [sign_prod]; exact cmp3_bd _ _
/-- Where the signs differ they decide. -/
theorem cmp3_signs {p q : Int} (h : cmp3 p 0 ≠ cmp3 q 0) : cmp3 (cmp3 p 0) (cmp3 q 0) = cmp3 p q := by
  rcases Int.lt_trichotomy p 0 with hp | hp | hp <;> rcases Int.lt_trichotomy q 0 with hq | hq | hq
  · rw [cmp3_lt hp, cmp3_lt hq] at h; exact absurd rfl h
  · rw [cmp3_lt hp, cmp3_eq hq, cmp3_lt (show p < q by omega)]; rfl
  · rw [cmp3_lt hp, cmp3_gt hq, cmp3_lt (show p < q by omega)]; rfl
  · rw [cmp3_eq hp, cmp3_lt hq, cmp3_gt (show q < p by omega)]; rfl
  · rw [cmp3_eq hp, cmp3_eq hq] at h; exact absurd rfl h
  · rw [cmp3_eq hp, cmp3_gt hq, cmp3_lt (show p < q by omega)]; rfl
  · rw [cmp3_gt hp, cmp3_lt hq, cmp3_gt (show q < p by omega)]; rfl
  · rw [cmp3_gt hp, cmp3_eq hq, cmp3_gt (show q < p by omega)]; rfl
  · rw [cmp3_gt hp, cmp3_gt hq] at h; exact absurd rfl h
/-- Where they don't, the sizes decide. -/
theorem cmp3_sizes {p q : Int} (h : cmp3 p 0 = cmp3 q 0) : cmp3 p 0 * cmp3 (p.natAbs : Int) (q.natAbs : Int) = cmp3 p q := by
  rcases Int.lt_trichotomy p 0 with hp | hp | hp
  · rw [cmp3_lt hp] at h ⊢
    have hq : q < 0 := ((cmp3_iff q 0).1).1 h.symm
    have e : cmp3 (p.natAbs : Int) (q.natAbs : Int) = cmp3 q p := cmp3_of (by omega) (by omega)
    rw [e, cmp3_swap p q]; omega
  · rw [cmp3_eq hp] at h
    have hq : q = 0 := ((cmp3_iff q 0).2.1).1 h.symm
    rw [cmp3_eq hp, cmp3_eq (show p = q by omega)]; omega
  · rw [cmp3_gt hp] at h ⊢
    have hq : 0 < q := ((cmp3_iff q 0).2.2).1 h.symm
    rw [Int.one_mul]
    exact cmp3_of (by omega) (by omega)
theorem abs_prod (a b : Int) : ((a * b).natAbs : Int) = (a.natAbs : Int) * (b.natAbs : Int) := by rw [Int.natAbs_mul, Int.natCast_mul]

/-! ### The limbs of a product, as the specification computes them -/
theorem wide_bds {a b : Int} (ha : 0 ≤ a ∧ a ≤ 1125899906842624) (hb : 0 ≤ b ∧ b ≤ 1125899906842624) :
    (0 ≤ a % 67108864 * (b % 67108864) ∧ a % 67108864 * (b % 67108864) ≤ 4503599627370496) ∧
    (0 ≤ a / 67108864 * (b % 67108864) ∧ a / 67108864 * (b % 67108864) ≤ 1125899906842624) ∧
    (0 ≤ a % 67108864 * (b / 67108864) ∧ a % 67108864 * (b / 67108864) ≤ 1125899906842624) ∧
    (0 ≤ a / 67108864 * (b / 67108864) ∧ a / 67108864 * (b / 67108864) ≤ 281474976710656) := by
  have p0 : 0 ≤ a / 67108864 := by omega
  have p1 : a / 67108864 ≤ 16777216 := by omega
  have q0 : 0 ≤ a % 67108864 := by omega
  have q1 : a % 67108864 ≤ 67108864 := by omega
  have r0 : 0 ≤ b / 67108864 := by omega
  have r1 : b / 67108864 ≤ 16777216 := by omega
  have s0 : 0 ≤ b % 67108864 := by omega
  have s1 : b % 67108864 ≤ 67108864 := by omega
  have g1 := Int.mul_le_mul q1 s1 s0 (by decide)
  have g2 := Int.mul_le_mul p1 s1 s0 (by decide)
  have g3 := Int.mul_le_mul q1 r1 r0 (by decide)
  have g4 := Int.mul_le_mul p1 r1 r0 (by decide)
  exact ⟨⟨Int.mul_nonneg q0 s0, by omega⟩, ⟨Int.mul_nonneg p0 s0, by omega⟩, ⟨Int.mul_nonneg q0 r0, by omega⟩, Int.mul_nonneg p0 r0, by omega⟩
theorem split_prod (p q r s u : Int) : (u * p + q) * (u * r + s) = u * u * (p * r) + u * (p * s) + u * (q * r) + q * s := by
  rw [Int.add_mul, Int.mul_add, Int.mul_add]
  have e1 : u * p * (u * r) = u * u * (p * r) := by rw [Int.mul_assoc, Int.mul_assoc, Int.mul_left_comm p u r]
  have e2 : u * p * s = u * (p * s) := Int.mul_assoc _ _ _
  have e3 : q * (u * r) = u * (q * r) := Int.mul_left_comm _ _ _
  omega
theorem wide_eq {a b : Int} (ha : 0 ≤ a ∧ a ≤ 1125899906842624) (hb : 0 ≤ b ∧ b ≤ 1125899906842624) :
    a / 67108864 * (b / 67108864) + (a / 67108864 * (b % 67108864) + a % 67108864 * (b / 67108864) + a % 67108864 * (b % 67108864) / 67108864) / 67108864 = limbH (a * b) ∧
    (a / 67108864 * (b % 67108864) + a % 67108864 * (b / 67108864) + a % 67108864 * (b % 67108864) / 67108864) % 67108864 = limbM (a * b) ∧
    a % 67108864 * (b % 67108864) % 67108864 = limbL (a * b) := by
  have hs := split_prod (a / 67108864) (a % 67108864) (b / 67108864) (b % 67108864) 67108864
  rw [show 67108864 * (a / 67108864) + a % 67108864 = a by omega, show 67108864 * (b / 67108864) + b % 67108864 = b by omega] at hs
  obtain ⟨h1, h2, h3, h4⟩ := wide_bds ha hb
  unfold limbH limbM limbL
  generalize a / 67108864 * (b / 67108864) = pr at *
  generalize a / 67108864 * (b % 67108864) = ps at *
  generalize a % 67108864 * (b / 67108864) = qr at *
  generalize a % 67108864 * (b % 67108864) = qs at *
  generalize a * b = t at *
  omega
theorem cmpV_spec {a b c d : Int} (h : cmpOk a b c d = true) :
    (cmp3 (a * b) 0 ≠ cmp3 (c * d) 0 → cmpV a b c d = cmp3 (cmp3 (a * b) 0) (cmp3 (c * d) 0)) ∧
    (cmp3 (a * b) 0 = cmp3 (c * d) 0 → cmpV a b c d = cmp3 (a * b) 0 * cmp3 ((a.natAbs : Int) * (b.natAbs : Int)) ((c.natAbs : Int) * (d.natAbs : Int))) := by
  rw [(cmp_ok h).1]
  refine ⟨fun x => (cmp3_signs x).symm, fun x => ?_⟩
  rw [← abs_prod, ← abs_prod]; exact (cmp3_sizes x).symm
end Go.Proofs.Ytnakacflaaelnaa.NumP
