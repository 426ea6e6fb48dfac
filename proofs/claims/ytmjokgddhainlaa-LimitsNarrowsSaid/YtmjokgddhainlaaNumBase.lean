/-
  Several texts in one file: NumPlain, NumA, NumB, NumC, NumD, NumE. Condition: those of each.
-/
import Derived.Test.YtmjokgddhainlaaRows
import Derived.WalkKit
import Derived.ProofKit
import Derived.WalkSpells
import Derived.WalkLawsBesides
import Derived.Lib.Hide
import Derived.Outline
import Derived.Deep.QuietTactic
import Derived.BigQuiet
/-
  Plain mathematics of layer num (no Go): rounding to the nearest integer, quotients rounded down, greatest common divisors, square roots bit by bit, the order of products. Condition: none.
-/
namespace Go.Proofs.Ytmjokgddhainlaa.NumP

/-! ### Quotients -/
theorem divmod_of {a b q r : Int} (h : b * q + r = a) (h0 : 0 ≤ r) (h1 : r < b) : a / b = q ∧ a % b = r := by
  have hb : 0 < b := by omega
  exact (Int.ediv_emod_unique hb).2 ⟨by omega, h0, h1⟩
theorem mod_bd (a b : Int) (hb : 1 ≤ b) : 0 ≤ a % b ∧ a % b < b :=
  ⟨Int.emod_nonneg _ (by omega), Int.emod_lt_of_pos _ (by omega)⟩
theorem divmod_eq (a b : Int) : b * (a / b) + a % b = a := Int.mul_ediv_add_emod a b
theorem tmod_bd (a b : Int) (hb : 1 ≤ b) : -b < a.tmod b ∧ a.tmod b < b := by
  refine ⟨?_, Int.tmod_lt_of_pos _ (by omega)⟩
  by_cases h : 0 ≤ a
  · have := Int.tmod_nonneg b h; omega
  · have h2 := Int.tmod_lt_of_pos (-a) (show 0 < b by omega)
    rw [Int.neg_tmod] at h2; omega
theorem tdivmod_eq (a b : Int) : b * (a.tdiv b) + a.tmod b = a := Int.mul_tdiv_add_tmod a b
theorem down_neg (a b : Int) (hb : 1 ≤ b) (h : a.tmod b < 0) : a.tdiv b - 1 = a / b ∧ a.tmod b + b = a % b := by
  have h1 := tmod_bd a b hb
  have h2 := tdivmod_eq a b
  have h3 := divmod_of (a := a) (b := b) (q := a.tdiv b - 1) (r := a.tmod b + b) (by rw [Int.mul_sub]; omega) (by omega) (by omega)
  exact ⟨h3.1.symm, h3.2.symm⟩
theorem down_pos (a b : Int) (hb : 1 ≤ b) (h : 0 ≤ a.tmod b) : a.tdiv b = a / b ∧ a.tmod b = a % b := by
  have h1 := tmod_bd a b hb
  have h3 := divmod_of (a := a) (b := b) (q := a.tdiv b) (r := a.tmod b) (tdivmod_eq a b) (by omega) (by omega)
  exact ⟨h3.1.symm, h3.2.symm⟩
theorem div_bd (a b m : Int) (hb : 1 ≤ b) (h0 : -m ≤ a) (h1 : a ≤ m) : -m ≤ a / b ∧ a / b ≤ m := by
  have hm : 0 ≤ m := by omega
  constructor
  · rw [Int.le_ediv_iff_mul_le (by omega)]
    have : m * 1 ≤ m * b := Int.mul_le_mul_of_nonneg_left hb hm
    rw [Int.neg_mul]; omega
  · by_cases h : 0 ≤ a
    · have := Int.ediv_le_self b h; omega
    · have : a / b < 0 := Int.ediv_neg_of_neg_of_pos (by omega) (by omega)
      omega
theorem tdiv_bd (a b m : Int) (hb : 1 ≤ b) (h0 : -m ≤ a) (h1 : a ≤ m) : -m ≤ a.tdiv b ∧ a.tdiv b ≤ m := by
  by_cases h : a.tmod b < 0
  · have h2 := down_neg a b hb h
    have h3 := div_bd a b m hb h0 h1
    have h4 : a.tdiv b = a / b + 1 := by omega
    by_cases hp : 0 ≤ a
    · have := Int.tmod_nonneg b hp; omega
    · have : a.tdiv b ≤ 0 := by
        have := Int.tdiv_nonneg (a := -a) (b := b) (by omega) (by omega)
        rw [Int.neg_tdiv] at this; omega
      omega
  · have h2 := down_pos a b hb (by omega)
    have h3 := div_bd a b m hb h0 h1
    omega

/-! ### Rounding to the nearest integer, halves to the even one -/
/-- Whether a remainder r of divisor d, at quotient q, is rounded up. -/
def upB (q r d : Int) : Bool := decide (d < 2 * r) || (decide (2 * r = d) && decide (q % 2 ≠ 0))
/-- s / d, rounded to the nearest integer, halves to the even one (d at least 1). -/
def nearV (s d : Int) : Int := if upB (s / d) (s % d) d = true then s / d + 1 else s / d
/-- n is s / d, rounded. -/
def Near (s d n : Int) : Prop := -d ≤ 2 * (n * d - s) ∧ 2 * (n * d - s) ≤ d ∧ (2 * (n * d - s) = d → n % 2 = 0) ∧ (2 * (n * d - s) = -d → n % 2 = 0)
theorem near_spec (s d : Int) (hd : 1 ≤ d) : Near s d (nearV s d) := by
  have h1 := mod_bd s d hd
  have h2 := divmod_eq s d
  unfold nearV
  by_cases h : upB (s / d) (s % d) d = true
  · rw [if_pos h]
    unfold upB at h
    simp only [Bool.or_eq_true, Bool.and_eq_true, decide_eq_true_eq] at h
    unfold Near
    rw [Int.add_mul, Int.one_mul, Int.mul_comm (s / d) d]
    generalize d * (s / d) = x at *
    generalize s / d = q at *
    generalize s % d = r at *
    omega
  · rw [if_neg h]
    unfold upB at h
    simp only [Bool.or_eq_true, Bool.and_eq_true, decide_eq_true_eq, not_or, not_and] at h
    unfold Near
    rw [Int.mul_comm (s / d) d]
    generalize d * (s / d) = x at *
    generalize s / d = q at *
    generalize s % d = r at *
    omega
theorem near_hi {s d q r : Int} (h : s / d = q ∧ s % d = r) (h1 : d < 2 * r) : nearV s d = q + 1 := by
  unfold nearV; rw [h.1, h.2, if_pos]; unfold upB; simp [h1]
theorem near_odd {s d q r : Int} (h : s / d = q ∧ s % d = r) (h1 : 2 * r = d) (h2 : q % 2 ≠ 0) : nearV s d = q + 1 := by
  unfold nearV; rw [h.1, h.2, if_pos]; unfold upB; simp [h1]; omega
theorem near_even {s d q r : Int} (h : s / d = q ∧ s % d = r) (h1 : 2 * r = d) (h2 : q % 2 = 0) : nearV s d = q := by
  unfold nearV; rw [h.1, h.2, if_neg]; unfold upB; simp [h1, h2]
theorem near_lo {s d q r : Int} (h : s / d = q ∧ s % d = r) (h1 : 2 * r < d) : nearV s d = q := by
  unfold nearV; rw [h.1, h.2, if_neg]; unfold upB; simp; omega
theorem mul_gap {n m d : Int} (hd : 1 ≤ d) (h : m + 1 ≤ n) : m * d + d ≤ n * d := by
  have := Int.mul_le_mul_of_nonneg_right h (show 0 ≤ d by omega)
  rw [Int.add_mul, Int.one_mul] at this; exact this
theorem near_lt {s d n m : Int} (hd : 1 ≤ d) (hn : Near s d n) (hm : Near s d m) : ¬ m < n := by
  intro h
  obtain ⟨n1, n2, n3, n4⟩ := hn
  obtain ⟨m1, m2, m3, m4⟩ := hm
  by_cases h2 : m + 2 ≤ n
  · have g1 := mul_gap hd (show m + 1 ≤ m + 1 by omega)
    have g2 := mul_gap hd (show (m + 1) + 1 ≤ n by omega)
    generalize (m + 1) * d = z at *
    generalize n * d = x at *
    generalize m * d = y at *
    omega
  · have e : n = m + 1 := by omega
    subst e
    have g : (m + 1) * d = m * d + d := by rw [Int.add_mul, Int.one_mul]
    rw [g] at n1 n2 n3 n4
    generalize m * d = y at *
    omega
theorem near_unique {s d n m : Int} (hd : 1 ≤ d) (hn : Near s d n) (hm : Near s d m) : n = m := by
  have h1 := near_lt hd hn hm
  have h2 := near_lt hd hm hn
  omega
theorem nearV_eq {s d n : Int} (hd : 1 ≤ d) (hn : Near s d n) : nearV s d = n := near_unique hd (near_spec s d hd) hn
theorem near_neg (s d : Int) (hd : 1 ≤ d) : nearV (-s) d = -nearV s d := by
  apply nearV_eq hd
  obtain ⟨n1, n2, n3, n4⟩ := near_spec s d hd
  unfold Near
  rw [Int.neg_mul]
  generalize nearV s d * d = x at *
  generalize nearV s d = n at *
  omega
theorem near_shift (s d c : Int) (hd : 1 ≤ d) (hc : c % 2 = 0) : nearV (s + c * d) d = nearV s d + c := by
  apply nearV_eq hd
  obtain ⟨n1, n2, n3, n4⟩ := near_spec s d hd
  unfold Near
  rw [Int.add_mul]
  generalize nearV s d * d = x at *
  generalize c * d = y at *
  generalize nearV s d = n at *
  omega
theorem near_ge {s d m : Int} (hd : 1 ≤ d) (h : m * d ≤ s) : m ≤ nearV s d := by
  obtain ⟨n1, n2, n3, n4⟩ := near_spec s d hd
  by_cases g : m ≤ nearV s d
  · exact g
  · have := mul_gap hd (show nearV s d + 1 ≤ m by omega)
    generalize nearV s d * d = x at *
    generalize m * d = y at *
    omega
theorem near_le {s d m : Int} (hd : 1 ≤ d) (h : s ≤ m * d) : nearV s d ≤ m := by
  obtain ⟨n1, n2, n3, n4⟩ := near_spec s d hd
  by_cases g : nearV s d ≤ m
  · exact g
  · have := mul_gap hd (show m + 1 ≤ nearV s d by omega)
    generalize nearV s d * d = x at *
    generalize m * d = y at *
    omega
theorem near_bd (s d m : Int) (hd : 1 ≤ d) (h0 : -m ≤ s) (h1 : s ≤ m) : -m ≤ nearV s d ∧ nearV s d ≤ m := by
  have hm : 0 ≤ m := by omega
  have : m * 1 ≤ m * d := Int.mul_le_mul_of_nonneg_left hd hm
  exact ⟨near_ge hd (by rw [Int.neg_mul]; omega), near_le hd (by omega)⟩

/-! ### The functions of package num: value and error number of each (1: ErrRange, 11: ErrDivide) -/
def smallB (n : Int) : Bool := decide (-1125899906842624 ≤ n) && decide (n ≤ 1125899906842624)
theorem small_iff (n : Int) : smallB n = true ↔ -1125899906842624 ≤ n ∧ n ≤ 1125899906842624 := by
  unfold smallB; rw [Bool.and_eq_true, decide_eq_true_eq, decide_eq_true_eq]
theorem small_not (n : Int) : smallB n = false ↔ n < -1125899906842624 ∨ 1125899906842624 < n := by
  rw [← Bool.not_eq_true, small_iff]; omega
def endB (n : Int) : Bool := decide (-1048576 ≤ n) && decide (n ≤ 1048576)
theorem end_iff (n : Int) : endB n = true ↔ -1048576 ≤ n ∧ n ≤ 1048576 := by
  unfold endB; rw [Bool.and_eq_true, decide_eq_true_eq, decide_eq_true_eq]
theorem end_not (n : Int) : endB n = false ↔ n < -1048576 ∨ 1048576 < n := by
  rw [← Bool.not_eq_true, end_iff]; omega

def floorE (a b : Int) : Int := if smallB a = true ∧ smallB b = true then (if b = 0 then 11 else if b < 0 then 1 else 0) else 1
def floorQ (a b : Int) : Int := if floorE a b = 0 then a / b else 0
def floorR (a b : Int) : Int := if floorE a b = 0 then a % b else 0
def roundE (a b : Int) : Int := if smallB a = true ∧ smallB b = true then (if b = 0 then 11 else 0) else 1
def roundV (a b : Int) : Int := if roundE a b = 0 then (if b < 0 then nearV (-a) (-b) else nearV a b) else 0
def lerpOk (a b k d : Int) : Bool := endB a && endB b && (decide (1 ≤ d) && decide (d ≤ 524288)) && (decide (0 ≤ k) && decide (k ≤ d))
def lerpE (a b k d : Int) : Int := if lerpOk a b k d = true then 0 else 1
def lerpV (a b k d : Int) : Int := if lerpOk a b k d = true then nearV (a * (d - k) + b * k) d else 0

theorem floor_ok {a b : Int} (ha : smallB a = true) (hb : smallB b = true) (h : 1 ≤ b) : floorE a b = 0 ∧ floorQ a b = a / b ∧ floorR a b = a % b := by
  have e : floorE a b = 0 := by unfold floorE; rw [if_pos ⟨ha, hb⟩, if_neg (by omega), if_neg (by omega)]
  exact ⟨e, by unfold floorQ; rw [if_pos e], by unfold floorR; rw [if_pos e]⟩
theorem floor_err {a b : Int} (h : floorE a b ≠ 0) : floorQ a b = 0 ∧ floorR a b = 0 :=
  ⟨by unfold floorQ; rw [if_neg h], by unfold floorR; rw [if_neg h]⟩
theorem floorE_range {a b : Int} (h : smallB a = false ∨ smallB b = false) : floorE a b = 1 := by
  unfold floorE; rw [if_neg]; rintro ⟨h1, h2⟩; rw [h1, h2] at h; simp at h
theorem floorE_div {a : Int} (h : smallB a = true) : floorE a 0 = 11 := by
  unfold floorE; rw [if_pos ⟨h, by decide⟩, if_pos rfl]
theorem floorE_neg {a b : Int} (ha : smallB a = true) (hb : smallB b = true) (h : b < 0) : floorE a b = 1 := by
  unfold floorE; rw [if_pos ⟨ha, hb⟩, if_neg (by omega), if_pos h]
theorem round_ok {a b : Int} (ha : smallB a = true) (hb : smallB b = true) (h : b ≠ 0) : roundE a b = 0 ∧ roundV a b = (if b < 0 then nearV (-a) (-b) else nearV a b) := by
  have e : roundE a b = 0 := by unfold roundE; rw [if_pos ⟨ha, hb⟩, if_neg h]
  exact ⟨e, by unfold roundV; rw [if_pos e]⟩
theorem round_err {a b : Int} (h : roundE a b ≠ 0) : roundV a b = 0 := by unfold roundV; rw [if_neg h]
theorem roundE_range {a b : Int} (h : smallB a = false ∨ smallB b = false) : roundE a b = 1 := by
  unfold roundE; rw [if_neg]; rintro ⟨h1, h2⟩; rw [h1, h2] at h; simp at h
theorem roundE_div {a : Int} (h : smallB a = true) : roundE a 0 = 11 := by
  unfold roundE; rw [if_pos ⟨h, by decide⟩, if_pos rfl]
theorem lerpOk_iff (a b k d : Int) : lerpOk a b k d = true ↔ (-1048576 ≤ a ∧ a ≤ 1048576) ∧ (-1048576 ≤ b ∧ b ≤ 1048576) ∧ (1 ≤ d ∧ d ≤ 524288) ∧ (0 ≤ k ∧ k ≤ d) := by
  unfold lerpOk
  rw [Bool.and_eq_true, Bool.and_eq_true, Bool.and_eq_true, Bool.and_eq_true, Bool.and_eq_true, end_iff, end_iff, decide_eq_true_eq, decide_eq_true_eq, decide_eq_true_eq, decide_eq_true_eq]
  constructor
  · rintro ⟨⟨⟨h1, h2⟩, h3⟩, h4⟩; exact ⟨h1, h2, h3, h4⟩
  · rintro ⟨h1, h2, h3, h4⟩; exact ⟨⟨⟨h1, h2⟩, h3⟩, h4⟩
theorem lerp_ok {a b k d : Int} (h : lerpOk a b k d = true) : lerpE a b k d = 0 ∧ lerpV a b k d = nearV (a * (d - k) + b * k) d := by
  unfold lerpE lerpV; rw [if_pos h, if_pos h]; exact ⟨rfl, rfl⟩
theorem lerp_no {a b k d : Int} (h : lerpOk a b k d = false) : lerpE a b k d = 1 ∧ lerpV a b k d = 0 := by
  unfold lerpE lerpV; rw [if_neg (by rw [h]; decide), if_neg (by rw [h]; decide)]; exact ⟨rfl, rfl⟩

/-! ### The mean's sum -/
theorem sum_bd {a b k d m : Int} (ha : -m ≤ a ∧ a ≤ m) (hb : -m ≤ b ∧ b ≤ m) (hk : 0 ≤ k) (hd : k ≤ d) :
    (-(m * (d - k)) ≤ a * (d - k) ∧ a * (d - k) ≤ m * (d - k)) ∧ (-(m * k) ≤ b * k ∧ b * k ≤ m * k) := by
  have h1 := Int.mul_le_mul_of_nonneg_right ha.1 (show 0 ≤ d - k by omega)
  have h2 := Int.mul_le_mul_of_nonneg_right ha.2 (show 0 ≤ d - k by omega)
  have h3 := Int.mul_le_mul_of_nonneg_right hb.1 hk
  have h4 := Int.mul_le_mul_of_nonneg_right hb.2 hk
  rw [Int.neg_mul] at h1 h3
  exact ⟨⟨h1, h2⟩, h3, h4⟩
theorem lerp_bds {a b k d : Int} (h : lerpOk a b k d = true) :
    (-549755813888 ≤ a * (d - k) ∧ a * (d - k) ≤ 549755813888) ∧ (-549755813888 ≤ b * k ∧ b * k ≤ 549755813888) ∧ (-549755813888 ≤ a * (d - k) + b * k ∧ a * (d - k) + b * k ≤ 549755813888) := by
  obtain ⟨h1, h2, h3, h4⟩ := (lerpOk_iff a b k d).1 h
  have := sum_bd (m := 1048576) h1 h2 h4.1 h4.2
  generalize a * (d - k) = x at *
  generalize b * k = y at *
  omega
theorem sum_ge {a b k d m : Int} (ha : m ≤ a) (hb : m ≤ b) (hk : 0 ≤ k) (hd : k ≤ d) : m * d ≤ a * (d - k) + b * k := by
  have h1 := Int.mul_le_mul_of_nonneg_right ha (show 0 ≤ d - k by omega)
  have h2 := Int.mul_le_mul_of_nonneg_right hb hk
  have h3 : m * (d - k) + m * k = m * d := by rw [← Int.mul_add]; congr 1; omega
  omega
theorem sum_le {a b k d m : Int} (ha : a ≤ m) (hb : b ≤ m) (hk : 0 ≤ k) (hd : k ≤ d) : a * (d - k) + b * k ≤ m * d := by
  have h1 := Int.mul_le_mul_of_nonneg_right ha (show 0 ≤ d - k by omega)
  have h2 := Int.mul_le_mul_of_nonneg_right hb hk
  have h3 : m * (d - k) + m * k = m * d := by rw [← Int.mul_add]; congr 1; omega
  omega
theorem lerp_swap (a b k d : Int) : lerpOk b a (d - k) d = lerpOk a b k d := by
  rw [Bool.eq_iff_iff, lerpOk_iff, lerpOk_iff]; omega
theorem lerp_neg (a b k d : Int) : lerpOk (-a) (-b) k d = lerpOk a b k d := by
  rw [Bool.eq_iff_iff, lerpOk_iff, lerpOk_iff]; omega
theorem lerpV_swap (a b k d : Int) : lerpV b a (d - k) d = lerpV a b k d := by
  unfold lerpV
  rw [lerp_swap]
  have e : b * (d - (d - k)) + a * (d - k) = a * (d - k) + b * k := by rw [show d - (d - k) = k by omega]; omega
  rw [e]
theorem lerpV_neg (a b k d : Int) : lerpV (-a) (-b) k d = -lerpV a b k d := by
  unfold lerpV
  rw [lerp_neg]
  by_cases h : lerpOk a b k d = true
  · rw [if_pos h, if_pos h, ← near_neg _ _ (by have := (lerpOk_iff a b k d).1 h; omega)]
    congr 1
    rw [Int.neg_mul, Int.neg_mul]; omega
  · rw [if_neg h, if_neg h]; rfl
theorem lerpE_swap (a b k d : Int) : lerpE b a (d - k) d = lerpE a b k d := by unfold lerpE; rw [lerp_swap]
theorem lerpE_neg (a b k d : Int) : lerpE (-a) (-b) k d = lerpE a b k d := by unfold lerpE; rw [lerp_neg]
theorem lerpV_shift {a b k d c : Int} (h : lerpOk a b k d = true) (h2 : lerpOk (a + c) (b + c) k d = true) (hc : c % 2 = 0) : lerpV (a + c) (b + c) k d = lerpV a b k d + c := by
  unfold lerpV
  rw [if_pos h, if_pos h2, ← near_shift _ _ _ (by have := (lerpOk_iff a b k d).1 h; omega) hc]
  congr 1
  rw [Int.add_mul, Int.add_mul]
  have e : c * (d - k) + c * k = c * d := by rw [← Int.mul_add]; congr 1; omega
  omega
theorem lerpV_min {a b k d : Int} (h : lerpOk a b k d = true) : min a b ≤ lerpV a b k d ∧ lerpV a b k d ≤ max a b := by
  obtain ⟨h1, h2, h3, h4⟩ := (lerpOk_iff a b k d).1 h
  rw [(lerp_ok h).2]
  exact ⟨near_ge (by omega) (sum_ge (Int.min_le_left a b) (Int.min_le_right a b) h4.1 h4.2), near_le (by omega) (sum_le (Int.le_max_left a b) (Int.le_max_right a b) h4.1 h4.2)⟩
theorem lerpV_bd (a b k d : Int) : -1048576 ≤ lerpV a b k d ∧ lerpV a b k d ≤ 1048576 := by
  by_cases h : lerpOk a b k d = true
  · have h1 := lerpV_min h
    have h2 := (lerpOk_iff a b k d).1 h
    omega
  · unfold lerpV; rw [if_neg h]; omega
theorem lerpE_01 (a b k d : Int) : 0 ≤ lerpE a b k d ∧ lerpE a b k d ≤ 1 := by unfold lerpE; split <;> omega
theorem lerpV_ends {a b k d : Int} (h : lerpOk a b k d = true) : (k = 0 → lerpV a b k d = a) ∧ (k = d → lerpV a b k d = b) := by
  obtain ⟨h1, h2, h3, h4⟩ := (lerpOk_iff a b k d).1 h
  rw [(lerp_ok h).2]
  refine ⟨fun e => ?_, fun e => ?_⟩
  · subst e
    apply nearV_eq (by omega)
    unfold Near
    rw [Int.sub_zero, Int.mul_zero]; omega
  · subst e
    apply nearV_eq (by omega)
    unfold Near
    rw [Int.sub_self, Int.mul_zero]; omega
end Go.Proofs.Ytmjokgddhainlaa.NumP

/-
  Walks of the functions of package num that only compute with one division at most, and of the specification's functions beside them: what each call returns, at every world. Condition: none.
-/
namespace Go.Proofs.Ytmjokgddhainlaa.NumW
open Go.ChangeShapes Go.WideShapes Go.ChangeAt Go.RowKit
open NumP

/-- The world w' is w, with answers drawn from the tape at most. -/
def Drew (w w' : World) : Prop := ∃ n, w' = w.drewN n
theorem Drew.refl (w : World) : Drew w w := ⟨0, rfl⟩
theorem Drew.step {w w' : World} (h : Drew w w') (n : Nat) : Drew w (w'.drewN n) := by
  obtain ⟨m, rfl⟩ := h
  exact ⟨m + n, by rw [World.drewN_drewN]⟩

theorem tmod2_ne (q : Int) (h : q % 2 = 0) : (q.tmod 2 != 0) = false := by
  have : q.tmod 2 = 0 := Int.tmod_eq_zero_of_dvd (Int.dvd_of_emod_eq_zero h)
  rw [this]; rfl
theorem tmod2_eq (q : Int) (h : q % 2 ≠ 0) : (q.tmod 2 != 0) = true := by
  have : q.tmod 2 ≠ 0 := fun e => h (Int.emod_eq_zero_of_dvd (Int.dvd_of_tmod_eq_zero e))
  exact bne_iff_ne.2 this
theorem ret_bool {a b : Bool} (h : a = b) : Ending.returned (.bool a) = .returned (.bool b) := by rw [h]
theorem ret_int {a b : Int} (h : a = b) : Ending.returned (.int .i64 a) = .returned (.int .i64 b) := by rw [h]
theorem ret_two {a b c d : Int} (h : a = b) (h2 : c = d) : Ending.returned (.tuple #[.int .i64 a, .int .i64 c]) = .returned (.tuple #[.int .i64 b, .int .i64 d]) := by rw [h, h2]
theorem ret_three {a b c d e f : Int} (h : a = b) (h2 : c = d) (h3 : e = f) : Ending.returned (.tuple #[.int .i64 a, .int .i64 c, .int .i64 e]) = .returned (.tuple #[.int .i64 b, .int .i64 d, .int .i64 f]) := by rw [h, h2, h3]







end Go.Proofs.Ytmjokgddhainlaa.NumW

/-
  Walks of Round, Floor and Lerp of package num and of the specification: what each call returns for every input, at every world. Condition: the arguments are numbers of 64 bits.
-/
namespace Go.Proofs.Ytmjokgddhainlaa.NumW
open Go.ChangeShapes Go.WideShapes Go.ChangeAt Go.RowKit
open NumP




end Go.Proofs.Ytmjokgddhainlaa.NumW

/-
  Walks of Round and Lerp of package num and of Round, Floor and Lerp of the specification: what each call returns for every input, at every world. Condition: the arguments are numbers of 64 bits.
-/
namespace Go.Proofs.Ytmjokgddhainlaa.NumW
open Go.ChangeShapes Go.WideShapes Go.ChangeAt Go.RowKit
open NumP


theorem neg_small (a : Int) (h0 : -9223372036854775808 ≤ a) (h1 : a ≤ 9223372036854775807) : smallB (wrap64 (-a)) = smallB a := by
  rw [Bool.eq_iff_iff, small_iff, small_iff]
  unfold wrap64
  omega


end Go.Proofs.Ytmjokgddhainlaa.NumW

/-
  Walks of Round and Lerp of package num: what each call returns for every input, at every world. Condition: Round's arguments are numbers of 64 bits.
-/
namespace Go.Proofs.Ytmjokgddhainlaa.NumW
open Go.ChangeShapes Go.WideShapes Go.ChangeAt Go.RowKit
open NumP
theorem small_neg (a : Int) : smallB (-a) = smallB a := by rw [Bool.eq_iff_iff, small_iff, small_iff]; omega


/-! ### Lerp -/
theorem lerpOk_false (a b k d : Int) : lerpOk a b k d = false ↔ endB a = false ∨ endB b = false ∨ d < 1 ∨ 524288 < d ∨ k < 0 ∨ d < k := by
  rw [← Bool.not_eq_true, lerpOk_iff, end_not, end_not]; omega


end Go.Proofs.Ytmjokgddhainlaa.NumW

/-
  Walks of Floor, Round and Lerp of the specification of package num: each returns what the program's function returns, for every input, at every world. Condition: the arguments are numbers of 64 bits.
-/
namespace Go.Proofs.Ytmjokgddhainlaa.NumW
open Go.ChangeShapes Go.WideShapes Go.ChangeAt Go.RowKit
open NumP





end Go.Proofs.Ytmjokgddhainlaa.NumW
