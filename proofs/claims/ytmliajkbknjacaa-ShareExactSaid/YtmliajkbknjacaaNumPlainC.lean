/-
  Plain mathematics of layer num (no Go): the order of two products, by two words of 64 bits (the program) and by three limbs of 26 bits and the signs (the specification). Condition: none.
-/
import Derived.Test.YtmliajkbknjacaaNumPlain
import Derived.IntWalk
namespace Go.Proofs.Ytmliajkbknjacaa.NumP
open Go.RowKit (wrap64)

/-- -1, 0 or 1, as p is less than, equal to or greater than q. -/
def cmp3 (p q : Int) : Int := if p < q then -1 else if q < p then 1 else 0
theorem cmp3_lt {p q : Int} (h : p < q) : cmp3 p q = -1 := by unfold cmp3; rw [if_pos h]
theorem cmp3_gt {p q : Int} (h : q < p) : cmp3 p q = 1 := by unfold cmp3; rw [if_neg (by omega), if_pos h]
theorem cmp3_eq {p q : Int} (h : p = q) : cmp3 p q = 0 := by unfold cmp3; rw [if_neg (by omega), if_neg (by omega)]
theorem cmp3_bd (p q : Int) : -1 ≤ cmp3 p q ∧ cmp3 p q ≤ 1 := by unfold cmp3; split <;> (try split) <;> omega
theorem cmp3_swap (p q : Int) : cmp3 q p = -cmp3 p q := by unfold cmp3; split <;> split <;> (try split) <;> omega
theorem cmp3_iff (p q : Int) : (cmp3 p q = -1 ↔ p < q) ∧ (cmp3 p q = 0 ↔ p = q) ∧ (cmp3 p q = 1 ↔ q < p) := by
  unfold cmp3; split <;> (try split) <;> omega
theorem cmp3_of {p q p' q' : Int} (h1 : p < q ↔ p' < q') (h2 : q < p ↔ q' < p') : cmp3 p q = cmp3 p' q' := by
  unfold cmp3
  by_cases a : p < q
  · rw [if_pos a, if_pos (h1.1 a)]
  · rw [if_neg a, if_neg (fun x => a (h1.2 x))]
    by_cases b : q < p
    · rw [if_pos b, if_pos (h2.1 b)]
    · rw [if_neg b, if_neg (fun x => b (h2.2 x))]
theorem cmp3_mul (p q m : Int) (h : 1 ≤ m) : cmp3 (p * m) (q * m) = cmp3 p q := by
  have hm : 0 < m := by omega
  exact cmp3_of ⟨fun x => Int.lt_of_mul_lt_mul_right x (by omega), fun x => Int.mul_lt_mul_of_pos_right x hm⟩ ⟨fun x => Int.lt_of_mul_lt_mul_right x (by omega), fun x => Int.mul_lt_mul_of_pos_right x hm⟩

def cmpOk (a b c d : Int) : Bool := smallB a && smallB b && (smallB c && smallB d)
def cmpV (a b c d : Int) : Int := if cmpOk a b c d = true then cmp3 (a * b) (c * d) else 0
def cmpE (a b c d : Int) : Int := if cmpOk a b c d = true then 0 else 1
theorem cmpOk_iff (a b c d : Int) : cmpOk a b c d = true ↔ smallB a = true ∧ smallB b = true ∧ smallB c = true ∧ smallB d = true := by
  unfold cmpOk; rw [Bool.and_eq_true, Bool.and_eq_true, Bool.and_eq_true]
  constructor
  · rintro ⟨⟨h1, h2⟩, h3, h4⟩; exact ⟨h1, h2, h3, h4⟩
  · rintro ⟨h1, h2, h3, h4⟩; exact ⟨⟨h1, h2⟩, h3, h4⟩
theorem cmp_ok {a b c d : Int} (h : cmpOk a b c d = true) : cmpV a b c d = cmp3 (a * b) (c * d) ∧ cmpE a b c d = 0 := by
  unfold cmpV cmpE; rw [if_pos h, if_pos h]; exact ⟨rfl, rfl⟩
theorem cmp_no {a b c d : Int} (h : cmpOk a b c d = false) : cmpV a b c d = 0 ∧ cmpE a b c d = 1 := by
  unfold cmpV cmpE; rw [if_neg (by rw [h]; decide), if_neg (by rw [h]; decide)]; exact ⟨rfl, rfl⟩
theorem cmpOk_swap (a b c d : Int) : cmpOk c d a b = cmpOk a b c d := by unfold cmpOk; cases smallB a <;> cases smallB b <;> cases smallB c <;> cases smallB d <;> rfl
theorem cmpOk_flip (a b c d : Int) : cmpOk b a d c = cmpOk a b c d := by unfold cmpOk; cases smallB a <;> cases smallB b <;> cases smallB c <;> cases smallB d <;> rfl
theorem cmpV_swap (a b c d : Int) : cmpV c d a b = -cmpV a b c d ∧ cmpE c d a b = cmpE a b c d := by
  unfold cmpV cmpE
  rw [cmpOk_swap]
  by_cases h : cmpOk a b c d = true
  · rw [if_pos h, if_pos h]; exact ⟨cmp3_swap _ _, rfl⟩
  · rw [if_neg h, if_neg h]; exact ⟨rfl, rfl⟩
theorem cmpV_flip (a b c d : Int) : cmpV b a d c = cmpV a b c d ∧ cmpE b a d c = cmpE a b c d := by
  unfold cmpV cmpE
  rw [cmpOk_flip, Int.mul_comm b a, Int.mul_comm d c]; exact ⟨rfl, rfl⟩

/-! ### A product is bounded -/
theorem mul_bd {a b m : Int} (ha : -m ≤ a ∧ a ≤ m) (hb : -m ≤ b ∧ b ≤ m) : -(m * m) ≤ a * b ∧ a * b ≤ m * m := by
  have hm : 0 ≤ m := by omega
  have h := Int.natAbs_mul a b
  have h1 : a.natAbs ≤ m.natAbs := by omega
  have h2 : b.natAbs ≤ m.natAbs := by omega
  have h3 := Nat.mul_le_mul h1 h2
  have h4 : (m * m).natAbs = m.natAbs * m.natAbs := Int.natAbs_mul m m
  have h5 : 0 ≤ m * m := Int.mul_nonneg hm hm
  omega
theorem small_prod {a b : Int} (ha : smallB a = true) (hb : smallB b = true) : -1267650600228229401496703205376 ≤ a * b ∧ a * b ≤ 1267650600228229401496703205376 := by
  have := mul_bd (m := 1125899906842624) ((small_iff a).1 ha) ((small_iff b).1 hb)
  generalize a * b = p at *
  omega

/-! ### The program: two words -/
theorem cmp3_words (p q : Int) : cmp3 p q = if p / 18446744073709551616 = q / 18446744073709551616 then cmp3 (p % 18446744073709551616) (q % 18446744073709551616) else cmp3 (p / 18446744073709551616) (q / 18446744073709551616) := by
  by_cases h : p / 18446744073709551616 = q / 18446744073709551616
  · rw [if_pos h]; exact cmp3_of (by omega) (by omega)
  · rw [if_neg h]; exact cmp3_of (by omega) (by omega)

/-- The two words that Mul64 gives, and what is taken from the high one. -/
def hiOf (a b : Int) : Int := a * b / 18446744073709551616
def loOf (a b : Int) : Int := a * b % 18446744073709551616
/-- A number as a word without a sign. -/
def wordOf (a : Int) : Nat := (a % 18446744073709551616).toNat
theorem wordOf_lt (a : Int) : wordOf a < 18446744073709551616 := by unfold wordOf; omega
theorem wrap_word (a : Int) : IntKind.u64.wrap a = (wordOf a : Int) := by
  unfold wordOf
  simp only [IntKind.wrap, IntKind.bits, IntKind.signed]
  simp
  omega
theorem word_pos {a : Int} (h0 : 0 ≤ a) (h1 : a ≤ 1125899906842624) : (wordOf a : Int) = a := by unfold wordOf; omega
theorem word_neg {a : Int} (h0 : a < 0) (h1 : -1125899906842624 ≤ a) : (wordOf a : Int) = a + 18446744073709551616 := by unfold wordOf; omega
theorem lo_pos (x y : Nat) (p k : Int) (h : (x : Int) * (y : Int) = p + 18446744073709551616 * k) : ((x * y % 18446744073709551616 : Nat) : Int) = p % 18446744073709551616 ∧ ((x * y / 18446744073709551616 : Nat) : Int) = p / 18446744073709551616 + k := by
  have e : ((x * y : Nat) : Int) = p + 18446744073709551616 * k := by rw [← h]; exact Int.natCast_mul x y
  omega
/-- A number that has passed from a signed word to an unsigned one and back. -/
theorem back {v : Int} (h0 : -9223372036854775808 ≤ v) (h1 : v ≤ 9223372036854775807) : wrap64 ((wordOf v : Nat) : Int) = v := by
  unfold wrap64 wordOf; omega
theorem word_sub (v u : Int) : wordOf ((wordOf v : Int) - u) = wordOf (v - u) := by unfold wordOf; omega
theorem word_sub' (v u : Int) : wordOf (v - (wordOf u : Int)) = wordOf (v - u) := by unfold wordOf; omega
theorem prod_word (a b : Int) (ha : smallB a = true) (hb : smallB b = true) :
    ((wordOf a * wordOf b % 18446744073709551616 : Nat) : Int) = loOf a b ∧
    ((wordOf a * wordOf b / 18446744073709551616 : Nat) : Int) - (if a < 0 then (wordOf b : Int) else 0) - (if b < 0 then (wordOf a : Int) else 0) = hiOf a b + (if a < 0 then (if b < 0 then -18446744073709551616 else 0) else 0) := by
  have a1 := (small_iff a).1 ha
  have b1 := (small_iff b).1 hb
  unfold loOf hiOf
  by_cases ca : a < 0
  · have ea := word_neg ca a1.1
    by_cases cb : b < 0
    · have eb := word_neg cb b1.1
      have h := lo_pos (wordOf a) (wordOf b) (a * b) (a + b + 18446744073709551616) (by
        rw [ea, eb, Int.add_mul, Int.mul_add, Int.mul_add, Int.mul_comm a]
        generalize a * b = p at *
        generalize b * a = q at *
        omega)
      rw [if_pos ca, if_pos cb, if_pos ca, if_pos cb, ea, eb]
      omega
    · have eb := word_pos (by omega) b1.2
      have h := lo_pos (wordOf a) (wordOf b) (a * b) b (by
        rw [ea, eb, Int.add_mul])
      rw [if_pos ca, if_neg cb, if_pos ca, if_neg cb, eb]
      omega
  · have ea := word_pos (by omega) a1.2
    by_cases cb : b < 0
    · have eb := word_neg cb b1.1
      have h := lo_pos (wordOf a) (wordOf b) (a * b) a (by
        rw [ea, eb, Int.mul_add, Int.mul_comm a 18446744073709551616])
      rw [if_neg ca, if_pos cb, if_neg ca, ea]
      omega
    · have eb := word_pos (by omega) b1.2
      have h := lo_pos (wordOf a) (wordOf b) (a * b) 0 (by
        rw [ea, eb]; omega)
      rw [if_neg ca, if_neg cb, if_neg ca]
      omega
theorem hi_bd (a b : Int) (ha : smallB a = true) (hb : smallB b = true) : -68719476737 ≤ hiOf a b ∧ hiOf a b ≤ 68719476736 := by
  have := small_prod ha hb
  unfold hiOf
  generalize a * b = p at *
  omega
end Go.Proofs.Ytmliajkbknjacaa.NumP
