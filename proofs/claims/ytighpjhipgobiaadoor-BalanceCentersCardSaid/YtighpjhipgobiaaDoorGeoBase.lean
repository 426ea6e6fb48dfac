/-
  Several texts in one file: NumPlainB, NumPlainC, NumShelf, NumH, NumPlainD, NumJ, GeomPlain, GeomA, GeomB, GeomC, GeomPlainP, GeomPA. Condition: those of each.
-/
import Derived.Test.YtighpjhipgobiaaDoorNumBase
import Derived.IntWalk
import Derived.Shelf.Bits.Mul64
import Derived.Test.YtighpjhipgobiaaDoorProg
import Derived.RowKit3
import Derived.Below
import Derived.Deep.RegionHeld3
import Derived.Deep.DeepCutAuto
import Derived.BigQuiet
import Derived.LoopTactic
/-
  Plain mathematics of layer num (no Go): square roots bit by bit, greatest common divisors. Condition: none.
-/
namespace Go.Proofs.YtighpjhipgobiaaDoor.NumP

/-! ### The root, bit by bit -/
/-- The root after k of the 26 bits. -/
def rootLoop (n : Int) : Nat → Int
  | 0 => 0
  | k + 1 => if (rootLoop n k + 2 ^ (25 - k)) * (rootLoop n k + 2 ^ (25 - k)) ≤ n then rootLoop n k + 2 ^ (25 - k) else rootLoop n k
def rootOk (n : Int) : Bool := decide (0 ≤ n) && decide (n ≤ 1125899906842624)
def rootE (n : Int) : Int := if rootOk n = true then 0 else 1
def rootV (n : Int) : Int := if rootOk n = true then rootLoop n 26 else 0
theorem pow_pos (k : Nat) : (1 : Int) ≤ 2 ^ k := by
  have : (0 : Int) < 2 ^ k := Int.pow_pos (by decide)
  omega
theorem pow_half (k : Nat) (h : k < 26) : (2 : Int) ^ (26 - k) = 2 ^ (25 - k) + 2 ^ (25 - k) := by
  rw [show 26 - k = (25 - k) + 1 by omega, Int.pow_succ]; omega
theorem root_bd (n : Int) : ∀ k : Nat, k ≤ 26 → 0 ≤ rootLoop n k ∧ rootLoop n k + 2 ^ (26 - k) ≤ 67108864 := by
  intro k
  induction k with
  | zero => intro _; have e : rootLoop n 0 = 0 := rfl; rw [e]; exact ⟨by decide, by decide⟩
  | succ k ih =>
    intro hk
    have h1 := ih (by omega)
    have h2 := pow_half k (by omega)
    have h3 := pow_pos (25 - k)
    rw [show 26 - (k + 1) = 25 - k by omega]
    unfold rootLoop
    split <;> omega
theorem root_inv (n : Int) (h0 : 0 ≤ n) (h1 : n ≤ 1125899906842624) : ∀ k : Nat, k ≤ 26 → rootLoop n k * rootLoop n k ≤ n ∧ n < (rootLoop n k + 2 ^ (26 - k)) * (rootLoop n k + 2 ^ (26 - k)) := by
  intro k
  induction k with
  | zero =>
    intro _
    have e : rootLoop n 0 = 0 := rfl
    rw [e]
    exact ⟨by omega, by rw [show ((0 : Int) + 2 ^ (26 - 0)) * (0 + 2 ^ (26 - 0)) = 4503599627370496 by decide]; omega⟩
  | succ k ih =>
    intro hk
    have g := ih (by omega)
    have h2 := pow_half k (by omega)
    rw [show 26 - (k + 1) = 25 - k by omega]
    have e : rootLoop n (k + 1) = if (rootLoop n k + 2 ^ (25 - k)) * (rootLoop n k + 2 ^ (25 - k)) ≤ n then rootLoop n k + 2 ^ (25 - k) else rootLoop n k := rfl
    rw [e]
    rw [h2] at g
    by_cases hc : (rootLoop n k + 2 ^ (25 - k)) * (rootLoop n k + 2 ^ (25 - k)) ≤ n
    · rw [if_pos hc]
      refine ⟨hc, ?_⟩
      rw [Int.add_assoc]
      exact g.2
    · rw [if_neg hc]
      exact ⟨g.1, by omega⟩
theorem root_prod (r p : Int) (h0 : 0 ≤ r) (h1 : 1 ≤ p) (h2 : r + (p + p) ≤ 67108864) : 0 ≤ (r + p) * (r + p) ∧ (r + p) * (r + p) ≤ 4503599627370496 := by
  have e0 : 0 ≤ r + p := by omega
  have e1 : r + p ≤ 67108864 := by omega
  have := Int.mul_le_mul e1 e1 e0 (by decide)
  exact ⟨Int.mul_nonneg e0 e0, by omega⟩
theorem root_spec (n : Int) (h0 : 0 ≤ n) (h1 : n ≤ 1125899906842624) :
    rootE n = 0 ∧ 0 ≤ rootV n ∧ rootV n ≤ 33554432 ∧ rootV n * rootV n ≤ n ∧ n < (rootV n + 1) * (rootV n + 1) := by
  have ho : rootOk n = true := by unfold rootOk; simp [h0, h1]
  unfold rootE rootV
  rw [if_pos ho, if_pos ho]
  have hb := root_bd n 26 (Nat.le_refl _)
  have hi := root_inv n h0 h1 26 (Nat.le_refl _)
  generalize rootLoop n 26 = r at *
  have e : (2 : Int) ^ (26 - 26) = 1 := by decide
  rw [e] at hb hi
  refine ⟨rfl, hb.1, ?_, hi.1, hi.2⟩
  by_cases hc : r ≤ 33554432
  · exact hc
  · have h5 := Int.mul_le_mul (show (33554433 : Int) ≤ r by omega) (show (33554433 : Int) ≤ r by omega) (by decide) hb.1
    omega
theorem root_no (n : Int) (h : n < 0 ∨ 1125899906842624 < n) : rootE n = 1 ∧ rootV n = 0 := by
  have ho : ¬ rootOk n = true := by unfold rootOk; simp; omega
  unfold rootE rootV; rw [if_neg ho, if_neg ho]; exact ⟨rfl, rfl⟩

/-! ### The greatest common divisor -/
def gcdV (a b : Int) : Int := if smallB a = true ∧ smallB b = true then (Int.gcd a b : Int) else 0
def gcdE (a b : Int) : Int := if smallB a = true ∧ smallB b = true then 0 else 1
theorem gcd_ok {a b : Int} (ha : smallB a = true) (hb : smallB b = true) : gcdV a b = (Int.gcd a b : Int) ∧ gcdE a b = 0 := by
  unfold gcdV gcdE; rw [if_pos ⟨ha, hb⟩, if_pos ⟨ha, hb⟩]; exact ⟨rfl, rfl⟩
theorem gcd_no {a b : Int} (h : smallB a = false ∨ smallB b = false) : gcdV a b = 0 ∧ gcdE a b = 1 := by
  have hn : ¬ (smallB a = true ∧ smallB b = true) := by rintro ⟨h1, h2⟩; rw [h1, h2] at h; simp at h
  unfold gcdV gcdE; rw [if_neg hn, if_neg hn]; exact ⟨rfl, rfl⟩
theorem gcd_step (a b : Int) : Int.gcd b (a.tmod b) = Int.gcd a b := by
  unfold Int.gcd
  rw [Int.natAbs_tmod, Nat.gcd_comm b.natAbs, ← Nat.gcd_rec, Nat.gcd_comm]
theorem gcd_step' (a b : Int) (ha : 0 ≤ a) : Int.gcd b (a % b) = Int.gcd a b := by
  rw [← Int.tmod_eq_emod_of_nonneg ha]; exact gcd_step a b
theorem gcd_end (a : Int) : (Int.gcd a 0 : Int) = a.natAbs := by
  unfold Int.gcd; rw [Int.natAbs_zero, Nat.gcd_zero_right]
theorem gcd_abs (a b : Int) : Int.gcd (a.natAbs : Int) (b.natAbs : Int) = Int.gcd a b := by
  unfold Int.gcd; rw [Int.natAbs_natCast, Int.natAbs_natCast]
theorem gcd_comm (a b : Int) : gcdV b a = gcdV a b ∧ gcdE b a = gcdE a b := by
  unfold gcdV gcdE
  rw [Int.gcd_comm b a]
  by_cases h : smallB a = true ∧ smallB b = true
  · rw [if_pos h, if_pos h, if_pos ⟨h.2, h.1⟩, if_pos ⟨h.2, h.1⟩]; exact ⟨rfl, rfl⟩
  · rw [if_neg h, if_neg h, if_neg (fun x => h ⟨x.2, x.1⟩), if_neg (fun x => h ⟨x.2, x.1⟩)]; exact ⟨rfl, rfl⟩
end Go.Proofs.YtighpjhipgobiaaDoor.NumP

/-
  Plain mathematics of layer num (no Go): the order of two products, by two words of 64 bits (the program) and by three limbs of 26 bits and the signs (the specification). Condition: none.
-/
namespace Go.Proofs.YtighpjhipgobiaaDoor.NumP
open Go.RowKit (wrap64)

/-- -1, 0 or 1, as p is less than, equal to or greater than q. -/
def cmp3 (p q : Int) : Int := if p < q then -1 else if q < p then 1 else 0
theorem cmp3_lt {p q : Int} (h : p < q) : cmp3 p q = -1 := by unfold cmp3; rw [if_pos h]
theorem cmp3_gt {p q : Int} (h : q < p) : cmp3 p q = 1 := by unfold cmp3; rw [if_neg (by omega), if_pos h]
theorem cmp3_eq {p q : Int} (h : p = q) : cmp3 p q = 0 := by unfold cmp3; rw [if_neg (by omega), if_neg (by omega)]
theorem cmp3_bd (p q : Int) : -1 ≤ cmp3 p q ∧ cmp3 p q ≤ 1 := by unfold cmp3; split <;> (try split) <;> omega
theorem cmp3_swap (p q : Int) : cmp3 q p = -cmp3 p q := by unfold cmp3; split <;> split <;> (try split) <;> omega
theorem cmp3_iff (p q : Int) : (cmp3 p q = -1 ↔ p < q) ∧ (cmp3 p q = 0 ↔ p = q) ∧ (cmp3 p q = 1 ↔ q < p) := by
  unfold cmp3; split <;> (try split) <;> omega
theorem cmp3_of {p q p' q' : Int} (h1 : p < q ↔ p' < q') (h2 : q < p ↔ q' < p') : cmp3 p q = cmp3 p' q' := by
  unfold cmp3
  by_cases a : p < q
  · rw [if_pos a, if_pos (h1.1 a)]
  · rw [if_neg a, if_neg (fun x => a (h1.2 x))]
    by_cases b : q < p
    · rw [if_pos b, if_pos (h2.1 b)]
    · rw [if_neg b, if_neg (fun x => b (h2.2 x))]
theorem cmp3_mul (p q m : Int) (h : 1 ≤ m) : cmp3 (p * m) (q * m) = cmp3 p q := by
  have hm : 0 < m := by omega
  exact cmp3_of ⟨fun x => Int.lt_of_mul_lt_mul_right x (by omega), fun x => Int.mul_lt_mul_of_pos_right x hm⟩ ⟨fun x => Int.lt_of_mul_lt_mul_right x (by omega), fun x => Int.mul_lt_mul_of_pos_right x hm⟩

def cmpOk (a b c d : Int) : Bool := smallB a && smallB b && (smallB c && smallB d)
def cmpV (a b c d : Int) : Int := if cmpOk a b c d = true then cmp3 (a * b) (c * d) else 0
def cmpE (a b c d : Int) : Int := if cmpOk a b c d = true then 0 else 1
theorem cmpOk_iff (a b c d : Int) : cmpOk a b c d = true ↔ smallB a = true ∧ smallB b = true ∧ smallB c = true ∧ smallB d = true := by
  unfold cmpOk; rw [Bool.and_eq_true, Bool.and_eq_true, Bool.and_eq_true]
  constructor
  · rintro ⟨⟨h1, h2⟩, h3, h4⟩; exact ⟨h1, h2, h3, h4⟩
  · rintro ⟨h1, h2, h3, h4⟩; exact ⟨⟨h1, h2⟩, h3, h4⟩
theorem cmp_ok {a b c d : Int} (h : cmpOk a b c d = true) : cmpV a b c d = cmp3 (a * b) (c * d) ∧ cmpE a b c d = 0 := by
  unfold cmpV cmpE; rw [if_pos h, if_pos h]; exact ⟨rfl, rfl⟩
theorem cmp_no {a b c d : Int} (h : cmpOk a b c d = false) : cmpV a b c d = 0 ∧ cmpE a b c d = 1 := by
  unfold cmpV cmpE; rw [if_neg (by rw [h]; decide), if_neg (by rw [h]; decide)]; exact ⟨rfl, rfl⟩
theorem cmpOk_swap (a b c d : Int) : cmpOk c d a b = cmpOk a b c d := by unfold cmpOk; cases smallB a <;> cases smallB b <;> cases smallB c <;> cases smallB d <;> rfl
theorem cmpOk_flip (a b c d : Int) : cmpOk b a d c = cmpOk a b c d := by unfold cmpOk; cases smallB a <;> cases smallB b <;> cases smallB c <;> cases smallB d <;> rfl
theorem cmpV_swap (a b c d : Int) : cmpV c d a b = -cmpV a b c d ∧ cmpE c d a b = cmpE a b c d := by
  unfold cmpV cmpE
  rw [cmpOk_swap]
  by_cases h : cmpOk a b c d = true
  · rw [if_pos h, if_pos h]; exact ⟨cmp3_swap _ _, rfl⟩
  · rw [if_neg h, if_neg h]; exact ⟨rfl, rfl⟩
theorem cmpV_flip (a b c d : Int) : cmpV b a d c = cmpV a b c d ∧ cmpE b a d c = cmpE a b c d := by
  unfold cmpV cmpE
  rw [cmpOk_flip, Int.mul_comm b a, Int.mul_comm d c]; exact ⟨rfl, rfl⟩

/-! ### A product is bounded -/
theorem mul_bd {a b m : Int} (ha : -m ≤ a ∧ a ≤ m) (hb : -m ≤ b ∧ b ≤ m) : -(m * m) ≤ a * b ∧ a * b ≤ m * m := by
  have hm : 0 ≤ m := by omega
  have h := Int.natAbs_mul a b
  have h1 : a.natAbs ≤ m.natAbs := by omega
  have h2 : b.natAbs ≤ m.natAbs := by omega
  have h3 := Nat.mul_le_mul h1 h2
  have h4 : (m * m).natAbs = m.natAbs * m.natAbs := Int.natAbs_mul m m
  have h5 : 0 ≤ m * m := Int.mul_nonneg hm hm
  omega
theorem small_prod {a b : Int} (ha : smallB a = true) (hb : smallB b = true) : -1267650600228229401496703205376 ≤ a * b ∧ a * b ≤ 1267650600228229401496703205376 := by
  have := mul_bd (m := 1125899906842624) ((small_iff a).1 ha) ((small_iff b).1 hb)
  generalize a * b = p at *
  omega

/-! ### The program: two words -/
theorem cmp3_words (p q : Int) : cmp3 p q = if p / 18446744073709551616 = q / 18446744073709551616 then cmp3 (p % 18446744073709551616) (q % 18446744073709551616) else cmp3 (p / 18446744073709551616) (q / 18446744073709551616) := by
  by_cases h : p / 18446744073709551616 = q / 18446744073709551616
  · rw [if_pos h]; exact cmp3_of (by omega) (by omega)
  · rw [if_neg h]; exact cmp3_of (by omega) (by omega)

/-- The two words that Mul64 gives, and what is taken from the high one. -/
def hiOf (a b : Int) : Int := a * b / 18446744073709551616
def loOf (a b : Int) : Int := a * b % 18446744073709551616
/-- A number as a word without a sign. -/
def wordOf (a : Int) : Nat := (a % 18446744073709551616).toNat
theorem wordOf_lt (a : Int) : wordOf a < 18446744073709551616 := by unfold wordOf; omega
theorem wrap_word (a : Int) : IntKind.u64.wrap a = (wordOf a : Int) := by
  unfold wordOf
  simp only [IntKind.wrap, IntKind.bits, IntKind.signed]
  simp
  omega
theorem word_pos {a : Int} (h0 : 0 ≤ a) (h1 : a ≤ 1125899906842624) : (wordOf a : Int) = a := by unfold wordOf; omega
theorem word_neg {a : Int} (h0 : a < 0) (h1 : -1125899906842624 ≤ a) : (wordOf a : Int) = a + 18446744073709551616 := by unfold wordOf; omega
theorem lo_pos (x y : Nat) (p k : Int) (h : (x : Int) * (y : Int) = p + 18446744073709551616 * k) : ((x * y % 18446744073709551616 : Nat) : Int) = p % 18446744073709551616 ∧ ((x * y / 18446744073709551616 : Nat) : Int) = p / 18446744073709551616 + k := by
  have e : ((x * y : Nat) : Int) = p + 18446744073709551616 * k := by rw [← h]; exact Int.natCast_mul x y
  omega
/-- A number that has passed from a signed word to an unsigned one and back. -/
theorem back {v : Int} (h0 : -9223372036854775808 ≤ v) (h1 : v ≤ 9223372036854775807) : wrap64 ((wordOf v : Nat) : Int) = v := by
  unfold wrap64 wordOf; omega
theorem word_sub (v u : Int) : wordOf ((wordOf v : Int) - u) = wordOf (v - u) := by unfold wordOf; omega
theorem word_sub' (v u : Int) : wordOf (v - (wordOf u : Int)) = wordOf (v - u) := by unfold wordOf; omega
theorem prod_word (a b : Int) (ha : smallB a = true) (hb : smallB b = true) :
    ((wordOf a * wordOf b % 18446744073709551616 : Nat) : Int) = loOf a b ∧
    ((wordOf a * wordOf b / 18446744073709551616 : Nat) : Int) - (if a < 0 then (wordOf b : Int) else 0) - (if b < 0 then (wordOf a : Int) else 0) = hiOf a b + (if a < 0 then (if b < 0 then -18446744073709551616 else 0) else 0) := by
  have a1 := (small_iff a).1 ha
  have b1 := (small_iff b).1 hb
  unfold loOf hiOf
  by_cases ca : a < 0
  · have ea := word_neg ca a1.1
    by_cases cb : b < 0
    · have eb := word_neg cb b1.1
      have h := lo_pos (wordOf a) (wordOf b) (a * b) (a + b + 18446744073709551616) (by
        rw [ea, eb, Int.add_mul, Int.mul_add, Int.mul_add, Int.mul_comm a]
        generalize a * b = p at *
        generalize b * a = q at *
        omega)
      rw [if_pos ca, if_pos cb, if_pos ca, if_pos cb, ea, eb]
      omega
    · have eb := word_pos (by omega) b1.2
      have h := lo_pos (wordOf a) (wordOf b) (a * b) b (by
        rw [ea, eb, Int.add_mul])
      rw [if_pos ca, if_neg cb, if_pos ca, if_neg cb, eb]
      omega
  · have ea := word_pos (by omega) a1.2
    by_cases cb : b < 0
    · have eb := word_neg cb b1.1
      have h := lo_pos (wordOf a) (wordOf b) (a * b) a (by
        rw [ea, eb, Int.mul_add, Int.mul_comm a 18446744073709551616])
      rw [if_neg ca, if_pos cb, if_neg ca, ea]
      omega
    · have eb := word_pos (by omega) b1.2
      have h := lo_pos (wordOf a) (wordOf b) (a * b) 0 (by
        rw [ea, eb]; omega)
      rw [if_neg ca, if_neg cb, if_neg ca]
      omega
theorem hi_bd (a b : Int) (ha : smallB a = true) (hb : smallB b = true) : -68719476737 ≤ hiOf a b ∧ hiOf a b ≤ 68719476736 := by
  have := small_prod ha hb
  unfold hiOf
  generalize a * b = p at *
  omega
end Go.Proofs.YtighpjhipgobiaaDoor.NumP

/-
  The library's contract of math/bits.Mul64, laid at this translation. Condition: none.
-/
namespace Go.Proofs.YtighpjhipgobiaaDoor
open Go.Shelf
def Tryd.lays264_ren : Go.Shelf.Ren := ⟨fun | 264 => 105 | n => n, fun | 53 => 125 | 46 => 75 | n => n, fun | n => n⟩
theorem Tryd.lays264 : Go.Proofs.Lays.n264 Tryd.prog Tryd.lays264_ren := {
  mixed := by kernel_rfl
  f264 := Tryd.func105.trans (congrArg some (by kernel_rfl))
  t46 := Tryd.underlying75
  a46 := Tryd.isAgg75
  z46 := Tryd.sizeOf75
  v46 := Tryd.zeroValue75
  t53 := Tryd.underlying125
  a53 := Tryd.isAgg125
  z53 := Tryd.sizeOf125
  v53 := Tryd.zeroValue125 }
open Go.RowKit Go.Lib in
theorem Tryd.bits_Mul64 (x y : Nat) (hx : x < 18446744073709551616) (hy : y < 18446744073709551616) (w : World) :
    Calls Tryd.prog 105 #[.int .u64 x, .int .u64 y] w fun e w' => e = .returned (.tuple #[.int .u64 ((x * y / 18446744073709551616 : Nat) : Int), .int .u64 ((x * y % 18446744073709551616 : Nat) : Int)]) ∧ w' = w := Any.bits_Mul64 Tryd.lays264 x y hx hy w
end Go.Proofs.YtighpjhipgobiaaDoor

/-
  Walk of Compare of package num: what a call returns for every input, at every world. Condition: none.
-/
namespace Go.Proofs.YtighpjhipgobiaaDoor.NumW
open Go.ChangeShapes Go.WideShapes Go.ChangeAt Go.RowKit
open NumP

theorem mul64_at (x y h l : Nat) (w : World) (H : Hid (x * y / 18446744073709551616 = h ∧ x * y % 18446744073709551616 = l)) (HX : Hid (x < 18446744073709551616)) (HY : Hid (y < 18446744073709551616)) :
    Calls Tryd.prog 105 #[.int .u64 x, .int .u64 y] w fun e w' => e = .returned (.tuple #[.int .u64 (h : Int), .int .u64 (l : Int)]) ∧ w = w' := by
  obtain ⟨rfl, rfl⟩ := H.out
  exact (Tryd.bits_Mul64 x y HX.out HY.out w).mono fun _ _ ⟨he, hw⟩ => ⟨he, hw.symm⟩

set_option maxHeartbeats 800000 in
/-- The walk of the two words: any numbers that are named so. -/
theorem product_core (a b : Int) (x y h l h1 h2 : Nat) (w : World) (hA : IntKind.u64.wrap a = (x : Int)) (hB : IntKind.u64.wrap b = (y : Int))
    (H : Hid (x * y / 18446744073709551616 = h ∧ x * y % 18446744073709551616 = l)) (HX : Hid (x < 18446744073709551616)) (HY : Hid (y < 18446744073709551616))
    (hs1 : IntKind.u64.wrap ((h : Int) - (y : Int)) = (h1 : Int)) (hs2 : IntKind.u64.wrap ((h : Int) - (x : Int)) = (h2 : Int)) (h3 : Nat) (hs3 : IntKind.u64.wrap ((h1 : Int) - (x : Int)) = (h3 : Int)) :
    Calls Tryd.prog 102 #[.int .i64 a, .int .i64 b] w fun e w' => e = .returned (.tuple #[.int .i64 (wrap64 (if a < 0 then (if b < 0 then (h3 : Int) else (h1 : Int)) else (if b < 0 then (h2 : Int) else (h : Int)))), .int .u64 (l : Int)]) ∧ w = w' := by
  by_cases ca : a < 0
  · by_cases cb : b < 0
    · rw [if_pos ca, if_pos cb]
      go_enter Tryd.func102, Tryd.ntmps102
      go_wp2_with (go_at_call 105; refine (mul64_at x y h l _ H HX HY).mono ?_; rintro e w' ⟨rfl, rfl⟩)
      go_ret2
      exact ⟨rfl, rfl⟩
    · rw [if_pos ca, if_neg cb]
      go_enter Tryd.func102, Tryd.ntmps102
      go_wp2_with (go_at_call 105; refine (mul64_at x y h l _ H HX HY).mono ?_; rintro e w' ⟨rfl, rfl⟩)
      go_ret2
      exact ⟨rfl, rfl⟩
  · by_cases cb : b < 0
    · rw [if_neg ca, if_pos cb]
      go_enter Tryd.func102, Tryd.ntmps102
      go_wp2_with (go_at_call 105; refine (mul64_at x y h l _ H HX HY).mono ?_; rintro e w' ⟨rfl, rfl⟩)
      go_ret2
      exact ⟨rfl, rfl⟩
    · rw [if_neg ca, if_neg cb]
      go_enter Tryd.func102, Tryd.ntmps102
      go_wp2_with (go_at_call 105; refine (mul64_at x y h l _ H HX HY).mono ?_; rintro e w' ⟨rfl, rfl⟩)
      go_ret2
      exact ⟨rfl, rfl⟩

theorem product_any (a b : Int) (w : World) (ha : smallB a = true) (hb : smallB b = true) :
    Calls Tryd.prog 102 #[.int .i64 a, .int .i64 b] w fun e w' => e = .returned (.tuple #[.int .i64 (hiOf a b), .int .u64 (loOf a b)]) ∧ w = w' := by
  obtain ⟨p1, p2⟩ := prod_word a b ha hb
  have hh := hi_bd a b ha hb
  have hx := wordOf_lt a
  have hy := wordOf_lt b
  have core := product_core a b (wordOf a) (wordOf b) (wordOf a * wordOf b / 18446744073709551616) (wordOf a * wordOf b % 18446744073709551616)
    (wordOf (((wordOf a * wordOf b / 18446744073709551616 : Nat) : Int) - (wordOf b : Int))) (wordOf (((wordOf a * wordOf b / 18446744073709551616 : Nat) : Int) - (wordOf a : Int))) w
    (wrap_word a) (wrap_word b) (Lib.hid ⟨rfl, rfl⟩) (Lib.hid hx) (Lib.hid hy) (wrap_word _) (wrap_word _)
    (wordOf ((wordOf (((wordOf a * wordOf b / 18446744073709551616 : Nat) : Int) - (wordOf b : Int)) : Int) - (wordOf a : Int))) (wrap_word _)
  refine core.mono fun e w' ⟨he, hw⟩ => ⟨?_, hw⟩
  rw [he, p1]
  have key : wrap64 (if a < 0 then (if b < 0 then (wordOf ((wordOf (((wordOf a * wordOf b / 18446744073709551616 : Nat) : Int) - (wordOf b : Int)) : Int) - (wordOf a : Int)) : Int) else (wordOf (((wordOf a * wordOf b / 18446744073709551616 : Nat) : Int) - (wordOf b : Int)) : Int)) else (if b < 0 then (wordOf (((wordOf a * wordOf b / 18446744073709551616 : Nat) : Int) - (wordOf a : Int)) : Int) else ((wordOf a * wordOf b / 18446744073709551616 : Nat) : Int))) = hiOf a b := by
    generalize ((wordOf a * wordOf b / 18446744073709551616 : Nat) : Int) = h at *
    generalize hiOf a b = v at *
    by_cases ca : a < 0
    · rw [if_pos ca, if_pos ca] at p2
      rw [if_pos ca]
      by_cases cb : b < 0
      · rw [if_pos cb, if_pos cb] at p2
        rw [if_pos cb, word_sub]
        unfold wrap64 wordOf at *; omega
      · rw [if_neg cb, if_neg cb] at p2
        rw [if_neg cb]
        unfold wrap64 wordOf at *; omega
    · rw [if_neg ca, if_neg ca] at p2
      rw [if_neg ca]
      by_cases cb : b < 0
      · rw [if_pos cb] at p2
        rw [if_pos cb]
        unfold wrap64 wordOf at *; omega
      · rw [if_neg cb] at p2
        rw [if_neg cb]
        unfold wrap64; omega
  rw [key]
theorem product_at (a b h l : Int) (w : World) (H : Hid (hiOf a b = h ∧ loOf a b = l)) (ha : Hid (smallB a = true)) (hb : Hid (smallB b = true)) :
    Calls Tryd.prog 102 #[.int .i64 a, .int .i64 b] w fun e w' => e = .returned (.tuple #[.int .i64 h, .int .u64 l]) ∧ w = w' := by
  obtain ⟨rfl, rfl⟩ := H.out
  exact product_any a b w ha.out hb.out

set_option maxHeartbeats 800000 in
theorem cmpI_any (p q : Int) (w : World) :
    Calls Tryd.prog 103 #[.int .i64 p, .int .i64 q] w fun e w' => e = .returned (.int .i64 (cmp3 p q)) ∧ w = w' := by
  by_cases h1 : p < q
  · have H := Lib.hid (cmp3_lt h1)
    go_enter Tryd.func103, Tryd.ntmps103
    go_wp2
    go_ret
    exact ⟨ret_int H.out.symm, rfl⟩
  · by_cases h2 : q < p
    · have H := Lib.hid (cmp3_gt h2)
      go_enter Tryd.func103, Tryd.ntmps103
      go_wp2
      go_ret
      exact ⟨ret_int H.out.symm, rfl⟩
    · have H := Lib.hid (cmp3_eq (show p = q by omega))
      go_enter Tryd.func103, Tryd.ntmps103
      go_wp2
      go_ret
      exact ⟨ret_int H.out.symm, rfl⟩
set_option maxHeartbeats 800000 in
theorem cmpU_any (p q : Int) (w : World) :
    Calls Tryd.prog 104 #[.int .u64 p, .int .u64 q] w fun e w' => e = .returned (.int .i64 (cmp3 p q)) ∧ w = w' := by
  by_cases h1 : p < q
  · have H := Lib.hid (cmp3_lt h1)
    go_enter Tryd.func104, Tryd.ntmps104
    go_wp2
    go_ret
    exact ⟨ret_int H.out.symm, rfl⟩
  · by_cases h2 : q < p
    · have H := Lib.hid (cmp3_gt h2)
      go_enter Tryd.func104, Tryd.ntmps104
      go_wp2
      go_ret
      exact ⟨ret_int H.out.symm, rfl⟩
    · have H := Lib.hid (cmp3_eq (show p = q by omega))
      go_enter Tryd.func104, Tryd.ntmps104
      go_wp2
      go_ret
      exact ⟨ret_int H.out.symm, rfl⟩

set_option maxHeartbeats 800000 in
theorem cmp_yes (a b c d : Int) (w : World) (h : cmpOk a b c d = true) :
    Calls Tryd.prog 99 #[.int .i64 a, .int .i64 b, .int .i64 c, .int .i64 d] w fun e w' => e = .returned (.tuple #[.int .i64 (cmpV a b c d), .int .i64 (cmpE a b c d)]) ∧ w = w' := by
  have ho := cmp_ok h
  rw [ho.1, ho.2, cmp3_words]
  obtain ⟨ha, hb, hc, hd⟩ := (cmpOk_iff a b c d).1 h
  clear ho h
  have HA := Lib.hid ha
  have HB := Lib.hid hb
  have HC := Lib.hid hc
  have HD := Lib.hid hd
  have hP : a * b / 18446744073709551616 = hiOf a b ∧ a * b % 18446744073709551616 = loOf a b := ⟨rfl, rfl⟩
  have hQ : c * d / 18446744073709551616 = hiOf c d ∧ c * d % 18446744073709551616 = loOf c d := ⟨rfl, rfl⟩
  rw [hP.1, hP.2, hQ.1, hQ.2]
  clear hP hQ
  obtain ⟨p, hp⟩ : ∃ p, hiOf a b = p := ⟨_, rfl⟩
  obtain ⟨p', hp'⟩ : ∃ p', loOf a b = p' := ⟨_, rfl⟩
  obtain ⟨q, hq⟩ : ∃ q, hiOf c d = q := ⟨_, rfl⟩
  obtain ⟨q', hq'⟩ : ∃ q', loOf c d = q' := ⟨_, rfl⟩
  rw [hp, hp', hq, hq']
  have HP := Lib.hid (show hiOf a b = p ∧ loOf a b = p' from ⟨hp, hp'⟩)
  have HQ := Lib.hid (show hiOf c d = q ∧ loOf c d = q' from ⟨hq, hq'⟩)
  clear hp hp' hq hq'
  by_cases e : p = q
  · rw [if_pos e]
    subst e
    go_enter Tryd.func99, Tryd.ntmps99
    go_wp2_with (first | (go_at_call 90; refine (small_any _ _).mono ?_; rintro e w' ⟨rfl, rfl⟩) | (go_at_call 102; (first | (with_reducible refine (product_at a b p p' _ HP HA HB).mono ?_) | (with_reducible refine (product_at c d p q' _ HQ HC HD).mono ?_)); rintro e w' ⟨rfl, rfl⟩) | (go_at_call 104; refine (cmpU_any _ _ _).mono ?_; rintro e w' ⟨rfl, rfl⟩))
    go_ret2
    exact ⟨rfl, rfl⟩
  · rw [if_neg e]
    have e1 : (p == q) = false := beq_eq_false_iff_ne.2 e
    have e2 : (p != q) = true := bne_iff_ne.2 e
    clear e
    go_enter Tryd.func99, Tryd.ntmps99
    go_wp2_with (first | (go_at_call 90; refine (small_any _ _).mono ?_; rintro e w' ⟨rfl, rfl⟩) | (go_at_call 102; (first | (with_reducible refine (product_at a b p p' _ HP HA HB).mono ?_) | (with_reducible refine (product_at c d q q' _ HQ HC HD).mono ?_)); rintro e w' ⟨rfl, rfl⟩) | (go_at_call 103; refine (cmpI_any _ _ _).mono ?_; rintro e w' ⟨rfl, rfl⟩))
    go_ret2
    exact ⟨rfl, rfl⟩
set_option maxHeartbeats 800000 in
theorem cmp_bad (a b c d : Int) (w : World) (h : cmpOk a b c d = false) :
    Calls Tryd.prog 99 #[.int .i64 a, .int .i64 b, .int .i64 c, .int .i64 d] w fun e w' => e = .returned (.tuple #[.int .i64 (cmpV a b c d), .int .i64 (cmpE a b c d)]) ∧ w = w' := by
  have ho := cmp_no h
  rw [ho.1, ho.2]
  clear ho
  by_cases ha : smallB a = false
  · clear h
    go_enter Tryd.func99, Tryd.ntmps99
    go_wp2_with (go_at_call 90; refine (small_any _ _).mono ?_; rintro e w' ⟨rfl, rfl⟩)
    go_ret2
    exact ⟨rfl, rfl⟩
  have ha := Bool.of_not_eq_false ha
  by_cases hb : smallB b = false
  · clear h
    go_enter Tryd.func99, Tryd.ntmps99
    go_wp2_with (go_at_call 90; refine (small_any _ _).mono ?_; rintro e w' ⟨rfl, rfl⟩)
    go_ret2
    exact ⟨rfl, rfl⟩
  have hb := Bool.of_not_eq_false hb
  by_cases hc : smallB c = false
  · clear h
    go_enter Tryd.func99, Tryd.ntmps99
    go_wp2_with (go_at_call 90; refine (small_any _ _).mono ?_; rintro e w' ⟨rfl, rfl⟩)
    go_ret2
    exact ⟨rfl, rfl⟩
  have hc := Bool.of_not_eq_false hc
  have hd : smallB d = false := by
    unfold cmpOk at h; rw [ha, hb, hc] at h; simpa using h
  clear h
  go_enter Tryd.func99, Tryd.ntmps99
  go_wp2_with (go_at_call 90; refine (small_any _ _).mono ?_; rintro e w' ⟨rfl, rfl⟩)
  go_ret2
  exact ⟨rfl, rfl⟩
theorem cmp_any (a b c d : Int) (w : World) :
    Calls Tryd.prog 99 #[.int .i64 a, .int .i64 b, .int .i64 c, .int .i64 d] w fun e w' => e = .returned (.tuple #[.int .i64 (cmpV a b c d), .int .i64 (cmpE a b c d)]) ∧ w = w' := by
  by_cases h : cmpOk a b c d = true
  · exact cmp_yes a b c d w h
  · exact cmp_bad a b c d w (Bool.of_not_eq_true h)
theorem cmp_at (a b c d v f : Int) (w : World) (H : Hid (cmpV a b c d = v ∧ cmpE a b c d = f)) :
    Calls Tryd.prog 99 #[.int .i64 a, .int .i64 b, .int .i64 c, .int .i64 d] w fun e w' => e = .returned (.tuple #[.int .i64 v, .int .i64 f]) ∧ w = w' := by
  obtain ⟨rfl, rfl⟩ := H.out
  exact cmp_any a b c d w
end Go.Proofs.YtighpjhipgobiaaDoor.NumW

/-
  Plain mathematics of layer num (no Go): the order of two products by their signs and by limbs of 26 bits. Condition: none.
-/
namespace Go.Proofs.YtighpjhipgobiaaDoor.NumP

/-- The three limbs of a number that is not negative. -/
def limbH (p : Int) : Int := p / 4503599627370496
def limbM (p : Int) : Int := p / 67108864 % 67108864
def limbL (p : Int) : Int := p % 67108864
theorem cmp3_limbs (p q : Int) : cmp3 p q = if limbH p = limbH q then (if limbM p = limbM q then cmp3 (limbL p) (limbL q) else cmp3 (limbM p) (limbM q)) else cmp3 (limbH p) (limbH q) := by
  unfold limbH limbM limbL
  by_cases h : p / 4503599627370496 = q / 4503599627370496
  · rw [if_pos h]
    by_cases h2 : p / 67108864 % 67108864 = q / 67108864 % 67108864
    · rw [if_pos h2]; exact cmp3_of (by omega) (by omega)
    · rw [if_neg h2]; exact cmp3_of (by omega) (by omega)
  · rw [if_neg h]; exact cmp3_of (by omega) (by omega)
theorem pos_mul {a b : Int} (ha : 0 < a) (hb : 0 < b) : 0 < a * b := Int.mul_pos ha hb
theorem sign_prod (a b : Int) : cmp3 a 0 * cmp3 b 0 = cmp3 (a * b) 0 := by
  rcases Int.lt_trichotomy a 0 with ha | ha | ha
  · rcases Int.lt_trichotomy b 0 with hb | hb | hb
    · rw [cmp3_lt ha, cmp3_lt hb, cmp3_gt (Int.mul_pos_of_neg_of_neg ha hb)]; rfl
    · rw [hb, Int.mul_zero, cmp3_eq rfl]; omega
    · rw [cmp3_lt ha, cmp3_gt hb, cmp3_lt (Int.mul_neg_of_neg_of_pos ha hb)]; rfl
  · rw [ha, Int.zero_mul, cmp3_eq rfl]; omega
  · rcases Int.lt_trichotomy b 0 with hb | hb | hb
    · rw [cmp3_gt ha, cmp3_lt hb, cmp3_lt (Int.mul_neg_of_pos_of_neg ha hb)]; rfl
    · rw [hb, Int.mul_zero, cmp3_eq rfl]; omega
    · rw [cmp3_gt ha, cmp3_gt hb, cmp3_gt (Int.mul_pos ha hb)]; rfl
theorem sign_bd (a b : Int) : -1 ≤ cmp3 a 0 * cmp3 b 0 ∧ cmp3 a 0 * cmp3 b 0 ≤ 1 := by rw [sign_prod]; exact cmp3_bd _ _
/-- Where the signs differ they decide. -/
theorem cmp3_signs {p q : Int} (h : cmp3 p 0 ≠ cmp3 q 0) : cmp3 (cmp3 p 0) (cmp3 q 0) = cmp3 p q := by
  rcases Int.lt_trichotomy p 0 with hp | hp | hp <;> rcases Int.lt_trichotomy q 0 with hq | hq | hq
  · rw [cmp3_lt hp, cmp3_lt hq] at h; exact absurd rfl h
  · rw [cmp3_lt hp, cmp3_eq hq, cmp3_lt (show p < q by omega)]; rfl
  · rw [cmp3_lt hp, cmp3_gt hq, cmp3_lt (show p < q by omega)]; rfl
  · rw [cmp3_eq hp, cmp3_lt hq, cmp3_gt (show q < p by omega)]; rfl
  · rw [cmp3_eq hp, cmp3_eq hq] at h; exact absurd rfl h
  · rw [cmp3_eq hp, cmp3_gt hq, cmp3_lt (show p < q by omega)]; rfl
  · rw [cmp3_gt hp, cmp3_lt hq, cmp3_gt (show q < p by omega)]; rfl
  · rw [cmp3_gt hp, cmp3_eq hq, cmp3_gt (show q < p by omega)]; rfl
  · rw [cmp3_gt hp, cmp3_gt hq] at h; exact absurd rfl h
/-- Where they don't, the sizes decide. -/
theorem cmp3_sizes {p q : Int} (h : cmp3 p 0 = cmp3 q 0) : cmp3 p 0 * cmp3 (p.natAbs : Int) (q.natAbs : Int) = cmp3 p q := by
  rcases Int.lt_trichotomy p 0 with hp | hp | hp
  · rw [cmp3_lt hp] at h ⊢
    have hq : q < 0 := ((cmp3_iff q 0).1).1 h.symm
    have e : cmp3 (p.natAbs : Int) (q.natAbs : Int) = cmp3 q p := cmp3_of (by omega) (by omega)
    rw [e, cmp3_swap p q]; omega
  · rw [cmp3_eq hp] at h
    have hq : q = 0 := ((cmp3_iff q 0).2.1).1 h.symm
    rw [cmp3_eq hp, cmp3_eq (show p = q by omega)]; omega
  · rw [cmp3_gt hp] at h ⊢
    have hq : 0 < q := ((cmp3_iff q 0).2.2).1 h.symm
    rw [Int.one_mul]
    exact cmp3_of (by omega) (by omega)
theorem abs_prod (a b : Int) : ((a * b).natAbs : Int) = (a.natAbs : Int) * (b.natAbs : Int) := by rw [Int.natAbs_mul, Int.natCast_mul]

/-! ### The limbs of a product, as the specification computes them -/
theorem wide_bds {a b : Int} (ha : 0 ≤ a ∧ a ≤ 1125899906842624) (hb : 0 ≤ b ∧ b ≤ 1125899906842624) :
    (0 ≤ a % 67108864 * (b % 67108864) ∧ a % 67108864 * (b % 67108864) ≤ 4503599627370496) ∧
    (0 ≤ a / 67108864 * (b % 67108864) ∧ a / 67108864 * (b % 67108864) ≤ 1125899906842624) ∧
    (0 ≤ a % 67108864 * (b / 67108864) ∧ a % 67108864 * (b / 67108864) ≤ 1125899906842624) ∧
    (0 ≤ a / 67108864 * (b / 67108864) ∧ a / 67108864 * (b / 67108864) ≤ 281474976710656) := by
  have p0 : 0 ≤ a / 67108864 := by omega
  have p1 : a / 67108864 ≤ 16777216 := by omega
  have q0 : 0 ≤ a % 67108864 := by omega
  have q1 : a % 67108864 ≤ 67108864 := by omega
  have r0 : 0 ≤ b / 67108864 := by omega
  have r1 : b / 67108864 ≤ 16777216 := by omega
  have s0 : 0 ≤ b % 67108864 := by omega
  have s1 : b % 67108864 ≤ 67108864 := by omega
  have g1 := Int.mul_le_mul q1 s1 s0 (by decide)
  have g2 := Int.mul_le_mul p1 s1 s0 (by decide)
  have g3 := Int.mul_le_mul q1 r1 r0 (by decide)
  have g4 := Int.mul_le_mul p1 r1 r0 (by decide)
  exact ⟨⟨Int.mul_nonneg q0 s0, by omega⟩, ⟨Int.mul_nonneg p0 s0, by omega⟩, ⟨Int.mul_nonneg q0 r0, by omega⟩, Int.mul_nonneg p0 r0, by omega⟩
theorem split_prod (p q r s u : Int) : (u * p + q) * (u * r + s) = u * u * (p * r) + u * (p * s) + u * (q * r) + q * s := by
  rw [Int.add_mul, Int.mul_add, Int.mul_add]
  have e1 : u * p * (u * r) = u * u * (p * r) := by rw [Int.mul_assoc, Int.mul_assoc, Int.mul_left_comm p u r]
  have e2 : u * p * s = u * (p * s) := Int.mul_assoc _ _ _
  have e3 : q * (u * r) = u * (q * r) := Int.mul_left_comm _ _ _
  omega
theorem wide_eq {a b : Int} (ha : 0 ≤ a ∧ a ≤ 1125899906842624) (hb : 0 ≤ b ∧ b ≤ 1125899906842624) :
    a / 67108864 * (b / 67108864) + (a / 67108864 * (b % 67108864) + a % 67108864 * (b / 67108864) + a % 67108864 * (b % 67108864) / 67108864) / 67108864 = limbH (a * b) ∧
    (a / 67108864 * (b % 67108864) + a % 67108864 * (b / 67108864) + a % 67108864 * (b % 67108864) / 67108864) % 67108864 = limbM (a * b) ∧
    a % 67108864 * (b % 67108864) % 67108864 = limbL (a * b) := by
  have hs := split_prod (a / 67108864) (a % 67108864) (b / 67108864) (b % 67108864) 67108864
  rw [show 67108864 * (a / 67108864) + a % 67108864 = a by omega, show 67108864 * (b / 67108864) + b % 67108864 = b by omega] at hs
  obtain ⟨h1, h2, h3, h4⟩ := wide_bds ha hb
  unfold limbH limbM limbL
  generalize a / 67108864 * (b / 67108864) = pr at *
  generalize a / 67108864 * (b % 67108864) = ps at *
  generalize a % 67108864 * (b / 67108864) = qr at *
  generalize a % 67108864 * (b % 67108864) = qs at *
  generalize a * b = t at *
  omega
theorem cmpV_spec {a b c d : Int} (h : cmpOk a b c d = true) :
    (cmp3 (a * b) 0 ≠ cmp3 (c * d) 0 → cmpV a b c d = cmp3 (cmp3 (a * b) 0) (cmp3 (c * d) 0)) ∧
    (cmp3 (a * b) 0 = cmp3 (c * d) 0 → cmpV a b c d = cmp3 (a * b) 0 * cmp3 ((a.natAbs : Int) * (b.natAbs : Int)) ((c.natAbs : Int) * (d.natAbs : Int))) := by
  rw [(cmp_ok h).1]
  refine ⟨fun x => (cmp3_signs x).symm, fun x => ?_⟩
  rw [← abs_prod, ← abs_prod]; exact (cmp3_sizes x).symm
end Go.Proofs.YtighpjhipgobiaaDoor.NumP

/-
  Walk of Compare of the specification of package num: it returns what the program's function returns, for every input, at every world. Condition: none.
-/
namespace Go.Proofs.YtighpjhipgobiaaDoor.NumW
open Go.ChangeShapes Go.WideShapes Go.ChangeAt Go.RowKit
open NumP

end Go.Proofs.YtighpjhipgobiaaDoor.NumW

/-
  Plain facts of package geom: points, hulls, discs, with no word of the program. Condition: none.
-/
namespace Go.Proofs.YtighpjhipgobiaaDoor.GeoP
abbrev Pt := Int × Int
def okP (p : Pt) : Bool := decide (-32768 ≤ p.1) && decide (p.1 ≤ 32768) && (decide (-32768 ≤ p.2) && decide (p.2 ≤ 32768))
theorem okP_iff (p : Pt) : okP p = true ↔ (-32768 ≤ p.1 ∧ p.1 ≤ 32768) ∧ (-32768 ≤ p.2 ∧ p.2 ≤ 32768) := by
  unfold okP; rw [Bool.and_eq_true, Bool.and_eq_true, Bool.and_eq_true, decide_eq_true_eq, decide_eq_true_eq, decide_eq_true_eq, decide_eq_true_eq]
theorem okP_no (p : Pt) : okP p = false ↔ p.1 < -32768 ∨ 32768 < p.1 ∨ p.2 < -32768 ∨ 32768 < p.2 := by rw [← Bool.not_eq_true, okP_iff]; omega
def okR (r : Int) : Bool := decide (0 ≤ r) && decide (r ≤ 32768)
theorem okR_iff (r : Int) : okR r = true ↔ 0 ≤ r ∧ r ≤ 32768 := by unfold okR; rw [Bool.and_eq_true, decide_eq_true_eq, decide_eq_true_eq]
def sq (p q : Pt) : Int := (p.1 - q.1) * (p.1 - q.1) + (p.2 - q.2) * (p.2 - q.2)
def cr (o p q : Pt) : Int := (p.1 - o.1) * (q.2 - o.2) - (p.2 - o.2) * (q.1 - o.1)
/-- The part of q along the way from c, on the direction (u, v). -/
def dt (u v : Int) (c q : Pt) : Int := u * (q.1 - c.1) + v * (q.2 - c.2)

theorem sqn (a : Int) : 0 ≤ a * a := by
  rcases Int.le_total 0 a with h | h
  · exact Int.mul_nonneg h h
  · have := Int.mul_nonneg (Int.neg_nonneg.2 h) (Int.neg_nonneg.2 h); rwa [Int.neg_mul_neg] at this
theorem sq0 {a : Int} (h : a * a ≤ 0) : a = 0 := by
  have h1 := sqn a
  have h2 : a * a = 0 := by omega
  rcases Int.mul_eq_zero.1 h2 with h | h <;> exact h
theorem sq_pos (p q : Pt) : 0 ≤ sq p q := by unfold sq; have := sqn (p.1 - q.1); have := sqn (p.2 - q.2); omega
theorem sq_self (p : Pt) : sq p p = 0 := by unfold sq; simp
theorem sq_zero {p q : Pt} (h : sq p q ≤ 0) : p = q := by
  unfold sq at h
  have h1 := sqn (p.1 - q.1)
  have h2 := sqn (p.2 - q.2)
  have e1 := sq0 (a := p.1 - q.1) (by omega)
  have e2 := sq0 (a := p.2 - q.2) (by omega)
  exact Prod.ext (by omega) (by omega)
theorem sq_comm (p q : Pt) : sq p q = sq q p := by unfold sq; grind
theorem cr_swap (o p q : Pt) : cr o q p = -cr o p q := by unfold cr; grind
theorem cr_turn (o p q : Pt) : cr q p o = -cr o p q := by unfold cr; grind
theorem cr_self (o q : Pt) : cr o o q = 0 := by unfold cr; simp
theorem cr_back (o p : Pt) : cr o p o = 0 := by unfold cr; simp
theorem cr_end (o p : Pt) : cr o p p = 0 := by unfold cr; grind
theorem trip (u v : Int) (c a b d : Pt) : dt u v c b * cr c a d = dt u v c a * cr c b d + dt u v c d * cr c a b := by unfold dt cr; grind

/-- c is a corner of l: all other points of l are on one side of a line through c. -/
def Corner (l : List Pt) (c : Pt) : Prop := ∃ u v : Int, ∀ q ∈ l, q ≠ c → 0 < dt u v c q
/-- e follows c: no point is to the right of the way from c to e, and none on it is farther than e. -/
def Next (l : List Pt) (c e : Pt) : Prop := e ∈ l ∧ ∀ q ∈ l, 0 < cr c e q ∨ cr c e q = 0 ∧ sq c q ≤ sq c e

theorem inner (c e q : Pt) : sq c e - ((e.1 - c.1) * (q.1 - c.1) + (e.2 - c.2) * (q.2 - c.2)) = dt (c.1 - e.1) (c.2 - e.2) e q := by unfold sq dt; grind
theorem par {c e q : Pt} (h : sq c q ≤ sq c e) (h2 : dt (c.1 - e.1) (c.2 - e.2) e q ≤ 0) : q = e := by
  have h3 : sq e q = 2 * dt (c.1 - e.1) (c.2 - e.2) e q + sq c q - sq c e := by unfold sq dt; grind
  exact (sq_zero (p := e) (q := q) (by omega)).symm
/-- Two points on one line with c, both before c's line: on one side of c. -/
theorem same_side {u v : Int} {c a b : Pt} (h : cr c a b = 0) (ha : 0 < dt u v c a) (hb : 0 < dt u v c b) : 0 < (a.1 - c.1) * (b.1 - c.1) + (a.2 - c.2) * (b.2 - c.2) := by
  have e : sq c a * dt u v c b = ((a.1 - c.1) * (b.1 - c.1) + (a.2 - c.2) * (b.2 - c.2)) * dt u v c a + cr c a b * (v * (a.1 - c.1) - u * (a.2 - c.2)) := by unfold sq dt cr; grind
  rw [h, Int.zero_mul, Int.add_zero] at e
  have hs : 0 < sq c a := by
    have := sq_pos c a
    by_cases z : sq c a ≤ 0
    · have := sq_zero z
      subst this
      unfold dt at ha
      simp at ha
    · omega
  have hp := Int.mul_pos hs hb
  rw [e] at hp
  rw [Int.mul_comm] at hp
  exact Int.pos_of_mul_pos_right hp ha

theorem next_unique {l : List Pt} {c e e' : Pt} (hc : Corner l c) (h : Next l c e) (h' : Next l c e') : e = e' := by
  obtain ⟨u, v, hd⟩ := hc
  have h1 := h.2 e' h'.1
  have h2 := h'.2 e h.1
  have hs := cr_swap c e e'
  have e0 : cr c e e' = 0 := by omega
  have l1 : sq c e' ≤ sq c e := by omega
  have l2 : sq c e ≤ sq c e' := by omega
  by_cases z : e = c
  · rw [z] at l1 ⊢
    rw [sq_self] at l1
    exact sq_zero l1
  by_cases z' : e' = c
  · rw [z'] at l2 ⊢
    rw [sq_self] at l2
    exact (sq_zero l2).symm
  have hp := same_side e0 (hd e h.1 z) (hd e' h'.1 z')
  -- (u.v)^2 = |u|^2 |v|^2 = |u|^4
  have hl : ((e.1 - c.1) * (e'.1 - c.1) + (e.2 - c.2) * (e'.2 - c.2)) * ((e.1 - c.1) * (e'.1 - c.1) + (e.2 - c.2) * (e'.2 - c.2)) = sq c e * sq c e' - cr c e e' * cr c e e' := by unfold sq cr; grind
  rw [e0, Int.zero_mul, Int.sub_zero, show sq c e' = sq c e by omega] at hl
  have hi := inner c e e'
  generalize (e.1 - c.1) * (e'.1 - c.1) + (e.2 - c.2) * (e'.2 - c.2) = k at *
  have hk : k = sq c e := by
    have h0 := sq_pos c e
    generalize sq c e = m at *
    rcases Int.lt_trichotomy k m with t | t | t
    · have a1 := Int.mul_lt_mul_of_pos_left t hp
      have a2 := Int.mul_le_mul_of_nonneg_right (Int.le_of_lt t) h0
      omega
    · exact t
    · have a1 := Int.mul_le_mul_of_nonneg_right (Int.le_of_lt t) h0
      have a2 := Int.mul_lt_mul_of_pos_left t hp
      omega
  exact (par l1 (by omega)).symm
theorem next_corner {l : List Pt} {c e : Pt} (hb : ∀ q ∈ l, okP q = true) (hc : c ∈ l) (h : Next l c e) : Corner l e := by
  refine ⟨17179869184 * (-(e.2 - c.2)) + (c.1 - e.1), 17179869184 * (e.1 - c.1) + (c.2 - e.2), fun q hq hn => ?_⟩
  have e1 : dt (17179869184 * (-(e.2 - c.2)) + (c.1 - e.1)) (17179869184 * (e.1 - c.1) + (c.2 - e.2)) e q = 17179869184 * cr c e q + dt (c.1 - e.1) (c.2 - e.2) e q := by unfold dt cr; grind
  rw [e1]
  rcases h.2 q hq with g | ⟨g, g2⟩
  · obtain ⟨⟨q1, q2⟩, q3, q4⟩ := (okP_iff q).1 (hb q hq)
    obtain ⟨⟨c1, c2⟩, c3, c4⟩ := (okP_iff c).1 (hb c hc)
    obtain ⟨⟨e1, e2⟩, e3, e4⟩ := (okP_iff e).1 (hb e h.1)
    have m : ∀ a b : Int, -65536 ≤ a ∧ a ≤ 65536 → -65536 ≤ b ∧ b ≤ 65536 → -4294967296 ≤ a * b := by
      intro a b ha hb
      have h1 := Int.mul_nonneg (show 0 ≤ 65536 - a by omega) (show 0 ≤ 65536 - b by omega)
      have h2 := Int.mul_nonneg (show 0 ≤ 65536 + a by omega) (show 0 ≤ 65536 + b by omega)
      rw [Int.sub_mul, Int.mul_sub, Int.mul_sub] at h1
      rw [Int.add_mul, Int.mul_add, Int.mul_add] at h2
      omega
    unfold dt
    have m1 := m (c.1 - e.1) (q.1 - e.1) (by omega) (by omega)
    have m2 := m (c.2 - e.2) (q.2 - e.2) (by omega) (by omega)
    omega
  · have := mt (par g2) hn
    omega
theorem next_inj {l : List Pt} {a b c : Pt} (ha : a ∈ l) (hb : b ∈ l) (ca : Corner l a) (cb : Corner l b) (h : Next l a c) (h' : Next l b c) : a = b := by
  by_cases n : a = b
  · exact n
  exfalso
  have h1 := h.2 b hb
  have h2 := h'.2 a ha
  have t : cr b c a = -cr a c b := by unfold cr; grind
  have e0 : cr a c b = 0 := by omega
  have e1 : cr b c a = 0 := by omega
  have l1 : sq a b ≤ sq a c := by omega
  have l2 : sq b a ≤ sq b c := by omega
  have za : c ≠ a := by
    intro z
    rw [z, sq_self] at l1
    exact n (sq_zero l1)
  have zb : c ≠ b := by
    intro z
    rw [z, sq_self] at l2
    exact n (sq_zero l2).symm
  obtain ⟨u, v, hd⟩ := ca
  obtain ⟨u', v', hd'⟩ := cb
  have p1 := same_side e0 (hd c h.1 za) (hd b hb (fun x => n x.symm))
  have p2 := same_side e1 (hd' c h.1 zb) (hd' a ha n)
  -- the parts: |b - a|^2 = x + y with x = (c-a).(b-a), y = (c-b).(a-b)
  have s1 : (c.1 - a.1) * (b.1 - a.1) + (c.2 - a.2) * (b.2 - a.2) + ((c.1 - b.1) * (a.1 - b.1) + (c.2 - b.2) * (a.2 - b.2)) = sq a b := by unfold sq; grind
  have s2 : ((c.1 - a.1) * (b.1 - a.1) + (c.2 - a.2) * (b.2 - a.2)) * ((c.1 - a.1) * (b.1 - a.1) + (c.2 - a.2) * (b.2 - a.2)) = sq a b * sq a c - cr a c b * cr a c b := by unfold sq cr; grind
  rw [e0, Int.zero_mul, Int.sub_zero] at s2
  generalize (c.1 - a.1) * (b.1 - a.1) + (c.2 - a.2) * (b.2 - a.2) = x at *
  generalize (c.1 - b.1) * (a.1 - b.1) + (c.2 - b.2) * (a.2 - b.2) = y at *
  have k1 : x < sq a b := by omega
  have k2 := Int.mul_lt_mul_of_pos_left k1 p1
  have k3 := Int.mul_le_mul_of_nonneg_right (Int.le_of_lt k1) (sq_pos a b)
  have k4 := Int.mul_le_mul_of_nonneg_left l1 (sq_pos a b)
  omega

/-! ### The next corner, found in the order of the list -/
def better (c out q : Pt) : Bool := decide (out = c) || decide (cr c out q < 0) || (decide (cr c out q = 0) && decide (sq c out < sq c q))
def nstep (c out q : Pt) : Pt := if q = c then out else if better c out q = true then q else out
def nxt (l : List Pt) (c : Pt) : Pt := l.foldl (nstep c) c
def Inv (s : List Pt) (c out : Pt) : Prop := (out = c ∨ out ∈ s) ∧ ∀ q ∈ s, 0 < cr c out q ∨ cr c out q = 0 ∧ sq c q ≤ sq c out
theorem better_iff (c out q : Pt) : better c out q = true ↔ out = c ∨ cr c out q < 0 ∨ cr c out q = 0 ∧ sq c out < sq c q := by
  unfold better; rw [Bool.or_eq_true, Bool.or_eq_true, Bool.and_eq_true, decide_eq_true_eq, decide_eq_true_eq, decide_eq_true_eq, decide_eq_true_eq, or_assoc]
theorem inv_step {l s : List Pt} {c out q : Pt} (hc : Corner l c) (hs : ∀ p ∈ s, p ∈ l) (hq : q ∈ l) (h : Inv s c out) : Inv (s ++ [q]) c (nstep c out q) := by
  obtain ⟨u, v, hd⟩ := hc
  obtain ⟨h1, h2⟩ := h
  unfold nstep
  by_cases z : q = c
  · rw [if_pos z]
    refine ⟨h1.imp id (fun m => List.mem_append_left _ m), fun p hp => ?_⟩
    rcases List.mem_append.1 hp with m | m
    · exact h2 p m
    · rw [List.mem_singleton] at m
      rw [m, z, cr_back, sq_self]
      exact Or.inr ⟨rfl, sq_pos _ _⟩
  rw [if_neg z]
  by_cases g : better c out q = true
  · rw [if_pos g]
    refine ⟨Or.inr (List.mem_append_right _ (List.mem_singleton.2 rfl)), fun p hp => ?_⟩
    rcases List.mem_append.1 hp with m | m
    · have hp2 := h2 p m
      by_cases zp : p = c
      · rw [zp, cr_back, sq_self]
        exact Or.inr ⟨rfl, sq_pos _ _⟩
      by_cases zo : out = c
      · rw [zo, cr_self, sq_self] at hp2
        exact absurd (sq_zero (show sq c p ≤ 0 by omega)).symm zp
      have mo : out ∈ l := hs out (h1.resolve_left zo)
      have d1 := hd out mo zo
      have d2 := hd p (hs p m) zp
      have d3 := hd q hq z
      have t := trip u v c q out p
      have w := cr_swap c out q
      rcases (better_iff c out q).1 g with k | k | ⟨k, k2⟩
      · exact absurd k zo
      · -- q is to the right of out
        have e1 := Int.mul_pos d2 (show 0 < cr c q out by omega)
        have e2 : 0 ≤ dt u v c q * cr c out p := Int.mul_nonneg (Int.le_of_lt d3) (by omega)
        have e3 : 0 < dt u v c out * cr c q p := by omega
        exact Or.inl (Int.pos_of_mul_pos_right e3 d1)
      · rw [show cr c q out = 0 by omega, Int.mul_zero, Int.add_zero] at t
        rcases hp2 with j | ⟨j, j2⟩
        · have e2 := Int.mul_pos d3 j
          exact Or.inl (Int.pos_of_mul_pos_right (by rw [t]; exact e2) d1)
        · rw [j, Int.mul_zero] at t
          refine Or.inr ⟨(Int.mul_eq_zero.1 t).resolve_left (by omega), by omega⟩
    · rw [List.mem_singleton] at m
      rw [m, cr_end]
      exact Or.inr ⟨rfl, Int.le_refl _⟩
  · rw [if_neg g]
    refine ⟨h1.imp id (fun m => List.mem_append_left _ m), fun p hp => ?_⟩
    rcases List.mem_append.1 hp with m | m
    · exact h2 p m
    · rw [List.mem_singleton] at m
      rw [m]
      have k := mt (better_iff c out q).2 g
      have k1 : ¬ cr c out q < 0 := fun x => k (Or.inr (Or.inl x))
      by_cases k2 : cr c out q = 0
      · exact Or.inr ⟨k2, by have : ¬ sq c out < sq c q := fun x => k (Or.inr (Or.inr ⟨k2, x⟩)); omega⟩
      · exact Or.inl (by omega)
theorem inv_fold {l : List Pt} {c : Pt} (hc : Corner l c) : ∀ (r s : List Pt) (out : Pt), (∀ p ∈ s, p ∈ l) → (∀ p ∈ r, p ∈ l) → Inv s c out → Inv (s ++ r) c (r.foldl (nstep c) out)
  | [], s, out, _, _, h => by simpa using h
  | q :: r, s, out, hs, hr, h => by
    have h1 := inv_step hc hs (hr q (List.mem_cons_self ..)) h
    have h2 := inv_fold hc r (s ++ [q]) (nstep c out q) (fun p hp => by
      rcases List.mem_append.1 hp with m | m
      · exact hs p m
      · rw [List.mem_singleton] at m; rw [m]; exact hr q (List.mem_cons_self ..)) (fun p hp => hr p (List.mem_cons_of_mem _ hp)) h1
    rw [List.append_assoc] at h2
    exact h2
theorem nxt_next {l : List Pt} {c : Pt} (hc : Corner l c) (hm : c ∈ l) : Next l c (nxt l c) := by
  have h := inv_fold hc l [] c (fun _ h => by cases h) (fun _ h => h) ⟨Or.inl rfl, fun _ h => by cases h⟩
  rw [List.nil_append] at h
  refine ⟨?_, h.2⟩
  rcases h.1 with e | e
  · show l.foldl (nstep c) c ∈ l
    rw [e]; exact hm
  · exact e

/-! ### The first corner -/
def before (p q : Pt) : Bool := decide (p.1 < q.1) || (decide (p.1 = q.1) && decide (p.2 < q.2))
theorem before_iff (p q : Pt) : before p q = true ↔ p.1 < q.1 ∨ p.1 = q.1 ∧ p.2 < q.2 := by
  unfold before; rw [Bool.or_eq_true, Bool.and_eq_true, decide_eq_true_eq, decide_eq_true_eq, decide_eq_true_eq]
def lstep (f q : Pt) : Pt := if before q f = true then q else f
def low : List Pt → Pt
  | [] => (0, 0)
  | a :: l => (a :: l).foldl lstep a
theorem low_fold : ∀ (r : List Pt) (f : Pt), (r.foldl lstep f = f ∨ r.foldl lstep f ∈ r) ∧ before f (r.foldl lstep f) = false ∧ ∀ q ∈ r, before q (r.foldl lstep f) = false
  | [], f => ⟨Or.inl rfl, by rw [← Bool.not_eq_true, before_iff]; simp, fun _ h => by cases h⟩
  | q :: r, f => by
    obtain ⟨h1, h2, h3⟩ := low_fold r (lstep f q)
    have hs : lstep f q = q ∧ before q f = true ∨ lstep f q = f ∧ before q f = false := by
      unfold lstep
      by_cases g : before q f = true
      · rw [if_pos g]; exact Or.inl ⟨rfl, g⟩
      · rw [if_neg g]; exact Or.inr ⟨rfl, Bool.of_not_eq_true g⟩
    show (r.foldl lstep (lstep f q) = f ∨ r.foldl lstep (lstep f q) ∈ q :: r) ∧ before f (r.foldl lstep (lstep f q)) = false ∧ ∀ p ∈ q :: r, before p (r.foldl lstep (lstep f q)) = false
    generalize r.foldl lstep (lstep f q) = z at *
    have tr : ∀ a b : Pt, before a b = false ↔ b.1 < a.1 ∨ b.1 = a.1 ∧ b.2 ≤ a.2 := fun a b => by rw [← Bool.not_eq_true, before_iff]; omega
    rcases hs with ⟨e, g⟩ | ⟨e, g⟩
    · rw [e] at h1 h2
      rw [before_iff] at g
      refine ⟨h1.elim (fun x => Or.inr (by rw [x]; exact List.mem_cons_self ..)) (fun x => Or.inr (List.mem_cons_of_mem _ x)), ?_, fun p hp => ?_⟩
      · rw [tr] at h2 ⊢; omega
      · rcases List.mem_cons.1 hp with m | m
        · rw [m]; exact h2
        · exact h3 p m
    · rw [e] at h1 h2
      rw [tr] at g
      refine ⟨h1.imp id (fun x => List.mem_cons_of_mem _ x), h2, fun p hp => ?_⟩
      rcases List.mem_cons.1 hp with m | m
      · rw [m]; rw [tr] at h2 ⊢; omega
      · exact h3 p m
theorem low_mem {l : List Pt} (h : l ≠ []) : low l ∈ l := by
  cases l with
  | nil => exact absurd rfl h
  | cons a l =>
    rcases (low_fold (a :: l) a).1 with e | e
    · show (a :: l).foldl lstep a ∈ _
      rw [e]; exact List.mem_cons_self ..
    · exact e
theorem low_least {l : List Pt} {q : Pt} (h : q ∈ l) : (low l).1 < q.1 ∨ (low l).1 = q.1 ∧ (low l).2 ≤ q.2 := by
  cases l with
  | nil => cases h
  | cons a l =>
    have := (low_fold (a :: l) a).2.2 q h
    rw [← Bool.not_eq_true, before_iff] at this
    show (((a :: l).foldl lstep a).1 < q.1) ∨ _
    show _ ∨ ((a :: l).foldl lstep a).1 = q.1 ∧ ((a :: l).foldl lstep a).2 ≤ q.2
    omega
theorem low_eq {l : List Pt} {f : Pt} (hm : f ∈ l) (h : ∀ q ∈ l, f.1 < q.1 ∨ f.1 = q.1 ∧ f.2 ≤ q.2) : low l = f := by
  have hn : l ≠ [] := fun e => by rw [e] at hm; cases hm
  have h1 := h _ (low_mem hn)
  have h2 := low_least hm
  exact Prod.ext (by omega) (by omega)
theorem low_corner {l : List Pt} (h : l ≠ []) (hb : ∀ q ∈ l, okP q = true) : Corner l (low l) := by
  refine ⟨131072, 1, fun q hq hn => ?_⟩
  have h1 := low_least hq
  have h2 := (okP_iff q).1 (hb q hq)
  have h3 := (okP_iff _).1 (hb _ (low_mem h))
  unfold dt
  have h4 : ¬ (q.1 = (low l).1 ∧ q.2 = (low l).2) := fun x => hn (Prod.ext x.1 x.2)
  omega

/-! ### The walk around the hull -/
def itn (l : List Pt) : Nat → Pt
  | 0 => low l
  | k + 1 => nxt l (itn l k)
theorem itn_ok {l : List Pt} (h : l ≠ []) (hb : ∀ q ∈ l, okP q = true) : ∀ k, itn l k ∈ l ∧ Corner l (itn l k)
  | 0 => ⟨low_mem h, low_corner h hb⟩
  | k + 1 => by
    obtain ⟨h1, h2⟩ := itn_ok h hb k
    have hn := nxt_next h2 h1
    exact ⟨hn.1, next_corner hb h1 hn⟩
theorem itn_next {l : List Pt} (h : l ≠ []) (hb : ∀ q ∈ l, okP q = true) (k : Nat) : Next l (itn l k) (itn l (k + 1)) :=
  nxt_next (itn_ok h hb k).2 (itn_ok h hb k).1
theorem itn_back {l : List Pt} (h : l ≠ []) (hb : ∀ q ∈ l, okP q = true) (d : Nat) : ∀ i, itn l i = itn l (i + d) → itn l 0 = itn l d
  | 0, e => by rw [Nat.zero_add] at e; exact e
  | i + 1, e => by
    refine itn_back h hb d i ?_
    have n1 := itn_next h hb i
    have n2 := itn_next h hb (i + d)
    rw [show i + d + 1 = i + 1 + d by omega, ← e] at n2
    exact next_inj (itn_ok h hb i).1 (itn_ok h hb (i + d)).1 (itn_ok h hb i).2 (itn_ok h hb (i + d)).2 n1 n2
theorem pigeon : ∀ (n : Nat) (l : List Pt) (f : Nat → Pt), l.length < n → (∀ i, i < n → f i ∈ l) → ∃ i j, i < j ∧ j < n ∧ f i = f j
  | 0, l, _, hl, _ => absurd hl (Nat.not_lt_zero _)
  | n + 1, l, f, hl, hm => by
    by_cases g : ∃ i, i < n ∧ f i = f n
    · obtain ⟨i, h1, h2⟩ := g
      exact ⟨i, n, h1, Nat.lt_succ_self _, h2⟩
    · have hn := hm n (Nat.lt_succ_self _)
      obtain ⟨i, j, h1, h2, h3⟩ := pigeon n (l.erase (f n)) f (by rw [List.length_erase_of_mem hn]; have : 0 < l.length := List.length_pos_of_mem hn; omega)
        (fun i hi => (List.mem_erase_of_ne (fun e => g ⟨i, hi, e⟩)).2 (hm i (by omega)))
      exact ⟨i, j, h1, by omega, h3⟩
theorem least {p : Nat → Prop} [DecidablePred p] : ∀ n, p n → ∃ m, m ≤ n ∧ p m ∧ ∀ k, k < m → ¬ p k
  | 0, h => ⟨0, Nat.le_refl _, h, fun _ h => absurd h (Nat.not_lt_zero _)⟩
  | n + 1, h => by
    by_cases g : ∃ m, m ≤ n ∧ p m
    · obtain ⟨m, h1, h2⟩ := g
      obtain ⟨k, h3, h4, h5⟩ := least m h2
      exact ⟨k, by omega, h4, h5⟩
    · exact ⟨n + 1, Nat.le_refl _, h, fun k hk hp => g ⟨k, by omega, hp⟩⟩
/-- The number of corners. -/
def period (l : List Pt) : Nat := ((List.range l.length).find? (fun k => decide (itn l (k + 1) = low l))).getD 0 + 1
theorem period_spec {l : List Pt} (h : l ≠ []) (hb : ∀ q ∈ l, okP q = true) :
    1 ≤ period l ∧ period l ≤ l.length ∧ itn l (period l) = low l ∧ ∀ k, 0 < k → k < period l → itn l k ≠ low l := by
  obtain ⟨i, j, h1, h2, h3⟩ := pigeon (l.length + 1) l (itn l) (Nat.lt_succ_self _) (fun i _ => (itn_ok h hb i).1)
  have h4 := itn_back h hb (j - i) i (by rw [show i + (j - i) = j by omega]; exact h3)
  have hp : ∃ k, k < l.length ∧ itn l (k + 1) = low l := ⟨j - i - 1, by omega, by rw [show j - i - 1 + 1 = j - i by omega]; exact h4.symm⟩
  unfold period
  cases hf : (List.range l.length).find? (fun k => decide (itn l (k + 1) = low l)) with
  | none =>
    obtain ⟨k, hk, hk2⟩ := hp
    have := List.find?_eq_none.1 hf k (List.mem_range.2 hk)
    exact absurd (decide_eq_true hk2) this
  | some m =>
    have hm := List.find?_some hf
    have hl := List.mem_range.1 (List.mem_of_find?_eq_some hf)
    rw [decide_eq_true_eq] at hm
    refine ⟨Nat.le_add_left _ _, hl, hm, fun k hk hk2 e => ?_⟩
    obtain ⟨h5, h6⟩ := List.find?_eq_some_iff_append.1 hf
    obtain ⟨ls, bs, h7, h8⟩ := h6
    have hk3 : k - 1 ∈ ls := by
      have hlen : ls.length = m := by
        have := congrArg (fun x => x[ls.length]?) h7
        simp at this
        have ha : ls.length < l.length := by
          have := congrArg List.length h7
          simp at this
          omega
        rw [List.getElem?_range ha] at this
        simpa using this
      have := congrArg (fun x => x[k - 1]?) h7
      rw [List.getElem?_range (by simp at hk2; omega), List.getElem?_append_left (by simp at hk2; omega)] at this
      exact List.mem_of_getElem? this.symm
    have := h8 _ hk3
    simp [show k - 1 + 1 = k by omega, e] at this
/-- The hull's corners, in their order. -/
def hull (l : List Pt) : List Pt := if l = [] then [] else (List.range (period l)).map (itn l)
theorem hull_nil : hull [] = [] := rfl
theorem hull_ne {l : List Pt} (h : l ≠ []) : hull l = (List.range (period l)).map (itn l) := by unfold hull; rw [if_neg h]
theorem hull_len {l : List Pt} (h : l ≠ []) : (hull l).length = period l := by rw [hull_ne h]; simp
theorem hull_at {l : List Pt} (h : l ≠ []) {k : Nat} (hk : k < period l) : (hull l)[k]? = some (itn l k) := by rw [hull_ne h]; simp [hk]
theorem hull_mem {l : List Pt} {p : Pt} (h : p ∈ hull l) : l ≠ [] ∧ ∃ k, k < period l ∧ p = itn l k := by
  by_cases e : l = []
  · rw [e, hull_nil] at h; cases h
  · rw [hull_ne e] at h
    obtain ⟨k, h1, h2⟩ := List.mem_map.1 h
    exact ⟨e, k, List.mem_range.1 h1, h2.symm⟩
/-- The corner behind corner k. -/
theorem itn_mod {l : List Pt} (h : l ≠ []) (hb : ∀ q ∈ l, okP q = true) {k : Nat} (hk : k < period l) : itn l (k + 1) = itn l ((k + 1) % period l) := by
  by_cases e : k + 1 < period l
  · rw [Nat.mod_eq_of_lt e]
  · have : k + 1 = period l := by omega
    rw [this, Nat.mod_self]
    exact (period_spec h hb).2.2.1
/-- What starts at the least point and goes from each corner to the next, round to the first, is the hull. -/
theorem hull_unique {l : List Pt} (h : l ≠ []) (hb : ∀ q ∈ l, okP q = true) (m : List Pt) (hm : 0 < m.length) (h0 : m[0]? = some (low l))
    (hs : ∀ k a b, m[k]? = some a → m[(k + 1) % m.length]? = some b → Next l a b) (hd : ∀ k a, 0 < k → m[k]? = some a → a ≠ low l) : m = hull l := by
  have hi : ∀ k, k < m.length → m[k]? = some (itn l k) := by
    intro k
    induction k with
    | zero => intro _; exact h0
    | succ k ih =>
      intro hk
      have h1 := ih (by omega)
      obtain ⟨b, hb2⟩ : ∃ b, m[k + 1]? = some b := ⟨m[k + 1], List.getElem?_eq_getElem hk⟩
      have h2 := hs k _ _ h1 (by rw [Nat.mod_eq_of_lt hk]; exact hb2)
      rw [hb2, next_unique (itn_ok h hb k).2 h2 (itn_next h hb k)]
  obtain ⟨p1, p2, p3, p4⟩ := period_spec h hb
  have hl : m.length = period l := by
    have e1 := hi (m.length - 1) (by omega)
    have e2 := hs (m.length - 1) _ _ e1 (by rw [show m.length - 1 + 1 = m.length by omega, Nat.mod_self]; exact h0)
    have e3 := next_unique (itn_ok h hb (m.length - 1)).2 e2 (itn_next h hb _)
    rw [show m.length - 1 + 1 = m.length by omega] at e3
    rcases Nat.lt_trichotomy m.length (period l) with t | t | t
    · exact absurd e3.symm (p4 _ hm t)
    · exact t
    · exact absurd p3 (hd (period l) _ p1 (hi _ t))
  refine List.ext_getElem? fun k => ?_
  by_cases hk : k < m.length
  · rw [hi k hk, hull_at h (by omega)]
  · rw [List.getElem?_eq_none (by omega), List.getElem?_eq_none (by rw [hull_len h]; omega)]
/-- The hull of the corners is the hull. -/
theorem hull_hull {l : List Pt} (hb : ∀ q ∈ l, okP q = true) : hull (hull l) = hull l := by
  by_cases h : l = []
  · rw [h]; rfl
  obtain ⟨p1, p2, p3, p4⟩ := period_spec h hb
  have hsub : ∀ q ∈ hull l, q ∈ l := fun q hq => by
    obtain ⟨_, k, _, e⟩ := hull_mem hq
    rw [e]; exact (itn_ok h hb k).1
  have hlen := hull_len h
  have hne : hull l ≠ [] := fun e => by rw [e] at hlen; simp at hlen; omega
  have hmem : ∀ k, k < period l → itn l k ∈ hull l := fun k hk => List.mem_of_getElem? (hull_at h hk)
  have h0 : low (hull l) = low l := low_eq (hmem 0 (by omega)) (fun q hq => low_least (hsub q hq))
  symm
  refine hull_unique hne (fun q hq => hb q (hsub q hq)) (hull l) (by omega) (by rw [hull_at h (by omega), h0]; rfl) ?_ ?_
  · intro k a b ha hb'
    have hk : k < period l := by
      by_cases g : k < period l
      · exact g
      · rw [List.getElem?_eq_none (by omega)] at ha; cases ha
    rw [hull_at h hk] at ha
    rw [hlen, hull_at h (Nat.mod_lt _ (by omega))] at hb'
    obtain rfl := Option.some.inj ha
    obtain rfl := Option.some.inj hb'
    rw [← itn_mod h hb hk]
    have hn := itn_next h hb k
    refine ⟨?_, fun q hq => hn.2 q (hsub q hq)⟩
    rw [itn_mod h hb hk]
    exact hmem _ (Nat.mod_lt _ (by omega))
  · intro k a hk ha
    have hk2 : k < period l := by
      by_cases g : k < period l
      · exact g
      · rw [List.getElem?_eq_none (by omega)] at ha; cases ha
    rw [hull_at h hk2] at ha
    obtain rfl := Option.some.inj ha
    rw [h0]
    exact p4 k hk hk2

/-! ### Measures -/
def distE (p q : Pt) : Int := if (okP p && okP q) = true then 0 else 1
def distV (p q : Pt) : Int := if (okP p && okP q) = true then sq p q else 0
def crossE (o p q : Pt) : Int := if (okP o && (okP p && okP q)) = true then 0 else 1
def crossV (o p q : Pt) : Int := if (okP o && (okP p && okP q)) = true then cr o p q else 0
def along (p a b : Pt) : Int := (p.1 - a.1) * (b.1 - a.1) + (p.2 - a.2) * (b.2 - a.2)
/-- Near, of what is valid. -/
def nearB (p a b : Pt) (r : Int) : Bool :=
  if along p a b ≤ 0 then decide (sq p a ≤ r * r) else if sq a b ≤ along p a b then decide (sq p b ≤ r * r) else decide (cr a b p * cr a b p ≤ r * r * sq a b)
def nearOk (p a b : Pt) (r : Int) : Bool := okP p && okP a && (okP b && okR r)
def nrE (p a b : Pt) (r : Int) : Int := if nearOk p a b r = true then 0 else 1
def nrV (p a b : Pt) (r : Int) : Bool := nearOk p a b r && nearB p a b r
theorem nearOk_swap (p a b : Pt) (r : Int) : nearOk p b a r = nearOk p a b r := by unfold nearOk; cases okP p <;> cases okP a <;> cases okP b <;> cases okR r <;> rfl
theorem along_swap (p a b : Pt) : along p b a = sq a b - along p a b := by unfold along sq; grind
theorem nearB_swap (p a b : Pt) (r : Int) : nearB p b a r = nearB p a b r := by
  unfold nearB
  rw [along_swap, sq_comm b a]
  have hs := sq_pos a b
  have hc : cr b a p * cr b a p = cr a b p * cr a b p := by unfold cr; grind
  rw [hc]
  by_cases h1 : along p a b ≤ 0
  · by_cases h2 : sq a b ≤ along p a b
    · have z : a = b := sq_zero (by omega)
      rw [if_pos h1, if_pos (by omega), z]
    · rw [if_pos h1, if_neg (by omega), if_pos (by omega)]
  · by_cases h2 : sq a b ≤ along p a b
    · rw [if_neg h1, if_pos h2, if_pos (by omega)]
    · rw [if_neg h1, if_neg h2, if_neg (by omega), if_neg (by omega)]
theorem near_swap (p a b : Pt) (r : Int) : nrV p b a r = nrV p a b r ∧ nrE p b a r = nrE p a b r := by
  unfold nrV nrE; rw [nearOk_swap, nearB_swap]; exact ⟨rfl, rfl⟩
/-! ### Touch: by the differences (x, y) of the starts, (u, v) of the ways, and the sum r of the radii -/
structure Mo where
  f : Pt
  t : Pt
  r : Int
def okM (m : Mo) : Bool := okP m.f && (okP m.t && okR m.r)
def hitB (x y u v r : Int) : Bool :=
  decide (x * x + y * y < r * r) || decide ((x + u) * (x + u) + (y + v) * (y + v) < r * r) ||
    (decide (0 < -(x * u + y * v)) && decide (-(x * u + y * v) < u * u + v * v) && decide ((x * v - y * u) * (x * v - y * u) < r * r * (u * u + v * v)))
def touchB (p q : Mo) : Bool := hitB (p.f.1 - q.f.1) (p.f.2 - q.f.2) (p.t.1 - q.t.1 - (p.f.1 - q.f.1)) (p.t.2 - q.t.2 - (p.f.2 - q.f.2)) (p.r + q.r)
def touchE (p q : Mo) : Int := if (okM p && okM q) = true then 0 else 1
def touchV (p q : Mo) : Bool := okM p && okM q && touchB p q
theorem hitB_neg (x y u v r : Int) : hitB (-x) (-y) (-u) (-v) r = hitB x y u v r := by
  unfold hitB
  rw [show -x * -x = x * x by grind, show -y * -y = y * y by grind, show (-x + -u) * (-x + -u) = (x + u) * (x + u) by grind, show (-y + -v) * (-y + -v) = (y + v) * (y + v) by grind,
    show -x * -u = x * u by grind, show -y * -v = y * v by grind, show -u * -u = u * u by grind, show -v * -v = v * v by grind, show -x * -v = x * v by grind, show -y * -u = y * u by grind]
theorem hitB_back (x y u v r : Int) : hitB (x + u) (y + v) (-u) (-v) r = hitB x y u v r := by
  have e1 : (x + u + -u) * (x + u + -u) + (y + v + -v) * (y + v + -v) = x * x + y * y := by grind
  have e2 : -((x + u) * -u + (y + v) * -v) = (u * u + v * v) - -(x * u + y * v) := by grind
  have e3 : -u * -u + -v * -v = u * u + v * v := by grind
  have e4 : ((x + u) * -v - (y + v) * -u) * ((x + u) * -v - (y + v) * -u) = (x * v - y * u) * (x * v - y * u) := by grind
  unfold hitB
  rw [e1, e2, e3, e4]
  have e5 : decide (0 < (u * u + v * v) - -(x * u + y * v)) = decide (-(x * u + y * v) < u * u + v * v) := decide_eq_decide.2 (by omega)
  have e6 : decide ((u * u + v * v) - -(x * u + y * v) < u * u + v * v) = decide (0 < -(x * u + y * v)) := decide_eq_decide.2 (by omega)
  rw [e5, e6]
  cases decide (x * x + y * y < r * r) <;> cases decide ((x + u) * (x + u) + (y + v) * (y + v) < r * r) <;> cases decide (0 < -(x * u + y * v)) <;> cases decide (-(x * u + y * v) < u * u + v * v) <;> rfl
theorem touch_swap (p q : Mo) : touchV q p = touchV p q ∧ touchE q p = touchE p q := by
  have e : touchB q p = touchB p q := by
    unfold touchB
    rw [← hitB_neg (p.f.1 - q.f.1)]
    rw [show -(p.f.1 - q.f.1) = q.f.1 - p.f.1 by omega, show -(p.f.2 - q.f.2) = q.f.2 - p.f.2 by omega, show -(p.t.1 - q.t.1 - (p.f.1 - q.f.1)) = q.t.1 - p.t.1 - (q.f.1 - p.f.1) by omega,
      show -(p.t.2 - q.t.2 - (p.f.2 - q.f.2)) = q.t.2 - p.t.2 - (q.f.2 - p.f.2) by omega, Int.add_comm p.r]
  unfold touchV touchE
  rw [e, Bool.and_comm (okM q)]
  exact ⟨rfl, rfl⟩
theorem touch_back (p q : Mo) : touchV ⟨p.t, p.f, p.r⟩ ⟨q.t, q.f, q.r⟩ = touchV p q ∧ touchE ⟨p.t, p.f, p.r⟩ ⟨q.t, q.f, q.r⟩ = touchE p q := by
  have e : touchB ⟨p.t, p.f, p.r⟩ ⟨q.t, q.f, q.r⟩ = touchB p q := by
    unfold touchB
    rw [← hitB_back (p.f.1 - q.f.1)]
    show hitB (p.t.1 - q.t.1) (p.t.2 - q.t.2) (p.f.1 - q.f.1 - (p.t.1 - q.t.1)) (p.f.2 - q.f.2 - (p.t.2 - q.t.2)) (p.r + q.r) = _
    rw [show p.f.1 - q.f.1 + (p.t.1 - q.t.1 - (p.f.1 - q.f.1)) = p.t.1 - q.t.1 by omega, show p.f.2 - q.f.2 + (p.t.2 - q.t.2 - (p.f.2 - q.f.2)) = p.t.2 - q.t.2 by omega,
      show -(p.t.1 - q.t.1 - (p.f.1 - q.f.1)) = p.f.1 - q.f.1 - (p.t.1 - q.t.1) by omega, show -(p.t.2 - q.t.2 - (p.f.2 - q.f.2)) = p.f.2 - q.f.2 - (p.t.2 - q.t.2) by omega]
  have k : ∀ m : Mo, okM ⟨m.t, m.f, m.r⟩ = okM m := fun m => by unfold okM; cases okP m.f <;> cases okP m.t <;> cases okR m.r <;> rfl
  unfold touchV touchE
  rw [e, k, k]
  exact ⟨rfl, rfl⟩
/-- Discs that do not touch are apart at each moment k / n. -/
theorem apart {x y u v r n k : Int} (h : hitB x y u v r = false) (_hr : 0 ≤ r) (hk : 0 ≤ k) (hn : k ≤ n) (hn1 : 1 ≤ n) :
    (r * n) * (r * n) ≤ (x * n + u * k) * (x * n + u * k) + (y * n + v * k) * (y * n + v * k) := by
  unfold hitB at h
  rw [Bool.or_eq_false_iff, Bool.or_eq_false_iff, decide_eq_false_iff_not, decide_eq_false_iff_not] at h
  obtain ⟨⟨h1, h2⟩, h3⟩ := h
  rw [Bool.and_eq_false_iff, Bool.and_eq_false_iff, decide_eq_false_iff_not, decide_eq_false_iff_not, decide_eq_false_iff_not] at h3
  have E : (x * n + u * k) * (x * n + u * k) + (y * n + v * k) * (y * n + v * k) = (n * n) * (x * x + y * y) + 2 * ((n * k) * (x * u + y * v)) + (k * k) * (u * u + v * v) := by grind
  have R : (r * n) * (r * n) = (n * n) * (r * r) := by grind
  have X2 : (x + u) * (x + u) + (y + v) * (y + v) = (x * x + y * y) + 2 * (x * u + y * v) + (u * u + v * v) := by grind
  have C : (x * v - y * u) * (x * v - y * u) = (x * x + y * y) * (u * u + v * v) - (x * u + y * v) * (x * u + y * v) := by grind
  rw [X2] at h2
  rw [C] at h3
  rw [E, R]
  have hA := Int.add_nonneg (sqn u) (sqn v)
  generalize x * x + y * y = D at *
  generalize x * u + y * v = B at *
  generalize u * u + v * v = A at *
  generalize r * r = Q at *
  clear E R X2 C
  have hn2 : 0 ≤ n * n := sqn n
  have hk2 : 0 ≤ k * k := sqn k
  have hnk : 0 ≤ n * k := Int.mul_nonneg (by omega) hk
  have g1 : 0 ≤ (n * n) * (D - Q) := Int.mul_nonneg hn2 (by omega)
  rw [Int.mul_sub] at g1
  rcases h3 with (h3 | h3) | h3
  · -- they do not come nearer
    have g2 : 0 ≤ (n * k) * B := Int.mul_nonneg hnk (by omega)
    have g3 : 0 ≤ (k * k) * A := Int.mul_nonneg hk2 hA
    omega
  · -- they come nearer until the end
    have h4 : 0 ≤ D + 2 * B + A - Q := by omega
    -- at the moment k/n: D + 2B t + A t^2, falling up to 1
    have g2 : 0 ≤ (n * n) * (D + 2 * B + A - Q) := Int.mul_nonneg hn2 h4
    have g3 : 0 ≤ (n - k) * ((n - k) * A) := Int.mul_nonneg (by omega) (Int.mul_nonneg (by omega) hA)
    have g4 : 0 ≤ (n * (n - k)) * (-B - A) := Int.mul_nonneg (Int.mul_nonneg (by omega) (by omega)) (by omega)
    have e : (n * n) * D + 2 * ((n * k) * B) + (k * k) * A - (n * n) * Q = (n * n) * (D + 2 * B + A - Q) + 2 * ((n * (n - k)) * (-B - A)) + (n - k) * ((n - k) * A) := by grind
    omega
  · by_cases hz : A = 0
    · by_cases hb : 0 ≤ B
      · have g2 : 0 ≤ (n * k) * B := Int.mul_nonneg hnk hb
        have g3 : 0 ≤ (k * k) * A := Int.mul_nonneg hk2 hA
        omega
      · have h4 : 0 ≤ D + 2 * B + A - Q := by omega
        have g2 : 0 ≤ (n * n) * (D + 2 * B + A - Q) := Int.mul_nonneg hn2 h4
        have g3 : 0 ≤ (n - k) * ((n - k) * A) := Int.mul_nonneg (by omega) (Int.mul_nonneg (by omega) hA)
        have g4 : 0 ≤ (n * (n - k)) * (-B - A) := Int.mul_nonneg (Int.mul_nonneg (by omega) (by omega)) (by omega)
        have e : (n * n) * D + 2 * ((n * k) * B) + (k * k) * A - (n * n) * Q = (n * n) * (D + 2 * B + A - Q) + 2 * ((n * (n - k)) * (-B - A)) + (n - k) * ((n - k) * A) := by grind
        omega
    · -- A (n^2 D + 2 n k B + k^2 A) = (k A + n B)^2 + n^2 (D A - B^2)
      have e : A * ((n * n) * D + 2 * ((n * k) * B) + (k * k) * A - (n * n) * Q) = (k * A + n * B) * (k * A + n * B) + (n * n) * (D * A - B * B - Q * A) := by grind
      have g2 := sqn (k * A + n * B)
      have g3 : 0 ≤ (n * n) * (D * A - B * B - Q * A) := Int.mul_nonneg hn2 (by omega)
      have g4 : 0 ≤ A * ((n * n) * D + 2 * ((n * k) * B) + (k * k) * A - (n * n) * Q) := by omega
      have g5 := Int.nonneg_of_mul_nonneg_right g4 (show 0 < A by omega)
      omega
theorem touch_apart {p q : Mo} (h : touchV p q = false) (he : touchE p q = 0) {n k : Int} (hk : 0 ≤ k) (hn : k ≤ n) (hn1 : 1 ≤ n) :
    (p.r + q.r) * n * ((p.r + q.r) * n) ≤ ((p.f.1 - q.f.1) * (n - k) + (p.t.1 - q.t.1) * k) * ((p.f.1 - q.f.1) * (n - k) + (p.t.1 - q.t.1) * k) + ((p.f.2 - q.f.2) * (n - k) + (p.t.2 - q.t.2) * k) * ((p.f.2 - q.f.2) * (n - k) + (p.t.2 - q.t.2) * k) := by
  have ho : (okM p && okM q) = true := by
    unfold touchE at he
    by_cases g : (okM p && okM q) = true
    · exact g
    · rw [if_neg g] at he; omega
  unfold touchV at h
  rw [ho, Bool.true_and] at h
  rw [Bool.and_eq_true] at ho
  have r1 := ho.1
  have r2 := ho.2
  unfold okM at r1 r2
  rw [Bool.and_eq_true, Bool.and_eq_true, okR_iff] at r1 r2
  have g := apart (n := n) (k := k) h (by omega) hk hn hn1
  rw [show (p.f.1 - q.f.1) * n + (p.t.1 - q.t.1 - (p.f.1 - q.f.1)) * k = (p.f.1 - q.f.1) * (n - k) + (p.t.1 - q.t.1) * k by grind,
    show (p.f.2 - q.f.2) * n + (p.t.2 - q.t.2 - (p.f.2 - q.f.2)) * k = (p.f.2 - q.f.2) * (n - k) + (p.t.2 - q.t.2) * k by grind] at g
  exact g

/-! ### Hull and Inside with their errors -/
def hullE (l : List Pt) : Int := if 16 < l.length then 3 else if l.all okP = true then 0 else 1
def hullL (l : List Pt) : List Pt := if hullE l = 0 then hull l else []
def at' (h : List Pt) (i : Nat) : Pt := h.getD i (0, 0)
def inB (p : Pt) (h : List Pt) : Bool :=
  if h.length = 0 then false else if h.length < 3 then nearB p (at' h 0) (at' h (h.length - 1)) 0 else (List.range h.length).all fun i => decide (0 ≤ cr (at' h i) (at' h ((i + 1) % h.length)) p)
def insideE (p : Pt) (l : List Pt) : Int := if hullE l = 0 then (if okP p = true then 0 else 1) else hullE l
def insideV (p : Pt) (l : List Pt) : Bool := decide (insideE p l = 0) && inB p (hull l)
theorem hullE_zero (l : List Pt) : hullE l = 0 ↔ l.length ≤ 16 ∧ ∀ q ∈ l, okP q = true := by
  unfold hullE
  by_cases h : 16 < l.length
  · rw [if_pos h]; omega
  · rw [if_neg h]
    by_cases g : l.all okP = true
    · rw [if_pos g]; exact ⟨fun _ => ⟨by omega, List.all_eq_true.1 g⟩, fun _ => rfl⟩
    · rw [if_neg g]; exact ⟨fun x => by omega, fun x => absurd (List.all_eq_true.2 x.2) g⟩
theorem hull_sub {l : List Pt} (hb : ∀ q ∈ l, okP q = true) : (∀ q ∈ hull l, q ∈ l) ∧ (hull l).length ≤ l.length ∧ (l ≠ [] → 0 < (hull l).length) := by
  by_cases h : l = []
  · rw [h]; exact ⟨fun q hq => hq, Nat.le_refl _, fun x => absurd rfl x⟩
  · have hp := period_spec h hb
    refine ⟨fun q hq => ?_, by rw [hull_len h]; exact hp.2.1, fun _ => by rw [hull_len h]; exact hp.1⟩
    obtain ⟨_, k, _, e⟩ := hull_mem hq
    rw [e]; exact (itn_ok h hb k).1
theorem hullE_hull {l : List Pt} (h : hullE l = 0) : hullE (hull l) = 0 := by
  rw [hullE_zero] at h ⊢
  obtain ⟨h1, h2⟩ := h
  have hs := hull_sub h2
  exact ⟨by omega, fun q hq => h2 q (hs.1 q hq)⟩
theorem hullL_again {l : List Pt} (h : hullE l = 0) : hullL (hull l) = hull l := by
  unfold hullL; rw [if_pos (hullE_hull h)]; exact hull_hull ((hullE_zero l).1 h).2
theorem inside_again {l : List Pt} (p : Pt) (h : hullE l = 0) : insideE p (hull l) = insideE p l ∧ insideV p (hull l) = insideV p l := by
  have e : insideE p (hull l) = insideE p l := by unfold insideE; rw [if_pos h, if_pos (hullE_hull h)]
  refine ⟨e, ?_⟩
  unfold insideV
  rw [e, hull_hull ((hullE_zero l).1 h).2]
theorem hull_get {l : List Pt} (h : l ≠ []) {k : Nat} (hk : k < period l) : at' (hull l) k = itn l k := by
  unfold at'; rw [List.getD_eq_getElem?_getD, hull_at h hk]; rfl
/-- Each point lies in the hull. -/
theorem inside_own {l : List Pt} {q : Pt} (h : hullE l = 0) (hq : q ∈ l) : insideE q l = 0 ∧ insideV q l = true := by
  have hb := ((hullE_zero l).1 h).2
  have hne : l ≠ [] := fun e => by rw [e] at hq; cases hq
  have e : insideE q l = 0 := by unfold insideE; rw [if_pos h, if_pos (hb q hq)]
  refine ⟨e, ?_⟩
  unfold insideV
  rw [decide_eq_true e, Bool.true_and]
  obtain ⟨p1, p2, p3, p4⟩ := period_spec hne hb
  have hl := hull_len hne
  unfold inB
  rw [if_neg (by omega)]
  by_cases g : (hull l).length < 3
  · rw [if_pos g, hl, hull_get hne p1, hull_get hne (show period l - 1 < period l by omega)]
    have n1 := (itn_next hne hb (period l - 1)).2 q hq
    rw [show period l - 1 + 1 = period l by omega, p3] at n1
    have n0 := (itn_next hne hb 0).2 q hq
    have c0 := (itn_ok hne hb 0).2
    show nearB q (low l) _ 0 = true
    have hc : period l = 1 ∨ period l = 2 := by omega
    rcases hc with hc | hc
    · rw [hc] at n1 ⊢
      change 0 < cr (low l) (low l) q ∨ _ ∧ sq (low l) q ≤ sq (low l) (low l) at n1
      rw [cr_self, sq_self] at n1
      have z := sq_zero (show sq (low l) q ≤ 0 by omega)
      show nearB q (low l) (low l) 0 = true
      rw [← z]
      unfold nearB along
      simp [sq_self]
    · rw [hc] at n1 ⊢
      change 0 < cr (itn l 1) (low l) q ∨ cr (itn l 1) (low l) q = 0 ∧ sq (itn l 1) q ≤ sq (itn l 1) (low l) at n1
      change 0 < cr (low l) (itn l 1) q ∨ cr (low l) (itn l 1) q = 0 ∧ sq (low l) q ≤ sq (low l) (itn l 1) at n0
      have c0' : Corner l (low l) := c0
      show nearB q (low l) (itn l 1) 0 = true
      have hd : itn l 1 ≠ low l := p4 1 (by omega) (by omega)
      have hm1 := (itn_ok hne hb 1).1
      generalize itn l 1 = b at *
      generalize low l = a at *
      have t : cr b a q = -cr a b q := by unfold cr; grind
      have z0 : cr a b q = 0 := by omega
      have l1 : sq a q ≤ sq a b := by omega
      unfold nearB
      by_cases k1 : along q a b ≤ 0
      · rw [if_pos k1]
        obtain ⟨u, v, hd'⟩ := c0'
        by_cases z : q = a
        · rw [z, sq_self]; rfl
        · have := same_side z0 (hd' b hm1 hd) (hd' q hq z)
          have e2 : along q a b = (b.1 - a.1) * (q.1 - a.1) + (b.2 - a.2) * (q.2 - a.2) := by unfold along; grind
          omega
      · rw [if_neg k1]
        by_cases k2 : sq a b ≤ along q a b
        · rw [if_pos k2]
          have e2 : along q a b = (b.1 - a.1) * (q.1 - a.1) + (b.2 - a.2) * (q.2 - a.2) := by unfold along; grind
          have hi := inner a b q
          rw [par l1 (by omega), sq_self]
          rfl
        · rw [if_neg k2, z0]
          simp
  · rw [if_neg g, List.all_eq_true]
    intro i hi
    rw [List.mem_range] at hi
    rw [hl] at hi ⊢
    rw [hull_get hne hi, hull_get hne (Nat.mod_lt _ p1), ← itn_mod hne hb hi]
    have := (itn_next hne hb i).2 q hq
    exact decide_eq_true (by omega)
/-- No point is to the right of a side. -/
theorem side_left {l : List Pt} {q : Pt} (h : hullE l = 0) (hq : q ∈ l) {k : Nat} (hk : k < (hull l).length) : 0 ≤ cr (at' (hull l) k) (at' (hull l) ((k + 1) % (hull l).length)) q := by
  have hb := ((hullE_zero l).1 h).2
  have hne : l ≠ [] := fun e => by rw [e] at hq; cases hq
  have hp := period_spec hne hb
  have hl := hull_len hne
  rw [hl] at hk ⊢
  rw [hull_get hne hk, hull_get hne (Nat.mod_lt _ hp.1), ← itn_mod hne hb hk]
  have := (itn_next hne hb k).2 q hq
  omega
/-- The other corners come behind the first. -/
theorem first_least {l : List Pt} (h : hullE l = 0) {k : Nat} (h0 : 0 < k) (hk : k < (hull l).length) : (at' (hull l) 0).1 < (at' (hull l) k).1 ∨ (at' (hull l) 0).1 = (at' (hull l) k).1 ∧ (at' (hull l) 0).2 < (at' (hull l) k).2 := by
  have hb := ((hullE_zero l).1 h).2
  have hne : l ≠ [] := fun e => by rw [e] at hk; simp [hull_nil] at hk
  have hp := period_spec hne hb
  have hl := hull_len hne
  rw [hl] at hk
  rw [hull_get hne hk, hull_get hne hp.1]
  have h1 := low_least (itn_ok hne hb k).1
  have h2 := hp.2.2.2 k h0 hk
  show (low l).1 < _ ∨ (low l).1 = _ ∧ (low l).2 < _
  have h3 : ¬ ((itn l k).1 = (low l).1 ∧ (itn l k).2 = (low l).2) := fun x => h2 (Prod.ext x.1 x.2)
  omega
theorem at_mem {h : List Pt} {k : Nat} (hk : k < h.length) : at' h k ∈ h := by
  unfold at'; rw [List.getD_eq_getElem?_getD, List.getElem?_eq_getElem hk]; exact List.getElem_mem hk

/-! ### Translations -/
def shift (p t : Pt) : Pt := (p.1 + t.1, p.2 + t.2)
theorem sq_shift (p q t : Pt) : sq (shift p t) (shift q t) = sq p q := by
  unfold sq shift; rw [show p.1 + t.1 - (q.1 + t.1) = p.1 - q.1 by omega, show p.2 + t.2 - (q.2 + t.2) = p.2 - q.2 by omega]
theorem cr_shift (o p q t : Pt) : cr (shift o t) (shift p t) (shift q t) = cr o p q := by
  unfold cr shift
  rw [show p.1 + t.1 - (o.1 + t.1) = p.1 - o.1 by omega, show p.2 + t.2 - (o.2 + t.2) = p.2 - o.2 by omega, show q.1 + t.1 - (o.1 + t.1) = q.1 - o.1 by omega, show q.2 + t.2 - (o.2 + t.2) = q.2 - o.2 by omega]
theorem nearB_shift (p a b t : Pt) (r : Int) : nearB (shift p t) (shift a t) (shift b t) r = nearB p a b r := by
  have e : along (shift p t) (shift a t) (shift b t) = along p a b := by
    unfold along shift
    rw [show p.1 + t.1 - (a.1 + t.1) = p.1 - a.1 by omega, show p.2 + t.2 - (a.2 + t.2) = p.2 - a.2 by omega, show b.1 + t.1 - (a.1 + t.1) = b.1 - a.1 by omega, show b.2 + t.2 - (a.2 + t.2) = b.2 - a.2 by omega]
  unfold nearB
  rw [e, sq_shift, sq_shift, sq_shift, cr_shift]
def halfP (p : Pt) : Bool := decide (-16384 ≤ p.1) && decide (p.1 ≤ 16384) && (decide (-16384 ≤ p.2) && decide (p.2 ≤ 16384))
theorem halfP_iff (p : Pt) : halfP p = true ↔ (-16384 ≤ p.1 ∧ p.1 ≤ 16384) ∧ (-16384 ≤ p.2 ∧ p.2 ≤ 16384) := by
  unfold halfP; rw [Bool.and_eq_true, Bool.and_eq_true, Bool.and_eq_true, decide_eq_true_eq, decide_eq_true_eq, decide_eq_true_eq, decide_eq_true_eq]
theorem half_ok {p : Pt} (h : halfP p = true) : okP p = true := by rw [halfP_iff] at h; rw [okP_iff]; omega
theorem shift_ok {p t : Pt} (h : halfP p = true) (ht : halfP t = true) : okP (shift p t) = true := by
  rw [halfP_iff] at h ht; rw [okP_iff]; unfold shift; show (-32768 ≤ p.1 + t.1 ∧ p.1 + t.1 ≤ 32768) ∧ -32768 ≤ p.2 + t.2 ∧ p.2 + t.2 ≤ 32768; omega
theorem near_shift {p a b t : Pt} {r : Int} (hp : halfP p = true) (ha : halfP a = true) (hb : halfP b = true) (ht : halfP t = true) :
    nrV (shift p t) (shift a t) (shift b t) r = nrV p a b r ∧ nrE (shift p t) (shift a t) (shift b t) r = nrE p a b r := by
  unfold nrV nrE nearOk
  rw [nearB_shift, shift_ok hp ht, shift_ok ha ht, shift_ok hb ht, half_ok hp, half_ok ha, half_ok hb]
  exact ⟨rfl, rfl⟩
theorem touch_shift {a b c d t : Pt} {r : Int} (ha : halfP a = true) (hb : halfP b = true) (hc : halfP c = true) (hd : halfP d = true) (ht : halfP t = true) :
    touchV ⟨shift a t, shift b t, r⟩ ⟨shift c t, shift d t, r⟩ = touchV ⟨a, b, r⟩ ⟨c, d, r⟩ ∧ touchE ⟨shift a t, shift b t, r⟩ ⟨shift c t, shift d t, r⟩ = touchE ⟨a, b, r⟩ ⟨c, d, r⟩ := by
  have e : touchB ⟨shift a t, shift b t, r⟩ ⟨shift c t, shift d t, r⟩ = touchB ⟨a, b, r⟩ ⟨c, d, r⟩ := by
    unfold touchB shift
    show hitB (a.1 + t.1 - (c.1 + t.1)) (a.2 + t.2 - (c.2 + t.2)) (b.1 + t.1 - (d.1 + t.1) - (a.1 + t.1 - (c.1 + t.1))) (b.2 + t.2 - (d.2 + t.2) - (a.2 + t.2 - (c.2 + t.2))) (r + r) = hitB (a.1 - c.1) (a.2 - c.2) (b.1 - d.1 - (a.1 - c.1)) (b.2 - d.2 - (a.2 - c.2)) (r + r)
    rw [show a.1 + t.1 - (c.1 + t.1) = a.1 - c.1 by omega, show a.2 + t.2 - (c.2 + t.2) = a.2 - c.2 by omega, show b.1 + t.1 - (d.1 + t.1) = b.1 - d.1 by omega, show b.2 + t.2 - (d.2 + t.2) = b.2 - d.2 by omega]
  unfold touchV touchE okM
  rw [e]
  show _ = (okP a && (okP b && okR r) && (okP c && (okP d && okR r)) && _) ∧ _ = if (okP a && (okP b && okR r) && (okP c && (okP d && okR r))) = true then 0 else 1
  rw [shift_ok ha ht, shift_ok hb ht, shift_ok hc ht, shift_ok hd ht, half_ok ha, half_ok hb, half_ok hc, half_ok hd]
  exact ⟨rfl, rfl⟩
end Go.Proofs.YtighpjhipgobiaaDoor.GeoP

/-
  Walks of the small functions of package geom and of its specification: what each call returns. Condition: none.
-/
namespace Go.Proofs.YtighpjhipgobiaaDoor.GeoW
open Go.ChangeShapes Go.WideShapes Go.ChangeAt Go.RowKit
open NumP NumW GeoP

/-- What the call makes is its own; nothing that was there has turned. -/
structure Own (w w' : World) : Prop where
  os : w'.os = w.os
  output : w'.output = w.output
  size : w.heap.size ≤ w'.heap.size
  block : ∀ k, k < w.heap.size → w'.heap[k]? = w.heap[k]?
theorem Own.refl (w : World) : Own w w := ⟨rfl, rfl, Nat.le_refl _, fun _ _ => rfl⟩
theorem Own.trans {a b c : World} (h : Own a b) (k : Own b c) : Own a c :=
  ⟨k.os.trans h.os, k.output.trans h.output, Nat.le_trans h.size k.size, fun i hi => (k.block i (Nat.lt_of_lt_of_le hi h.size)).trans (h.block i hi)⟩
theorem Own.of_below {w w' : World} (h : Below w.heap.size w w') : Own w w' := ⟨h.os, h.output, h.size, h.block⟩
theorem Own.alloc {a w : World} (h : Own a w) (o : Obj) : Own a (w.alloc o) := h.trans (.of_below ((Below.refl _ w).alloc (Nat.le_refl _) o))
theorem Own.drewN {a w : World} (h : Own a w) (n : Nat) : Own a (w.drewN n) := ⟨h.os, h.output, h.size, h.block⟩
theorem Own.drew {a w : World} (h : Own a w) : Own a w.drew := ⟨h.os, h.output, h.size, h.block⟩
theorem Own.setCell {a w : World} (h : Own a w) {p : Addr} (hp : a.heap.size ≤ p.block) (u : Value) : Own a (w.setCell p u) :=
  ⟨h.os, h.output, by simpa [World.setCell] using h.size, fun k hk => (Below.heap_setCell w p u k (by omega)).trans (h.block k hk)⟩
theorem Own.grown {a w w' : World} (h : Own a w) {row : Option Nat} (hg : w.grownBy w' row) (hr : ∀ k, row = some k → a.heap.size ≤ k) : Own a w' :=
  ⟨hg.os.trans h.os, hg.output.trans h.output, Nat.le_trans h.size hg.size, fun k hk => (hg.block k (Nat.lt_of_lt_of_le hk h.size) (fun e => by have := hr k e.symm; omega)).trans (h.block k hk)⟩
theorem Own.of_drew {w w' : World} (h : Drew w w') : Own w w' := by
  obtain ⟨n, rfl⟩ := h
  exact (Own.refl w).drewN n
theorem Own.of_grown {w w' : World} (h : Grown w w') : Own w w' := by
  obtain ⟨⟨h1, h2, h3⟩, _, hs⟩ := h
  refine ⟨h1, h2, hs, fun k hk => ?_⟩
  have h4 := h3 k hk
  revert h4
  generalize w.heap[k]? = x
  generalize w'.heap[k]? = y
  intro h4
  rcases x with _ | x
  · cases y <;> first | rfl | exact h4
  · cases x <;> rcases y with _ | y <;> (try exact h4) <;> cases y <;> (try exact h4)
    · obtain ⟨rfl, rfl, e, h⟩ := h4
      rw [Array.ext_getElem? (fun j => h j (fun f => f))]
    · obtain ⟨rfl, rfl⟩ := h4.resolve_left (fun f => f)
      rfl
theorem Own.cell {w w' : World} (h : Own w w') {p : Addr} {v : Value} (hc : w.cell? p = some v) : w'.cell? p = some v := by
  rw [World.cell?_of_block (w := w) (h.block p.block (block_lt_of_cell hc))]
  exact hc
theorem Own.old {w w' : World} (h : Own w w') {p : Addr} (hp : p.block < w.heap.size) : w'.cell? p = w.cell? p := World.cell?_of_block (w := w) (h.block p.block hp)
theorem Own.frozen {w w' : World} (h : Own w w') {p : Addr} (hp : p.block < w.heap.size) : w'.frozen? p = w.frozen? p := World.frozen?_of_block (w := w) (h.block p.block hp)

/-- A world that comes after wr: what a region whose callees make memory of their own may stand in. -/
structure After (wr : World) where
  w : World
  o : Own wr w
instance after_is (wr : World) : Nonempty (After wr) := ⟨⟨wr, Own.refl wr⟩⟩
/-- A region that draws its order, whose operations only read and whose callees leave old memory as it was: walked once, in the order of the text. -/
theorem region_after {P : Program} {id : Nat} {Q : Exit → Act → World → Prop} {a : Act} {l : List Oper} (wr : World) (hm : P.follows .mixedOrders = true) (hB : Region.lexB .any l.toArray = true)
    (h : wpQuiet P l.toArray (fun w' => ∃ x : After wr, w' = x.w) (fun a' => ∀ w', (∃ x : After wr, w' = x.w) → Q .normal a' w') l a) : (Code.region id l.toArray true).wp P Q a wr :=
  wp_region_quiet (C := fun w' => ∃ x : After wr, w' = x.w) hm hB ⟨⟨_, (Own.refl wr).drew⟩, rfl⟩ (by simpa using h)
/-- What a valid point's coordinates, and their differences and products, are at most. -/
def Small (p : Pt) : Prop := (-32768 ≤ p.1 ∧ p.1 ≤ 32768) ∧ (-32768 ≤ p.2 ∧ p.2 ≤ 32768)
theorem small_of {p : Pt} (h : okP p = true) : Small p := (okP_iff p).1 h
theorem mul_in {a b : Int} (ha : -65536 ≤ a ∧ a ≤ 65536) (hb : -65536 ≤ b ∧ b ≤ 65536) : -4294967296 ≤ a * b ∧ a * b ≤ 4294967296 := by
  have := mul_bd ha hb
  omega
theorem sq_in {p q : Pt} (hp : Small p) (hq : Small q) : 0 ≤ sq p q ∧ sq p q ≤ 8589934592 := by
  refine ⟨sq_pos p q, ?_⟩
  obtain ⟨h1, h2⟩ := hp
  obtain ⟨h3, h4⟩ := hq
  have a := mul_in (a := p.1 - q.1) (b := p.1 - q.1) (by omega) (by omega)
  have b := mul_in (a := p.2 - q.2) (b := p.2 - q.2) (by omega) (by omega)
  unfold sq
  omega
theorem cr_in {o p q : Pt} (ho : Small o) (hp : Small p) (hq : Small q) : -8589934592 ≤ cr o p q ∧ cr o p q ≤ 8589934592 := by
  obtain ⟨h1, h2⟩ := ho
  obtain ⟨h3, h4⟩ := hp
  obtain ⟨h5, h6⟩ := hq
  have a := mul_in (a := p.1 - o.1) (b := q.2 - o.2) (by omega) (by omega)
  have b := mul_in (a := p.2 - o.2) (b := q.1 - o.1) (by omega) (by omega)
  unfold cr
  omega
end Go.Proofs.YtighpjhipgobiaaDoor.GeoW

/-
  Walks of Dist2, Cross and Near of the specification of package geom: what a call returns for every input. Condition: none.
-/
namespace Go.Proofs.YtighpjhipgobiaaDoor.GeoW
open Go.ChangeShapes Go.WideShapes Go.ChangeAt Go.RowKit
open NumP NumW GeoP

theorem ret_bi {a b : Bool} {c d : Int} (h : a = b) (h2 : c = d) : Ending.returned (.tuple #[.bool a, .int .i64 c]) = .returned (.tuple #[.bool b, .int .i64 d]) := by rw [h, h2]
end Go.Proofs.YtighpjhipgobiaaDoor.GeoW

/-
  Walks of Touch of the specification of package geom: what a call returns for every input. Condition: none.
-/
namespace Go.Proofs.YtighpjhipgobiaaDoor.GeoW
open Go.ChangeShapes Go.WideShapes Go.ChangeAt Go.RowKit
open NumP NumW GeoP

theorem mul_in2 {a b : Int} (ha : -131072 ≤ a ∧ a ≤ 131072) (hb : -131072 ≤ b ∧ b ≤ 131072) : -17179869184 ≤ a * b ∧ a * b ≤ 17179869184 := by
  have := mul_bd ha hb
  omega
/-- What Touch says, by the tests in the order of the specification. -/
theorem touch_parts {xa ya xb yb ra xc yc xd yd rb s1 s2 v : Int} (h1 : sq (xa, ya) (xc, yc) = s1) (h2 : sq (xb, yb) (xd, yd) = s2)
    (hv : cmp3 (((xa - xc) * (yb - yd - (ya - yc)) - (ya - yc) * (xb - xd - (xa - xc))) * ((xa - xc) * (yb - yd - (ya - yc)) - (ya - yc) * (xb - xd - (xa - xc)))) ((ra + rb) * (ra + rb) * ((xb - xd - (xa - xc)) * (xb - xd - (xa - xc)) + (yb - yd - (ya - yc)) * (yb - yd - (ya - yc)))) = v) :
    touchB ⟨(xa, ya), (xb, yb), ra⟩ ⟨(xc, yc), (xd, yd), rb⟩ = if s1 < (ra + rb) * (ra + rb) then true else if s2 < (ra + rb) * (ra + rb) then true else if -((xa - xc) * (xb - xd - (xa - xc)) + (ya - yc) * (yb - yd - (ya - yc))) ≤ 0 then false
      else if (xb - xd - (xa - xc)) * (xb - xd - (xa - xc)) + (yb - yd - (ya - yc)) * (yb - yd - (ya - yc)) ≤ -((xa - xc) * (xb - xd - (xa - xc)) + (ya - yc) * (yb - yd - (ya - yc))) then false else decide (v < 0) := by
  have h3 := (cmp3_iff (((xa - xc) * (yb - yd - (ya - yc)) - (ya - yc) * (xb - xd - (xa - xc))) * ((xa - xc) * (yb - yd - (ya - yc)) - (ya - yc) * (xb - xd - (xa - xc)))) ((ra + rb) * (ra + rb) * ((xb - xd - (xa - xc)) * (xb - xd - (xa - xc)) + (yb - yd - (ya - yc)) * (yb - yd - (ya - yc))))).1
  have h4 := cmp3_bd (((xa - xc) * (yb - yd - (ya - yc)) - (ya - yc) * (xb - xd - (xa - xc))) * ((xa - xc) * (yb - yd - (ya - yc)) - (ya - yc) * (xb - xd - (xa - xc)))) ((ra + rb) * (ra + rb) * ((xb - xd - (xa - xc)) * (xb - xd - (xa - xc)) + (yb - yd - (ya - yc)) * (yb - yd - (ya - yc))))
  rw [hv] at h3 h4
  unfold touchB hitB
  simp only
  rw [← h1, ← h2]
  unfold sq
  simp only
  rw [show xa - xc + (xb - xd - (xa - xc)) = xb - xd by omega, show ya - yc + (yb - yd - (ya - yc)) = yb - yd by omega]
  generalize (xa - xc) * (xa - xc) + (ya - yc) * (ya - yc) = S1 at *
  generalize (xb - xd) * (xb - xd) + (yb - yd) * (yb - yd) = S2 at *
  generalize (ra + rb) * (ra + rb) = R at *
  generalize hL : -((xa - xc) * (xb - xd - (xa - xc)) + (ya - yc) * (yb - yd - (ya - yc))) = L at *
  generalize hA : (xb - xd - (xa - xc)) * (xb - xd - (xa - xc)) + (yb - yd - (ya - yc)) * (yb - yd - (ya - yc)) = A at *
  generalize ((xa - xc) * (yb - yd - (ya - yc)) - (ya - yc) * (xb - xd - (xa - xc))) * ((xa - xc) * (yb - yd - (ya - yc)) - (ya - yc) * (xb - xd - (xa - xc))) = C at *
  have e5 : decide (C < R * A) = decide (v < 0) := decide_eq_decide.2 (by rw [← h3]; omega)
  rw [e5]
  by_cases c1 : S1 < R
  · simp [c1]
  · by_cases c2 : S2 < R
    · simp [c1, c2]
    · by_cases c3 : L ≤ 0
      · simp [c1, c2, c3, show ¬ 0 < L by omega]
      · by_cases c4 : A ≤ L
        · simp [c1, c2, c3, c4, show ¬ L < A by omega]
        · simp [c1, c2, c3, c4, show 0 < L by omega, show L < A by omega]
end Go.Proofs.YtighpjhipgobiaaDoor.GeoW

/-
  Plain facts of the program's own way through package geom: least distances from the origin, points that are picked by a comparison, and the hull with one more point. Condition: none.
-/
namespace Go.Proofs.YtighpjhipgobiaaDoor.GeoP
open NumP

def sub (p q : Pt) : Pt := (p.1 - q.1, p.2 - q.2)
def dotP (p q : Pt) : Int := p.1 * q.1 + p.2 * q.2
def crsP (p q : Pt) : Int := p.1 * q.2 - p.2 * q.1
/-- The least distance from the origin, on the way between f and t, against r. -/
def leastV (f t : Pt) (r : Int) : Int :=
  if 0 ≤ dotP f (sub t f) then cmp3 (dotP f f) (r * r) else if dotP t (sub t f) ≤ 0 then cmp3 (dotP t t) (r * r) else cmp3 (crsP f (sub t f) * crsP f (sub t f)) (r * r * dotP (sub t f) (sub t f))
theorem cmp3_le (p q : Int) : cmp3 p q ≤ 0 ↔ p ≤ q := by have := cmp3_iff p q; have := cmp3_bd p q; omega
theorem cmp3_neg (p q : Int) : cmp3 p q < 0 ↔ p < q := by have := cmp3_iff p q; have := cmp3_bd p q; omega
theorem near_least (p a b : Pt) (r : Int) : decide (leastV (sub a p) (sub b p) r ≤ 0) = nearB p a b r := by
  have e1 : dotP (sub a p) (sub (sub b p) (sub a p)) = -along p a b := by unfold dotP sub along; grind
  have e2 : dotP (sub b p) (sub (sub b p) (sub a p)) = sq a b - along p a b := by unfold dotP sub along sq; grind
  have e3 : dotP (sub a p) (sub a p) = sq p a := by unfold dotP sub sq; grind
  have e4 : dotP (sub b p) (sub b p) = sq p b := by unfold dotP sub sq; grind
  have e5 : crsP (sub a p) (sub (sub b p) (sub a p)) = cr a b p := by unfold crsP sub cr; grind
  have e6 : dotP (sub (sub b p) (sub a p)) (sub (sub b p) (sub a p)) = sq a b := by unfold dotP sub sq; grind
  unfold leastV nearB
  rw [e1, e2, e3, e4, e5, e6]
  by_cases h1 : along p a b ≤ 0
  · rw [if_pos (by omega), if_pos h1]; exact decide_eq_decide.2 (cmp3_le _ _)
  · rw [if_neg (by omega), if_neg h1]
    by_cases h2 : sq a b ≤ along p a b
    · rw [if_pos (by omega), if_pos h2]; exact decide_eq_decide.2 (cmp3_le _ _)
    · rw [if_neg (by omega), if_neg h2]; exact decide_eq_decide.2 (cmp3_le _ _)
/-- The least distance by the differences, as the specification has it. -/
theorem hit_least (x y u v r : Int) : decide (leastV (-x, -y) (-x - u, -y - v) r < 0) = hitB x y u v r := by
  have e1 : dotP (-x, -y) (sub (-x - u, -y - v) (-x, -y)) = x * u + y * v := by unfold dotP sub; grind
  have e2 : dotP (-x - u, -y - v) (sub (-x - u, -y - v) (-x, -y)) = x * u + y * v + (u * u + v * v) := by unfold dotP sub; grind
  have e3 : dotP (-x, -y) (-x, -y) = x * x + y * y := by unfold dotP; grind
  have e4 : dotP (-x - u, -y - v) (-x - u, -y - v) = (x + u) * (x + u) + (y + v) * (y + v) := by unfold dotP; grind
  have e5 : crsP (-x, -y) (sub (-x - u, -y - v) (-x, -y)) = x * v - y * u := by unfold crsP sub; grind
  have e6 : dotP (sub (-x - u, -y - v) (-x, -y)) (sub (-x - u, -y - v) (-x, -y)) = u * u + v * v := by unfold dotP sub; grind
  unfold leastV hitB
  rw [e1, e2, e3, e4, e5, e6]
  have i1 : (x + u) * (x + u) + (y + v) * (y + v) = x * x + y * y + 2 * (x * u + y * v) + (u * u + v * v) := by grind
  have i2 : (x * v - y * u) * (x * v - y * u) = (x * x + y * y) * (u * u + v * v) - (x * u + y * v) * (x * u + y * v) := by grind
  have i3 : (x * v - y * u) * (x * v - y * u) = ((x + u) * (x + u) + (y + v) * (y + v)) * (u * u + v * v) - (x * u + y * v + (u * u + v * v)) * (x * u + y * v + (u * u + v * v)) := by grind
  have p1 := sqn u
  have p2 := sqn v
  generalize (x + u) * (x + u) + (y + v) * (y + v) = B at *
  generalize hA : x * x + y * y = A at *
  generalize hW : u * u + v * v = W at *
  generalize hK : x * u + y * v = K at *
  generalize (x * v - y * u) * (x * v - y * u) = C at *
  generalize r * r = R at *
  have hW0 : 0 ≤ W := by omega
  by_cases h1 : 0 ≤ K
  · rw [if_pos h1]
    rw [Bool.eq_iff_iff, decide_eq_true_eq, cmp3_neg]
    simp only [Bool.or_eq_true, Bool.and_eq_true, decide_eq_true_eq]
    omega
  · rw [if_neg h1]
    by_cases h2 : K + W ≤ 0
    · rw [if_pos h2]
      rw [Bool.eq_iff_iff, decide_eq_true_eq, cmp3_neg]
      simp only [Bool.or_eq_true, Bool.and_eq_true, decide_eq_true_eq]
      omega
    · rw [if_neg h2]
      rw [Bool.eq_iff_iff, decide_eq_true_eq, cmp3_neg]
      simp only [Bool.or_eq_true, Bool.and_eq_true, decide_eq_true_eq]
      have hWp : 0 < W := by omega
      have q1 := sqn K
      have q2 := sqn (K + W)
      constructor
      · intro h; exact Or.inr ⟨⟨by omega, by omega⟩, h⟩
      · rintro ((h | h) | h)
        · have := Int.mul_lt_mul_of_pos_right h hWp; omega
        · have := Int.mul_lt_mul_of_pos_right h hWp; omega
        · exact h.2
theorem touch_least (p q : Mo) : decide (leastV (sub q.f p.f) (sub q.t p.t) (p.r + q.r) < 0) = touchB p q := by
  unfold touchB
  rw [← hit_least]
  have h1 : sub q.f p.f = (-(p.f.1 - q.f.1), -(p.f.2 - q.f.2)) := by unfold sub; exact Prod.ext (by simp only; omega) (by simp only; omega)
  have h2 : sub q.t p.t = (-(p.f.1 - q.f.1) - (p.t.1 - q.t.1 - (p.f.1 - q.f.1)), -(p.f.2 - q.f.2) - (p.t.2 - q.t.2 - (p.f.2 - q.f.2))) := by unfold sub; exact Prod.ext (by simp only; omega) (by simp only; omega)
  rw [h1, h2]

/-! ### Points that are picked -/
def orI (a b : Int) : Int := if a = 0 then b else a
/-- The first one that no other comes before. -/
def pickS (cf : Pt → Pt → Int) (m q : Pt) : Pt := if cf q m < 0 then q else m
def pick (cf : Pt → Pt → Int) (l : List Pt) : Pt := (l.drop 1).foldl (pickS cf) (at' l 0)
def pcmp (p q : Pt) : Int := orI (cmp3 p.1 q.1) (cmp3 p.2 q.2)
def rcmp (c p q : Pt) : Int := orI (cmp3 0 (crsP (sub p c) (sub q c))) (cmp3 (dotP (sub q c) (sub q c)) (dotP (sub p c) (sub p c)))
theorem pcmp_neg (p q : Pt) : pcmp p q < 0 ↔ before p q = true := by
  rw [before_iff]
  unfold pcmp orI
  have a := cmp3_iff p.1 q.1
  have b := cmp3_neg p.2 q.2
  have c := cmp3_neg p.1 q.1
  by_cases h : cmp3 p.1 q.1 = 0
  · rw [if_pos h]; omega
  · rw [if_neg h]; omega
theorem rcmp_neg (c p q : Pt) : rcmp c p q < 0 ↔ cr c q p < 0 ∨ cr c q p = 0 ∧ sq c q < sq c p := by
  have e1 : crsP (sub p c) (sub q c) = cr c p q := by unfold crsP sub cr; grind
  have e2 : ∀ p, dotP (sub p c) (sub p c) = sq c p := fun p => by unfold dotP sub sq; grind
  have e3 := cr_swap c q p
  unfold rcmp orI
  rw [e1, e2, e2]
  have a := cmp3_iff 0 (cr c p q)
  have b := cmp3_neg 0 (cr c p q)
  have d := cmp3_neg (sq c q) (sq c p)
  by_cases h : cmp3 0 (cr c p q) = 0
  · rw [if_pos h]; omega
  · rw [if_neg h]; omega
theorem pick_low {l : List Pt} (h : l ≠ []) : pick pcmp l = low l := by
  have hs : pickS pcmp = lstep := by
    funext m q
    unfold pickS lstep
    have := pcmp_neg q m
    by_cases g : before q m = true
    · rw [if_pos g, if_pos (this.2 g)]
    · rw [if_neg g, if_neg (mt this.1 g)]
  unfold pick
  rw [hs]
  cases l with
  | nil => exact absurd rfl h
  | cons a r =>
    show r.foldl lstep a = r.foldl lstep (lstep a a)
    rw [show lstep a a = a by unfold lstep; split <;> rfl]
theorem rstep_eq (c m q : Pt) : pickS (rcmp c) m q = nstep c m q := by
  unfold pickS nstep
  have h1 := rcmp_neg c q m
  have h2 := better_iff c m q
  by_cases g : q = c
  · rw [if_pos g, if_neg]
    rw [h1, g, cr_back, sq_self]
    have := sq_pos c m
    omega
  · rw [if_neg g]
    by_cases k : better c m q = true
    · rw [if_pos k, if_pos]
      rw [h1]
      rcases h2.1 k with z | z | z
      · subst z
        have h3 : ¬ sq m q ≤ 0 := fun z => g (sq_zero z).symm
        exact Or.inr ⟨cr_self m q, by rw [sq_self]; omega⟩
      · exact Or.inl z
      · exact Or.inr z
    · rw [if_neg k, if_neg]
      rw [h1]
      exact fun z => k (h2.2 (Or.inr z))
theorem pick_nxt {l : List Pt} (c : Pt) (h : l ≠ []) : pick (rcmp c) l = nxt l c := by
  have hs : pickS (rcmp c) = nstep c := by funext m q; exact rstep_eq c m q
  unfold pick
  rw [hs]
  cases l with
  | nil => exact absurd rfl h
  | cons a r =>
    show r.foldl (nstep c) a = r.foldl (nstep c) (nstep c c a)
    have : nstep c c a = a := by
      unfold nstep
      by_cases g : a = c
      · rw [if_pos g, g]
      · rw [if_neg g, if_pos ((better_iff c c a).2 (Or.inl rfl))]
    rw [this]

/-! ### The hull with one more point -/
theorem inB_own {l : List Pt} {q : Pt} (hb : ∀ q ∈ l, okP q = true) (hq : q ∈ l) : inB q (hull l) = true := by
  have hne : l ≠ [] := fun e => by rw [e] at hq; cases hq
  obtain ⟨p1, p2, p3, p4⟩ := period_spec hne hb
  have hl := hull_len hne
  unfold inB
  rw [if_neg (by omega)]
  by_cases g : (hull l).length < 3
  · rw [if_pos g, hl, hull_get hne p1, hull_get hne (show period l - 1 < period l by omega)]
    have n1 := (itn_next hne hb (period l - 1)).2 q hq
    rw [show period l - 1 + 1 = period l by omega, p3] at n1
    have n0 := (itn_next hne hb 0).2 q hq
    have c0 := (itn_ok hne hb 0).2
    show nearB q (low l) _ 0 = true
    have hc : period l = 1 ∨ period l = 2 := by omega
    rcases hc with hc | hc
    · rw [hc] at n1 ⊢
      change 0 < cr (low l) (low l) q ∨ _ ∧ sq (low l) q ≤ sq (low l) (low l) at n1
      rw [cr_self, sq_self] at n1
      have z := sq_zero (show sq (low l) q ≤ 0 by omega)
      show nearB q (low l) (low l) 0 = true
      rw [← z]
      unfold nearB along
      simp [sq_self]
    · rw [hc] at n1 ⊢
      change 0 < cr (itn l 1) (low l) q ∨ cr (itn l 1) (low l) q = 0 ∧ sq (itn l 1) q ≤ sq (itn l 1) (low l) at n1
      change 0 < cr (low l) (itn l 1) q ∨ cr (low l) (itn l 1) q = 0 ∧ sq (low l) q ≤ sq (low l) (itn l 1) at n0
      have c0' : Corner l (low l) := c0
      show nearB q (low l) (itn l 1) 0 = true
      have hd : itn l 1 ≠ low l := p4 1 (by omega) (by omega)
      have hm1 := (itn_ok hne hb 1).1
      generalize itn l 1 = b at *
      generalize low l = a at *
      have t : cr b a q = -cr a b q := by unfold cr; grind
      have z0 : cr a b q = 0 := by omega
      have l1 : sq a q ≤ sq a b := by omega
      unfold nearB
      by_cases k1 : along q a b ≤ 0
      · rw [if_pos k1]
        obtain ⟨u, v, hd'⟩ := c0'
        by_cases z : q = a
        · rw [z, sq_self]; rfl
        · have := same_side z0 (hd' b hm1 hd) (hd' q hq z)
          have e2 : along q a b = (b.1 - a.1) * (q.1 - a.1) + (b.2 - a.2) * (q.2 - a.2) := by unfold along; grind
          omega
      · rw [if_neg k1]
        by_cases k2 : sq a b ≤ along q a b
        · rw [if_pos k2]
          have e2 : along q a b = (b.1 - a.1) * (q.1 - a.1) + (b.2 - a.2) * (q.2 - a.2) := by unfold along; grind
          have hi := inner a b q
          rw [par l1 (by omega), sq_self]
          rfl
        · rw [if_neg k2, z0]
          simp
  · rw [if_neg g, List.all_eq_true]
    intro i hi
    rw [List.mem_range] at hi
    rw [hl] at hi ⊢
    rw [hull_get hne hi, hull_get hne (Nat.mod_lt _ p1), ← itn_mod hne hb hi]
    have := (itn_next hne hb i).2 q hq
    exact decide_eq_true (by omega)
theorem itn_per {l : List Pt} (h : l ≠ []) (hb : ∀ q ∈ l, okP q = true) : ∀ k, itn l (k + period l) = itn l k
  | 0 => by rw [Nat.zero_add]; exact (period_spec h hb).2.2.1
  | k + 1 => by
    have := itn_per h hb k
    rw [show k + 1 + period l = k + period l + 1 by omega]
    show nxt l (itn l (k + period l)) = nxt l (itn l k)
    rw [this]
theorem itn_mods {l : List Pt} (h : l ≠ []) (hb : ∀ q ∈ l, okP q = true) (k : Nat) : itn l k = itn l (k % period l) := by
  have hp := (period_spec h hb).1
  induction k using Nat.strongRecOn with
  | ind k ih =>
    by_cases g : k < period l
    · rw [Nat.mod_eq_of_lt g]
    · have := ih (k - period l) (by omega)
      rw [show itn l k = itn l (k - period l) by rw [← itn_per h hb (k - period l)]; congr 1; omega, this, ← Nat.mod_eq_sub_mod (by omega)]
/-- On the line through a and b: how far along. -/
theorem on_line {a b p : Pt} (h : cr a b p = 0) : sq a b * sq a p = along p a b * along p a b := by
  have e : sq a b * sq a p = along p a b * along p a b + cr a b p * cr a b p := by unfold sq along cr; grind
  rw [h] at e
  omega
theorem le_of_sq {s k : Int} (h1 : 0 ≤ k) (h2 : k ≤ s) : k * k ≤ s * s := by
  have a := Int.mul_le_mul_of_nonneg_right h2 h1
  have b := Int.mul_le_mul_of_nonneg_left h2 (show 0 ≤ s by omega)
  omega
theorem within {a b p : Pt} (h : cr a b p = 0) (hn : a ≠ b) (h1 : 0 ≤ along p a b) (h2 : along p a b ≤ sq a b) : sq a p ≤ sq a b := by
  have e := on_line h
  have s := sq_pos a b
  have hs : 0 < sq a b := by
    by_cases z : sq a b ≤ 0
    · exact absurd (sq_zero z) hn
    · omega
  have k := le_of_sq h1 h2
  rw [← e] at k
  exact Int.le_of_mul_le_mul_left k hs
theorem same_line {l : List Pt} {a b c : Pt} (ha : a ∈ l) (hbm : b ∈ l) (hc : c ∈ l) (ca : Corner l a) (cb : Corner l b) (h1 : a ≠ b) (h2 : a ≠ c) (h3 : b ≠ c) (hz : cr a b c = 0) (hd : sq b a ≤ sq b c) : False := by
  obtain ⟨u, v, hu⟩ := ca
  obtain ⟨u', v', hu'⟩ := cb
  have z1 : cr b a c = 0 := by have : cr b a c = -cr a b c := by unfold cr; grind
                               omega
  have s1 := same_side z1 (hu' a ha h1) (hu' c hc (Ne.symm h3))
  have s2 := same_side hz (hu b hbm (Ne.symm h1)) (hu c hc (Ne.symm h2))
  have e1 : ((a.1 - b.1) * (c.1 - b.1) + (a.2 - b.2) * (c.2 - b.2)) * ((a.1 - b.1) * (c.1 - b.1) + (a.2 - b.2) * (c.2 - b.2)) = sq b a * sq b c - cr b a c * cr b a c := by unfold sq cr; grind
  have e2 : (b.1 - a.1) * (c.1 - a.1) + (b.2 - a.2) * (c.2 - a.2) = sq b a - ((a.1 - b.1) * (c.1 - b.1) + (a.2 - b.2) * (c.2 - b.2)) := by unfold sq; grind
  rw [z1] at e1
  generalize (a.1 - b.1) * (c.1 - b.1) + (a.2 - b.2) * (c.2 - b.2) = x at *
  have hx : x < sq b a := by omega
  have q := Int.mul_lt_mul_of_pos_left hx s1
  have q2 := Int.mul_lt_mul_of_pos_right hx (show 0 < sq b a by omega)
  have q3 := Int.mul_le_mul_of_nonneg_left hd (sq_pos b a)
  omega
theorem turn_left {l : List Pt} (h : l ≠ []) (hb : ∀ q ∈ l, okP q = true) (hn : 3 ≤ period l) (k : Nat) : 0 < cr (itn l k) (itn l (k + 1)) (itn l (k + 2)) := by
  have hp := period_spec h hb
  have d1 : itn l k ≠ itn l (k + 1) := fun e => hp.2.2.2 1 (by omega) (by omega) (itn_back h hb 1 k e).symm
  have d2 : itn l k ≠ itn l (k + 2) := fun e => hp.2.2.2 2 (by omega) (by omega) (itn_back h hb 2 k e).symm
  have d3 : itn l (k + 1) ≠ itn l (k + 2) := fun e => hp.2.2.2 1 (by omega) (by omega) (itn_back h hb 1 (k + 1) e).symm
  have n1 := (itn_next h hb k).2 _ (itn_ok h hb (k + 2)).1
  have n2 := (itn_next h hb (k + 1)).2 _ (itn_ok h hb k).1
  have e := cr_turn (itn l k) (itn l (k + 1)) (itn l (k + 2))
  rcases n1 with n1 | n1
  · exact n1
  · exfalso
    have e2 : cr (itn l (k + 1)) (itn l (k + 1 + 1)) (itn l k) = cr (itn l k) (itn l (k + 1)) (itn l (k + 2)) := by unfold cr; grind
    rw [e2] at n2
    exact same_line (itn_ok h hb k).1 (itn_ok h hb (k + 1)).1 (itn_ok h hb (k + 2)).1 (itn_ok h hb k).2 (itn_ok h hb (k + 1)).2 d1 d2 d3 n1.1 (by have := n2; change _ ∨ _ ∧ sq (itn l (k + 1)) (itn l k) ≤ sq (itn l (k + 1)) (itn l (k + 2)) at this; omega)
/-- A point that is to the right of no side, on the line of one of them: no farther than its end. -/
theorem side_in {z a b c p : Pt} (hz : 0 < cr z a b) (hc : 0 < cr a b c) (h1 : 0 ≤ cr z a p) (h2 : cr a b p = 0) (h3 : 0 ≤ cr b c p) (hn : a ≠ b) : sq a p ≤ sq a b := by
  have e1 : sq a b * cr b c p = (sq a b - along p a b) * cr a b c + cr a b p * ((b.1 - a.1) * (c.1 - b.1) + (b.2 - a.2) * (c.2 - b.2)) := by unfold sq cr along; grind
  have e2 : sq a b * cr z a p = along p a b * cr z a b + cr a b p * ((a.1 - z.1) * (b.1 - a.1) + (a.2 - z.2) * (b.2 - a.2)) := by unfold sq cr along; grind
  rw [h2, Int.zero_mul, Int.add_zero] at e1 e2
  have s := sq_pos a b
  have k1 := Int.mul_nonneg s h3
  have k2 := Int.mul_nonneg s h1
  rw [e1] at k1
  rw [e2] at k2
  refine within h2 hn ?_ ?_
  · by_cases g : 0 ≤ along p a b
    · exact g
    · have := Int.mul_neg_of_neg_of_pos (show along p a b < 0 by omega) hz; omega
  · by_cases g : along p a b ≤ sq a b
    · exact g
    · have := Int.mul_neg_of_neg_of_pos (show sq a b - along p a b < 0 by omega) hc; omega
theorem lex_of {D A B e1 e2 f1 f2 w1 w2 : Int} (hD : 0 < D) (hA : 0 ≤ A) (hB : 0 ≤ B) (he : 0 < e1 ∨ e1 = 0 ∧ 0 ≤ e2) (hf : 0 < f1 ∨ f1 = 0 ∧ 0 ≤ f2) (h1 : D * w1 = A * e1 + B * f1) (h2 : D * w2 = A * e2 + B * f2) : 0 < w1 ∨ w1 = 0 ∧ 0 ≤ w2 := by
  have a1 := Int.mul_nonneg hA (show 0 ≤ e1 by omega)
  have b1 := Int.mul_nonneg hB (show 0 ≤ f1 by omega)
  have hw : 0 ≤ w1 := by
    by_cases g : 0 ≤ w1
    · exact g
    · have := Int.mul_neg_of_pos_of_neg hD (show w1 < 0 by omega); omega
  by_cases g : 0 < w1
  · exact Or.inl g
  · have w0 : w1 = 0 := by omega
    subst w0
    rw [Int.mul_zero] at h1
    refine Or.inr ⟨rfl, ?_⟩
    have z1 : 0 ≤ A * e2 := by
      rcases he with g | g
      · rcases Int.lt_or_eq_of_le hA with t | t
        · have := Int.mul_pos t g; omega
        · rw [← t]; omega
      · exact Int.mul_nonneg hA g.2
    have z2 : 0 ≤ B * f2 := by
      rcases hf with g | g
      · rcases Int.lt_or_eq_of_le hB with t | t
        · have := Int.mul_pos t g; omega
        · rw [← t]; omega
      · exact Int.mul_nonneg hB g.2
    by_cases g : 0 ≤ w2
    · exact g
    · have := Int.mul_neg_of_pos_of_neg hD (show w2 < 0 by omega); omega
theorem near_zero {p a b : Pt} (h : nearB p a b 0 = true) : p = a ∨ p = b ∨ cr a b p = 0 ∧ 0 < along p a b ∧ along p a b < sq a b := by
  unfold nearB at h
  by_cases h1 : along p a b ≤ 0
  · rw [if_pos h1, decide_eq_true_eq] at h; exact Or.inl (sq_zero (by omega))
  · rw [if_neg h1] at h
    by_cases h2 : sq a b ≤ along p a b
    · rw [if_pos h2, decide_eq_true_eq] at h; exact Or.inr (Or.inl (sq_zero (by omega)))
    · rw [if_neg h2, decide_eq_true_eq] at h
      exact Or.inr (Or.inr ⟨sq0 (by rw [Int.zero_mul, Int.zero_mul] at h; exact h), by omega, by omega⟩)
/-- What a point that lies in the hull adds: nothing. -/
theorem in_adds {l : List Pt} {p : Pt} (h : l ≠ []) (hb : ∀ q ∈ l, okP q = true) (hi : inB p (hull l) = true) :
    ((low l).1 < p.1 ∨ (low l).1 = p.1 ∧ (low l).2 ≤ p.2) ∧ ∀ k, k < period l → 0 < cr (itn l k) (itn l (k + 1)) p ∨ cr (itn l k) (itn l (k + 1)) p = 0 ∧ sq (itn l k) p ≤ sq (itn l k) (itn l (k + 1)) := by
  obtain ⟨p1, p2, p3, p4⟩ := period_spec h hb
  have hl := hull_len h
  unfold inB at hi
  rw [if_neg (by omega)] at hi
  by_cases g : (hull l).length < 3
  · rw [if_pos g, hl, hull_get h p1, hull_get h (show period l - 1 < period l by omega)] at hi
    have hc : period l = 1 ∨ period l = 2 := by omega
    rcases hc with hc | hc
    · rw [hc] at hi
      have e : p = low l := by
        have := near_zero hi
        change p = low l ∨ p = low l ∨ cr (low l) (low l) p = 0 ∧ 0 < along p (low l) (low l) ∧ along p (low l) (low l) < sq (low l) (low l) at this
        rw [sq_self] at this
        rcases this with e | e | e
        · exact e
        · exact e
        · omega
      subst e
      refine ⟨Or.inr ⟨rfl, Int.le_refl _⟩, fun k hk => ?_⟩
      have hk0 : k = 0 := by omega
      subst hk0
      have e1 : itn l (0 + 1) = low l := by rw [hc] at p3; exact p3
      rw [e1]
      show 0 < cr (low l) (low l) (low l) ∨ cr (low l) (low l) (low l) = 0 ∧ _
      exact Or.inr ⟨cr_self _ _, Int.le_refl _⟩
    · rw [hc] at hi
      change nearB p (low l) (itn l 1) 0 = true at hi
      have hd : itn l 1 ≠ low l := p4 1 (by omega) (by omega)
      have hx := low_least (itn_ok h hb 1).1
      have e2 : itn l 2 = low l := by rw [hc] at p3; exact p3
      have key : ((low l).1 < p.1 ∨ (low l).1 = p.1 ∧ (low l).2 ≤ p.2) ∧ cr (low l) (itn l 1) p = 0 ∧ sq (low l) p ≤ sq (low l) (itn l 1) ∧ sq (itn l 1) p ≤ sq (itn l 1) (low l) := by
        generalize itn l 1 = b at *
        generalize low l = a at *
        rcases near_zero hi with e | e | ⟨e1, e3, e4⟩
        · subst e
          refine ⟨Or.inr ⟨rfl, Int.le_refl _⟩, cr_back _ _, ?_, Int.le_refl _⟩
          rw [sq_self]; exact sq_pos _ _
        · subst e
          refine ⟨hx, cr_end _ _, Int.le_refl _, ?_⟩
          rw [sq_self]; exact sq_pos _ _
        · have s : 0 < sq a b := by omega
          refine ⟨?_, e1, within e1 (Ne.symm hd) (by omega) (by omega), ?_⟩
          · have i1 : sq a b * (p.1 - a.1) = along p a b * (b.1 - a.1) + 0 * (b.1 - a.1) := by
              have : sq a b * (p.1 - a.1) = along p a b * (b.1 - a.1) - cr a b p * (b.2 - a.2) := by unfold sq along cr; grind
              rw [this, e1]; omega
            have i2 : sq a b * (p.2 - a.2) = along p a b * (b.2 - a.2) + 0 * (b.2 - a.2) := by
              have : sq a b * (p.2 - a.2) = along p a b * (b.2 - a.2) + cr a b p * (b.1 - a.1) := by unfold sq along cr; grind
              rw [this, e1]; omega
            have := lex_of s (show 0 ≤ along p a b by omega) (Int.le_refl 0) (by omega) (by omega) i1 i2
            omega
          · have e5 : cr b a p = 0 := by have : cr b a p = -cr a b p := by unfold cr; grind
                                         omega
            have e6 : along p b a = sq b a - along p a b := by rw [along_swap, sq_comm]
            have e7 := sq_comm a b
            exact within e5 hd (by omega) (by omega)
      refine ⟨key.1, fun k hk => ?_⟩
      have hk2 : k = 0 ∨ k = 1 := by omega
      rcases hk2 with rfl | rfl
      · exact Or.inr ⟨key.2.1, key.2.2.1⟩
      · rw [show (1 : Nat) + 1 = 2 by rfl, e2]
        refine Or.inr ⟨?_, key.2.2.2⟩
        have : cr (itn l 1) (low l) p = -cr (low l) (itn l 1) p := by unfold cr; grind
        have := key.2.1
        omega
  · rw [if_neg g, List.all_eq_true, hl] at hi
    rw [hl] at g
    have hall : ∀ k, 0 ≤ cr (itn l k) (itn l (k + 1)) p := by
      intro k
      have hk : k % period l < period l := Nat.mod_lt _ p1
      have h1 := hi (k % period l) (List.mem_range.2 hk)
      rw [decide_eq_true_eq, hull_get h hk, hull_get h (Nat.mod_lt _ p1), ← itn_mods h hb (k % period l + 1), ← itn_mods h hb k] at h1
      have e : itn l (k % period l + 1) = itn l (k + 1) := by
        show nxt l (itn l (k % period l)) = nxt l (itn l k)
        rw [← itn_mods h hb k]
      rw [e] at h1
      exact h1
    have hst := turn_left h hb (by omega)
    refine ⟨?_, fun k hk => ?_⟩
    · have t := hst (period l - 1)
      have A := hall (period l - 1)
      have B := hall 0
      have x1 := low_least (itn_ok h hb 1).1
      have x2 := low_least (itn_ok h hb (period l - 1)).1
      rw [show period l - 1 + 2 = 1 + period l by omega, itn_per h hb 1] at t
      rw [show period l - 1 + 1 = period l by omega, p3] at t A
      change 0 ≤ cr (low l) (itn l 1) p at B
      generalize itn l 1 = b at *
      generalize low l = a at *
      generalize itn l (period l - 1) = z at *
      have i1 : cr z a b * (p.1 - a.1) = cr z a p * (b.1 - a.1) + cr a b p * (z.1 - a.1) := by unfold cr; grind
      have i2 : cr z a b * (p.2 - a.2) = cr z a p * (b.2 - a.2) + cr a b p * (z.2 - a.2) := by unfold cr; grind
      have := lex_of t A B (by omega) (by omega) i1 i2
      omega
    · rcases Int.lt_or_eq_of_le (hall k) with t | t
      · exact Or.inl t
      · refine Or.inr ⟨t.symm, ?_⟩
        have hp1 : itn l k = itn l (k + period l - 1 + 1) := by rw [show k + period l - 1 + 1 = k + period l by omega, itn_per h hb k]
        have hp2 : itn l (k + 1) = itn l (k + period l - 1 + 2) := by rw [show k + period l - 1 + 2 = k + 1 + period l by omega, itn_per h hb (k + 1)]
        have dn : itn l k ≠ itn l (k + 1) := fun e => p4 1 (by omega) (by omega) (itn_back h hb 1 k e).symm
        have a1 := hst (k + period l - 1)
        have a2 := hst k
        have a3 := hall (k + period l - 1)
        have a4 := hall (k + 1)
        rw [← hp1, ← hp2] at a1
        rw [← hp1] at a3
        exact side_in a1 a2 a3 t.symm a4 dn
theorem hull_more {l : List Pt} {p : Pt} (h : l ≠ []) (hb : ∀ q ∈ l, okP q = true) (hp : okP p = true) : hull (l ++ [p]) = hull l ↔ inB p (hull l) = true := by
  have hb2 : ∀ q ∈ l ++ [p], okP q = true := by
    intro q hq
    rcases List.mem_append.1 hq with g | g
    · exact hb q g
    · rw [List.mem_singleton.1 g]; exact hp
  constructor
  · intro e
    rw [← e]
    exact inB_own hb2 (List.mem_append.2 (Or.inr (List.mem_singleton.2 rfl)))
  · intro hi
    obtain ⟨h1, h2⟩ := in_adds h hb hi
    obtain ⟨p1, p2, p3, p4⟩ := period_spec h hb
    have hl := hull_len h
    have hlow : low (l ++ [p]) = low l := by
      refine low_eq (List.mem_append.2 (Or.inl (low_mem h))) fun q hq => ?_
      rcases List.mem_append.1 hq with g | g
      · exact low_least g
      · rw [List.mem_singleton.1 g]; exact h1
    refine (hull_unique (l := l ++ [p]) (by simp) hb2 (hull l) (by omega) (by rw [hlow, hull_at h p1]; rfl) ?_ ?_).symm
    · intro k a b ha hbk
      have hk : k < period l := by
        by_cases g : k < period l
        · exact g
        · rw [List.getElem?_eq_none (by omega)] at ha; cases ha
      rw [hull_at h hk] at ha
      rw [hl, hull_at h (Nat.mod_lt _ p1), ← itn_mod h hb hk] at hbk
      obtain rfl : itn l k = a := by injection ha
      obtain rfl : itn l (k + 1) = b := by injection hbk
      have hn := itn_next h hb k
      refine ⟨List.mem_append.2 (Or.inl hn.1), fun q hq => ?_⟩
      rcases List.mem_append.1 hq with g | g
      · exact hn.2 q g
      · rw [List.mem_singleton.1 g]; exact h2 k hk
    · intro k a h0 ha
      have hk : k < period l := by
        by_cases g : k < period l
        · exact g
        · rw [List.getElem?_eq_none (by omega)] at ha; cases ha
      rw [hull_at h hk] at ha
      obtain rfl : itn l k = a := by injection ha
      rw [hlow]
      exact p4 k h0 hk
/-- Inside, as the program finds it. -/
theorem inside_more {l : List Pt} {p : Pt} (hb : ∀ q ∈ l, okP q = true) (hp : okP p = true) : decide (hull (l ++ [p]) = hull l) = inB p (hull l) := by
  by_cases h : l = []
  · subst h
    have e : hull ([] ++ [p]) ≠ hull [] := by
      intro e
      have := congrArg List.length e
      rw [hull_len (by simp)] at this
      have h1 := (period_spec (l := [] ++ [p]) (by simp) (by intro q hq; rw [List.mem_singleton.1 hq]; exact hp)).1
      rw [hull_nil, List.length_nil] at this
      omega
    rw [decide_eq_false e, hull_nil]
    rfl
  · rw [Bool.eq_iff_iff, decide_eq_true_eq]
    exact hull_more h hb hp
end Go.Proofs.YtighpjhipgobiaaDoor.GeoP

/-
  Walks of the program's isCoordinate, isPoint, isRadius, isMotion, minus, dot, cross, compareLeast, Dist2, Cross, Near and Touch of package geom: what a call returns for every input. Condition: none.
-/
namespace Go.Proofs.YtighpjhipgobiaaDoor.GeoW
open Go.ChangeShapes Go.WideShapes Go.ChangeAt Go.RowKit
open NumP NumW GeoP

theorem pcoord_at (n : Int) (t : Bool) (w : World) (H : Hid ((decide (-32768 ≤ n) && decide (n ≤ 32768)) = t)) :
    Calls Tryd.prog 97 #[.int .i64 n] w fun e w' => e = .returned (.bool t) ∧ w = w' := by
  have hi : t = true ↔ -32768 ≤ n ∧ n ≤ 32768 := by rw [← H.out, Bool.and_eq_true, decide_eq_true_eq, decide_eq_true_eq]
  clear H
  by_cases h1 : -32768 ≤ n
  · by_cases h2 : n ≤ 32768
    · obtain rfl : t = true := hi.2 ⟨h1, h2⟩
      clear hi
      go_enter Tryd.func97, Tryd.ntmps97
      go_wp2
      go_ret
      exact ⟨by first | rfl | (exact ret_bool (by simp; omega)), rfl⟩
    · obtain rfl : t = false := by cases t <;> simp at hi ⊢; omega
      clear hi
      go_enter Tryd.func97, Tryd.ntmps97
      go_wp2
      go_ret
      exact ⟨by first | rfl | (exact ret_bool (by simp; omega)), rfl⟩
  · obtain rfl : t = false := by cases t <;> simp at hi ⊢; omega
    clear hi
    go_enter Tryd.func97, Tryd.ntmps97
    go_wp2
    go_ret
    exact ⟨by first | rfl | (exact ret_bool (by simp; omega)), rfl⟩
theorem pradius_at (r : Int) (t : Bool) (w : World) (H : Hid (okR r = t)) :
    Calls Tryd.prog 87 #[.int .i64 r] w fun e w' => e = .returned (.bool t) ∧ w = w' := by
  have hi : t = true ↔ 0 ≤ r ∧ r ≤ 32768 := by rw [← H.out, okR_iff]
  clear H
  by_cases h1 : 0 ≤ r
  · by_cases h2 : r ≤ 32768
    · obtain rfl : t = true := hi.2 ⟨h1, h2⟩
      clear hi
      go_enter Tryd.func87, Tryd.ntmps87
      go_wp2
      go_ret
      exact ⟨by first | rfl | (exact ret_bool (by simp; omega)), rfl⟩
    · obtain rfl : t = false := by cases t <;> simp at hi ⊢; omega
      clear hi
      go_enter Tryd.func87, Tryd.ntmps87
      go_wp2
      go_ret
      exact ⟨by first | rfl | (exact ret_bool (by simp; omega)), rfl⟩
  · obtain rfl : t = false := by cases t <;> simp at hi ⊢; omega
    clear hi
    go_enter Tryd.func87, Tryd.ntmps87
    go_wp2
    go_ret
    exact ⟨by first | rfl | (exact ret_bool (by simp; omega)), rfl⟩
theorem pvalid_at (p : Pt) (t : Bool) (w : World) (H : Hid (okP p = t)) :
    Calls Tryd.prog 86 #[.agg #[.int .i64 p.1, .int .i64 p.2]] w fun e w' => e = .returned (.bool t) ∧ Own w w' := by
  obtain ⟨x, y⟩ := p
  obtain ⟨tx, hx⟩ : ∃ t, (decide (-32768 ≤ x) && decide (x ≤ 32768)) = t := ⟨_, rfl⟩
  obtain ⟨ty, hy⟩ : ∃ t, (decide (-32768 ≤ y) && decide (y ≤ 32768)) = t := ⟨_, rfl⟩
  have ht : (tx && ty) = t := by rw [← hx, ← hy]; exact H.out
  clear H
  have HX := Lib.hid hx
  have HY := Lib.hid hy
  clear hx hy
  subst ht
  cases tx
  all_goals
    go_enter Tryd.func86, Tryd.ntmps86
    go_wp2_with (go_at_call 97; (first | (with_reducible refine (pcoord_at x _ _ HX).mono ?_) | (with_reducible refine (pcoord_at y _ _ HY).mono ?_)); rintro e w1 ⟨rfl, rfl⟩)
    go_ret
    exact ⟨by first | rfl | simp, (Own.refl w).alloc _⟩
/-- Coordinates that a difference of differences has. -/
def Wide (p : Pt) : Prop := (-131072 ≤ p.1 ∧ p.1 ≤ 131072) ∧ (-131072 ≤ p.2 ∧ p.2 ≤ 131072)
theorem dot_in {p q : Pt} (hp : Wide p) (hq : Wide q) : -34359738368 ≤ dotP p q ∧ dotP p q ≤ 34359738368 := by
  obtain ⟨h1, h2⟩ := hp
  obtain ⟨h3, h4⟩ := hq
  have a := mul_in2 h1 h3
  have b := mul_in2 h2 h4
  unfold dotP
  omega
theorem crs_in {p q : Pt} (hp : Wide p) (hq : Wide q) : -34359738368 ≤ crsP p q ∧ crsP p q ≤ 34359738368 := by
  obtain ⟨h1, h2⟩ := hp
  obtain ⟨h3, h4⟩ := hq
  have a := mul_in2 h1 h4
  have b := mul_in2 h2 h3
  unfold crsP
  omega
theorem wide_small {p : Pt} (h : Small p) : Wide p := by unfold Small at h; unfold Wide; omega
theorem wide_sub {p q : Pt} (hp : Small p) (hq : Small q) : Wide (sub p q) := by unfold Small at hp hq; unfold Wide sub; simp only; omega
theorem wide_sub2 {p q r : Pt} (hp : Small p) (hq : Small q) (_ : Small r) : Wide (sub (sub p r) (sub q r)) := by unfold Small at hp hq; unfold Wide sub; simp only; omega
theorem dot_pos (p : Pt) : 0 ≤ dotP p p := by unfold dotP; have := sqn p.1; have := sqn p.2; omega

theorem pminus_at (p q d : Pt) (w : World) (H : Hid (sub p q = d)) (hp : Wide p) (hq : Wide q) :
    Calls Tryd.prog 89 #[.agg #[.int .i64 p.1, .int .i64 p.2], .agg #[.int .i64 q.1, .int .i64 q.2]] w fun e w' => e = .returned (.agg #[.int .i64 d.1, .int .i64 d.2]) ∧ Own w w' := by
  obtain rfl := H.out
  clear H
  obtain ⟨x, y⟩ := p
  obtain ⟨a, b⟩ := q
  obtain ⟨⟨h11, h12⟩, h13, h14⟩ := hp
  obtain ⟨⟨h21, h22⟩, h23, h24⟩ := hq
  simp only at h11 h12 h13 h14 h21 h22 h23 h24
  go_enter Tryd.func89, Tryd.ntmps89
  go_wp2
  exact bodyPost_ret (v := .agg #[.int .i64 (x - a), .int .i64 (y - b)]) (by simp [results, Tryd.results89, go_sem]) rfl ⟨rfl, by repeat (first | exact Own.refl _ | apply Own.alloc | refine Own.setCell ?_ (by simp; try omega) _)⟩
theorem pdot_at (p q : Pt) (s : Int) (w : World) (H : Hid (dotP p q = s)) (hp : Wide p) (hq : Wide q) :
    Calls Tryd.prog 98 #[.agg #[.int .i64 p.1, .int .i64 p.2], .agg #[.int .i64 q.1, .int .i64 q.2]] w fun e w' => e = .returned (.int .i64 s) ∧ Own w w' := by
  have hs := H.out
  clear H
  obtain ⟨x, y⟩ := p
  obtain ⟨a, b⟩ := q
  obtain ⟨h1, h2⟩ := hp
  obtain ⟨h3, h4⟩ := hq
  simp only at h1 h2 h3 h4
  have m1 := mul_in2 (a := x) (b := a) (by omega) (by omega)
  have m2 := mul_in2 (a := y) (b := b) (by omega) (by omega)
  have HS := Lib.hid (show x * a + y * b = s from hs)
  clear hs
  go_enter Tryd.func98, Tryd.ntmps98
  go_wp2
  go_ret
  exact ⟨ret_int HS.out, ((Own.refl w).alloc _).alloc _⟩
theorem pcrs_at (p q : Pt) (s : Int) (w : World) (H : Hid (crsP p q = s)) (hp : Wide p) (hq : Wide q) :
    Calls Tryd.prog 100 #[.agg #[.int .i64 p.1, .int .i64 p.2], .agg #[.int .i64 q.1, .int .i64 q.2]] w fun e w' => e = .returned (.int .i64 s) ∧ Own w w' := by
  have hs := H.out
  clear H
  obtain ⟨x, y⟩ := p
  obtain ⟨a, b⟩ := q
  obtain ⟨h1, h2⟩ := hp
  obtain ⟨h3, h4⟩ := hq
  simp only at h1 h2 h3 h4
  have m1 := mul_in2 (a := x) (b := b) (by omega) (by omega)
  have m2 := mul_in2 (a := y) (b := a) (by omega) (by omega)
  have HS := Lib.hid (show x * b - y * a = s from hs)
  clear hs
  go_enter Tryd.func100, Tryd.ntmps100
  go_wp2
  go_ret
  exact ⟨ret_int HS.out, ((Own.refl w).alloc _).alloc _⟩
set_option maxRecDepth 100000 in
set_option maxHeartbeats 4000000 in
theorem pleast_at (f t : Pt) (r o : Int) (w : World) (H : Hid (leastV f t r = o)) (hf : Wide f) (ht : Wide t) (hw : Wide (sub t f)) (hr : 0 ≤ r ∧ r ≤ 65536) :
    Calls Tryd.prog 88 #[.agg #[.int .i64 f.1, .int .i64 f.2], .agg #[.int .i64 t.1, .int .i64 t.2], .int .i64 r] w fun e w' => e = .returned (.tuple #[.int .i64 o, .int .i64 0]) ∧ Own w w' := by
  obtain ⟨hr0, hr1⟩ := hr
  obtain ⟨fx, fy⟩ := f
  obtain ⟨tx, ty⟩ := t
  have ho := H.out
  clear H
  unfold leastV at ho
  obtain ⟨⟨gx, gy⟩, hg⟩ : ∃ g, sub (tx, ty) (fx, fy) = g := ⟨_, rfl⟩
  rw [hg] at ho hw
  have b1 := dot_in hf hw
  have b2 := dot_in ht hw
  have b3 := dot_in hf hf
  have b4 := dot_in ht ht
  have b5 := dot_in hw hw
  have b6 := crs_in hf hw
  have mr := mul_in2 (a := r) (b := r) (by omega) (by omega)
  obtain ⟨d1, hd1⟩ : ∃ d, dotP (fx, fy) (gx, gy) = d := ⟨_, rfl⟩
  obtain ⟨d2, hd2⟩ : ∃ d, dotP (tx, ty) (gx, gy) = d := ⟨_, rfl⟩
  obtain ⟨ff, hff⟩ : ∃ d, dotP (fx, fy) (fx, fy) = d := ⟨_, rfl⟩
  obtain ⟨tt, htt⟩ : ∃ d, dotP (tx, ty) (tx, ty) = d := ⟨_, rfl⟩
  obtain ⟨gg, hgg⟩ : ∃ d, dotP (gx, gy) (gx, gy) = d := ⟨_, rfl⟩
  obtain ⟨s, hs⟩ : ∃ d, crsP (fx, fy) (gx, gy) = d := ⟨_, rfl⟩
  rw [hd1, hd2, hff, htt, hgg, hs] at ho
  rw [hd1] at b1
  rw [hd2] at b2
  rw [hff] at b3
  rw [htt] at b4
  rw [hgg] at b5
  rw [hs] at b6
  have HG := Lib.hid hg
  have HD1 := Lib.hid hd1
  have HD2 := Lib.hid hd2
  have HFF := Lib.hid hff
  have HTT := Lib.hid htt
  have HGG := Lib.hid hgg
  have HS := Lib.hid hs
  clear hg hd1 hd2 hff htt hgg hs
  by_cases c1 : 0 ≤ d1
  · rw [if_pos c1] at ho
    have hk := cmp_ok (a := ff) (b := 1) (c := r) (d := r) ((cmpOk_iff _ _ _ _).2 ⟨(small_iff _).2 (by omega), (small_iff _).2 (by omega), (small_iff _).2 (by omega), (small_iff _).2 (by omega)⟩)
    rw [Int.mul_one, ho] at hk
    have HK := Lib.hid hk
    clear hk ho b1 b2 b3 b4 b5 b6
    go_enter Tryd.func88, Tryd.ntmps88
    go_upto_region 1 with (fail)
    have k0 : ((w.alloc (.cells #[.int .i64 fx, .int .i64 fy] 26)).alloc (.cells #[.int .i64 tx, .int .i64 ty] 26)).cell? ⟨w.heap.size, 0, none⟩ = some (.int .i64 fx) := by go_simp
    have k1 : ((w.alloc (.cells #[.int .i64 fx, .int .i64 fy] 26)).alloc (.cells #[.int .i64 tx, .int .i64 ty] 26)).cell? ⟨w.heap.size, 1, none⟩ = some (.int .i64 fy) := by go_simp
    have k2 : ((w.alloc (.cells #[.int .i64 fx, .int .i64 fy] 26)).alloc (.cells #[.int .i64 tx, .int .i64 ty] 26)).cell? ⟨w.heap.size + 1, 0, none⟩ = some (.int .i64 tx) := by go_simp
    have k3 : ((w.alloc (.cells #[.int .i64 fx, .int .i64 fy] 26)).alloc (.cells #[.int .i64 tx, .int .i64 ty] 26)).cell? ⟨w.heap.size + 1, 1, none⟩ = some (.int .i64 ty) := by go_simp
    have g0 : Own w ((w.alloc (.cells #[.int .i64 fx, .int .i64 fy] 26)).alloc (.cells #[.int .i64 tx, .int .i64 ty] 26)) := (((Own.refl w).alloc _).alloc _)
    generalize hW : ((w.alloc (.cells #[.int .i64 fx, .int .i64 fy] 26)).alloc (.cells #[.int .i64 tx, .int .i64 ty] 26)) = W0 at *
    clear hW
    go_upto_region 4 with (go_at_call 89; (with_reducible refine (pminus_at (tx, ty) (fx, fy) (gx, gy) _ HG ht hf).mono ?_); rintro e w1 ⟨rfl, hg⟩; replace k0 := hg.cell k0; replace k1 := hg.cell k1; replace k2 := hg.cell k2; replace k3 := hg.cell k3; replace g0 : Own w w1 := Own.trans (by first | exact g0 | exact Own.drewN g0 _) hg; clear hg)
    have y0 : (w1.alloc (.cells #[.int .i64 gx, .int .i64 gy] 26)).cell? ⟨w1.heap.size, 0, none⟩ = some (.int .i64 gx) := by go_simp
    have y1 : (w1.alloc (.cells #[.int .i64 gx, .int .i64 gy] 26)).cell? ⟨w1.heap.size, 1, none⟩ = some (.int .i64 gy) := by go_simp
    have q0 : Own w1 (w1.alloc (.cells #[.int .i64 gx, .int .i64 gy] 26)) := by repeat (first | exact Own.refl _ | apply Own.alloc | refine Own.setCell ?_ (by simp) _)
    replace k0 := q0.cell k0
    replace k1 := q0.cell k1
    replace k2 := q0.cell k2
    replace k3 := q0.cell k3
    replace g0 := g0.trans q0
    clear q0
    generalize w1.alloc (.cells #[.int .i64 gx, .int .i64 gy] 26) = wg at *
    go_wp2_with (first | (go_at_call 98; (first | (with_reducible refine (pdot_at (fx, fy) (gx, gy) _ _ HD1 hf hw).mono ?_) | (with_reducible refine (pdot_at (tx, ty) (gx, gy) _ _ HD2 ht hw).mono ?_) | (with_reducible refine (pdot_at (fx, fy) (fx, fy) _ _ HFF hf hf).mono ?_) | (with_reducible refine (pdot_at (tx, ty) (tx, ty) _ _ HTT ht ht).mono ?_) | (with_reducible refine (pdot_at (gx, gy) (gx, gy) _ _ HGG hw hw).mono ?_)); rintro e w1 ⟨rfl, hg⟩; replace k0 := hg.cell k0; replace k1 := hg.cell k1; replace k2 := hg.cell k2; replace k3 := hg.cell k3; replace g0 : Own w w1 := Own.trans (by first | exact g0 | exact Own.drewN g0 _) hg; replace y0 := hg.cell y0; replace y1 := hg.cell y1; clear hg) | (go_at_call 100; (with_reducible refine (pcrs_at (fx, fy) (gx, gy) _ _ HS hf hw).mono ?_); rintro e w1 ⟨rfl, hg⟩; replace k0 := hg.cell k0; replace k1 := hg.cell k1; replace k2 := hg.cell k2; replace k3 := hg.cell k3; replace g0 : Own w w1 := Own.trans (by first | exact g0 | exact Own.drewN g0 _) hg; replace y0 := hg.cell y0; replace y1 := hg.cell y1; clear hg) | (go_at_call 99; (with_reducible refine (cmp_at _ _ _ _ _ _ _ HK).mono ?_); rintro e w1 ⟨rfl, rfl⟩))
    go_ret2
    exact ⟨rfl, g0⟩
  · rw [if_neg c1] at ho
    by_cases c2 : d2 ≤ 0
    · rw [if_pos c2] at ho
      have hk := cmp_ok (a := tt) (b := 1) (c := r) (d := r) ((cmpOk_iff _ _ _ _).2 ⟨(small_iff _).2 (by omega), (small_iff _).2 (by omega), (small_iff _).2 (by omega), (small_iff _).2 (by omega)⟩)
      rw [Int.mul_one, ho] at hk
      have HK := Lib.hid hk
      clear hk ho b1 b2 b3 b4 b5 b6
      go_enter Tryd.func88, Tryd.ntmps88
      go_upto_region 1 with (fail)
      have k0 : ((w.alloc (.cells #[.int .i64 fx, .int .i64 fy] 26)).alloc (.cells #[.int .i64 tx, .int .i64 ty] 26)).cell? ⟨w.heap.size, 0, none⟩ = some (.int .i64 fx) := by go_simp
      have k1 : ((w.alloc (.cells #[.int .i64 fx, .int .i64 fy] 26)).alloc (.cells #[.int .i64 tx, .int .i64 ty] 26)).cell? ⟨w.heap.size, 1, none⟩ = some (.int .i64 fy) := by go_simp
      have k2 : ((w.alloc (.cells #[.int .i64 fx, .int .i64 fy] 26)).alloc (.cells #[.int .i64 tx, .int .i64 ty] 26)).cell? ⟨w.heap.size + 1, 0, none⟩ = some (.int .i64 tx) := by go_simp
      have k3 : ((w.alloc (.cells #[.int .i64 fx, .int .i64 fy] 26)).alloc (.cells #[.int .i64 tx, .int .i64 ty] 26)).cell? ⟨w.heap.size + 1, 1, none⟩ = some (.int .i64 ty) := by go_simp
      have g0 : Own w ((w.alloc (.cells #[.int .i64 fx, .int .i64 fy] 26)).alloc (.cells #[.int .i64 tx, .int .i64 ty] 26)) := (((Own.refl w).alloc _).alloc _)
      generalize hW : ((w.alloc (.cells #[.int .i64 fx, .int .i64 fy] 26)).alloc (.cells #[.int .i64 tx, .int .i64 ty] 26)) = W0 at *
      clear hW
      go_upto_region 4 with (go_at_call 89; (with_reducible refine (pminus_at (tx, ty) (fx, fy) (gx, gy) _ HG ht hf).mono ?_); rintro e w1 ⟨rfl, hg⟩; replace k0 := hg.cell k0; replace k1 := hg.cell k1; replace k2 := hg.cell k2; replace k3 := hg.cell k3; replace g0 : Own w w1 := Own.trans (by first | exact g0 | exact Own.drewN g0 _) hg; clear hg)
      have y0 : (w1.alloc (.cells #[.int .i64 gx, .int .i64 gy] 26)).cell? ⟨w1.heap.size, 0, none⟩ = some (.int .i64 gx) := by go_simp
      have y1 : (w1.alloc (.cells #[.int .i64 gx, .int .i64 gy] 26)).cell? ⟨w1.heap.size, 1, none⟩ = some (.int .i64 gy) := by go_simp
      have q0 : Own w1 (w1.alloc (.cells #[.int .i64 gx, .int .i64 gy] 26)) := by repeat (first | exact Own.refl _ | apply Own.alloc | refine Own.setCell ?_ (by simp) _)
      replace k0 := q0.cell k0
      replace k1 := q0.cell k1
      replace k2 := q0.cell k2
      replace k3 := q0.cell k3
      replace g0 := g0.trans q0
      clear q0
      generalize w1.alloc (.cells #[.int .i64 gx, .int .i64 gy] 26) = wg at *
      go_wp2_with (first | (go_at_call 98; (first | (with_reducible refine (pdot_at (fx, fy) (gx, gy) _ _ HD1 hf hw).mono ?_) | (with_reducible refine (pdot_at (tx, ty) (gx, gy) _ _ HD2 ht hw).mono ?_) | (with_reducible refine (pdot_at (fx, fy) (fx, fy) _ _ HFF hf hf).mono ?_) | (with_reducible refine (pdot_at (tx, ty) (tx, ty) _ _ HTT ht ht).mono ?_) | (with_reducible refine (pdot_at (gx, gy) (gx, gy) _ _ HGG hw hw).mono ?_)); rintro e w1 ⟨rfl, hg⟩; replace k0 := hg.cell k0; replace k1 := hg.cell k1; replace k2 := hg.cell k2; replace k3 := hg.cell k3; replace g0 : Own w w1 := Own.trans (by first | exact g0 | exact Own.drewN g0 _) hg; replace y0 := hg.cell y0; replace y1 := hg.cell y1; clear hg) | (go_at_call 100; (with_reducible refine (pcrs_at (fx, fy) (gx, gy) _ _ HS hf hw).mono ?_); rintro e w1 ⟨rfl, hg⟩; replace k0 := hg.cell k0; replace k1 := hg.cell k1; replace k2 := hg.cell k2; replace k3 := hg.cell k3; replace g0 : Own w w1 := Own.trans (by first | exact g0 | exact Own.drewN g0 _) hg; replace y0 := hg.cell y0; replace y1 := hg.cell y1; clear hg) | (go_at_call 99; (with_reducible refine (cmp_at _ _ _ _ _ _ _ HK).mono ?_); rintro e w1 ⟨rfl, rfl⟩))
      go_ret2
      exact ⟨rfl, g0⟩
    · rw [if_neg c2] at ho
      have hk := cmp_ok (a := s) (b := s) (c := r * r) (d := gg) ((cmpOk_iff _ _ _ _).2 ⟨(small_iff _).2 (by omega), (small_iff _).2 (by omega), (small_iff _).2 (by omega), (small_iff _).2 (by omega)⟩)
      rw [ho] at hk
      have HK := Lib.hid hk
      clear hk ho b1 b2 b3 b4 b5 b6
      go_enter Tryd.func88, Tryd.ntmps88
      go_upto_region 1 with (fail)
      have k0 : ((w.alloc (.cells #[.int .i64 fx, .int .i64 fy] 26)).alloc (.cells #[.int .i64 tx, .int .i64 ty] 26)).cell? ⟨w.heap.size, 0, none⟩ = some (.int .i64 fx) := by go_simp
      have k1 : ((w.alloc (.cells #[.int .i64 fx, .int .i64 fy] 26)).alloc (.cells #[.int .i64 tx, .int .i64 ty] 26)).cell? ⟨w.heap.size, 1, none⟩ = some (.int .i64 fy) := by go_simp
      have k2 : ((w.alloc (.cells #[.int .i64 fx, .int .i64 fy] 26)).alloc (.cells #[.int .i64 tx, .int .i64 ty] 26)).cell? ⟨w.heap.size + 1, 0, none⟩ = some (.int .i64 tx) := by go_simp
      have k3 : ((w.alloc (.cells #[.int .i64 fx, .int .i64 fy] 26)).alloc (.cells #[.int .i64 tx, .int .i64 ty] 26)).cell? ⟨w.heap.size + 1, 1, none⟩ = some (.int .i64 ty) := by go_simp
      have g0 : Own w ((w.alloc (.cells #[.int .i64 fx, .int .i64 fy] 26)).alloc (.cells #[.int .i64 tx, .int .i64 ty] 26)) := (((Own.refl w).alloc _).alloc _)
      generalize hW : ((w.alloc (.cells #[.int .i64 fx, .int .i64 fy] 26)).alloc (.cells #[.int .i64 tx, .int .i64 ty] 26)) = W0 at *
      clear hW
      go_upto_region 4 with (go_at_call 89; (with_reducible refine (pminus_at (tx, ty) (fx, fy) (gx, gy) _ HG ht hf).mono ?_); rintro e w1 ⟨rfl, hg⟩; replace k0 := hg.cell k0; replace k1 := hg.cell k1; replace k2 := hg.cell k2; replace k3 := hg.cell k3; replace g0 : Own w w1 := Own.trans (by first | exact g0 | exact Own.drewN g0 _) hg; clear hg)
      have y0 : (w1.alloc (.cells #[.int .i64 gx, .int .i64 gy] 26)).cell? ⟨w1.heap.size, 0, none⟩ = some (.int .i64 gx) := by go_simp
      have y1 : (w1.alloc (.cells #[.int .i64 gx, .int .i64 gy] 26)).cell? ⟨w1.heap.size, 1, none⟩ = some (.int .i64 gy) := by go_simp
      have q0 : Own w1 (w1.alloc (.cells #[.int .i64 gx, .int .i64 gy] 26)) := by repeat (first | exact Own.refl _ | apply Own.alloc | refine Own.setCell ?_ (by simp) _)
      replace k0 := q0.cell k0
      replace k1 := q0.cell k1
      replace k2 := q0.cell k2
      replace k3 := q0.cell k3
      replace g0 := g0.trans q0
      clear q0
      generalize w1.alloc (.cells #[.int .i64 gx, .int .i64 gy] 26) = wg at *
      go_wp2_with (first | (go_at_call 98; (first | (with_reducible refine (pdot_at (fx, fy) (gx, gy) _ _ HD1 hf hw).mono ?_) | (with_reducible refine (pdot_at (tx, ty) (gx, gy) _ _ HD2 ht hw).mono ?_) | (with_reducible refine (pdot_at (fx, fy) (fx, fy) _ _ HFF hf hf).mono ?_) | (with_reducible refine (pdot_at (tx, ty) (tx, ty) _ _ HTT ht ht).mono ?_) | (with_reducible refine (pdot_at (gx, gy) (gx, gy) _ _ HGG hw hw).mono ?_)); rintro e w1 ⟨rfl, hg⟩; replace k0 := hg.cell k0; replace k1 := hg.cell k1; replace k2 := hg.cell k2; replace k3 := hg.cell k3; replace g0 : Own w w1 := Own.trans (by first | exact g0 | exact Own.drewN g0 _) hg; replace y0 := hg.cell y0; replace y1 := hg.cell y1; clear hg) | (go_at_call 100; (with_reducible refine (pcrs_at (fx, fy) (gx, gy) _ _ HS hf hw).mono ?_); rintro e w1 ⟨rfl, hg⟩; replace k0 := hg.cell k0; replace k1 := hg.cell k1; replace k2 := hg.cell k2; replace k3 := hg.cell k3; replace g0 : Own w w1 := Own.trans (by first | exact g0 | exact Own.drewN g0 _) hg; replace y0 := hg.cell y0; replace y1 := hg.cell y1; clear hg) | (go_at_call 99; (with_reducible refine (cmp_at _ _ _ _ _ _ _ HK).mono ?_); rintro e w1 ⟨rfl, rfl⟩))
      go_ret2
      exact ⟨rfl, g0⟩
set_option maxRecDepth 100000 in
set_option maxHeartbeats 2000000 in
theorem pnear_any (p a b : Pt) (r : Int) (w : World) :
    Calls Tryd.prog 66 #[.agg #[.int .i64 p.1, .int .i64 p.2], .agg #[.int .i64 a.1, .int .i64 a.2], .agg #[.int .i64 b.1, .int .i64 b.2], .int .i64 r] w fun e w' => e = .returned (.tuple #[.bool (nrV p a b r), .int .i64 (nrE p a b r)]) ∧ Own w w' := by
  obtain ⟨t0, ht0⟩ : ∃ t, okP p = t := ⟨_, rfl⟩
  obtain ⟨t1, ht1⟩ : ∃ t, okP a = t := ⟨_, rfl⟩
  obtain ⟨t2, ht2⟩ : ∃ t, okP b = t := ⟨_, rfl⟩
  obtain ⟨t3, ht3⟩ : ∃ t, okR r = t := ⟨_, rfl⟩
  have hv : nrV p a b r = (t0 && t1 && (t2 && t3) && nearB p a b r) := by unfold nrV nearOk; rw [ht0, ht1, ht2, ht3]
  have he : nrE p a b r = if (t0 && t1 && (t2 && t3)) = true then 0 else 1 := by unfold nrE nearOk; rw [ht0, ht1, ht2, ht3]
  rw [hv, he]
  clear hv he
  have HP0 := Lib.hid ht0
  have HP1 := Lib.hid ht1
  have HP2 := Lib.hid ht2
  have HR := Lib.hid ht3
  cases t0
  · clear ht0 ht1 ht2 ht3
    obtain ⟨xa, ya⟩ := p
    obtain ⟨xb, yb⟩ := a
    obtain ⟨xc, yc⟩ := b
    go_enter Tryd.func66, Tryd.ntmps66
    go_upto_region 1 with (fail)
    have k0 : (((w.alloc (.cells #[.int .i64 xa, .int .i64 ya] 26)).alloc (.cells #[.int .i64 xb, .int .i64 yb] 26)).alloc (.cells #[.int .i64 xc, .int .i64 yc] 26)).cell? ⟨w.heap.size, 0, none⟩ = some (.int .i64 xa) := by go_simp
    have k1 : (((w.alloc (.cells #[.int .i64 xa, .int .i64 ya] 26)).alloc (.cells #[.int .i64 xb, .int .i64 yb] 26)).alloc (.cells #[.int .i64 xc, .int .i64 yc] 26)).cell? ⟨w.heap.size, 1, none⟩ = some (.int .i64 ya) := by go_simp
    have k2 : (((w.alloc (.cells #[.int .i64 xa, .int .i64 ya] 26)).alloc (.cells #[.int .i64 xb, .int .i64 yb] 26)).alloc (.cells #[.int .i64 xc, .int .i64 yc] 26)).cell? ⟨w.heap.size + 1, 0, none⟩ = some (.int .i64 xb) := by go_simp
    have k3 : (((w.alloc (.cells #[.int .i64 xa, .int .i64 ya] 26)).alloc (.cells #[.int .i64 xb, .int .i64 yb] 26)).alloc (.cells #[.int .i64 xc, .int .i64 yc] 26)).cell? ⟨w.heap.size + 1, 1, none⟩ = some (.int .i64 yb) := by go_simp
    have k4 : (((w.alloc (.cells #[.int .i64 xa, .int .i64 ya] 26)).alloc (.cells #[.int .i64 xb, .int .i64 yb] 26)).alloc (.cells #[.int .i64 xc, .int .i64 yc] 26)).cell? ⟨w.heap.size + 2, 0, none⟩ = some (.int .i64 xc) := by go_simp
    have k5 : (((w.alloc (.cells #[.int .i64 xa, .int .i64 ya] 26)).alloc (.cells #[.int .i64 xb, .int .i64 yb] 26)).alloc (.cells #[.int .i64 xc, .int .i64 yc] 26)).cell? ⟨w.heap.size + 2, 1, none⟩ = some (.int .i64 yc) := by go_simp
    have g0 : Own w (((w.alloc (.cells #[.int .i64 xa, .int .i64 ya] 26)).alloc (.cells #[.int .i64 xb, .int .i64 yb] 26)).alloc (.cells #[.int .i64 xc, .int .i64 yc] 26)) := ((((Own.refl w).alloc _).alloc _).alloc _)
    generalize hW : (((w.alloc (.cells #[.int .i64 xa, .int .i64 ya] 26)).alloc (.cells #[.int .i64 xb, .int .i64 yb] 26)).alloc (.cells #[.int .i64 xc, .int .i64 yc] 26)) = W0 at *
    clear hW
    go_wp2_with (first | (go_at_call 86; (first | (with_reducible refine (pvalid_at (xa, ya) _ _ HP0).mono ?_) | (with_reducible refine (pvalid_at (xb, yb) _ _ HP1).mono ?_) | (with_reducible refine (pvalid_at (xc, yc) _ _ HP2).mono ?_)); rintro e w1 ⟨rfl, hg⟩; replace k0 := hg.cell k0; replace k1 := hg.cell k1; replace k2 := hg.cell k2; replace k3 := hg.cell k3; replace k4 := hg.cell k4; replace k5 := hg.cell k5; replace g0 : Own w w1 := Own.trans (by first | exact g0 | exact Own.drewN g0 _) hg; clear hg) | (go_at_call 87; (with_reducible refine (pradius_at r _ _ HR).mono ?_); rintro e w1 ⟨rfl, rfl⟩))
    go_ret2
    exact ⟨rfl, g0⟩
  · skip
    cases t1
    · clear ht0 ht1 ht2 ht3
      obtain ⟨xa, ya⟩ := p
      obtain ⟨xb, yb⟩ := a
      obtain ⟨xc, yc⟩ := b
      go_enter Tryd.func66, Tryd.ntmps66
      go_upto_region 1 with (fail)
      have k0 : (((w.alloc (.cells #[.int .i64 xa, .int .i64 ya] 26)).alloc (.cells #[.int .i64 xb, .int .i64 yb] 26)).alloc (.cells #[.int .i64 xc, .int .i64 yc] 26)).cell? ⟨w.heap.size, 0, none⟩ = some (.int .i64 xa) := by go_simp
      have k1 : (((w.alloc (.cells #[.int .i64 xa, .int .i64 ya] 26)).alloc (.cells #[.int .i64 xb, .int .i64 yb] 26)).alloc (.cells #[.int .i64 xc, .int .i64 yc] 26)).cell? ⟨w.heap.size, 1, none⟩ = some (.int .i64 ya) := by go_simp
      have k2 : (((w.alloc (.cells #[.int .i64 xa, .int .i64 ya] 26)).alloc (.cells #[.int .i64 xb, .int .i64 yb] 26)).alloc (.cells #[.int .i64 xc, .int .i64 yc] 26)).cell? ⟨w.heap.size + 1, 0, none⟩ = some (.int .i64 xb) := by go_simp
      have k3 : (((w.alloc (.cells #[.int .i64 xa, .int .i64 ya] 26)).alloc (.cells #[.int .i64 xb, .int .i64 yb] 26)).alloc (.cells #[.int .i64 xc, .int .i64 yc] 26)).cell? ⟨w.heap.size + 1, 1, none⟩ = some (.int .i64 yb) := by go_simp
      have k4 : (((w.alloc (.cells #[.int .i64 xa, .int .i64 ya] 26)).alloc (.cells #[.int .i64 xb, .int .i64 yb] 26)).alloc (.cells #[.int .i64 xc, .int .i64 yc] 26)).cell? ⟨w.heap.size + 2, 0, none⟩ = some (.int .i64 xc) := by go_simp
      have k5 : (((w.alloc (.cells #[.int .i64 xa, .int .i64 ya] 26)).alloc (.cells #[.int .i64 xb, .int .i64 yb] 26)).alloc (.cells #[.int .i64 xc, .int .i64 yc] 26)).cell? ⟨w.heap.size + 2, 1, none⟩ = some (.int .i64 yc) := by go_simp
      have g0 : Own w (((w.alloc (.cells #[.int .i64 xa, .int .i64 ya] 26)).alloc (.cells #[.int .i64 xb, .int .i64 yb] 26)).alloc (.cells #[.int .i64 xc, .int .i64 yc] 26)) := ((((Own.refl w).alloc _).alloc _).alloc _)
      generalize hW : (((w.alloc (.cells #[.int .i64 xa, .int .i64 ya] 26)).alloc (.cells #[.int .i64 xb, .int .i64 yb] 26)).alloc (.cells #[.int .i64 xc, .int .i64 yc] 26)) = W0 at *
      clear hW
      go_wp2_with (first | (go_at_call 86; (first | (with_reducible refine (pvalid_at (xa, ya) _ _ HP0).mono ?_) | (with_reducible refine (pvalid_at (xb, yb) _ _ HP1).mono ?_) | (with_reducible refine (pvalid_at (xc, yc) _ _ HP2).mono ?_)); rintro e w1 ⟨rfl, hg⟩; replace k0 := hg.cell k0; replace k1 := hg.cell k1; replace k2 := hg.cell k2; replace k3 := hg.cell k3; replace k4 := hg.cell k4; replace k5 := hg.cell k5; replace g0 : Own w w1 := Own.trans (by first | exact g0 | exact Own.drewN g0 _) hg; clear hg) | (go_at_call 87; (with_reducible refine (pradius_at r _ _ HR).mono ?_); rintro e w1 ⟨rfl, rfl⟩))
      go_ret2
      exact ⟨rfl, g0⟩
    · skip
      cases t2
      · clear ht0 ht1 ht2 ht3
        obtain ⟨xa, ya⟩ := p
        obtain ⟨xb, yb⟩ := a
        obtain ⟨xc, yc⟩ := b
        go_enter Tryd.func66, Tryd.ntmps66
        go_upto_region 1 with (fail)
        have k0 : (((w.alloc (.cells #[.int .i64 xa, .int .i64 ya] 26)).alloc (.cells #[.int .i64 xb, .int .i64 yb] 26)).alloc (.cells #[.int .i64 xc, .int .i64 yc] 26)).cell? ⟨w.heap.size, 0, none⟩ = some (.int .i64 xa) := by go_simp
        have k1 : (((w.alloc (.cells #[.int .i64 xa, .int .i64 ya] 26)).alloc (.cells #[.int .i64 xb, .int .i64 yb] 26)).alloc (.cells #[.int .i64 xc, .int .i64 yc] 26)).cell? ⟨w.heap.size, 1, none⟩ = some (.int .i64 ya) := by go_simp
        have k2 : (((w.alloc (.cells #[.int .i64 xa, .int .i64 ya] 26)).alloc (.cells #[.int .i64 xb, .int .i64 yb] 26)).alloc (.cells #[.int .i64 xc, .int .i64 yc] 26)).cell? ⟨w.heap.size + 1, 0, none⟩ = some (.int .i64 xb) := by go_simp
        have k3 : (((w.alloc (.cells #[.int .i64 xa, .int .i64 ya] 26)).alloc (.cells #[.int .i64 xb, .int .i64 yb] 26)).alloc (.cells #[.int .i64 xc, .int .i64 yc] 26)).cell? ⟨w.heap.size + 1, 1, none⟩ = some (.int .i64 yb) := by go_simp
        have k4 : (((w.alloc (.cells #[.int .i64 xa, .int .i64 ya] 26)).alloc (.cells #[.int .i64 xb, .int .i64 yb] 26)).alloc (.cells #[.int .i64 xc, .int .i64 yc] 26)).cell? ⟨w.heap.size + 2, 0, none⟩ = some (.int .i64 xc) := by go_simp
        have k5 : (((w.alloc (.cells #[.int .i64 xa, .int .i64 ya] 26)).alloc (.cells #[.int .i64 xb, .int .i64 yb] 26)).alloc (.cells #[.int .i64 xc, .int .i64 yc] 26)).cell? ⟨w.heap.size + 2, 1, none⟩ = some (.int .i64 yc) := by go_simp
        have g0 : Own w (((w.alloc (.cells #[.int .i64 xa, .int .i64 ya] 26)).alloc (.cells #[.int .i64 xb, .int .i64 yb] 26)).alloc (.cells #[.int .i64 xc, .int .i64 yc] 26)) := ((((Own.refl w).alloc _).alloc _).alloc _)
        generalize hW : (((w.alloc (.cells #[.int .i64 xa, .int .i64 ya] 26)).alloc (.cells #[.int .i64 xb, .int .i64 yb] 26)).alloc (.cells #[.int .i64 xc, .int .i64 yc] 26)) = W0 at *
        clear hW
        go_wp2_with (first | (go_at_call 86; (first | (with_reducible refine (pvalid_at (xa, ya) _ _ HP0).mono ?_) | (with_reducible refine (pvalid_at (xb, yb) _ _ HP1).mono ?_) | (with_reducible refine (pvalid_at (xc, yc) _ _ HP2).mono ?_)); rintro e w1 ⟨rfl, hg⟩; replace k0 := hg.cell k0; replace k1 := hg.cell k1; replace k2 := hg.cell k2; replace k3 := hg.cell k3; replace k4 := hg.cell k4; replace k5 := hg.cell k5; replace g0 : Own w w1 := Own.trans (by first | exact g0 | exact Own.drewN g0 _) hg; clear hg) | (go_at_call 87; (with_reducible refine (pradius_at r _ _ HR).mono ?_); rintro e w1 ⟨rfl, rfl⟩))
        go_ret2
        exact ⟨rfl, g0⟩
      · skip
        cases t3
        · clear ht0 ht1 ht2 ht3
          obtain ⟨xa, ya⟩ := p
          obtain ⟨xb, yb⟩ := a
          obtain ⟨xc, yc⟩ := b
          go_enter Tryd.func66, Tryd.ntmps66
          go_upto_region 1 with (fail)
          have k0 : (((w.alloc (.cells #[.int .i64 xa, .int .i64 ya] 26)).alloc (.cells #[.int .i64 xb, .int .i64 yb] 26)).alloc (.cells #[.int .i64 xc, .int .i64 yc] 26)).cell? ⟨w.heap.size, 0, none⟩ = some (.int .i64 xa) := by go_simp
          have k1 : (((w.alloc (.cells #[.int .i64 xa, .int .i64 ya] 26)).alloc (.cells #[.int .i64 xb, .int .i64 yb] 26)).alloc (.cells #[.int .i64 xc, .int .i64 yc] 26)).cell? ⟨w.heap.size, 1, none⟩ = some (.int .i64 ya) := by go_simp
          have k2 : (((w.alloc (.cells #[.int .i64 xa, .int .i64 ya] 26)).alloc (.cells #[.int .i64 xb, .int .i64 yb] 26)).alloc (.cells #[.int .i64 xc, .int .i64 yc] 26)).cell? ⟨w.heap.size + 1, 0, none⟩ = some (.int .i64 xb) := by go_simp
          have k3 : (((w.alloc (.cells #[.int .i64 xa, .int .i64 ya] 26)).alloc (.cells #[.int .i64 xb, .int .i64 yb] 26)).alloc (.cells #[.int .i64 xc, .int .i64 yc] 26)).cell? ⟨w.heap.size + 1, 1, none⟩ = some (.int .i64 yb) := by go_simp
          have k4 : (((w.alloc (.cells #[.int .i64 xa, .int .i64 ya] 26)).alloc (.cells #[.int .i64 xb, .int .i64 yb] 26)).alloc (.cells #[.int .i64 xc, .int .i64 yc] 26)).cell? ⟨w.heap.size + 2, 0, none⟩ = some (.int .i64 xc) := by go_simp
          have k5 : (((w.alloc (.cells #[.int .i64 xa, .int .i64 ya] 26)).alloc (.cells #[.int .i64 xb, .int .i64 yb] 26)).alloc (.cells #[.int .i64 xc, .int .i64 yc] 26)).cell? ⟨w.heap.size + 2, 1, none⟩ = some (.int .i64 yc) := by go_simp
          have g0 : Own w (((w.alloc (.cells #[.int .i64 xa, .int .i64 ya] 26)).alloc (.cells #[.int .i64 xb, .int .i64 yb] 26)).alloc (.cells #[.int .i64 xc, .int .i64 yc] 26)) := ((((Own.refl w).alloc _).alloc _).alloc _)
          generalize hW : (((w.alloc (.cells #[.int .i64 xa, .int .i64 ya] 26)).alloc (.cells #[.int .i64 xb, .int .i64 yb] 26)).alloc (.cells #[.int .i64 xc, .int .i64 yc] 26)) = W0 at *
          clear hW
          go_wp2_with (first | (go_at_call 86; (first | (with_reducible refine (pvalid_at (xa, ya) _ _ HP0).mono ?_) | (with_reducible refine (pvalid_at (xb, yb) _ _ HP1).mono ?_) | (with_reducible refine (pvalid_at (xc, yc) _ _ HP2).mono ?_)); rintro e w1 ⟨rfl, hg⟩; replace k0 := hg.cell k0; replace k1 := hg.cell k1; replace k2 := hg.cell k2; replace k3 := hg.cell k3; replace k4 := hg.cell k4; replace k5 := hg.cell k5; replace g0 : Own w w1 := Own.trans (by first | exact g0 | exact Own.drewN g0 _) hg; clear hg) | (go_at_call 87; (with_reducible refine (pradius_at r _ _ HR).mono ?_); rintro e w1 ⟨rfl, rfl⟩))
          go_ret2
          exact ⟨rfl, g0⟩
        · skip
          have h0 := small_of ht0
          have h1 := small_of ht1
          have h2 := small_of ht2
          have hr := (okR_iff r).1 ht3
          clear ht0 ht1 ht2 ht3
          rw [show (true && true && (true && true) && nearB p a b r) = nearB p a b r from rfl, ← near_least]
          have w1h := wide_sub h1 h0
          have w2h := wide_sub h2 h0
          have w3h := wide_sub2 h2 h1 h0
          replace h0 := wide_small h0
          replace h1 := wide_small h1
          replace h2 := wide_small h2
          obtain ⟨⟨gx, gy⟩, hg⟩ : ∃ g, sub a p = g := ⟨_, rfl⟩
          obtain ⟨⟨ix, iy⟩, hi⟩ : ∃ g, sub b p = g := ⟨_, rfl⟩
          rw [hg] at w1h w3h ⊢
          rw [hi] at w2h w3h ⊢
          obtain ⟨s, hs⟩ : ∃ s, leastV (gx, gy) (ix, iy) r = s := ⟨_, rfl⟩
          rw [hs]
          obtain ⟨tz, htz⟩ : ∃ t, decide (s ≤ 0) = t := ⟨_, rfl⟩
          rw [htz]
          have HZ := Lib.hid htz
          clear htz
          have HG := Lib.hid hg
          have HI := Lib.hid hi
          have HS := Lib.hid hs
          clear hs hg hi
          have hr2 : 0 ≤ r ∧ r ≤ 65536 := by omega
          clear hr
          obtain ⟨xa, ya⟩ := p
          obtain ⟨xb, yb⟩ := a
          obtain ⟨xc, yc⟩ := b
          go_enter Tryd.func66, Tryd.ntmps66
          go_upto_region 1 with (fail)
          have k0 : (((w.alloc (.cells #[.int .i64 xa, .int .i64 ya] 26)).alloc (.cells #[.int .i64 xb, .int .i64 yb] 26)).alloc (.cells #[.int .i64 xc, .int .i64 yc] 26)).cell? ⟨w.heap.size, 0, none⟩ = some (.int .i64 xa) := by go_simp
          have k1 : (((w.alloc (.cells #[.int .i64 xa, .int .i64 ya] 26)).alloc (.cells #[.int .i64 xb, .int .i64 yb] 26)).alloc (.cells #[.int .i64 xc, .int .i64 yc] 26)).cell? ⟨w.heap.size, 1, none⟩ = some (.int .i64 ya) := by go_simp
          have k2 : (((w.alloc (.cells #[.int .i64 xa, .int .i64 ya] 26)).alloc (.cells #[.int .i64 xb, .int .i64 yb] 26)).alloc (.cells #[.int .i64 xc, .int .i64 yc] 26)).cell? ⟨w.heap.size + 1, 0, none⟩ = some (.int .i64 xb) := by go_simp
          have k3 : (((w.alloc (.cells #[.int .i64 xa, .int .i64 ya] 26)).alloc (.cells #[.int .i64 xb, .int .i64 yb] 26)).alloc (.cells #[.int .i64 xc, .int .i64 yc] 26)).cell? ⟨w.heap.size + 1, 1, none⟩ = some (.int .i64 yb) := by go_simp
          have k4 : (((w.alloc (.cells #[.int .i64 xa, .int .i64 ya] 26)).alloc (.cells #[.int .i64 xb, .int .i64 yb] 26)).alloc (.cells #[.int .i64 xc, .int .i64 yc] 26)).cell? ⟨w.heap.size + 2, 0, none⟩ = some (.int .i64 xc) := by go_simp
          have k5 : (((w.alloc (.cells #[.int .i64 xa, .int .i64 ya] 26)).alloc (.cells #[.int .i64 xb, .int .i64 yb] 26)).alloc (.cells #[.int .i64 xc, .int .i64 yc] 26)).cell? ⟨w.heap.size + 2, 1, none⟩ = some (.int .i64 yc) := by go_simp
          have g0 : Own w (((w.alloc (.cells #[.int .i64 xa, .int .i64 ya] 26)).alloc (.cells #[.int .i64 xb, .int .i64 yb] 26)).alloc (.cells #[.int .i64 xc, .int .i64 yc] 26)) := ((((Own.refl w).alloc _).alloc _).alloc _)
          generalize hW : (((w.alloc (.cells #[.int .i64 xa, .int .i64 ya] 26)).alloc (.cells #[.int .i64 xb, .int .i64 yb] 26)).alloc (.cells #[.int .i64 xc, .int .i64 yc] 26)) = W0 at *
          clear hW
          go_upto_region 3 with (first | (go_at_call 86; (first | (with_reducible refine (pvalid_at (xa, ya) _ _ HP0).mono ?_) | (with_reducible refine (pvalid_at (xb, yb) _ _ HP1).mono ?_) | (with_reducible refine (pvalid_at (xc, yc) _ _ HP2).mono ?_)); rintro e w1 ⟨rfl, hg⟩; replace k0 := hg.cell k0; replace k1 := hg.cell k1; replace k2 := hg.cell k2; replace k3 := hg.cell k3; replace k4 := hg.cell k4; replace k5 := hg.cell k5; replace g0 : Own w w1 := Own.trans (by first | exact g0 | exact Own.drewN g0 _) hg; clear hg) | (go_at_call 87; (with_reducible refine (pradius_at r _ _ HR).mono ?_); rintro e w1 ⟨rfl, rfl⟩))
          have c0 : ∀ x : After w1, x.w.cell? ⟨w.heap.size, 0, none⟩ = some (.int .i64 xa) := fun x => x.o.cell k0
          have c1 : ∀ x : After w1, x.w.cell? ⟨w.heap.size, 1, none⟩ = some (.int .i64 ya) := fun x => x.o.cell k1
          have c2 : ∀ x : After w1, x.w.cell? ⟨w.heap.size + 1, 0, none⟩ = some (.int .i64 xb) := fun x => x.o.cell k2
          have c3 : ∀ x : After w1, x.w.cell? ⟨w.heap.size + 1, 1, none⟩ = some (.int .i64 yb) := fun x => x.o.cell k3
          have c4 : ∀ x : After w1, x.w.cell? ⟨w.heap.size + 2, 0, none⟩ = some (.int .i64 xc) := fun x => x.o.cell k4
          have c5 : ∀ x : After w1, x.w.cell? ⟨w.heap.size + 2, 1, none⟩ = some (.int .i64 yc) := fun x => x.o.cell k5
          clear k0 k1 k2 k3 k4 k5
          refine region_after w1 (by kernel_rfl) (by kernel_rfl) ?_
          repeat (first | go_big_quiet_step ((first | (go_at_call 89; (first | (with_reducible refine (pminus_at (xb, yb) (xa, ya) (gx, gy) _ HG h1 h0).mono ?_) | (with_reducible refine (pminus_at (xc, yc) (xa, ya) (ix, iy) _ HI h2 h0).mono ?_)); rintro e w2 ⟨rfl, hg⟩; exact ⟨rfl, ⟨w2, (After.o _).trans hg⟩, rfl⟩) | (go_at_call 88; (first | (with_reducible refine (pleast_at (gx, gy) (ix, iy) r s _ HS w1h w2h w3h hr2).mono ?_)); rintro e w2 ⟨rfl, hg⟩; exact ⟨rfl, ⟨w2, (After.o _).trans hg⟩, rfl⟩))) | quiet_step ((first | (go_at_call 89; (first | (with_reducible refine (pminus_at (xb, yb) (xa, ya) (gx, gy) _ HG h1 h0).mono ?_) | (with_reducible refine (pminus_at (xc, yc) (xa, ya) (ix, iy) _ HI h2 h0).mono ?_)); rintro e w2 ⟨rfl, hg⟩; exact ⟨rfl, ⟨w2, (After.o _).trans hg⟩, rfl⟩) | (go_at_call 88; (first | (with_reducible refine (pleast_at (gx, gy) (ix, iy) r s _ HS w1h w2h w3h hr2).mono ?_)); rintro e w2 ⟨rfl, hg⟩; exact ⟨rfl, ⟨w2, (After.o _).trans hg⟩, rfl⟩))))
          refine wpQuiet_nil ?_
          rintro _ ⟨x, rfl⟩
          replace g0 := g0.trans x.o
          generalize x.w = w3 at *
          cases tz
          · have hz : ¬ s ≤ 0 := of_decide_eq_false HZ.out
            go_wp2
            go_ret2
            exact ⟨rfl, g0⟩
          · have hz : s ≤ 0 := of_decide_eq_true HZ.out
            go_wp2
            go_ret2
            exact ⟨rfl, g0⟩
theorem pnear_at (p a b : Pt) (r : Int) (t : Bool) (f : Int) (w : World) (H : Hid (nrV p a b r = t ∧ nrE p a b r = f)) :
    Calls Tryd.prog 66 #[.agg #[.int .i64 p.1, .int .i64 p.2], .agg #[.int .i64 a.1, .int .i64 a.2], .agg #[.int .i64 b.1, .int .i64 b.2], .int .i64 r] w fun e w' => e = .returned (.tuple #[.bool t, .int .i64 f]) ∧ Own w w' := by
  obtain ⟨rfl, rfl⟩ := H.out
  exact pnear_any p a b r w
end Go.Proofs.YtighpjhipgobiaaDoor.GeoW
