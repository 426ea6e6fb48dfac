/-
  Two words divided by one word, a half word of the quotient after the other, as plain mathematics. No word of the program. Condition: none.
-/
import Derived.Test.YtmliajkbknjacaaPairs
namespace Go.Proofs.Ytmliajkbknjacaa.DivP
/-- The estimate of a half word: what the loop keeps. -/
structure Est (U c a b q r : Nat) : Prop where
  sum : q * a + r = U
  up : (U * 4294967296 + c) / (a * 4294967296 + b) ≤ q
/-- What the loop is about. -/
structure Wd (U c a b : Nat) : Prop where
  a0 : 2147483648 ≤ a
  a1 : a < 4294967296
  b1 : b < 4294967296
  c1 : c < 4294967296
  u1 : U < a * 4294967296 + b
section
variable {U c a b q r : Nat}
def quo (U c a b : Nat) : Nat := (U * 4294967296 + c) / (a * 4294967296 + b)
def rst (U c a b : Nat) : Nat := (U * 4294967296 + c) % (a * 4294967296 + b)
theorem Wd.pos (h : Wd U c a b) : 0 < a * 4294967296 + b := by have := h.a0; omega
theorem Wd.first (h : Wd U c a b) : Est U c a b (U / a) (U % a) := by
  have h0 := h.a0
  refine ⟨by rw [Nat.mul_comm]; exact Nat.div_add_mod U a, ?_⟩
  refine Nat.le_of_lt_succ (Nat.div_lt_of_lt_mul ?_)
  have hm := Nat.div_add_mod U a
  have hr := Nat.mod_lt U (show 0 < a by omega)
  have hc := h.c1
  rw [Nat.succ_eq_add_one, Nat.mul_add, Nat.mul_one, Nat.add_mul]
  have e : a * 4294967296 * (U / a) = 4294967296 * (a * (U / a)) := by rw [Nat.mul_comm a, Nat.mul_assoc]
  rw [e]
  have : 0 ≤ b * (U / a) := Nat.zero_le _
  omega
theorem Wd.lt (h : Wd U c a b) : quo U c a b < 4294967296 := by
  refine Nat.div_lt_of_lt_mul ?_
  have := h.u1
  have := h.c1
  omega
theorem Wd.big (h : Wd U c a b) (hq : 4294967296 ≤ q) : quo U c a b < q := Nat.lt_of_lt_of_le h.lt hq
theorem eqq (a b q : Nat) : q * (a * 4294967296 + b) = q * a * 4294967296 + q * b := by rw [Nat.mul_add, Nat.mul_assoc]
theorem Wd.great (h : Wd U c a b) (e : Est U c a b q r) (hq : 4294967296 * r + c < q * b) : quo U c a b < q := by
  refine (Nat.div_lt_iff_lt_mul h.pos).2 ?_
  rw [eqq]
  have := e.sum
  omega
theorem Wd.stop (h : Wd U c a b) (e : Est U c a b q r) (hq : q * b ≤ 4294967296 * r + c) : q = quo U c a b := by
  refine Nat.le_antisymm ?_ e.up
  refine (Nat.le_div_iff_mul_le h.pos).2 ?_
  rw [eqq]
  have := e.sum
  omega
theorem Wd.low (h : Wd U c a b) (e : Est U c a b q r) (hr : 4294967296 ≤ r) : q = quo U c a b := by
  have hb := h.b1
  have h1 : q < 4294967296 := by
    refine Nat.lt_of_not_le fun k => ?_
    have : 4294967296 * a ≤ q * a := Nat.mul_le_mul_right a k
    have := e.sum
    have := h.u1
    omega
  refine h.stop e ?_
  have : q * b ≤ 4294967295 * 4294967295 := Nat.mul_le_mul (by omega) (by omega)
  omega
theorem Est.next (e : Est U c a b q r) (hq : quo U c a b < q) : Est U c a b (q - 1) (r + a) := by
  obtain ⟨k, rfl⟩ : ∃ k, q = k + 1 := ⟨q - 1, by omega⟩
  refine ⟨?_, by have : (U * 4294967296 + c) / (a * 4294967296 + b) < k + 1 := hq; omega⟩
  have := e.sum
  rw [Nat.add_mul] at this
  rw [Nat.add_sub_cancel]
  omega
theorem rst_eq (U c a b : Nat) : quo U c a b * (a * 4294967296 + b) + rst U c a b = U * 4294967296 + c := by
  rw [Nat.mul_comm]; exact Nat.div_add_mod _ _
theorem Wd.rst_lt (h : Wd U c a b) : rst U c a b < a * 4294967296 + b := Nat.mod_lt _ h.pos
end
/-- What is shifted: the divisor of 64 bits, the dividend's words. -/
structure Sft (hi lo y s Y U V : Nat) : Prop where
  ey : Y = y * 2 ^ s
  y0 : 9223372036854775808 ≤ Y
  y1 : Y < 18446744073709551616
  eu : U * 18446744073709551616 + V = (hi * 18446744073709551616 + lo) * 2 ^ s
  u1 : U < Y
  v1 : V < 18446744073709551616
section
variable {hi lo y s Y U V : Nat}
theorem Sft.wd1 (h : Sft hi lo y s Y U V) : Wd U (V / 4294967296) (Y / 4294967296) (Y % 4294967296) := by
  have := h.y0; have := h.y1; have := h.u1; have := h.v1
  exact ⟨by omega, by omega, by omega, by omega, by omega⟩
theorem Sft.yy (Y : Nat) : Y / 4294967296 * 4294967296 + Y % 4294967296 = Y := by omega
/-- The first half word, what it leaves, and the second. -/
def q1 (Y U V : Nat) : Nat := quo U (V / 4294967296) (Y / 4294967296) (Y % 4294967296)
def u2 (Y U V : Nat) : Nat := rst U (V / 4294967296) (Y / 4294967296) (Y % 4294967296)
def q0 (Y U V : Nat) : Nat := quo (u2 Y U V) (V % 4294967296) (Y / 4294967296) (Y % 4294967296)
def r0 (Y U V : Nat) : Nat := rst (u2 Y U V) (V % 4294967296) (Y / 4294967296) (Y % 4294967296)
theorem Sft.e1 (Y U V : Nat) : q1 Y U V * Y + u2 Y U V = U * 4294967296 + V / 4294967296 := by
  have := rst_eq U (V / 4294967296) (Y / 4294967296) (Y % 4294967296)
  rw [Sft.yy] at this
  exact this
theorem Sft.u2_lt (h : Sft hi lo y s Y U V) : u2 Y U V < Y := by
  have := h.wd1.rst_lt
  rw [Sft.yy] at this
  exact this
theorem Sft.wd2 (h : Sft hi lo y s Y U V) : Wd (u2 Y U V) (V % 4294967296) (Y / 4294967296) (Y % 4294967296) := by
  have := h.y0; have := h.y1; have := h.u2_lt
  exact ⟨by omega, by omega, by omega, by omega, by omega⟩
theorem Sft.e2 (Y U V : Nat) : q0 Y U V * Y + r0 Y U V = u2 Y U V * 4294967296 + V % 4294967296 := by
  have := rst_eq (u2 Y U V) (V % 4294967296) (Y / 4294967296) (Y % 4294967296)
  rw [Sft.yy] at this
  exact this
theorem Sft.r0_lt (h : Sft hi lo y s Y U V) : r0 Y U V < Y := by
  have := h.wd2.rst_lt
  rw [Sft.yy] at this
  exact this
theorem Sft.all (Y U V : Nat) : Y * (q1 Y U V * 4294967296 + q0 Y U V) + r0 Y U V = U * 18446744073709551616 + V := by
  have a := Sft.e1 Y U V
  have b := Sft.e2 Y U V
  rw [Nat.mul_comm Y, Nat.add_mul, Nat.mul_right_comm]
  omega
theorem Sft.res (h : Sft hi lo y s Y U V) (hy : 0 < y) : (hi * 18446744073709551616 + lo) / y = q1 Y U V * 4294967296 + q0 Y U V ∧ (hi * 18446744073709551616 + lo) % y = r0 Y U V / 2 ^ s := by
  have hp : 0 < 2 ^ s := Nat.two_pow_pos s
  have e := Sft.all Y U V
  rw [h.eu] at e
  obtain ⟨X, hX⟩ : ∃ X, hi * 18446744073709551616 + lo = X := ⟨_, rfl⟩
  obtain ⟨Q, hQ⟩ : ∃ Q, q1 Y U V * 4294967296 + q0 Y U V = Q := ⟨_, rfl⟩
  have hr := h.r0_lt
  obtain ⟨R, hR⟩ : ∃ R, r0 Y U V = R := ⟨_, rfl⟩
  rw [hX, hQ, hR] at e
  rw [hR, h.ey] at hr
  rw [hX, hQ, hR]
  rw [h.ey] at e
  have e2 : y * Q * 2 ^ s + R = X * 2 ^ s := by rw [← e, Nat.mul_right_comm]
  have hle : y * Q ≤ X := by
    have : y * Q * 2 ^ s ≤ X * 2 ^ s := by omega
    exact Nat.le_of_mul_le_mul_right this hp
  have e3 : R = (X - y * Q) * 2 ^ s := by rw [Nat.sub_mul]; omega
  have hlt : X - y * Q < y := by
    rw [e3] at hr
    exact Nat.lt_of_mul_lt_mul_right hr
  have e4 : X = y * Q + (X - y * Q) := by omega
  constructor
  · rw [e4, Nat.mul_add_div hy, Nat.div_eq_of_lt hlt]; omega
  · rw [e3, Nat.mul_div_cancel _ hp]
    rw [e4, Nat.mul_add_mod, Nat.mod_eq_of_lt hlt]
    omega
end
/-- The shift by the leading zeros. -/
theorem sft_mk {hi lo y s n : Nat} (hy : hi < y) (hl : lo < 18446744073709551616) (hn0 : 1 ≤ n) (hn1 : n ≤ 64) (ha : 2 ^ (n - 1) ≤ y) (hb : y < 2 ^ n) (hs : 64 - n = s) :
    Sft hi lo y s (y * 2 ^ s) (hi * 2 ^ s + lo / 2 ^ (64 - s)) (lo * 2 ^ s % 18446744073709551616) := by
  have hp : 0 < 2 ^ s := Nat.two_pow_pos s
  have w64 : (18446744073709551616 : Nat) = 2 ^ s * 2 ^ (64 - s) := by rw [← Nat.pow_add, show s + (64 - s) = 64 by omega]
  have e0 : lo * 2 ^ s / 18446744073709551616 = lo / 2 ^ (64 - s) := by
    rw [w64, Nat.mul_comm lo, Nat.mul_div_mul_left _ _ hp]
  have e1 := Nat.div_add_mod (lo * 2 ^ s) 18446744073709551616
  rw [e0] at e1
  have y1 : y * 2 ^ s < 18446744073709551616 := by
    have : y * 2 ^ s < 2 ^ n * 2 ^ s := Nat.mul_lt_mul_of_pos_right hb hp
    rw [← Nat.pow_add, show n + s = 64 by omega] at this
    exact this
  have y0 : 9223372036854775808 ≤ y * 2 ^ s := by
    have : 2 ^ (n - 1) * 2 ^ s ≤ y * 2 ^ s := Nat.mul_le_mul_right _ ha
    rw [← Nat.pow_add, show n - 1 + s = 63 by omega] at this
    exact this
  have l1 : lo / 2 ^ (64 - s) < 2 ^ s := by
    refine Nat.div_lt_of_lt_mul ?_
    rw [Nat.mul_comm, ← w64]
    exact hl
  refine ⟨rfl, y0, y1, ?_, ?_, Nat.mod_lt _ (by decide)⟩
  · rw [Nat.add_mul (hi * _) lo, Nat.add_mul (hi * 2 ^ s), Nat.mul_right_comm hi]
    omega
  · have : (hi + 1) * 2 ^ s ≤ y * 2 ^ s := Nat.mul_le_mul_right _ hy
    rw [Nat.add_mul] at this
    omega
end Go.Proofs.Ytmliajkbknjacaa.DivP
