/-
  Plain mathematics of layer angle (no Go): a turned and rounded point is as far from the origin as the point, to three units. Condition: none.
-/
import Derived.Test.YtcchenfagkohdaaDoorAnglePlain
namespace Go.Proofs.YtcchenfagkohdaaDoor.AngP
open NumP

theorem sq_nonneg (x : Int) : 0 ≤ x * x := by
  rcases Int.le_total 0 x with h | h
  · exact Int.mul_nonneg h h
  · exact Int.mul_nonneg_of_nonpos_of_nonpos h h
theorem sqa (x y : Int) : (x + y) * (x + y) = x * x + (x * y + x * y) + y * y := by rw [Int.add_mul, Int.mul_add, Int.mul_add, Int.mul_comm y x]; omega
theorem sqs (x y : Int) : (x - y) * (x - y) = x * x - (x * y + x * y) + y * y := by rw [Int.sub_mul, Int.mul_sub, Int.mul_sub, Int.mul_comm y x]; omega
theorem mm (a b c d : Int) : a * b * (c * d) = a * c * (b * d) := by rw [Int.mul_assoc, Int.mul_assoc, Int.mul_left_comm b c d]
theorem sq_le {x y : Int} (h0 : 0 ≤ x) (h : x ≤ y) : x * x ≤ y * y := Int.mul_le_mul h h h0 (by omega)
/-- What a bound of Q * d by the error's two parts gives for d's square. -/
theorem len_sq (n w d r : Int) (hn : 0 ≤ n) (hr : n ≤ r) (hw : w * w ≤ n * 36031926190931968) (hd : 0 ≤ d) (h : 268435456 * d ≤ 23172 * n + 2 * w) :
    144115188075855872 * (d * d) ≤ 1610824752 * (n * r) + 864766228582367232 * n := by
  have h1 := sq_le (x := 268435456 * d) (by omega) h
  have h2 := sq_nonneg (23172 * n - 4 * w)
  have e1 : (268435456 * d) * (268435456 * d) = 72057594037927936 * (d * d) := by rw [mm]; omega
  have e2 : 2 * ((23172 * n + 2 * w) * (23172 * n + 2 * w)) + (23172 * n - 4 * w) * (23172 * n - 4 * w) = 1610824752 * (n * n) + 24 * (w * w) := by rw [sqa, sqs, mm 23172 n 23172 n, mm 2 w 2 w, mm 4 w 4 w, mm 23172 n 2 w, mm 23172 n 4 w]; omega
  have h3 : n * n ≤ n * r := Int.mul_le_mul_of_nonneg_left hr hn
  rw [e1] at h1
  generalize (23172 * n + 2 * w) * (23172 * n + 2 * w) = t at *
  generalize (23172 * n - 4 * w) * (23172 * n - 4 * w) = u at *
  generalize n * n = nn at *
  generalize n * r = nr at *
  generalize w * w = ww at *
  generalize d * d = dd at *
  omega
def nearOk (n m : Int) : Prop := m - n - 9 ≤ 0 ∨ m - n - 9 ≤ 4000000 ∧ (m - n - 9) * (m - n - 9) ≤ 36 * n
theorem len_up (n m z w e : Int) (hn : 0 ≤ n) (hr : n ≤ 2147483648) (hw : w * w ≤ n * 36031926190931968) (hz : z ≤ 23172 * n) (he : e ≤ 134217728) (hm : 268435456 * m = 268435456 * n + z + 2 * w + e) : nearOk n m := by
  unfold nearOk
  by_cases c : m - n - 9 ≤ 0
  · exact Or.inl c
  · refine Or.inr ?_
    obtain ⟨d, hd⟩ : ∃ d, m - n - 9 = d := ⟨_, rfl⟩
    rw [hd] at c ⊢
    have h := len_sq n w d 2147483648 hn hr hw (by omega) (by omega)
    have h2 : d * d ≤ 36 * n := by
      generalize d * d = dd at *
      omega
    refine ⟨?_, h2⟩
    by_cases g : d ≤ 4000000
    · exact g
    · have := sq_le (x := 4000000) (y := d) (by decide) (by omega)
      generalize d * d = dd at *
      omega
theorem len_down (n m z w e : Int) (hn : 0 ≤ n) (hr : n ≤ 2147483648) (hm0 : 0 ≤ m) (hw : w * w ≤ n * 36031926190931968) (hz : -(23172 * n) ≤ z) (he : 0 ≤ e) (hm : 268435456 * m = 268435456 * n + z + 2 * w + e) : nearOk m n := by
  unfold nearOk
  by_cases c : n - m - 9 ≤ 0
  · exact Or.inl c
  · refine Or.inr ?_
    obtain ⟨g, hg⟩ : ∃ g, n - m = g := ⟨_, rfl⟩
    have hw' : -w * -w ≤ n * 36031926190931968 := by rw [Int.neg_mul_neg]; exact hw
    have key : (g + 9) * (g + 9) ≤ 36 * n := by
      have e9 : (g + 9) * (g + 9) = g * g + 18 * g + 81 := by rw [sqa]; omega
      rw [e9]
      by_cases c4 : 400 ≤ n
      · have h := len_sq n (-w) g 2147483648 hn hr hw' (by omega) (by omega)
        have h2 := sq_nonneg (g - 90)
        have e2 : (g - 90) * (g - 90) = g * g - 180 * g + 8100 := by rw [sqs]; omega
        rw [e2] at h2
        generalize g * g = gg at *
        omega
      · have h := len_sq n (-w) g 400 hn (by omega) hw' (by omega) (by omega)
        have h2 := sq_nonneg (g - 9)
        have e2 : (g - 9) * (g - 9) = g * g - 18 * g + 81 := by rw [sqs]; omega
        rw [e2] at h2
        generalize g * g = gg at *
        omega
    have h3 : (n - m - 9) * (n - m - 9) ≤ 36 * m := by
      have e3 : (n - m - 9) * (n - m - 9) = (g + 9) * (g + 9) - 36 * g := by rw [hg]; rw [sqs, sqa]; omega
      rw [e3]
      omega
    refine ⟨?_, h3⟩
    by_cases g4 : n - m - 9 ≤ 4000000
    · exact g4
    · have := sq_le (x := 4000000) (y := n - m - 9) (by decide) (by omega)
      generalize (n - m - 9) * (n - m - 9) = dd at *
      omega
theorem sq_bd {x m : Int} (h : -m ≤ x ∧ x ≤ m) : x * x ≤ m * m := by
  have h1 : x * x = (x.natAbs : Int) * (x.natAbs : Int) := by rw [← Int.natCast_mul, Int.natAbs_mul_self]
  rw [h1]
  exact Int.mul_le_mul (by omega) (by omega) (by omega) (by omega)
/-- Lagrange: the square of a sum of two products. -/
theorem lagrange (a b c d : Int) : (a * c + b * d) * (a * c + b * d) + (a * d - b * c) * (a * d - b * c) = (a * a + b * b) * (c * c + d * d) := by rw [sqa, sqs, mm a c a c, mm b d b d, mm a d a d, mm b c b c, mm a c b d, mm a d b c, Int.mul_comm d c, Int.add_mul, Int.mul_add, Int.mul_add]; omega
theorem len_both {x y : Int} (h : inMM x y = true) (a : Int) :
    nearOk (x * x + y * y) (turX x y a * turX x y a + turY x y a * turY x y a) ∧ nearOk (turX x y a * turX x y a + turY x y a * turY x y a) (x * x + y * y) ∧
    (-100000 ≤ turX x y a ∧ turX x y a ≤ 100000) ∧ (-100000 ≤ turY x y a ∧ turY x y a ≤ 100000) := by
  obtain ⟨hx, hy⟩ := (inMM_iff x y).1 h
  obtain ⟨b1, b2, b3, b4⟩ := tur_bds h a
  have f := (sin_facts a).2.2.2.1
  obtain ⟨p1, p2, _, _⟩ := near_spec (x * cosV a + y * sinV a) 16384 (by decide)
  obtain ⟨q1, q2, _, _⟩ := near_spec (y * cosV a - x * sinV a) 16384 (by decide)
  have eX : turX x y a = nearV (x * cosV a + y * sinV a) 16384 := rfl
  have eY : turY x y a = nearV (y * cosV a - x * sinV a) 16384 := rfl
  rw [← eX] at p1 p2
  rw [← eY] at q1 q2
  generalize turX x y a = X at *
  generalize turY x y a = Y at *
  clear eX eY
  have hX : -100000 ≤ X ∧ X ≤ 100000 := by
    generalize x * cosV a = t1 at *
    generalize y * sinV a = t2 at *
    omega
  have hY : -100000 ≤ Y ∧ Y ≤ 100000 := by
    generalize y * cosV a = t1 at *
    generalize x * sinV a = t2 at *
    omega
  clear b1 b2 b3 b4
  generalize cosV a = c at *
  generalize sinV a = s at *
  obtain ⟨u, hu⟩ : ∃ u, x * c + y * s = u := ⟨_, rfl⟩
  obtain ⟨v, hv⟩ : ∃ v, y * c - x * s = v := ⟨_, rfl⟩
  rw [hu] at p1 p2
  rw [hv] at q1 q2
  obtain ⟨e1, he1⟩ : ∃ e1, X * 16384 - u = e1 := ⟨_, rfl⟩
  obtain ⟨e2, he2⟩ : ∃ e2, Y * 16384 - v = e2 := ⟨_, rfl⟩
  have r1 : -8192 ≤ e1 ∧ e1 ≤ 8192 := by omega
  have r2 : -8192 ≤ e2 ∧ e2 ≤ 8192 := by omega
  have E1 := sq_bd (m := 8192) r1
  have E2 := sq_bd (m := 8192) r2
  have N1 := sq_bd (m := 32768) hx
  have N2 := sq_bd (m := 32768) hy
  have n1 := sq_nonneg x
  have n2 := sq_nonneg y
  have n3 := sq_nonneg e1
  have n4 := sq_nonneg e2
  have n5 := sq_nonneg X
  have n6 := sq_nonneg Y
  have uv : u * u + v * v = (x * x + y * y) * (s * s + c * c) := by rw [← hu, ← hv]; rw [sqa, sqs, mm x c x c, mm y s y s, mm y c y c, mm x s x s, mm x c y s, mm y c x s, Int.mul_comm y x, Int.add_mul, Int.mul_add, Int.mul_add]; omega
  obtain ⟨n, hn⟩ : ∃ n, x * x + y * y = n := ⟨_, rfl⟩
  obtain ⟨k, hk⟩ : ∃ k, s * s + c * c - 268435456 = k := ⟨_, rfl⟩
  obtain ⟨w, hw⟩ : ∃ w, u * e1 + v * e2 = w := ⟨_, rfl⟩
  obtain ⟨e, he⟩ : ∃ e, e1 * e1 + e2 * e2 = e := ⟨_, rfl⟩
  rw [hk] at f
  have hsc : s * s + c * c = 268435456 + k := by omega
  rw [hn, hsc] at uv
  have hn0 : 0 ≤ n := by omega
  have hn1 : n ≤ 2147483648 := by omega
  have he0 : 0 ≤ e := by omega
  have he3 : e ≤ 134217728 := by omega
  have z1 : n * k ≤ 23172 * n := by rw [Int.mul_comm]; exact Int.mul_le_mul_of_nonneg_right f.2 hn0
  have z2 : -(23172 * n) ≤ n * k := by rw [Int.mul_comm n, ← Int.neg_mul]; exact Int.mul_le_mul_of_nonneg_right f.1 hn0
  have hm : 268435456 * (X * X + Y * Y) = 268435456 * n + n * k + 2 * w + e := by
    have g1 : 268435456 * (X * X + Y * Y) = (X * 16384) * (X * 16384) + (Y * 16384) * (Y * 16384) := by rw [mm X 16384 X 16384, mm Y 16384 Y 16384]; omega
    rw [g1, show X * 16384 = u + e1 by omega, show Y * 16384 = v + e2 by omega, ← hw, ← he]
    have g2 : (u + e1) * (u + e1) + (v + e2) * (v + e2) = (u * u + v * v) + 2 * (u * e1 + v * e2) + (e1 * e1 + e2 * e2) := by rw [sqa, sqa]; omega
    rw [g2, uv, Int.mul_add, Int.mul_comm n 268435456]
  have ww : w * w ≤ n * 36031926190931968 := by
    have l := lagrange u v e1 e2
    rw [hw, he, uv] at l
    have l2 := sq_nonneg (u * e2 - v * e1)
    have l3 : n * (268435456 + k) ≤ n * 268458628 := Int.mul_le_mul_of_nonneg_left (by omega) hn0
    have l4 : n * (268435456 + k) * e ≤ n * 268458628 * 134217728 := Int.mul_le_mul l3 he3 he0 (by omega)
    generalize n * (268435456 + k) * e = t at *
    generalize (u * e2 - v * e1) * (u * e2 - v * e1) = t2 at *
    omega
  rw [hn]
  exact ⟨len_up n _ (n * k) w e hn0 hn1 ww z1 he3 hm, len_down n _ (n * k) w e hn0 hn1 (by omega) ww z2 he0 hm, hX, hY⟩
end Go.Proofs.YtcchenfagkohdaaDoor.AngP
