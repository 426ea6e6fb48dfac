/-
  Plain mathematics of layer angle (no Go): normal forms, the table of sines, ways between angles, turned points. Condition: none.
-/
import Derived.Test.YtbcoknlkncnmfaaDoorNumPlain
namespace Go.Proofs.YtbcoknlkncnmfaaDoor.AngP
open NumP

/-! ### The table -/
def tabS : List Int := [
  0, 402, 804, 1205, 1606, 2006, 2404, 2801,
  3196, 3590, 3981, 4370, 4756, 5139, 5520, 5897,
  6270, 6639, 7005, 7366, 7723, 8076, 8423, 8765,
  9102, 9434, 9760, 10080, 10394, 10702, 11003, 11297,
  11585, 11866, 12140, 12406, 12665, 12916, 13160, 13395,
  13623, 13842, 14053, 14256, 14449, 14635, 14811, 14978,
  15137, 15286, 15426, 15557, 15679, 15791, 15893, 15986,
  16069, 16143, 16207, 16261, 16305, 16340, 16364, 16379,
  16384]
def tabN (k : Nat) : Int := tabS.getD k 0
/-- The sine of a normal form. -/
def sinN (n : Nat) : Int := if n ≤ 64 then tabN n else if n ≤ 128 then tabN (128 - n) else if n ≤ 192 then -tabN (n - 128) else -tabN (256 - n)
def sinV (a : Int) : Int := sinN (a % 256).toNat
def cosV (a : Int) : Int := sinV (a % 256 + 64)
theorem sinV_mod (a : Int) : sinV (a % 256) = sinV a := by unfold sinV; rw [Int.emod_emod_of_dvd _ (Int.dvd_refl _)]
theorem sinV_eq {a b : Int} (h : a % 256 = b % 256) : sinV a = sinV b := by unfold sinV; rw [h]
theorem cosV_sin (a : Int) : cosV a = sinV (a + 64) := by unfold cosV; exact sinV_eq (by omega)

/-! ### What a look at each of the 256 angles tells -/
def chk (n : Nat) : Bool :=
  decide (sinV (-(n : Int)) = -sinV n) && decide (sinV (n + 128) = -sinV n) &&
  decide (-16384 ≤ sinV n) && decide (sinV n ≤ 16384) &&
  decide (-23172 ≤ sinV n * sinV n + sinV (n + 64) * sinV (n + 64) - 268435456) && decide (sinV n * sinV n + sinV (n + 64) * sinV (n + 64) - 268435456 ≤ 23172) &&
  (decide (64 ≤ n) && decide (n ≤ 191) || decide (sinV n ≤ sinV (n + 1)))
theorem chk_all : (List.range 256).all chk = true := by decide +kernel
theorem chk_at (n : Nat) (h : n < 256) : chk n = true := List.all_eq_true.1 chk_all n (List.mem_range.2 h)
theorem facts_nat (n : Nat) (h : n < 256) :
    sinV (-(n : Int)) = -sinV n ∧ sinV (n + 128) = -sinV n ∧ (-16384 ≤ sinV n ∧ sinV n ≤ 16384) ∧
    (-23172 ≤ sinV n * sinV n + sinV (n + 64) * sinV (n + 64) - 268435456 ∧ sinV n * sinV n + sinV (n + 64) * sinV (n + 64) - 268435456 ≤ 23172) ∧
    (n < 64 ∨ 191 < n → sinV n ≤ sinV (n + 1)) := by
  have c := chk_at n h
  unfold chk at c
  simp only [Bool.and_eq_true, Bool.or_eq_true, decide_eq_true_eq] at c
  obtain ⟨⟨⟨⟨⟨⟨c1, c2⟩, c3⟩, c4⟩, c5⟩, c6⟩, c7⟩ := c
  exact ⟨c1, c2, ⟨c3, c4⟩, ⟨c5, c6⟩, fun g => c7.elim (fun x => absurd x (by omega)) id⟩
theorem sin_facts (a : Int) :
    sinV (-a) = -sinV a ∧ sinV (a + 128) = -sinV a ∧ (-16384 ≤ sinV a ∧ sinV a ≤ 16384) ∧
    (-23172 ≤ sinV a * sinV a + cosV a * cosV a - 268435456 ∧ sinV a * sinV a + cosV a * cosV a - 268435456 ≤ 23172) ∧
    (a % 256 < 64 ∨ 191 < a % 256 → sinV a ≤ sinV (a + 1)) := by
  obtain ⟨n, hn⟩ : ∃ n : Nat, a % 256 = n := ⟨(a % 256).toNat, by omega⟩
  have f := facts_nat n (by omega)
  have e0 : sinV n = sinV a := sinV_eq (by omega)
  have e1 : sinV (-(n : Int)) = sinV (-a) := sinV_eq (by omega)
  have e2 : sinV ((n : Int) + 128) = sinV (a + 128) := sinV_eq (by omega)
  have e3 : sinV ((n : Int) + 64) = cosV a := by rw [cosV_sin]; exact sinV_eq (by omega)
  have e4 : sinV ((n : Int) + 1) = sinV (a + 1) := sinV_eq (by omega)
  rw [e0, e1, e2, e3, e4] at f
  exact ⟨f.1, f.2.1, f.2.2.1, f.2.2.2.1, fun g => f.2.2.2.2 (by omega)⟩
theorem sin_bd (a : Int) : -16384 ≤ sinV a ∧ sinV a ≤ 16384 := (sin_facts a).2.2.1
theorem cos_bd (a : Int) : -16384 ≤ cosV a ∧ cosV a ≤ 16384 := by rw [cosV_sin]; exact sin_bd _
theorem cos_neg (a : Int) : cosV (-a) = cosV a := by
  have h := (sin_facts (-(a + 64))).2.1
  have h2 := (sin_facts (a + 64)).1
  rw [cosV_sin, cosV_sin]
  rw [h2, Int.neg_neg] at h
  rw [← h]
  exact sinV_eq (by omega)
theorem tabN_bd (k : Nat) : 0 ≤ tabN k ∧ tabN k ≤ 16384 := by
  by_cases h : k < 65
  · have c : (List.range 65).all (fun k => decide (0 ≤ tabN k) && decide (tabN k ≤ 16384)) = true := by decide +kernel
    have := List.all_eq_true.1 c k (List.mem_range.2 h)
    simpa using this
  · unfold tabN
    rw [List.getD_eq_getElem?_getD, List.getElem?_eq_none (by show 65 ≤ k; omega)]; decide

/-! ### Mirror and ways -/
theorem mir_mod (a : Int) : (-a) % 256 = (256 - a % 256) % 256 := by omega
/-- The way from a to b, side x deciding between half turns. -/
def through (a x : Int) : Bool := decide (1 ≤ (x - a) % 256) && decide ((x - a) % 256 ≤ 127)
def halfV (a b s : Int) : Int := if through a (if a = s ∨ b = s then 0 else s) = true then 128 else -128
def wayV (a b s : Int) : Int := if (b - a) % 256 < 128 then (b - a) % 256 else if 128 < (b - a) % 256 then (b - a) % 256 - 256 else halfV a b s
def wayOk (a b : Int) : Bool := decide (0 ≤ a) && decide (a ≤ 255) && (decide (0 ≤ b) && decide (b ≤ 255))
def sideOk (s : Int) : Bool := decide (s = 64) || decide (s = 192)
def betE (a b s : Int) : Int := if wayOk a b = true then (if sideOk s = true then 0 else 9) else 1
def betV (a b s : Int) : Int := if betE a b s = 0 then wayV a b s else 0
theorem wayOk_iff (a b : Int) : wayOk a b = true ↔ (0 ≤ a ∧ a ≤ 255) ∧ (0 ≤ b ∧ b ≤ 255) := by
  unfold wayOk; rw [Bool.and_eq_true, Bool.and_eq_true, Bool.and_eq_true, decide_eq_true_eq, decide_eq_true_eq, decide_eq_true_eq, decide_eq_true_eq]
theorem wayOk_no (a b : Int) : wayOk a b = false ↔ a < 0 ∨ 255 < a ∨ b < 0 ∨ 255 < b := by rw [← Bool.not_eq_true, wayOk_iff]; omega
theorem sideOk_iff (s : Int) : sideOk s = true ↔ s = 64 ∨ s = 192 := by unfold sideOk; rw [Bool.or_eq_true, decide_eq_true_eq, decide_eq_true_eq]
theorem sideOk_no (s : Int) : sideOk s = false ↔ s ≠ 64 ∧ s ≠ 192 := by rw [← Bool.not_eq_true, sideOk_iff]; omega
theorem bet_ok {a b s : Int} (h : wayOk a b = true) (hs : sideOk s = true) : betE a b s = 0 ∧ betV a b s = wayV a b s := by
  have e : betE a b s = 0 := by unfold betE; rw [if_pos h, if_pos hs]
  exact ⟨e, by unfold betV; rw [if_pos e]⟩
theorem bet_range {a b s : Int} (h : wayOk a b = false) : betE a b s = 1 ∧ betV a b s = 0 := by
  have e : betE a b s = 1 := by unfold betE; rw [if_neg (by rw [h]; decide)]
  exact ⟨e, by unfold betV; rw [if_neg (by rw [e]; decide)]⟩
theorem bet_kind {a b s : Int} (h : wayOk a b = true) (hs : sideOk s = false) : betE a b s = 9 ∧ betV a b s = 0 := by
  have e : betE a b s = 9 := by unfold betE; rw [if_pos h, if_neg (by rw [hs]; decide)]
  exact ⟨e, by unfold betV; rw [if_neg (by rw [e]; decide)]⟩
theorem through_iff (a x : Int) : through a x = true ↔ 1 ≤ (x - a) % 256 ∧ (x - a) % 256 ≤ 127 := by
  unfold through; rw [Bool.and_eq_true, decide_eq_true_eq, decide_eq_true_eq]
theorem half_eq (a b s : Int) : (halfV a b s = 128 ∧ (1 ≤ ((if a = s ∨ b = s then 0 else s) - a) % 256 ∧ ((if a = s ∨ b = s then 0 else s) - a) % 256 ≤ 127)) ∨ (halfV a b s = -128 ∧ ¬ (1 ≤ ((if a = s ∨ b = s then 0 else s) - a) % 256 ∧ ((if a = s ∨ b = s then 0 else s) - a) % 256 ≤ 127)) := by
  unfold halfV
  by_cases h : 1 ≤ ((if a = s ∨ b = s then 0 else s) - a) % 256 ∧ ((if a = s ∨ b = s then 0 else s) - a) % 256 ≤ 127
  · rw [if_pos ((through_iff _ _).2 h)]; exact Or.inl ⟨rfl, h⟩
  · rw [if_neg (fun x => h ((through_iff _ _).1 x))]; exact Or.inr ⟨rfl, h⟩
theorem way_bd (a b s : Int) : -128 ≤ wayV a b s ∧ wayV a b s ≤ 128 := by
  unfold wayV
  rcases half_eq a b s with ⟨h, _⟩ | ⟨h, _⟩ <;> rw [h] <;> split <;> (try split) <;> omega
theorem way_lands (a b s : Int) : (a + wayV a b s - b) % 256 = 0 := by
  unfold wayV
  rcases half_eq a b s with ⟨h, _⟩ | ⟨h, _⟩ <;> rw [h] <;> split <;> (try split) <;> omega
theorem half_back {a b s : Int} (ha : 0 ≤ a ∧ a ≤ 255) (hb : 0 ≤ b ∧ b ≤ 255) (hs : s = 64 ∨ s = 192) (h : (b - a) % 256 = 128) : halfV b a s = -halfV a b s := by
  have hx : (if b = s ∨ a = s then (0 : Int) else s) = (if a = s ∨ b = s then 0 else s) := by
    by_cases c : a = s ∨ b = s
    · rw [if_pos c, if_pos (Or.symm c)]
    · rw [if_neg c, if_neg (fun x => c (Or.symm x))]
  have h1 := half_eq a b s
  have h2 := half_eq b a s
  rw [hx] at h2
  by_cases c : a = s ∨ b = s
  · rw [if_pos c] at h1 h2; omega
  · rw [if_neg c] at h1 h2; omega
theorem way_back {a b s : Int} (ha : 0 ≤ a ∧ a ≤ 255) (hb : 0 ≤ b ∧ b ≤ 255) (hs : s = 64 ∨ s = 192) : wayV b a s = -wayV a b s := by
  unfold wayV
  by_cases h : (b - a) % 256 = 128
  · rw [half_back ha hb hs h, if_neg (by omega), if_neg (by omega), if_neg (by omega), if_neg (by omega)]
  · by_cases h2 : (b - a) % 256 < 128
    · rw [if_pos h2]
      by_cases h3 : (b - a) % 256 = 0
      · rw [if_pos (by omega)]; omega
      · rw [if_neg (by omega), if_pos (by omega)]; omega
    · rw [if_neg h2, if_pos (by omega), if_pos (by omega)]; omega
theorem half_image {a b s : Int} (ha : 0 ≤ a ∧ a ≤ 255) (hb : 0 ≤ b ∧ b ≤ 255) (hs : s = 64 ∨ s = 192) (h : (b - a) % 256 = 128) : halfV ((-a) % 256) ((-b) % 256) ((-s) % 256) = -halfV a b s := by
  have h1 := half_eq a b s
  have h2 := half_eq ((-a) % 256) ((-b) % 256) ((-s) % 256)
  by_cases c : a = s ∨ b = s
  · rw [if_pos c] at h1
    rw [if_pos (by omega)] at h2
    omega
  · rw [if_neg c] at h1
    rw [if_neg (by omega)] at h2
    omega
theorem way_image {a b s : Int} (ha : 0 ≤ a ∧ a ≤ 255) (hb : 0 ≤ b ∧ b ≤ 255) (hs : s = 64 ∨ s = 192) : wayV ((-a) % 256) ((-b) % 256) ((-s) % 256) = -wayV a b s := by
  unfold wayV
  by_cases h : (b - a) % 256 = 128
  · rw [half_image ha hb hs h, if_neg (by omega), if_neg (by omega), if_neg (by omega), if_neg (by omega)]
  · by_cases h2 : (b - a) % 256 < 128
    · rw [if_pos h2]
      by_cases h3 : (b - a) % 256 = 0
      · rw [if_pos (by omega)]; omega
      · rw [if_neg (by omega), if_pos (by omega)]; omega
    · rw [if_neg h2, if_pos (by omega), if_pos (by omega)]; omega

/-! ### Turned points -/
def inMM (x y : Int) : Bool := decide (-32768 ≤ x) && decide (x ≤ 32768) && (decide (-32768 ≤ y) && decide (y ≤ 32768))
theorem inMM_iff (x y : Int) : inMM x y = true ↔ (-32768 ≤ x ∧ x ≤ 32768) ∧ (-32768 ≤ y ∧ y ≤ 32768) := by
  unfold inMM; rw [Bool.and_eq_true, Bool.and_eq_true, Bool.and_eq_true, decide_eq_true_eq, decide_eq_true_eq, decide_eq_true_eq, decide_eq_true_eq]
theorem inMM_no (x y : Int) : inMM x y = false ↔ x < -32768 ∨ 32768 < x ∨ y < -32768 ∨ 32768 < y := by rw [← Bool.not_eq_true, inMM_iff]; omega
def turX (x y a : Int) : Int := nearV (x * cosV a + y * sinV a) 16384
def turY (x y a : Int) : Int := nearV (y * cosV a - x * sinV a) 16384
theorem prod_bd {x c m k : Int} (hx : -m ≤ x ∧ x ≤ m) (hc : -k ≤ c ∧ c ≤ k) : -(m * k) ≤ x * c ∧ x * c ≤ m * k := by
  have h := Int.natAbs_mul x c
  have h3 := Nat.mul_le_mul (show x.natAbs ≤ m.natAbs by omega) (show c.natAbs ≤ k.natAbs by omega)
  have h4 : (m * k).natAbs = m.natAbs * k.natAbs := Int.natAbs_mul m k
  have h5 : 0 ≤ m * k := Int.mul_nonneg (by omega) (by omega)
  omega
theorem tur_bds {x y : Int} (h : inMM x y = true) (a : Int) :
    (-536870912 ≤ x * cosV a ∧ x * cosV a ≤ 536870912) ∧ (-536870912 ≤ y * sinV a ∧ y * sinV a ≤ 536870912) ∧ (-536870912 ≤ y * cosV a ∧ y * cosV a ≤ 536870912) ∧ (-536870912 ≤ x * sinV a ∧ x * sinV a ≤ 536870912) := by
  obtain ⟨hx, hy⟩ := (inMM_iff x y).1 h
  exact ⟨prod_bd hx (cos_bd a), prod_bd hy (sin_bd a), prod_bd hy (cos_bd a), prod_bd hx (sin_bd a)⟩
theorem near_exact (x d : Int) (hd : 1 ≤ d) : nearV (x * d) d = x := by
  apply nearV_eq hd
  unfold Near
  omega
theorem quarter (x y : Int) :
    (turX x y 0 = x ∧ turY x y 0 = y) ∧ (turX x y 64 = y ∧ turY x y 64 = -x) ∧ (turX x y 128 = -x ∧ turY x y 128 = -y) ∧ (turX x y (-64) = -y ∧ turY x y (-64) = x) := by
  have s0 : sinV 0 = 0 := by decide +kernel
  have c0 : cosV 0 = 16384 := by decide +kernel
  have s1 : sinV 64 = 16384 := by decide +kernel
  have c1 : cosV 64 = 0 := by decide +kernel
  have s2 : sinV 128 = 0 := by decide +kernel
  have c2 : cosV 128 = -16384 := by decide +kernel
  have s3 : sinV (-64) = -16384 := by decide +kernel
  have c3 : cosV (-64) = 0 := by decide +kernel
  unfold turX turY
  rw [s0, c0, s1, c1, s2, c2, s3, c3]
  refine ⟨⟨?_, ?_⟩, ⟨?_, ?_⟩, ⟨?_, ?_⟩, ?_, ?_⟩
  · rw [show x * 16384 + y * 0 = x * 16384 by omega]; exact near_exact _ _ (by decide)
  · rw [show y * 16384 - x * 0 = y * 16384 by omega]; exact near_exact _ _ (by decide)
  · rw [show x * 0 + y * 16384 = y * 16384 by omega]; exact near_exact _ _ (by decide)
  · rw [show y * 0 - x * 16384 = -x * 16384 by omega]; exact near_exact _ _ (by decide)
  · rw [show x * -16384 + y * 0 = -x * 16384 by omega]; exact near_exact _ _ (by decide)
  · rw [show y * -16384 - x * 0 = -y * 16384 by omega]; exact near_exact _ _ (by decide)
  · rw [show x * 0 + y * -16384 = -y * 16384 by omega]; exact near_exact _ _ (by decide)
  · rw [show y * 0 - x * -16384 = x * 16384 by omega]; exact near_exact _ _ (by decide)
theorem image (x y a : Int) : turX (-x) y ((-a) % 256) = -turX x y a ∧ turY (-x) y ((-a) % 256) = turY x y a := by
  have es : sinV ((-a) % 256) = -sinV a := by rw [sinV_mod]; exact (sin_facts a).1
  have ec : cosV ((-a) % 256) = cosV a := by rw [cosV_sin, ← cos_neg a, cosV_sin]; exact sinV_eq (by omega)
  unfold turX turY
  rw [es, ec]
  constructor
  · rw [← near_neg _ _ (by decide)]
    congr 1
    rw [Int.neg_mul, Int.mul_neg]; omega
  · congr 1
    rw [Int.neg_mul, Int.mul_neg]; omega
end Go.Proofs.YtbcoknlkncnmfaaDoor.AngP
