/-
  Several texts in one file: AnglePlain, AngleA, AngleB, AngleC, AngleD, AngleFrame, AngleE. Condition: those of each.
-/
import Derived.Test.YtmjokgddhainlaaNumBase
import Derived.Below
import Derived.Laws.Tables
import Derived.Laws.Rows
import Derived.Deep.WholeRow
import Derived.RowKit3
import Derived.Deep.RegionHeld3
import Derived.Deep.DeepCutAuto
import Derived.IntWalk
import Derived.OpenShut
import Derived.Lib.SmallJoins
import Derived.Deep.DeepHandedRow
import Derived.Lib.LaidTab
import Derived.BigQuiet
/-
  Plain mathematics of layer angle (no Go): normal forms, the table of sines, ways between angles, turned points. Condition: none.
-/
namespace Go.Proofs.Ytmjokgddhainlaa.AngP
open NumP

/-! ### The table -/
def tabS : List Int := [
  0, 402, 804, 1205, 1606, 2006, 2404, 2801,
  3196, 3590, 3981, 4370, 4756, 5139, 5520, 5897,
  6270, 6639, 7005, 7366, 7723, 8076, 8423, 8765,
  9102, 9434, 9760, 10080, 10394, 10702, 11003, 11297,
  11585, 11866, 12140, 12406, 12665, 12916, 13160, 13395,
  13623, 13842, 14053, 14256, 14449, 14635, 14811, 14978,
  15137, 15286, 15426, 15557, 15679, 15791, 15893, 15986,
  16069, 16143, 16207, 16261, 16305, 16340, 16364, 16379,
  16384]
def tabN (k : Nat) : Int := tabS.getD k 0
/-- The sine of a normal form. -/
def sinN (n : Nat) : Int := if n ≤ 64 then tabN n else if n ≤ 128 then tabN (128 - n) else if n ≤ 192 then -tabN (n - 128) else -tabN (256 - n)
def sinV (a : Int) : Int := sinN (a % 256).toNat
def cosV (a : Int) : Int := sinV (a % 256 + 64)
theorem sinV_mod (a : Int) : sinV (a % 256) = sinV a := by unfold sinV; rw [Int.emod_emod_of_dvd _ (Int.dvd_refl _)]
theorem sinV_eq {a b : Int} (h : a % 256 = b % 256) : sinV a = sinV b := by unfold sinV; rw [h]
theorem cosV_sin (a : Int) : cosV a = sinV (a + 64) := by unfold cosV; exact sinV_eq (by omega)

/-! ### What a look at each of the 256 angles tells -/
def chk (n : Nat) : Bool :=
  decide (sinV (-(n : Int)) = -sinV n) && decide (sinV (n + 128) = -sinV n) &&
  decide (-16384 ≤ sinV n) && decide (sinV n ≤ 16384) &&
  decide (-23172 ≤ sinV n * sinV n + sinV (n + 64) * sinV (n + 64) - 268435456) && decide (sinV n * sinV n + sinV (n + 64) * sinV (n + 64) - 268435456 ≤ 23172) &&
  (decide (64 ≤ n) && decide (n ≤ 191) || decide (sinV n ≤ sinV (n + 1)))
theorem chk_all : (List.range 256).all chk = true := by decide +kernel
theorem chk_at (n : Nat) (h : n < 256) : chk n = true := List.all_eq_true.1 chk_all n (List.mem_range.2 h)
theorem facts_nat (n : Nat) (h : n < 256) :
    sinV (-(n : Int)) = -sinV n ∧ sinV (n + 128) = -sinV n ∧ (-16384 ≤ sinV n ∧ sinV n ≤ 16384) ∧
    (-23172 ≤ sinV n * sinV n + sinV (n + 64) * sinV (n + 64) - 268435456 ∧ sinV n * sinV n + sinV (n + 64) * sinV (n + 64) - 268435456 ≤ 23172) ∧
    (n < 64 ∨ 191 < n → sinV n ≤ sinV (n + 1)) := by
  have c := chk_at n h
  unfold chk at c
  simp only [Bool.and_eq_true, Bool.or_eq_true, decide_eq_true_eq] at c
  obtain ⟨⟨⟨⟨⟨⟨c1, c2⟩, c3⟩, c4⟩, c5⟩, c6⟩, c7⟩ := c
  exact ⟨c1, c2, ⟨c3, c4⟩, ⟨c5, c6⟩, fun g => c7.elim (fun x => absurd x (by omega)) id⟩
theorem sin_facts (a : Int) :
    sinV (-a) = -sinV a ∧ sinV (a + 128) = -sinV a ∧ (-16384 ≤ sinV a ∧ sinV a ≤ 16384) ∧
    (-23172 ≤ sinV a * sinV a + cosV a * cosV a - 268435456 ∧ sinV a * sinV a + cosV a * cosV a - 268435456 ≤ 23172) ∧
    (a % 256 < 64 ∨ 191 < a % 256 → sinV a ≤ sinV (a + 1)) := by
  obtain ⟨n, hn⟩ : ∃ n : Nat, a % 256 = n := ⟨(a % 256).toNat, by omega⟩
  have f := facts_nat n (by omega)
  have e0 : sinV n = sinV a := sinV_eq (by omega)
  have e1 : sinV (-(n : Int)) = sinV (-a) := sinV_eq (by omega)
  have e2 : sinV ((n : Int) + 128) = sinV (a + 128) := sinV_eq (by omega)
  have e3 : sinV ((n : Int) + 64) = cosV a := by rw [cosV_sin]; exact sinV_eq (by omega)
  have e4 : sinV ((n : Int) + 1) = sinV (a + 1) := sinV_eq (by omega)
  rw [e0, e1, e2, e3, e4] at f
  exact ⟨f.1, f.2.1, f.2.2.1, f.2.2.2.1, fun g => f.2.2.2.2 (by omega)⟩
theorem sin_bd (a : Int) : -16384 ≤ sinV a ∧ sinV a ≤ 16384 := (sin_facts a).2.2.1
theorem cos_bd (a : Int) : -16384 ≤ cosV a ∧ cosV a ≤ 16384 := by rw [cosV_sin]; exact sin_bd _
theorem cos_neg (a : Int) : cosV (-a) = cosV a := by
  have h := (sin_facts (-(a + 64))).2.1
  have h2 := (sin_facts (a + 64)).1
  rw [cosV_sin, cosV_sin]
  rw [h2, Int.neg_neg] at h
  rw [← h]
  exact sinV_eq (by omega)
theorem tabN_bd (k : Nat) : 0 ≤ tabN k ∧ tabN k ≤ 16384 := by
  by_cases h : k < 65
  · have c : (List.range 65).all (fun k => decide (0 ≤ tabN k) && decide (tabN k ≤ 16384)) = true := by decide +kernel
    have := List.all_eq_true.1 c k (List.mem_range.2 h)
    simpa using this
  · unfold tabN
    rw [List.getD_eq_getElem?_getD, List.getElem?_eq_none (by show 65 ≤ k; omega)]; decide

/-! ### Mirror and ways -/
theorem mir_mod (a : Int) : (-a) % 256 = (256 - a % 256) % 256 := by omega
/-- The way from a to b, side x deciding between half turns. -/
def through (a x : Int) : Bool := decide (1 ≤ (x - a) % 256) && decide ((x - a) % 256 ≤ 127)
def halfV (a b s : Int) : Int := if through a (if a = s ∨ b = s then 0 else s) = true then 128 else -128
def wayV (a b s : Int) : Int := if (b - a) % 256 < 128 then (b - a) % 256 else if 128 < (b - a) % 256 then (b - a) % 256 - 256 else halfV a b s
def wayOk (a b : Int) : Bool := decide (0 ≤ a) && decide (a ≤ 255) && (decide (0 ≤ b) && decide (b ≤ 255))
def sideOk (s : Int) : Bool := decide (s = 64) || decide (s = 192)
def betE (a b s : Int) : Int := if wayOk a b = true then (if sideOk s = true then 0 else 9) else 1
def betV (a b s : Int) : Int := if betE a b s = 0 then wayV a b s else 0
theorem wayOk_iff (a b : Int) : wayOk a b = true ↔ (0 ≤ a ∧ a ≤ 255) ∧ (0 ≤ b ∧ b ≤ 255) := by
  unfold wayOk; rw [Bool.and_eq_true, Bool.and_eq_true, Bool.and_eq_true, decide_eq_true_eq, decide_eq_true_eq, decide_eq_true_eq, decide_eq_true_eq]
theorem wayOk_no (a b : Int) : wayOk a b = false ↔ a < 0 ∨ 255 < a ∨ b < 0 ∨ 255 < b := by rw [← Bool.not_eq_true, wayOk_iff]; omega
theorem sideOk_iff (s : Int) : sideOk s = true ↔ s = 64 ∨ s = 192 := by unfold sideOk; rw [Bool.or_eq_true, decide_eq_true_eq, decide_eq_true_eq]
theorem sideOk_no (s : Int) : sideOk s = false ↔ s ≠ 64 ∧ s ≠ 192 := by rw [← Bool.not_eq_true, sideOk_iff]; omega
theorem bet_ok {a b s : Int} (h : wayOk a b = true) (hs : sideOk s = true) : betE a b s = 0 ∧ betV a b s = wayV a b s := by
  have e : betE a b s = 0 := by unfold betE; rw [if_pos h, if_pos hs]
  exact ⟨e, by unfold betV; rw [if_pos e]⟩
theorem bet_range {a b s : Int} (h : wayOk a b = false) : betE a b s = 1 ∧ betV a b s = 0 := by
  have e : betE a b s = 1 := by unfold betE; rw [if_neg (by rw [h]; decide)]
  exact ⟨e, by unfold betV; rw [if_neg (by rw [e]; decide)]⟩
theorem bet_kind {a b s : Int} (h : wayOk a b = true) (hs : sideOk s = false) : betE a b s = 9 ∧ betV a b s = 0 := by
  have e : betE a b s = 9 := by unfold betE; rw [if_pos h, if_neg (by rw [hs]; decide)]
  exact ⟨e, by unfold betV; rw [if_neg (by rw [e]; decide)]⟩
theorem through_iff (a x : Int) : through a x = true ↔ 1 ≤ (x - a) % 256 ∧ (x - a) % 256 ≤ 127 := by
  unfold through; rw [Bool.and_eq_true, decide_eq_true_eq, decide_eq_true_eq]
theorem half_eq (a b s : Int) : (halfV a b s = 128 ∧ (1 ≤ ((if a = s ∨ b = s then 0 else s) - a) % 256 ∧ ((if a = s ∨ b = s then 0 else s) - a) % 256 ≤ 127)) ∨ (halfV a b s = -128 ∧ ¬ (1 ≤ ((if a = s ∨ b = s then 0 else s) - a) % 256 ∧ ((if a = s ∨ b = s then 0 else s) - a) % 256 ≤ 127)) := by
  unfold halfV
  by_cases h : 1 ≤ ((if a = s ∨ b = s then 0 else s) - a) % 256 ∧ ((if a = s ∨ b = s then 0 else s) - a) % 256 ≤ 127
  · rw [if_pos ((through_iff _ _).2 h)]; exact Or.inl ⟨rfl, h⟩
  · rw [if_neg (fun x => h ((through_iff _ _).1 x))]; exact Or.inr ⟨rfl, h⟩
theorem way_bd (a b s : Int) : -128 ≤ wayV a b s ∧ wayV a b s ≤ 128 := by
  unfold wayV
  rcases half_eq a b s with ⟨h, _⟩ | ⟨h, _⟩ <;> rw [h] <;> split <;> (try split) <;> omega
theorem way_lands (a b s : Int) : (a + wayV a b s - b) % 256 = 0 := by
  unfold wayV
  rcases half_eq a b s with ⟨h, _⟩ | ⟨h, _⟩ <;> rw [h] <;> split <;> (try split) <;> omega
theorem half_back {a b s : Int} (ha : 0 ≤ a ∧ a ≤ 255) (hb : 0 ≤ b ∧ b ≤ 255) (hs : s = 64 ∨ s = 192) (h : (b - a) % 256 = 128) : halfV b a s = -halfV a b s := by
  have hx : (if b = s ∨ a = s then (0 : Int) else s) = (if a = s ∨ b = s then 0 else s) := by
    by_cases c : a = s ∨ b = s
    · rw [if_pos c, if_pos (Or.symm c)]
    · rw [if_neg c, if_neg (fun x => c (Or.symm x))]
  have h1 := half_eq a b s
  have h2 := half_eq b a s
  rw [hx] at h2
  by_cases c : a = s ∨ b = s
  · rw [if_pos c] at h1 h2; omega
  · rw [if_neg c] at h1 h2; omega
theorem way_back {a b s : Int} (ha : 0 ≤ a ∧ a ≤ 255) (hb : 0 ≤ b ∧ b ≤ 255) (hs : s = 64 ∨ s = 192) : wayV b a s = -wayV a b s := by
  unfold wayV
  by_cases h : (b - a) % 256 = 128
  · rw [half_back ha hb hs h, if_neg (by omega), if_neg (by omega), if_neg (by omega), if_neg (by omega)]
  · by_cases h2 : (b - a) % 256 < 128
    · rw [if_pos h2]
      by_cases h3 : (b - a) % 256 = 0
      · rw [if_pos (by omega)]; omega
      · rw [if_neg (by omega), if_pos (by omega)]; omega
    · rw [if_neg h2, if_pos (by omega), if_pos (by omega)]; omega
theorem half_image {a b s : Int} (ha : 0 ≤ a ∧ a ≤ 255) (hb : 0 ≤ b ∧ b ≤ 255) (hs : s = 64 ∨ s = 192) (h : (b - a) % 256 = 128) : halfV ((-a) % 256) ((-b) % 256) ((-s) % 256) = -halfV a b s := by
  have h1 := half_eq a b s
  have h2 := half_eq ((-a) % 256) ((-b) % 256) ((-s) % 256)
  by_cases c : a = s ∨ b = s
  · rw [if_pos c] at h1
    rw [if_pos (by omega)] at h2
    omega
  · rw [if_neg c] at h1
    rw [if_neg (by omega)] at h2
    omega
theorem way_image {a b s : Int} (ha : 0 ≤ a ∧ a ≤ 255) (hb : 0 ≤ b ∧ b ≤ 255) (hs : s = 64 ∨ s = 192) : wayV ((-a) % 256) ((-b) % 256) ((-s) % 256) = -wayV a b s := by
  unfold wayV
  by_cases h : (b - a) % 256 = 128
  · rw [half_image ha hb hs h, if_neg (by omega), if_neg (by omega), if_neg (by omega), if_neg (by omega)]
  · by_cases h2 : (b - a) % 256 < 128
    · rw [if_pos h2]
      by_cases h3 : (b - a) % 256 = 0
      · rw [if_pos (by omega)]; omega
      · rw [if_neg (by omega), if_pos (by omega)]; omega
    · rw [if_neg h2, if_pos (by omega), if_pos (by omega)]; omega

/-! ### Turned points -/
def inMM (x y : Int) : Bool := decide (-32768 ≤ x) && decide (x ≤ 32768) && (decide (-32768 ≤ y) && decide (y ≤ 32768))
theorem inMM_iff (x y : Int) : inMM x y = true ↔ (-32768 ≤ x ∧ x ≤ 32768) ∧ (-32768 ≤ y ∧ y ≤ 32768) := by
  unfold inMM; rw [Bool.and_eq_true, Bool.and_eq_true, Bool.and_eq_true, decide_eq_true_eq, decide_eq_true_eq, decide_eq_true_eq, decide_eq_true_eq]
theorem inMM_no (x y : Int) : inMM x y = false ↔ x < -32768 ∨ 32768 < x ∨ y < -32768 ∨ 32768 < y := by rw [← Bool.not_eq_true, inMM_iff]; omega
def turX (x y a : Int) : Int := nearV (x * cosV a + y * sinV a) 16384
def turY (x y a : Int) : Int := nearV (y * cosV a - x * sinV a) 16384
theorem prod_bd {x c m k : Int} (hx : -m ≤ x ∧ x ≤ m) (hc : -k ≤ c ∧ c ≤ k) : -(m * k) ≤ x * c ∧ x * c ≤ m * k := by
  have h := Int.natAbs_mul x c
  have h3 := Nat.mul_le_mul (show x.natAbs ≤ m.natAbs by omega) (show c.natAbs ≤ k.natAbs by omega)
  have h4 : (m * k).natAbs = m.natAbs * k.natAbs := Int.natAbs_mul m k
  have h5 : 0 ≤ m * k := Int.mul_nonneg (by omega) (by omega)
  omega
theorem tur_bds {x y : Int} (h : inMM x y = true) (a : Int) :
    (-536870912 ≤ x * cosV a ∧ x * cosV a ≤ 536870912) ∧ (-536870912 ≤ y * sinV a ∧ y * sinV a ≤ 536870912) ∧ (-536870912 ≤ y * cosV a ∧ y * cosV a ≤ 536870912) ∧ (-536870912 ≤ x * sinV a ∧ x * sinV a ≤ 536870912) := by
  obtain ⟨hx, hy⟩ := (inMM_iff x y).1 h
  exact ⟨prod_bd hx (cos_bd a), prod_bd hy (sin_bd a), prod_bd hy (cos_bd a), prod_bd hx (sin_bd a)⟩
theorem near_exact (x d : Int) (hd : 1 ≤ d) : nearV (x * d) d = x := by
  apply nearV_eq hd
  unfold Near
  omega
theorem quarter (x y : Int) :
    (turX x y 0 = x ∧ turY x y 0 = y) ∧ (turX x y 64 = y ∧ turY x y 64 = -x) ∧ (turX x y 128 = -x ∧ turY x y 128 = -y) ∧ (turX x y (-64) = -y ∧ turY x y (-64) = x) := by
  have s0 : sinV 0 = 0 := by decide +kernel
  have c0 : cosV 0 = 16384 := by decide +kernel
  have s1 : sinV 64 = 16384 := by decide +kernel
  have c1 : cosV 64 = 0 := by decide +kernel
  have s2 : sinV 128 = 0 := by decide +kernel
  have c2 : cosV 128 = -16384 := by decide +kernel
  have s3 : sinV (-64) = -16384 := by decide +kernel
  have c3 : cosV (-64) = 0 := by decide +kernel
  unfold turX turY
  rw [s0, c0, s1, c1, s2, c2, s3, c3]
  refine ⟨⟨?_, ?_⟩, ⟨?_, ?_⟩, ⟨?_, ?_⟩, ?_, ?_⟩
  · rw [show x * 16384 + y * 0 = x * 16384 by omega]; exact near_exact _ _ (by decide)
  · rw [show y * 16384 - x * 0 = y * 16384 by omega]; exact near_exact _ _ (by decide)
  · rw [show x * 0 + y * 16384 = y * 16384 by omega]; exact near_exact _ _ (by decide)
  · rw [show y * 0 - x * 16384 = -x * 16384 by omega]; exact near_exact _ _ (by decide)
  · rw [show x * -16384 + y * 0 = -x * 16384 by omega]; exact near_exact _ _ (by decide)
  · rw [show y * -16384 - x * 0 = -y * 16384 by omega]; exact near_exact _ _ (by decide)
  · rw [show x * 0 + y * -16384 = -y * 16384 by omega]; exact near_exact _ _ (by decide)
  · rw [show y * 0 - x * -16384 = x * 16384 by omega]; exact near_exact _ _ (by decide)
theorem image (x y a : Int) : turX (-x) y ((-a) % 256) = -turX x y a ∧ turY (-x) y ((-a) % 256) = turY x y a := by
  have es : sinV ((-a) % 256) = -sinV a := by rw [sinV_mod]; exact (sin_facts a).1
  have ec : cosV ((-a) % 256) = cosV a := by rw [cosV_sin, ← cos_neg a, cosV_sin]; exact sinV_eq (by omega)
  unfold turX turY
  rw [es, ec]
  constructor
  · rw [← near_neg _ _ (by decide)]
    congr 1
    rw [Int.neg_mul, Int.mul_neg]; omega
  · congr 1
    rw [Int.neg_mul, Int.mul_neg]; omega
end Go.Proofs.Ytmjokgddhainlaa.AngP

/-
  Walks of the small functions of the specification of package angle: what each call returns. Condition: none.
-/
namespace Go.Proofs.Ytmjokgddhainlaa.AngW
open Go.ChangeShapes Go.WideShapes Go.ChangeAt Go.RowKit
open NumP NumW AngP

theorem tmod256 (a : Int) : (a.tmod 256 < 0 → a.tmod 256 + 256 = a % 256) ∧ (0 ≤ a.tmod 256 → a.tmod 256 = a % 256) :=
  ⟨fun h => (down_neg a 256 (by decide) h).2, fun h => (down_pos a 256 (by decide) h).2⟩
theorem tmod256_bd (a : Int) : -256 < a.tmod 256 ∧ a.tmod 256 < 256 := tmod_bd a 256 (by decide)

theorem rnorm_any (a : Int) (w : World) :
    Calls Try.prog 30 #[.int .i64 a] w fun e w' => e = .returned (.int .i64 (a % 256)) ∧ w = w' := by
  have hb := tmod256_bd a
  have ht := tmod256 a
  by_cases h0 : 0 ≤ a
  · clear ht hb
    have hm := mod_bd a 256 (by decide)
    go_enter Try.func30, Try.ntmps30
    go_wp2
    go_ret
    exact ⟨rfl, rfl⟩
  · by_cases h : a.tmod 256 < 0
    · have H := Lib.hid (ht.1 h)
      clear ht
      go_enter Try.func30, Try.ntmps30
      go_wp2
      go_ret
      exact ⟨ret_int H.out, rfl⟩
    · have H := Lib.hid (ht.2 (by omega))
      clear ht
      go_enter Try.func30, Try.ntmps30
      go_wp2
      go_ret
      exact ⟨ret_int H.out, rfl⟩
theorem rnorm_at (a v : Int) (w : World) (H : Hid (a % 256 = v)) :
    Calls Try.prog 30 #[.int .i64 a] w fun e w' => e = .returned (.int .i64 v) ∧ w = w' := by
  obtain rfl := H.out
  exact rnorm_any a w
end Go.Proofs.Ytmjokgddhainlaa.AngW

/-
  Walks of the table of sines, of Sin and Cos of the specification of package angle: what each call returns. Condition: none.
-/
namespace Go.Proofs.Ytmjokgddhainlaa.AngW
open Go.ChangeShapes Go.WideShapes Go.ChangeAt Go.RowKit
open NumP NumW AngP

/-- A composite value whose parts are known: the array that it builds. -/
theorem wpList_build_eq {P : Program} {ops : Array Oper} {rest : List Oper} {o : Oper} {a : Act} {w : World} {Q : Exit → Act → World → Prop} (hg : o.guard = none) (t : TypeId) (parts : Array (Nat × Operand)) (ho : o.op = .build t parts)
    (cells : Array Value) (hf : P.built t (parts.map fun (i, x) => (i, a.eval x)).toList = some cells)
    (h : wpList P ops Q rest (a.put o.dst (.agg cells)) w) : wpList P ops Q (o :: rest) a w :=
  wpList_build hg t parts ho (by rw [hf]; rfl) (by rw [hf]; exact h)

/-- The table as a value of Go. -/
def tabCells : Array Value := (tabS.map (Value.int .i64)).toArray
theorem tab_size : tabCells.size = 65 := by decide
theorem tab_at (k : Nat) (h : k < 65) : tabCells[k]? = some (.int .i64 (tabN k)) := by
  unfold tabCells tabN
  rw [List.getElem?_toArray, List.getElem?_map, List.getD_eq_getElem?_getD]
  have hl : k < tabS.length := h
  rw [List.getElem?_eq_getElem hl]
  rfl
theorem tab_one : tabCells.all (·.oneCell') = true := by decide +kernel

theorem set_new2 (w : World) (A : Obj) (c c' : Array Value) (t : TypeId) : ((w.alloc A).alloc (.cells c t)).setRow (w.heap.size + 1) c' = (w.alloc A).alloc (.cells c' t) := by
  have h := World.setRow_alloc_new (w.alloc A) c c' t
  have e : (w.alloc A).heap.size = w.heap.size + 1 := by show (w.heap.push A).size = _; simp
  rw [e] at h
  exact h
theorem grown_cell {W w' : World} (h : Grown W w') {b o : Nat} {v : Value} (hc : W.cell? ⟨b, o, none⟩ = some v) : w'.cell? ⟨b, o, none⟩ = some v := by
  have h3 := h.1.2.2 b (block_lt_of_cell hc)
  revert hc h3
  simp only [World.cell?]
  generalize W.heap[b]? = x
  generalize w'.heap[b]? = y
  intro hc h3
  rcases x with _ | x
  · simp at hc
  · cases x <;> try (simp at hc; done)
    rcases y with _ | y
    · simp at h3
    · cases y <;> try (simp at h3; done)
      simp only at hc h3 ⊢
      rw [h3.2.2.2 o (fun f => f)]
      exact hc
theorem grown_trans {a b c : World} (h1 : Grown a b) (h2 : Grown b c) : Grown a c :=
  ⟨World.keptBut_trans h1.1 h2.1, fun x => (h2.2.1 x).trans (h1.2.1 x), Nat.le_trans h1.2.2 h2.2.2⟩
theorem grown_drewN {W w' : World} (h : Grown W w') (n : Nat) : Grown W (w'.drewN n) := h
theorem grown_drew {W w' : World} (h : Drew W w') : Grown W w' := by
  obtain ⟨n, rfl⟩ := h
  exact grown_drewN (Grown.refl _) n


end Go.Proofs.Ytmjokgddhainlaa.AngW

/-
  Walks of Between and of small functions of the specification of package angle: what each call returns for every input. Condition: none.
-/
namespace Go.Proofs.Ytmjokgddhainlaa.AngW
open Go.ChangeShapes Go.WideShapes Go.ChangeAt Go.RowKit
open NumP NumW AngP

theorem through_at (a x : Int) (t : Bool) (w : World) (H : Hid (through a x = t)) (h0 : -1000 ≤ x - a) (h1 : x - a ≤ 1000) :
    Calls Try.prog 78 #[.int .i64 a, .int .i64 x] w fun e w' => e = .returned (.bool t) ∧ w = w' := by
  have hi := through_iff a x
  rw [H.out] at hi
  obtain ⟨n, hn⟩ : ∃ n, (x - a) % 256 = n := ⟨_, rfl⟩
  rw [hn] at hi
  have hb : 0 ≤ n ∧ n ≤ 255 := by omega
  have HN := Lib.hid hn
  clear hn
  cases t
  · have c : n < 1 ∨ ¬ n < 1 ∧ 127 < n := by simp at hi; omega
    clear hi
    rcases c with c | ⟨c, c2⟩
    all_goals
      go_enter Try.func78, Try.ntmps78
      go_wp2_with (go_at_call 30; refine (rnorm_at _ _ _ HN).mono ?_; rintro e w' ⟨rfl, rfl⟩)
      go_ret
      first | exact ⟨rfl, rfl⟩ | exact ⟨ret_bool (decide_eq_false (by omega)), rfl⟩
  · have c : 1 ≤ n ∧ n ≤ 127 := by simpa using hi
    clear hi
    obtain ⟨c1, c2⟩ := c
    go_enter Try.func78, Try.ntmps78
    go_wp2_with (go_at_call 30; refine (rnorm_at _ _ _ HN).mono ?_; rintro e w' ⟨rfl, rfl⟩)
    go_ret
    exact ⟨rfl, rfl⟩

/-! ### What the tests of Between have to know, case by case -/
theorem ne_of_beq {a b : Int} (h : ¬ a = b) : (a == b) = false := beq_eq_false_iff_ne.2 h
/-- The half turn's two ways: which angle decides, and what it says. -/
theorem half_cases (a b s : Int) : ((a == s) = true ∨ (a == s) = false ∧ (b == s) = true) ∧ halfV a b s = (if through a 0 = true then 128 else -128) ∨ (a == s) = false ∧ (b == s) = false ∧ halfV a b s = (if through a s = true then 128 else -128) := by
  unfold halfV
  by_cases c : a = s
  · exact Or.inl ⟨Or.inl (beq_iff_eq.2 c), by rw [if_pos (show a = s ∨ b = s from Or.inl c)]⟩
  · by_cases c2 : b = s
    · exact Or.inl ⟨Or.inr ⟨ne_of_beq c, beq_iff_eq.2 c2⟩, by rw [if_pos (show a = s ∨ b = s from Or.inr c2)]⟩
    · exact Or.inr ⟨ne_of_beq c, ne_of_beq c2, by rw [if_neg (show ¬ (a = s ∨ b = s) from fun h => h.elim c c2)]⟩

set_option maxRecDepth 100000 in
set_option maxHeartbeats 2000000 in
theorem rbet_range (a b s : Int) (w : World) (h : wayOk a b = false) :
    Calls Try.prog 75 #[.int .i64 a, .int .i64 b, .int .i64 s] w fun e w' => e = .returned (.tuple #[.int .i64 (betV a b s), .int .i64 (betE a b s)]) ∧ w = w' := by
  have hb := bet_range (s := s) h
  rw [hb.1, hb.2]
  rw [wayOk_no] at h
  have t : a < 0 ∨ ¬ a < 0 ∧ 255 < a ∨ ¬ a < 0 ∧ ¬ 255 < a ∧ b < 0 ∨ ¬ a < 0 ∧ ¬ 255 < a ∧ ¬ b < 0 ∧ 255 < b := by omega
  clear h hb
  rcases t with t | ⟨t, t1⟩ | ⟨t, t1, t2⟩ | ⟨t, t1, t2, t3⟩
  all_goals
    go_enter Try.func75, Try.ntmps75
    go_wp2_with (fail)
    go_ret2
    exact ⟨rfl, rfl⟩
set_option maxRecDepth 100000 in
set_option maxHeartbeats 2000000 in
theorem rbet_kind (a b s : Int) (w : World) (h : wayOk a b = true) (hs : sideOk s = false) :
    Calls Try.prog 75 #[.int .i64 a, .int .i64 b, .int .i64 s] w fun e w' => e = .returned (.tuple #[.int .i64 (betV a b s), .int .i64 (betE a b s)]) ∧ w = w' := by
  have hb := bet_kind h hs
  rw [hb.1, hb.2]
  obtain ⟨h0, h1⟩ := (wayOk_iff a b).1 h
  obtain ⟨c1, c2⟩ := (sideOk_no s).1 hs
  have d1 : (s != 64) = true := bne_iff_ne.2 c1
  have d2 : (s != 192) = true := bne_iff_ne.2 c2
  clear h hb hs c1 c2
  go_enter Try.func75, Try.ntmps75
  go_wp2_with (fail)
  go_ret2
  exact ⟨rfl, rfl⟩
set_option maxRecDepth 100000 in
set_option maxHeartbeats 4000000 in
theorem rbet_good (a b s : Int) (w : World) (h : wayOk a b = true) (hs : sideOk s = true) :
    Calls Try.prog 75 #[.int .i64 a, .int .i64 b, .int .i64 s] w fun e w' => e = .returned (.tuple #[.int .i64 (betV a b s), .int .i64 (betE a b s)]) ∧ w = w' := by
  have hb := bet_ok h hs
  rw [hb.1, hb.2]
  obtain ⟨h0, h1⟩ := (wayOk_iff a b).1 h
  have hs' := (sideOk_iff s).1 hs
  obtain ⟨d, hd⟩ : ∃ d, (b - a) % 256 = d := ⟨_, rfl⟩
  have hw : wayV a b s = if d < 128 then d else if 128 < d then d - 256 else halfV a b s := by unfold wayV; rw [hd]
  have d0 : 0 ≤ d ∧ d ≤ 255 := by omega
  have HD := Lib.hid hd
  have sd : ((s != 64) = false ∨ (s != 64) = true ∧ (s != 192) = false) ∧ 0 ≤ s ∧ s ≤ 255 := by
    rcases hs' with rfl | rfl
    · exact ⟨Or.inl rfl, by decide, by decide⟩
    · exact ⟨Or.inr ⟨rfl, rfl⟩, by decide, by decide⟩
  obtain ⟨ss, s0, s1⟩ := sd
  clear h hb hs hs' hd
  rw [hw]
  clear hw
  by_cases c1 : d < 128
  · rw [if_pos c1]
    rcases ss with ss | ⟨ss, ss2⟩
    all_goals
      go_enter Try.func75, Try.ntmps75
      go_wp2_with (go_at_call 30; refine (rnorm_at _ _ _ HD).mono ?_; rintro e w' ⟨rfl, rfl⟩)
      go_ret2
      exact ⟨rfl, rfl⟩
  · rw [if_neg c1]
    by_cases c2 : 128 < d
    · rw [if_pos c2]
      rcases ss with ss | ⟨ss, ss2⟩
      all_goals
        go_enter Try.func75, Try.ntmps75
        go_wp2_with (go_at_call 30; refine (rnorm_at _ _ _ HD).mono ?_; rintro e w' ⟨rfl, rfl⟩)
        go_ret2
        exact ⟨rfl, rfl⟩
    · rw [if_neg c2]
      rcases half_cases a b s with ⟨e1 | ⟨e1, e2⟩, hv⟩ | ⟨e1, e2, hv⟩
      all_goals
        rw [hv]
        clear hv
      · obtain ⟨t, ht⟩ : ∃ t, through a 0 = t := ⟨_, rfl⟩
        rw [ht]
        have HT := Lib.hid ht
        clear ht
        rcases ss with ss | ⟨ss, ss2⟩
        all_goals
          cases t
          all_goals
            go_enter Try.func75, Try.ntmps75
            go_wp2_with (first | (go_at_call 30; refine (rnorm_at _ _ _ HD).mono ?_; rintro e w' ⟨rfl, rfl⟩) | (go_at_call 78; refine (through_at _ _ _ _ HT (by omega) (by omega)).mono ?_; rintro e w' ⟨rfl, rfl⟩))
            go_ret2
            exact ⟨rfl, rfl⟩
      · obtain ⟨t, ht⟩ : ∃ t, through a 0 = t := ⟨_, rfl⟩
        rw [ht]
        have HT := Lib.hid ht
        clear ht
        rcases ss with ss | ⟨ss, ss2⟩
        all_goals
          cases t
          all_goals
            go_enter Try.func75, Try.ntmps75
            go_wp2_with (first | (go_at_call 30; refine (rnorm_at _ _ _ HD).mono ?_; rintro e w' ⟨rfl, rfl⟩) | (go_at_call 78; refine (through_at _ _ _ _ HT (by omega) (by omega)).mono ?_; rintro e w' ⟨rfl, rfl⟩))
            go_ret2
            exact ⟨rfl, rfl⟩
      · obtain ⟨t, ht⟩ : ∃ t, through a s = t := ⟨_, rfl⟩
        rw [ht]
        have HT := Lib.hid ht
        clear ht
        rcases ss with ss | ⟨ss, ss2⟩
        all_goals
          cases t
          all_goals
            go_enter Try.func75, Try.ntmps75
            go_wp2_with (first | (go_at_call 30; refine (rnorm_at _ _ _ HD).mono ?_; rintro e w' ⟨rfl, rfl⟩) | (go_at_call 78; refine (through_at _ _ _ _ HT (by omega) (by omega)).mono ?_; rintro e w' ⟨rfl, rfl⟩))
            go_ret2
            exact ⟨rfl, rfl⟩
theorem rbet_any (a b s : Int) (w : World) :
    Calls Try.prog 75 #[.int .i64 a, .int .i64 b, .int .i64 s] w fun e w' => e = .returned (.tuple #[.int .i64 (betV a b s), .int .i64 (betE a b s)]) ∧ w = w' := by
  by_cases h : wayOk a b = true
  · by_cases hs : sideOk s = true
    · exact rbet_good a b s w h hs
    · exact rbet_kind a b s w h (Bool.of_not_eq_true hs)
  · exact rbet_range a b s w (Bool.of_not_eq_true h)
end Go.Proofs.Ytmjokgddhainlaa.AngW

/-
  Walks of Turned of the specification of package angle: what a call returns for every input. Condition: none.
-/
namespace Go.Proofs.Ytmjokgddhainlaa.AngW
open Go.ChangeShapes Go.WideShapes Go.ChangeAt Go.RowKit
open NumP NumW AngP

/-- Grown, closed to the walk. -/
structure Kept (w w' : World) : Prop where
  g : Grown w w'
theorem Kept.drew {w w' : World} (h : Kept w w') : Kept w w'.drew := ⟨h.g⟩
theorem Kept.drewN {w w' : World} (h : Kept w w') (n : Nat) : Kept w (w'.drewN n) := ⟨h.g⟩
theorem held_step {w wc w1 : World} {B C : Nat} {x y z u : Value} (hg : Grown wc w1) (h : wc.cell? ⟨B, 0, none⟩ = some x ∧ wc.cell? ⟨B, 1, none⟩ = some y ∧ wc.cell? ⟨C, 0, none⟩ = some z ∧ wc.cell? ⟨C, 1, none⟩ = some u ∧ Kept w wc) :
    w1.cell? ⟨B, 0, none⟩ = some x ∧ w1.cell? ⟨B, 1, none⟩ = some y ∧ w1.cell? ⟨C, 0, none⟩ = some z ∧ w1.cell? ⟨C, 1, none⟩ = some u ∧ Kept w w1 :=
  ⟨grown_cell hg h.1, grown_cell hg h.2.1, grown_cell hg h.2.2.1, grown_cell hg h.2.2.2.1, ⟨grown_trans h.2.2.2.2.g hg⟩⟩
theorem fresh_frozen (w : World) (k o : Nat) : w.frozen? ⟨w.heap.size + k, o, none⟩ = false := by
  simp [World.frozen?]

/-- Turned's value and error. -/
def turE (x y : Int) : Int := if inMM x y = true then 0 else 1
def turU (x y a : Int) : Int := if inMM x y = true then turX x y a else 0
def turV (x y a : Int) : Int := if inMM x y = true then turY x y a else 0
theorem near_round {s : Int} (h : -2147483648 ≤ s ∧ s ≤ 2147483648) : roundV s 16384 = nearV s 16384 ∧ roundE s 16384 = 0 := by
  have h1 := round_ok ((small_iff s).2 (by omega)) ((small_iff 16384).2 (by decide)) (by decide)
  rw [if_neg (by decide)] at h1
  exact ⟨h1.2, h1.1⟩
end Go.Proofs.Ytmjokgddhainlaa.AngW

/-
  The frame that the proofs of the statements about angle share: the table of sines as the row lists it. Condition: none.
-/
namespace Go.Proofs.Ytmjokgddhainlaa.AngW
open Go.ChangeShapes Go.WideShapes Go.ChangeAt Go.RowKit
open NumP NumW AngP
theorem own : ownKnob Try.prog.godebug = none := by kernel_rfl
theorem wf_bd {n : Int} (h : (Lit.int .i64 n).wf = true) : -9223372036854775808 ≤ n ∧ n ≤ 9223372036854775807 := bounds_i64 h
theorem wf_bd8 {n : Int} (h : (Lit.int .u8 n).wf = true) : 0 ≤ n ∧ n ≤ 255 := bounds_u8 h
theorem cellsInt : Try.prog.cellsOf 3 = 1 := by kernel_rfl
end Go.Proofs.Ytmjokgddhainlaa.AngW

/-
  Walks of the functions of package angle: what each call returns for every input. Condition: the table of sines lies in memory (Tab), which every start of the program gives.
-/
namespace Go.Proofs.Ytmjokgddhainlaa.AngW
open Go.ChangeShapes Go.WideShapes Go.ChangeAt Go.RowKit
open NumP NumW AngP


theorem and255 (n : Int) : bits .and .i64 n 255 = n % 256 := by
  have h255 : (BitVec.ofInt 64 255).toNat = 2 ^ 8 - 1 := by decide
  have key : (BitVec.ofInt 64 n &&& BitVec.ofInt 64 255).toNat = (n % ((2 ^ 64 : Nat) : Int)).toNat % 2 ^ 8 := by
    rw [BitVec.toNat_and, BitVec.toNat_ofInt, h255, Nat.and_two_pow_sub_one_eq_mod]
  show IntKind.i64.wrap ((BitVec.ofInt 64 n &&& BitVec.ofInt 64 255).toNat : Nat) = n % 256
  rw [key, IntKind.wrap_i64]
  omega
theorem norm_any (a : Int) (w : World) :
    Calls Try.prog 47 #[.int .i64 a] w fun e w' => e = .returned (.int .i64 (a % 256)) ∧ w = w' := by
  have H := Lib.hid (and255 a)
  go_enter Try.func47, Try.ntmps47
  go_wp2
  go_ret
  exact ⟨ret_int H.out, rfl⟩
theorem norm_at (a v : Int) (w : World) (H : Hid (a % 256 = v)) :
    Calls Try.prog 47 #[.int .i64 a] w fun e w' => e = .returned (.int .i64 v) ∧ w = w' := by
  obtain rfl := H.out
  exact norm_any a w
theorem mir_at (a v : Int) (w : World) (H : Hid ((-a) % 256 = v)) :
    Calls Try.prog 28 #[.int .i64 a] w fun e w' => e = .returned (.int .i64 v) ∧ w = w' := by
  have HM := Lib.hid (show (wrap64 (-a)) % 256 = v by rw [← H.out]; unfold wrap64; omega)
  go_enter Try.func28, Try.ntmps28
  go_wp2_with (go_at_call 47; refine (norm_at _ _ _ HM).mono ?_; rintro e w' ⟨rfl, rfl⟩)
  go_ret
  exact ⟨rfl, rfl⟩
theorem sin_cases' (n : Nat) (hn : n < 256) :
    n ≤ 64 ∧ tabN n = sinN n ∨ 64 < n ∧ n ≤ 128 ∧ tabN (128 - n) = sinN n ∨ 128 < n ∧ n ≤ 192 ∧ tabN (n - 128) = -sinN n ∨ 192 < n ∧ tabN (256 - n) = -sinN n := by
  unfold sinN
  by_cases h1 : n ≤ 64
  · rw [if_pos h1]; exact Or.inl ⟨h1, rfl⟩
  · rw [if_neg h1]
    by_cases h2 : n ≤ 128
    · rw [if_pos h2]; exact Or.inr (Or.inl ⟨by omega, h2, rfl⟩)
    · rw [if_neg h2]
      by_cases h3 : n ≤ 192
      · rw [if_pos h3, Int.neg_neg]; exact Or.inr (Or.inr (Or.inl ⟨by omega, h3, rfl⟩))
      · rw [if_neg h3, Int.neg_neg]; exact Or.inr (Or.inr (Or.inr ⟨by omega, rfl⟩))
/-! ### Turned -/
def floorB (n : Int) : Bool := decide (-32768 ≤ n) && decide (n ≤ 32768)
theorem floor_iff (n : Int) : floorB n = true ↔ -32768 ≤ n ∧ n ≤ 32768 := by unfold floorB; rw [Bool.and_eq_true, decide_eq_true_eq, decide_eq_true_eq]
end Go.Proofs.Ytmjokgddhainlaa.AngW
