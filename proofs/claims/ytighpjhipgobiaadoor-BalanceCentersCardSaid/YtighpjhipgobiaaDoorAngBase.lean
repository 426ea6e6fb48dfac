/-
  Several texts in one file: AnglePlain, AngleA, AngleB, AngleC, AngleD, AngleFrame, AngleE. Condition: those of each.
-/
import Derived.Test.YtighpjhipgobiaaDoorNumBase
import Derived.Below
import Derived.Laws.Tables
import Derived.Laws.Rows
import Derived.Deep.WholeRow
import Derived.RowKit3
import Derived.Deep.RegionHeld3
import Derived.Deep.DeepCutAuto
import Derived.IntWalk
import Derived.Test.YtighpjhipgobiaaDoorCards
import Derived.Test.YtighpjhipgobiaaDoorTie
import Derived.OpenShut
import Derived.Lib.SmallJoins
import Derived.Deep.DeepHandedRow
import Derived.Lib.LaidTab
import Derived.BigQuiet
/-
  Plain mathematics of layer angle (no Go): normal forms, the table of sines, ways between angles, turned points. Condition: none.
-/
namespace Go.Proofs.YtighpjhipgobiaaDoor.AngP
open NumP

/-! ### The table -/
def tabS : List Int := [
  0, 402, 804, 1205, 1606, 2006, 2404, 2801,
  3196, 3590, 3981, 4370, 4756, 5139, 5520, 5897,
  6270, 6639, 7005, 7366, 7723, 8076, 8423, 8765,
  9102, 9434, 9760, 10080, 10394, 10702, 11003, 11297,
  11585, 11866, 12140, 12406, 12665, 12916, 13160, 13395,
  13623, 13842, 14053, 14256, 14449, 14635, 14811, 14978,
  15137, 15286, 15426, 15557, 15679, 15791, 15893, 15986,
  16069, 16143, 16207, 16261, 16305, 16340, 16364, 16379,
  16384]
def tabN (k : Nat) : Int := tabS.getD k 0
/-- The sine of a normal form. -/
def sinN (n : Nat) : Int := if n ≤ 64 then tabN n else if n ≤ 128 then tabN (128 - n) else if n ≤ 192 then -tabN (n - 128) else -tabN (256 - n)
def sinV (a : Int) : Int := sinN (a % 256).toNat
def cosV (a : Int) : Int := sinV (a % 256 + 64)
theorem sinV_mod (a : Int) : sinV (a % 256) = sinV a := by unfold sinV; rw [Int.emod_emod_of_dvd _ (Int.dvd_refl _)]
theorem sinV_eq {a b : Int} (h : a % 256 = b % 256) : sinV a = sinV b := by unfold sinV; rw [h]
theorem cosV_sin (a : Int) : cosV a = sinV (a + 64) := by unfold cosV; exact sinV_eq (by omega)

/-! ### What a look at each of the 256 angles tells -/
def chk (n : Nat) : Bool :=
  decide (sinV (-(n : Int)) = -sinV n) && decide (sinV (n + 128) = -sinV n) &&
  decide (-16384 ≤ sinV n) && decide (sinV n ≤ 16384) &&
  decide (-23172 ≤ sinV n * sinV n + sinV (n + 64) * sinV (n + 64) - 268435456) && decide (sinV n * sinV n + sinV (n + 64) * sinV (n + 64) - 268435456 ≤ 23172) &&
  (decide (64 ≤ n) && decide (n ≤ 191) || decide (sinV n ≤ sinV (n + 1)))
theorem chk_all : (List.range 256).all chk = true := by decide +kernel
theorem chk_at (n : Nat) (h : n < 256) : chk n = true := List.all_eq_true.1 chk_all n (List.mem_range.2 h)
theorem facts_nat (n : Nat) (h : n < 256) :
    sinV (-(n : Int)) = -sinV n ∧ sinV (n + 128) = -sinV n ∧ (-16384 ≤ sinV n ∧ sinV n ≤ 16384) ∧
    (-23172 ≤ sinV n * sinV n + sinV (n + 64) * sinV (n + 64) - 268435456 ∧ sinV n * sinV n + sinV (n + 64) * sinV (n + 64) - 268435456 ≤ 23172) ∧
    (n < 64 ∨ 191 < n → sinV n ≤ sinV (n + 1)) := by
  have c := chk_at n h
  unfold chk at c
  simp only [Bool.and_eq_true, Bool.or_eq_true, decide_eq_true_eq] at c
  obtain ⟨⟨⟨⟨⟨⟨c1, c2⟩, c3⟩, c4⟩, c5⟩, c6⟩, c7⟩ := c
  exact ⟨c1, c2, ⟨c3, c4⟩, ⟨c5, c6⟩, fun g => c7.elim (fun x => absurd x (by omega)) id⟩
theorem sin_facts (a : Int) :
    sinV (-a) = -sinV a ∧ sinV (a + 128) = -sinV a ∧ (-16384 ≤ sinV a ∧ sinV a ≤ 16384) ∧
    (-23172 ≤ sinV a * sinV a + cosV a * cosV a - 268435456 ∧ sinV a * sinV a + cosV a * cosV a - 268435456 ≤ 23172) ∧
    (a % 256 < 64 ∨ 191 < a % 256 → sinV a ≤ sinV (a + 1)) := by
  obtain ⟨n, hn⟩ : ∃ n : Nat, a % 256 = n := ⟨(a % 256).toNat, by omega⟩
  have f := facts_nat n (by omega)
  have e0 : sinV n = sinV a := sinV_eq (by omega)
  have e1 : sinV (-(n : Int)) = sinV (-a) := sinV_eq (by omega)
  have e2 : sinV ((n : Int) + 128) = sinV (a + 128) := sinV_eq (by omega)
  have e3 : sinV ((n : Int) + 64) = cosV a := by rw [cosV_sin]; exact sinV_eq (by omega)
  have e4 : sinV ((n : Int) + 1) = sinV (a + 1) := sinV_eq (by omega)
  rw [e0, e1, e2, e3, e4] at f
  exact ⟨f.1, f.2.1, f.2.2.1, f.2.2.2.1, fun g => f.2.2.2.2 (by omega)⟩
theorem sin_bd (a : Int) : -16384 ≤ sinV a ∧ sinV a ≤ 16384 := (sin_facts a).2.2.1
theorem cos_bd (a : Int) : -16384 ≤ cosV a ∧ cosV a ≤ 16384 := by rw [cosV_sin]; exact sin_bd _
theorem cos_neg (a : Int) : cosV (-a) = cosV a := by
  have h := (sin_facts (-(a + 64))).2.1
  have h2 := (sin_facts (a + 64)).1
  rw [cosV_sin, cosV_sin]
  rw [h2, Int.neg_neg] at h
  rw [← h]
  exact sinV_eq (by omega)
theorem tabN_bd (k : Nat) : 0 ≤ tabN k ∧ tabN k ≤ 16384 := by
  by_cases h : k < 65
  · have c : (List.range 65).all (fun k => decide (0 ≤ tabN k) && decide (tabN k ≤ 16384)) = true := by decide +kernel
    have := List.all_eq_true.1 c k (List.mem_range.2 h)
    simpa using this
  · unfold tabN
    rw [List.getD_eq_getElem?_getD, List.getElem?_eq_none (by show 65 ≤ k; omega)]; decide

/-! ### Mirror and ways -/
theorem mir_mod (a : Int) : (-a) % 256 = (256 - a % 256) % 256 := by omega
/-- The way from a to b, side x deciding between half turns. -/
def through (a x : Int) : Bool := decide (1 ≤ (x - a) % 256) && decide ((x - a) % 256 ≤ 127)
def halfV (a b s : Int) : Int := if through a (if a = s ∨ b = s then 0 else s) = true then 128 else -128
def wayV (a b s : Int) : Int := if (b - a) % 256 < 128 then (b - a) % 256 else if 128 < (b - a) % 256 then (b - a) % 256 - 256 else halfV a b s
def wayOk (a b : Int) : Bool := decide (0 ≤ a) && decide (a ≤ 255) && (decide (0 ≤ b) && decide (b ≤ 255))
def sideOk (s : Int) : Bool := decide (s = 64) || decide (s = 192)
def betE (a b s : Int) : Int := if wayOk a b = true then (if sideOk s = true then 0 else 9) else 1
def betV (a b s : Int) : Int := if betE a b s = 0 then wayV a b s else 0
theorem wayOk_iff (a b : Int) : wayOk a b = true ↔ (0 ≤ a ∧ a ≤ 255) ∧ (0 ≤ b ∧ b ≤ 255) := by
  unfold wayOk; rw [Bool.and_eq_true, Bool.and_eq_true, Bool.and_eq_true, decide_eq_true_eq, decide_eq_true_eq, decide_eq_true_eq, decide_eq_true_eq]
theorem wayOk_no (a b : Int) : wayOk a b = false ↔ a < 0 ∨ 255 < a ∨ b < 0 ∨ 255 < b := by rw [← Bool.not_eq_true, wayOk_iff]; omega
theorem sideOk_iff (s : Int) : sideOk s = true ↔ s = 64 ∨ s = 192 := by unfold sideOk; rw [Bool.or_eq_true, decide_eq_true_eq, decide_eq_true_eq]
theorem sideOk_no (s : Int) : sideOk s = false ↔ s ≠ 64 ∧ s ≠ 192 := by rw [← Bool.not_eq_true, sideOk_iff]; omega
theorem bet_ok {a b s : Int} (h : wayOk a b = true) (hs : sideOk s = true) : betE a b s = 0 ∧ betV a b s = wayV a b s := by
  have e : betE a b s = 0 := by unfold betE; rw [if_pos h, if_pos hs]
  exact ⟨e, by unfold betV; rw [if_pos e]⟩
theorem bet_range {a b s : Int} (h : wayOk a b = false) : betE a b s = 1 ∧ betV a b s = 0 := by
  have e : betE a b s = 1 := by unfold betE; rw [if_neg (by rw [h]; decide)]
  exact ⟨e, by unfold betV; rw [if_neg (by rw [e]; decide)]⟩
theorem bet_kind {a b s : Int} (h : wayOk a b = true) (hs : sideOk s = false) : betE a b s = 9 ∧ betV a b s = 0 := by
  have e : betE a b s = 9 := by unfold betE; rw [if_pos h, if_neg (by rw [hs]; decide)]
  exact ⟨e, by unfold betV; rw [if_neg (by rw [e]; decide)]⟩
theorem through_iff (a x : Int) : through a x = true ↔ 1 ≤ (x - a) % 256 ∧ (x - a) % 256 ≤ 127 := by
  unfold through; rw [Bool.and_eq_true, decide_eq_true_eq, decide_eq_true_eq]
theorem half_eq (a b s : Int) : (halfV a b s = 128 ∧ (1 ≤ ((if a = s ∨ b = s then 0 else s) - a) % 256 ∧ ((if a = s ∨ b = s then 0 else s) - a) % 256 ≤ 127)) ∨ (halfV a b s = -128 ∧ ¬ (1 ≤ ((if a = s ∨ b = s then 0 else s) - a) % 256 ∧ ((if a = s ∨ b = s then 0 else s) - a) % 256 ≤ 127)) := by
  unfold halfV
  by_cases h : 1 ≤ ((if a = s ∨ b = s then 0 else s) - a) % 256 ∧ ((if a = s ∨ b = s then 0 else s) - a) % 256 ≤ 127
  · rw [if_pos ((through_iff _ _).2 h)]; exact Or.inl ⟨rfl, h⟩
  · rw [if_neg (fun x => h ((through_iff _ _).1 x))]; exact Or.inr ⟨rfl, h⟩
theorem way_bd (a b s : Int) : -128 ≤ wayV a b s ∧ wayV a b s ≤ 128 := by
  unfold wayV
  rcases half_eq a b s with ⟨h, _⟩ | ⟨h, _⟩ <;> rw [h] <;> split <;> (try split) <;> omega
theorem way_lands (a b s : Int) : (a + wayV a b s - b) % 256 = 0 := by
  unfold wayV
  rcases half_eq a b s with ⟨h, _⟩ | ⟨h, _⟩ <;> rw [h] <;> split <;> (try split) <;> omega
theorem half_back {a b s : Int} (ha : 0 ≤ a ∧ a ≤ 255) (hb : 0 ≤ b ∧ b ≤ 255) (hs : s = 64 ∨ s = 192) (h : (b - a) % 256 = 128) : halfV b a s = -halfV a b s := by
  have hx : (if b = s ∨ a = s then (0 : Int) else s) = (if a = s ∨ b = s then 0 else s) := by
    by_cases c : a = s ∨ b = s
    · rw [if_pos c, if_pos (Or.symm c)]
    · rw [if_neg c, if_neg (fun x => c (Or.symm x))]
  have h1 := half_eq a b s
  have h2 := half_eq b a s
  rw [hx] at h2
  by_cases c : a = s ∨ b = s
  · rw [if_pos c] at h1 h2; omega
  · rw [if_neg c] at h1 h2; omega
theorem way_back {a b s : Int} (ha : 0 ≤ a ∧ a ≤ 255) (hb : 0 ≤ b ∧ b ≤ 255) (hs : s = 64 ∨ s = 192) : wayV b a s = -wayV a b s := by
  unfold wayV
  by_cases h : (b - a) % 256 = 128
  · rw [half_back ha hb hs h, if_neg (by omega), if_neg (by omega), if_neg (by omega), if_neg (by omega)]
  · by_cases h2 : (b - a) % 256 < 128
    · rw [if_pos h2]
      by_cases h3 : (b - a) % 256 = 0
      · rw [if_pos (by omega)]; omega
      · rw [if_neg (by omega), if_pos (by omega)]; omega
    · rw [if_neg h2, if_pos (by omega), if_pos (by omega)]; omega
theorem half_image {a b s : Int} (ha : 0 ≤ a ∧ a ≤ 255) (hb : 0 ≤ b ∧ b ≤ 255) (hs : s = 64 ∨ s = 192) (h : (b - a) % 256 = 128) : halfV ((-a) % 256) ((-b) % 256) ((-s) % 256) = -halfV a b s := by
  have h1 := half_eq a b s
  have h2 := half_eq ((-a) % 256) ((-b) % 256) ((-s) % 256)
  by_cases c : a = s ∨ b = s
  · rw [if_pos c] at h1
    rw [if_pos (by omega)] at h2
    omega
  · rw [if_neg c] at h1
    rw [if_neg (by omega)] at h2
    omega
theorem way_image {a b s : Int} (ha : 0 ≤ a ∧ a ≤ 255) (hb : 0 ≤ b ∧ b ≤ 255) (hs : s = 64 ∨ s = 192) : wayV ((-a) % 256) ((-b) % 256) ((-s) % 256) = -wayV a b s := by
  unfold wayV
  by_cases h : (b - a) % 256 = 128
  · rw [half_image ha hb hs h, if_neg (by omega), if_neg (by omega), if_neg (by omega), if_neg (by omega)]
  · by_cases h2 : (b - a) % 256 < 128
    · rw [if_pos h2]
      by_cases h3 : (b - a) % 256 = 0
      · rw [if_pos (by omega)]; omega
      · rw [if_neg (by omega), if_pos (by omega)]; omega
    · rw [if_neg h2, if_pos (by omega), if_pos (by omega)]; omega

/-! ### Turned points -/
def inMM (x y : Int) : Bool := decide (-32768 ≤ x) && decide (x ≤ 32768) && (decide (-32768 ≤ y) && decide (y ≤ 32768))
theorem inMM_iff (x y : Int) : inMM x y = true ↔ (-32768 ≤ x ∧ x ≤ 32768) ∧ (-32768 ≤ y ∧ y ≤ 32768) := by
  unfold inMM; rw [Bool.and_eq_true, Bool.and_eq_true, Bool.and_eq_true, decide_eq_true_eq, decide_eq_true_eq, decide_eq_true_eq, decide_eq_true_eq]
theorem inMM_no (x y : Int) : inMM x y = false ↔ x < -32768 ∨ 32768 < x ∨ y < -32768 ∨ 32768 < y := by rw [← Bool.not_eq_true, inMM_iff]; omega
def turX (x y a : Int) : Int := nearV (x * cosV a + y * sinV a) 16384
def turY (x y a : Int) : Int := nearV (y * cosV a - x * sinV a) 16384
theorem prod_bd {x c m k : Int} (hx : -m ≤ x ∧ x ≤ m) (hc : -k ≤ c ∧ c ≤ k) : -(m * k) ≤ x * c ∧ x * c ≤ m * k := by
  have h := Int.natAbs_mul x c
  have h3 := Nat.mul_le_mul (show x.natAbs ≤ m.natAbs by omega) (show c.natAbs ≤ k.natAbs by omega)
  have h4 : (m * k).natAbs = m.natAbs * k.natAbs := Int.natAbs_mul m k
  have h5 : 0 ≤ m * k := Int.mul_nonneg (by omega) (by omega)
  omega
theorem tur_bds {x y : Int} (h : inMM x y = true) (a : Int) :
    (-536870912 ≤ x * cosV a ∧ x * cosV a ≤ 536870912) ∧ (-536870912 ≤ y * sinV a ∧ y * sinV a ≤ 536870912) ∧ (-536870912 ≤ y * cosV a ∧ y * cosV a ≤ 536870912) ∧ (-536870912 ≤ x * sinV a ∧ x * sinV a ≤ 536870912) := by
  obtain ⟨hx, hy⟩ := (inMM_iff x y).1 h
  exact ⟨prod_bd hx (cos_bd a), prod_bd hy (sin_bd a), prod_bd hy (cos_bd a), prod_bd hx (sin_bd a)⟩
theorem near_exact (x d : Int) (hd : 1 ≤ d) : nearV (x * d) d = x := by
  apply nearV_eq hd
  unfold Near
  omega
theorem quarter (x y : Int) :
    (turX x y 0 = x ∧ turY x y 0 = y) ∧ (turX x y 64 = y ∧ turY x y 64 = -x) ∧ (turX x y 128 = -x ∧ turY x y 128 = -y) ∧ (turX x y (-64) = -y ∧ turY x y (-64) = x) := by
  have s0 : sinV 0 = 0 := by decide +kernel
  have c0 : cosV 0 = 16384 := by decide +kernel
  have s1 : sinV 64 = 16384 := by decide +kernel
  have c1 : cosV 64 = 0 := by decide +kernel
  have s2 : sinV 128 = 0 := by decide +kernel
  have c2 : cosV 128 = -16384 := by decide +kernel
  have s3 : sinV (-64) = -16384 := by decide +kernel
  have c3 : cosV (-64) = 0 := by decide +kernel
  unfold turX turY
  rw [s0, c0, s1, c1, s2, c2, s3, c3]
  refine ⟨⟨?_, ?_⟩, ⟨?_, ?_⟩, ⟨?_, ?_⟩, ?_, ?_⟩
  · rw [show x * 16384 + y * 0 = x * 16384 by omega]; exact near_exact _ _ (by decide)
  · rw [show y * 16384 - x * 0 = y * 16384 by omega]; exact near_exact _ _ (by decide)
  · rw [show x * 0 + y * 16384 = y * 16384 by omega]; exact near_exact _ _ (by decide)
  · rw [show y * 0 - x * 16384 = -x * 16384 by omega]; exact near_exact _ _ (by decide)
  · rw [show x * -16384 + y * 0 = -x * 16384 by omega]; exact near_exact _ _ (by decide)
  · rw [show y * -16384 - x * 0 = -y * 16384 by omega]; exact near_exact _ _ (by decide)
  · rw [show x * 0 + y * -16384 = -y * 16384 by omega]; exact near_exact _ _ (by decide)
  · rw [show y * 0 - x * -16384 = x * 16384 by omega]; exact near_exact _ _ (by decide)
theorem image (x y a : Int) : turX (-x) y ((-a) % 256) = -turX x y a ∧ turY (-x) y ((-a) % 256) = turY x y a := by
  have es : sinV ((-a) % 256) = -sinV a := by rw [sinV_mod]; exact (sin_facts a).1
  have ec : cosV ((-a) % 256) = cosV a := by rw [cosV_sin, ← cos_neg a, cosV_sin]; exact sinV_eq (by omega)
  unfold turX turY
  rw [es, ec]
  constructor
  · rw [← near_neg _ _ (by decide)]
    congr 1
    rw [Int.neg_mul, Int.mul_neg]; omega
  · congr 1
    rw [Int.neg_mul, Int.mul_neg]; omega
end Go.Proofs.YtighpjhipgobiaaDoor.AngP

/-
  Walks of the small functions of the specification of package angle: what each call returns. Condition: none.
-/
namespace Go.Proofs.YtighpjhipgobiaaDoor.AngW
open Go.ChangeShapes Go.WideShapes Go.ChangeAt Go.RowKit
open NumP NumW AngP

theorem tmod256 (a : Int) : (a.tmod 256 < 0 → a.tmod 256 + 256 = a % 256) ∧ (0 ≤ a.tmod 256 → a.tmod 256 = a % 256) :=
  ⟨fun h => (down_neg a 256 (by decide) h).2, fun h => (down_pos a 256 (by decide) h).2⟩
theorem tmod256_bd (a : Int) : -256 < a.tmod 256 ∧ a.tmod 256 < 256 := tmod_bd a 256 (by decide)

theorem rnorm_any (a : Int) (w : World) :
    Calls Tryd.prog 93 #[.int .i64 a] w fun e w' => e = .returned (.int .i64 (a % 256)) ∧ w = w' := by
  have hb := tmod256_bd a
  have ht := tmod256 a
  by_cases h0 : 0 ≤ a
  · clear ht hb
    have hm := mod_bd a 256 (by decide)
    go_enter Tryd.func93, Tryd.ntmps93
    go_wp2
    go_ret
    exact ⟨rfl, rfl⟩
  · by_cases h : a.tmod 256 < 0
    · have H := Lib.hid (ht.1 h)
      clear ht
      go_enter Tryd.func93, Tryd.ntmps93
      go_wp2
      go_ret
      exact ⟨ret_int H.out, rfl⟩
    · have H := Lib.hid (ht.2 (by omega))
      clear ht
      go_enter Tryd.func93, Tryd.ntmps93
      go_wp2
      go_ret
      exact ⟨ret_int H.out, rfl⟩
theorem rnorm_at (a v : Int) (w : World) (H : Hid (a % 256 = v)) :
    Calls Tryd.prog 93 #[.int .i64 a] w fun e w' => e = .returned (.int .i64 v) ∧ w = w' := by
  obtain rfl := H.out
  exact rnorm_any a w
end Go.Proofs.YtighpjhipgobiaaDoor.AngW

/-
  Walks of the table of sines, of Sin and Cos of the specification of package angle: what each call returns. Condition: none.
-/
namespace Go.Proofs.YtighpjhipgobiaaDoor.AngW
open Go.ChangeShapes Go.WideShapes Go.ChangeAt Go.RowKit
open NumP NumW AngP

/-- A composite value whose parts are known: the array that it builds. -/
theorem wpList_build_eq {P : Program} {ops : Array Oper} {rest : List Oper} {o : Oper} {a : Act} {w : World} {Q : Exit → Act → World → Prop} (hg : o.guard = none) (t : TypeId) (parts : Array (Nat × Operand)) (ho : o.op = .build t parts)
    (cells : Array Value) (hf : P.built t (parts.map fun (i, x) => (i, a.eval x)).toList = some cells)
    (h : wpList P ops Q rest (a.put o.dst (.agg cells)) w) : wpList P ops Q (o :: rest) a w :=
  wpList_build hg t parts ho (by rw [hf]; rfl) (by rw [hf]; exact h)

/-- The table as a value of Go. -/
def tabCells : Array Value := (tabS.map (Value.int .i64)).toArray
theorem tab_size : tabCells.size = 65 := by decide
theorem tab_at (k : Nat) (h : k < 65) : tabCells[k]? = some (.int .i64 (tabN k)) := by
  unfold tabCells tabN
  rw [List.getElem?_toArray, List.getElem?_map, List.getD_eq_getElem?_getD]
  have hl : k < tabS.length := h
  rw [List.getElem?_eq_getElem hl]
  rfl
theorem tab_one : tabCells.all (·.oneCell') = true := by decide +kernel

theorem set_new2 (w : World) (A : Obj) (c c' : Array Value) (t : TypeId) : ((w.alloc A).alloc (.cells c t)).setRow (w.heap.size + 1) c' = (w.alloc A).alloc (.cells c' t) := by
  have h := World.setRow_alloc_new (w.alloc A) c c' t
  have e : (w.alloc A).heap.size = w.heap.size + 1 := by show (w.heap.push A).size = _; simp
  rw [e] at h
  exact h
theorem grown_cell {W w' : World} (h : Grown W w') {b o : Nat} {v : Value} (hc : W.cell? ⟨b, o, none⟩ = some v) : w'.cell? ⟨b, o, none⟩ = some v := by
  have h3 := h.1.2.2 b (block_lt_of_cell hc)
  revert hc h3
  simp only [World.cell?]
  generalize W.heap[b]? = x
  generalize w'.heap[b]? = y
  intro hc h3
  rcases x with _ | x
  · simp at hc
  · cases x <;> try (simp at hc; done)
    rcases y with _ | y
    · simp at h3
    · cases y <;> try (simp at h3; done)
      simp only at hc h3 ⊢
      rw [h3.2.2.2 o (fun f => f)]
      exact hc
theorem grown_trans {a b c : World} (h1 : Grown a b) (h2 : Grown b c) : Grown a c :=
  ⟨World.keptBut_trans h1.1 h2.1, fun x => (h2.2.1 x).trans (h1.2.1 x), Nat.le_trans h1.2.2 h2.2.2⟩
theorem grown_drewN {W w' : World} (h : Grown W w') (n : Nat) : Grown W (w'.drewN n) := h
theorem grown_drew {W w' : World} (h : Drew W w') : Grown W w' := by
  obtain ⟨n, rfl⟩ := h
  exact grown_drewN (Grown.refl _) n
def zeroCells : Array Value := Array.replicate 65 (.int .i64 0)
theorem zero_run (w : World) : (zeroValue 121).run Tryd.prog w = .ok (.agg zeroCells) w := by kernel_rfl
theorem tab_info : (Tryd.prog.info? 121).map (·.size) = some 65 := by kernel_rfl
set_option maxRecDepth 100000 in
set_option maxHeartbeats 1000000 in
theorem rtab_core (Z C : Array Value) (w : World) (hz : ∀ w : World, (zeroValue 121).run Tryd.prog w = .ok (.agg Z) w) (hZ : Z.size = 65) (hC : Hid (C = tabCells)) :
    Calls Tryd.prog 101 #[] w fun e w' => e = .returned (.agg C) ∧ w' = w.alloc (.cells C 121) := by
  have hs : C.size = 65 := by rw [hC.out]; exact tab_size
  have HS := Lib.hid hs
  have HZ := Lib.hid hZ
  clear hs hZ
  go_enter Tryd.func101, Tryd.ntmps101
  go_wp2_with (first
    | (refine wpList_build_eq rfl 121 _ rfl C ?_ ?_; (rw [hC.out]; kernel_rfl))
    | (refine wpList_store_row rfl 121 (.tmp 0) (.tmp 1) rfl w.heap.size C rfl rfl 121 Z (heap_alloc_last w _) ?_ ?_ ?_ ?_; (rw [HS.out]; exact tab_info); (rw [HS.out, HZ.out]); (rw [hC.out]; exact tab_one); rw [World.setRow_alloc_new]))
  exact bodyPost_ret (results_cell_row rfl _ _ w.heap.size 121 C (0, 0) _ rfl (heap_alloc_last w _) Tryd.underlying121 rfl (by rw [HS.out]; exact tab_info)) rfl ⟨rfl, rfl⟩
theorem rtab_any (w : World) :
    Calls Tryd.prog 101 #[] w fun e w' => e = .returned (.agg tabCells) ∧ w' = w.alloc (.cells tabCells 121) :=
  rtab_core zeroCells tabCells w zero_run (by decide) (Lib.hid rfl)
theorem rtab_at (C : Array Value) (w : World) (hC : Hid (C = tabCells)) :
    Calls Tryd.prog 101 #[] w fun e w' => e = .returned (.agg C) ∧ w' = w.alloc (.cells C 121) := by
  obtain rfl := hC.out
  exact rtab_any w

set_option maxRecDepth 100000 in
set_option maxHeartbeats 1000000 in
theorem rsin_core (a : Int) (n : Nat) (s : Int) (Z C : Array Value) (w : World) (hz : ∀ w : World, (zeroValue 121).run Tryd.prog w = .ok (.agg Z) w) (hZ : Hid (Z.size = 65)) (hC : Hid (C = tabCells)) (H : Hid (a % 256 = n)) (hn : n < 256)
    (hc : n ≤ 64 ∧ C[n]? = some (.int .i64 s) ∨ 64 < n ∧ n ≤ 128 ∧ C[128 - n]? = some (.int .i64 s) ∨ 128 < n ∧ n ≤ 192 ∧ C[n - 128]? = some (.int .i64 (-s)) ∨ 192 < n ∧ C[256 - n]? = some (.int .i64 (-s))) (hs : -16384 ≤ s ∧ s ≤ 16384) :
    Calls Tryd.prog 95 #[.int .i64 a] w fun e w' => e = .returned (.int .i64 s) ∧ Grown w w' := by
  have HS := Lib.hid (show C.size = 65 by rw [hC.out]; exact tab_size)
  rcases hc with ⟨h1, h2⟩ | ⟨h1, h2, h3⟩ | ⟨h1, h2, h3⟩ | ⟨h1, h2⟩
  all_goals
    go_enter Tryd.func95, Tryd.ntmps95
    go_wp2_with (first
      | (go_at_call 93; refine (rnorm_at _ _ _ H).mono ?_; rintro e w' ⟨rfl, rfl⟩)
      | (go_at_call 101; refine (rtab_at C _ hC).mono ?_; rintro e w' ⟨rfl, rfl⟩)
      | (refine wpList_store_row rfl 121 (.tmp 4) (.tmp 7) rfl (w.heap.size + 1) C rfl rfl 121 Z (heap_alloc2_new w _ _) ?_ ?_ ?_ ?_; (rw [HS.out]; exact tab_info); (rw [HS.out, hZ.out]); (rw [hC.out]; exact tab_one); rw [set_new2]))
    go_ret
    exact ⟨rfl, by repeat (first | exact Grown.refl _ | apply Grown.alloc)⟩
theorem sin_cases (n : Nat) (hn : n < 256) :
    n ≤ 64 ∧ tabCells[n]? = some (.int .i64 (sinN n)) ∨ 64 < n ∧ n ≤ 128 ∧ tabCells[128 - n]? = some (.int .i64 (sinN n)) ∨ 128 < n ∧ n ≤ 192 ∧ tabCells[n - 128]? = some (.int .i64 (-sinN n)) ∨ 192 < n ∧ tabCells[256 - n]? = some (.int .i64 (-sinN n)) := by
  unfold sinN
  by_cases h1 : n ≤ 64
  · rw [if_pos h1]; exact Or.inl ⟨h1, tab_at n (by omega)⟩
  · rw [if_neg h1]
    by_cases h2 : n ≤ 128
    · rw [if_pos h2]; exact Or.inr (Or.inl ⟨by omega, h2, tab_at _ (by omega)⟩)
    · rw [if_neg h2]
      by_cases h3 : n ≤ 192
      · rw [if_pos h3, Int.neg_neg]; exact Or.inr (Or.inr (Or.inl ⟨by omega, h3, tab_at _ (by omega)⟩))
      · rw [if_neg h3, Int.neg_neg]; exact Or.inr (Or.inr (Or.inr ⟨by omega, tab_at _ (by omega)⟩))
theorem rsin_any (a : Int) (w : World) :
    Calls Tryd.prog 95 #[.int .i64 a] w fun e w' => e = .returned (.int .i64 (sinV a)) ∧ Grown w w' :=
  rsin_core a (a % 256).toNat (sinV a) zeroCells tabCells w zero_run (Lib.hid (by decide)) (Lib.hid rfl) (Lib.hid (by omega)) (by omega) (sin_cases _ (by omega)) (sin_bd a)
theorem rsin_at (a s : Int) (w : World) (H : Hid (sinV a = s)) :
    Calls Tryd.prog 95 #[.int .i64 a] w fun e w' => e = .returned (.int .i64 s) ∧ Grown w w' := by
  obtain rfl := H.out
  exact rsin_any a w

theorem rcos_at (a c : Int) (w : World) (H : Hid (cosV a = c)) :
    Calls Tryd.prog 94 #[.int .i64 a] w fun e w' => e = .returned (.int .i64 c) ∧ Grown w w' := by
  obtain ⟨n, hn⟩ : ∃ n, a % 256 = n := ⟨_, rfl⟩
  have H1 := Lib.hid hn
  have h1 : 0 ≤ n ∧ n < 256 := by omega
  have H2 := Lib.hid (show sinV (n + 64) = c by rw [← hn]; exact H.out)
  clear hn
  go_enter Tryd.func94, Tryd.ntmps94
  go_wp2_with (first
    | (go_at_call 93; refine (rnorm_at _ _ _ H1).mono ?_; rintro e w' ⟨rfl, rfl⟩)
    | (go_at_call 95; refine (rsin_at _ _ _ H2).mono ?_; rintro e w' ⟨rfl, hg⟩; have HG := Lib.hid hg; clear hg))
  go_ret
  exact ⟨rfl, HG.out⟩
end Go.Proofs.YtighpjhipgobiaaDoor.AngW

/-
  Walks of Between and of small functions of the specification of package angle: what each call returns for every input. Condition: none.
-/
namespace Go.Proofs.YtighpjhipgobiaaDoor.AngW
open Go.ChangeShapes Go.WideShapes Go.ChangeAt Go.RowKit
open NumP NumW AngP


/-! ### What the tests of Between have to know, case by case -/
theorem ne_of_beq {a b : Int} (h : ¬ a = b) : (a == b) = false := beq_eq_false_iff_ne.2 h
/-- The half turn's two ways: which angle decides, and what it says. -/
theorem half_cases (a b s : Int) : ((a == s) = true ∨ (a == s) = false ∧ (b == s) = true) ∧ halfV a b s = (if through a 0 = true then 128 else -128) ∨ (a == s) = false ∧ (b == s) = false ∧ halfV a b s = (if through a s = true then 128 else -128) := by
  unfold halfV
  by_cases c : a = s
  · exact Or.inl ⟨Or.inl (beq_iff_eq.2 c), by rw [if_pos (show a = s ∨ b = s from Or.inl c)]⟩
  · by_cases c2 : b = s
    · exact Or.inl ⟨Or.inr ⟨ne_of_beq c, beq_iff_eq.2 c2⟩, by rw [if_pos (show a = s ∨ b = s from Or.inr c2)]⟩
    · exact Or.inr ⟨ne_of_beq c, ne_of_beq c2, by rw [if_neg (show ¬ (a = s ∨ b = s) from fun h => h.elim c c2)]⟩

end Go.Proofs.YtighpjhipgobiaaDoor.AngW

/-
  Walks of Turned of the specification of package angle: what a call returns for every input. Condition: none.
-/
namespace Go.Proofs.YtighpjhipgobiaaDoor.AngW
open Go.ChangeShapes Go.WideShapes Go.ChangeAt Go.RowKit
open NumP NumW AngP

/-- Grown, closed to the walk. -/
structure Kept (w w' : World) : Prop where
  g : Grown w w'
theorem Kept.drew {w w' : World} (h : Kept w w') : Kept w w'.drew := ⟨h.g⟩
theorem Kept.drewN {w w' : World} (h : Kept w w') (n : Nat) : Kept w (w'.drewN n) := ⟨h.g⟩
theorem held_step {w wc w1 : World} {B C : Nat} {x y z u : Value} (hg : Grown wc w1) (h : wc.cell? ⟨B, 0, none⟩ = some x ∧ wc.cell? ⟨B, 1, none⟩ = some y ∧ wc.cell? ⟨C, 0, none⟩ = some z ∧ wc.cell? ⟨C, 1, none⟩ = some u ∧ Kept w wc) :
    w1.cell? ⟨B, 0, none⟩ = some x ∧ w1.cell? ⟨B, 1, none⟩ = some y ∧ w1.cell? ⟨C, 0, none⟩ = some z ∧ w1.cell? ⟨C, 1, none⟩ = some u ∧ Kept w w1 :=
  ⟨grown_cell hg h.1, grown_cell hg h.2.1, grown_cell hg h.2.2.1, grown_cell hg h.2.2.2.1, ⟨grown_trans h.2.2.2.2.g hg⟩⟩
theorem fresh_frozen (w : World) (k o : Nat) : w.frozen? ⟨w.heap.size + k, o, none⟩ = false := by
  simp [World.frozen?]

theorem rround_at (a b v f : Int) (w : World) (H : Hid (roundV a b = v ∧ roundE a b = f)) :
    Calls Tryd.prog 24 #[.int .i64 a, .int .i64 b] w fun e w' => e = .returned (.tuple #[.int .i64 v, .int .i64 f]) ∧ Drew w w' := by
  obtain ⟨rfl, rfl⟩ := H.out
  exact rround_any a b w
theorem far_no (x y : Int) (w : World) (h : -32768 ≤ x ∧ x ≤ 32768) (h2 : -32768 ≤ y ∧ y ≤ 32768) :
    Calls Tryd.prog 96 #[.agg #[.int .i64 x, .int .i64 y]] w fun e w' => e = .returned (.bool false) ∧ w' = w.alloc (.cells #[.int .i64 x, .int .i64 y] 26) := by
  go_enter Tryd.func96, Tryd.ntmps96
  go_wp2
  go_ret
  exact ⟨by first | rfl | (simp; omega), rfl⟩
theorem far_yes (x y : Int) (w : World) (h : inMM x y = false) :
    Calls Tryd.prog 96 #[.agg #[.int .i64 x, .int .i64 y]] w fun e w' => e = .returned (.bool true) ∧ w' = w.alloc (.cells #[.int .i64 x, .int .i64 y] 26) := by
  rw [inMM_no] at h
  have t : x < -32768 ∨ ¬ x < -32768 ∧ 32768 < x ∨ ¬ x < -32768 ∧ ¬ 32768 < x ∧ y < -32768 ∨ ¬ x < -32768 ∧ ¬ 32768 < x ∧ ¬ y < -32768 ∧ 32768 < y := by omega
  clear h
  rcases t with t | ⟨t, t1⟩ | ⟨t, t1, t2⟩ | ⟨t, t1, t2, t3⟩
  all_goals
    go_enter Tryd.func96, Tryd.ntmps96
    go_wp2
    go_ret
    exact ⟨rfl, rfl⟩
set_option maxRecDepth 100000 in
set_option maxHeartbeats 4000000 in
theorem rtur (x y a c s u v : Int) (w : World) (h : -32768 ≤ x ∧ x ≤ 32768) (h2 : -32768 ≤ y ∧ y ≤ 32768) (HC : Hid (cosV a = c)) (HS : Hid (sinV a = s))
    (b1 : -536870912 ≤ x * c ∧ x * c ≤ 536870912) (b2 : -536870912 ≤ y * s ∧ y * s ≤ 536870912) (b3 : -536870912 ≤ y * c ∧ y * c ≤ 536870912) (b4 : -536870912 ≤ x * s ∧ x * s ≤ 536870912)
    (HX : Hid (roundV (x * c + y * s) 16384 = u ∧ roundE (x * c + y * s) 16384 = 0)) (HY : Hid (roundV (y * c - x * s) 16384 = v ∧ roundE (y * c - x * s) 16384 = 0)) :
    Calls Tryd.prog 81 #[.agg #[.int .i64 x, .int .i64 y], .int .i64 a] w fun e w' => e = .returned (.tuple #[.agg #[.int .i64 u, .int .i64 v], .int .i64 0]) ∧ Grown w w' := by
  have e1 : IntKind.i64.wrap (x * c) = x * c := IntWalk.i64_in _ (by omega)
  have e2 : IntKind.i64.wrap (y * s) = y * s := IntWalk.i64_in _ (by omega)
  have e3 : IntKind.i64.wrap (x * c + y * s) = x * c + y * s := IntWalk.i64_in _ (by omega)
  have e4 : IntKind.i64.wrap (y * c) = y * c := IntWalk.i64_in _ (by omega)
  have e5 : IntKind.i64.wrap (x * s) = x * s := IntWalk.i64_in _ (by omega)
  have e6 : IntKind.i64.wrap (y * c - x * s) = y * c - x * s := IntWalk.i64_in _ (by omega)
  have E4 := Lib.hid e4
  have E5 := Lib.hid e5
  have E6 := Lib.hid e6
  clear e4 e5 e6
  go_enter Tryd.func81, Tryd.ntmps81
  go_upto_region 3 with (go_at_call 96; refine (far_no _ _ _ h h2).mono ?_; rintro e w' ⟨rfl, rfl⟩)
  have g0 : Kept w (((w.alloc (.cells #[.int .i64 x, .int .i64 y] 26)).alloc (.cells #[.int .i64 0, .int .i64 0] 26)).alloc (.cells #[.int .i64 x, .int .i64 y] 26)) := ⟨(((Grown.refl w).alloc _ _).alloc _ _).alloc _ _⟩
  have f0 : (((w.alloc (.cells #[.int .i64 x, .int .i64 y] 26)).alloc (.cells #[.int .i64 0, .int .i64 0] 26)).alloc (.cells #[.int .i64 x, .int .i64 y] 26)).cell? ⟨w.heap.size, 0, none⟩ = some (.int .i64 x) := by go_simp
  have f1 : (((w.alloc (.cells #[.int .i64 x, .int .i64 y] 26)).alloc (.cells #[.int .i64 0, .int .i64 0] 26)).alloc (.cells #[.int .i64 x, .int .i64 y] 26)).cell? ⟨w.heap.size, 1, none⟩ = some (.int .i64 y) := by go_simp
  have f2 : (((w.alloc (.cells #[.int .i64 x, .int .i64 y] 26)).alloc (.cells #[.int .i64 0, .int .i64 0] 26)).alloc (.cells #[.int .i64 x, .int .i64 y] 26)).cell? ⟨w.heap.size + 1, 0, none⟩ = some (.int .i64 0) := by go_simp
  have f3 : (((w.alloc (.cells #[.int .i64 x, .int .i64 y] 26)).alloc (.cells #[.int .i64 0, .int .i64 0] 26)).alloc (.cells #[.int .i64 x, .int .i64 y] 26)).cell? ⟨w.heap.size + 1, 1, none⟩ = some (.int .i64 0) := by go_simp
  generalize hW : (((w.alloc (.cells #[.int .i64 x, .int .i64 y] 26)).alloc (.cells #[.int .i64 0, .int .i64 0] 26)).alloc (.cells #[.int .i64 x, .int .i64 y] 26)) = W0 at *
  clear hW
  have g1 := g0.drew
  go_region_held3 (fun w' => w'.cell? ⟨w.heap.size, 0, none⟩ = some (.int .i64 x) ∧ w'.cell? ⟨w.heap.size, 1, none⟩ = some (.int .i64 y) ∧ w'.cell? ⟨w.heap.size + 1, 0, none⟩ = some (.int .i64 0) ∧ w'.cell? ⟨w.heap.size + 1, 1, none⟩ = some (.int .i64 0) ∧ Kept w w') (go_keep)
    (first
      | (go_at_call 94; refine (rcos_at a c _ HC).mono ?_; rintro e w1 ⟨rfl, hg⟩; obtain ⟨k0, k1, k2, k3, k4⟩ := held_step hg (by with_reducible assumption); clear hg)
      | (go_at_call 95; refine (rsin_at a s _ HS).mono ?_; rintro e w1 ⟨rfl, hg⟩; obtain ⟨k0, k1, k2, k3, k4⟩ := held_step hg (by with_reducible assumption); clear hg)
      | (go_at_call 24; refine (rround_at _ _ u 0 _ HX).mono ?_; rintro e w1 ⟨rfl, hd⟩; have hg := grown_drew hd; clear hd; obtain ⟨k0, k1, k2, k3, k4⟩ := held_step hg (by with_reducible assumption); clear hg))
  clear e1 e2 e3 f0 f1 f2 f3 g0 g1
  have e4 := E4.out
  have e5 := E5.out
  have e6 := E6.out
  clear E4 E5 E6
  go_upto_region 4 with (fail)
  have g1 := k4.drew
  go_region_held3 (fun w' => w'.cell? ⟨w.heap.size, 0, none⟩ = some (.int .i64 x) ∧ w'.cell? ⟨w.heap.size, 1, none⟩ = some (.int .i64 y) ∧ w'.cell? ⟨w.heap.size + 1, 0, none⟩ = some (.int .i64 0) ∧ w'.cell? ⟨w.heap.size + 1, 1, none⟩ = some (.int .i64 0) ∧ Kept w w') (go_keep)
    (first
      | (go_at_call 94; refine (rcos_at a c _ HC).mono ?_; rintro e w1 ⟨rfl, hg⟩; obtain ⟨k0, k1, k2, k3, k4⟩ := held_step hg (by with_reducible assumption); clear hg)
      | (go_at_call 95; refine (rsin_at a s _ HS).mono ?_; rintro e w1 ⟨rfl, hg⟩; obtain ⟨k0, k1, k2, k3, k4⟩ := held_step hg (by with_reducible assumption); clear hg)
      | (go_at_call 24; refine (rround_at _ _ v 0 _ HY).mono ?_; rintro e w1 ⟨rfl, hd⟩; have hg := grown_drew hd; clear hd; obtain ⟨k0, k1, k2, k3, k4⟩ := held_step hg (by with_reducible assumption); clear hg))
  clear e4 e5 e6 g1
  have z0 : w1.frozen? ⟨w.heap.size + 1, 0, none⟩ = false := (k4.g.2.1 _).trans (fresh_frozen w 1 0)
  have z1 : w1.frozen? ⟨w.heap.size + 1, 1, none⟩ = false := (k4.g.2.1 _).trans (fresh_frozen w 1 1)
  go_wp2
  exact bodyPost_ret (v := .tuple #[.agg #[.int .i64 u, .int .i64 v], .int .i64 0]) (by simp [results, Tryd.results81, go_sem, k2, k3]) rfl ⟨rfl, (k4.g.setCell (by simp) _).setCell (by simp) _⟩
set_option maxHeartbeats 1000000 in
theorem rtur_bad (x y a : Int) (w : World) (h : inMM x y = false) :
    Calls Tryd.prog 81 #[.agg #[.int .i64 x, .int .i64 y], .int .i64 a] w fun e w' => e = .returned (.tuple #[.agg #[.int .i64 0, .int .i64 0], .int .i64 1]) ∧ Grown w w' := by
  have H := Lib.hid h
  clear h
  go_enter Tryd.func81, Tryd.ntmps81
  go_wp2_with (go_at_call 96; refine (far_yes _ _ _ H.out).mono ?_; rintro e w' ⟨rfl, rfl⟩)
  exact bodyPost_ret (v := .tuple #[.agg #[.int .i64 0, .int .i64 0], .int .i64 1]) (by simp [results, Tryd.results81, go_sem]) rfl ⟨rfl, (((Grown.refl w).alloc _ _).alloc _ _).alloc _ _⟩
/-- Turned's value and error. -/
def turE (x y : Int) : Int := if inMM x y = true then 0 else 1
def turU (x y a : Int) : Int := if inMM x y = true then turX x y a else 0
def turV (x y a : Int) : Int := if inMM x y = true then turY x y a else 0
theorem near_round {s : Int} (h : -2147483648 ≤ s ∧ s ≤ 2147483648) : roundV s 16384 = nearV s 16384 ∧ roundE s 16384 = 0 := by
  have h1 := round_ok ((small_iff s).2 (by omega)) ((small_iff 16384).2 (by decide)) (by decide)
  rw [if_neg (by decide)] at h1
  exact ⟨h1.2, h1.1⟩
theorem rtur_any (x y a : Int) (w : World) :
    Calls Tryd.prog 81 #[.agg #[.int .i64 x, .int .i64 y], .int .i64 a] w fun e w' => e = .returned (.tuple #[.agg #[.int .i64 (turU x y a), .int .i64 (turV x y a)], .int .i64 (turE x y)]) ∧ Grown w w' := by
  unfold turU turV turE
  by_cases h : inMM x y = true
  · rw [if_pos h, if_pos h, if_pos h]
    obtain ⟨b1, b2, b3, b4⟩ := tur_bds h a
    obtain ⟨h1, h2⟩ := (inMM_iff x y).1 h
    exact rtur x y a (cosV a) (sinV a) (turX x y a) (turY x y a) w h1 h2 (Lib.hid rfl) (Lib.hid rfl) b1 b2 b3 b4
      (Lib.hid (near_round (by generalize x * cosV a = p at *; generalize y * sinV a = q at *; omega))) (Lib.hid (near_round (by generalize y * cosV a = p at *; generalize x * sinV a = q at *; omega)))
  · rw [if_neg h, if_neg h, if_neg h]
    exact rtur_bad x y a w (Bool.of_not_eq_true h)
end Go.Proofs.YtighpjhipgobiaaDoor.AngW

/-
  The frame that the proofs of the statements about angle share: the table of sines as the row lists it. Condition: none.
-/
namespace Go.Proofs.YtighpjhipgobiaaDoor.AngW
open Go.ChangeShapes Go.WideShapes Go.ChangeAt Go.RowKit
open NumP NumW AngP
theorem own : ownKnob Tryd.prog.godebug = none := by kernel_rfl
theorem wf_bd {n : Int} (h : (Lit.int .i64 n).wf = true) : -9223372036854775808 ≤ n ∧ n ≤ 9223372036854775807 := bounds_i64 h
theorem wf_bd8 {n : Int} (h : (Lit.int .u8 n).wf = true) : 0 ≤ n ∧ n ≤ 255 := bounds_u8 h
/-- The table's cells hold the sines. -/
structure Tab (w : World) : Prop where
  cell : ∀ k : Nat, k < 65 → w.cell? ⟨2, k, none⟩ = some (.int .i64 (tabN k))
theorem gTab : Tryd.prog.globalNamed "dancestudio/angle.sines" = some 2 := by kernel_rfl
theorem gTabType : (Tryd.prog.globals[2]?).map (·.type) = some 121 := by kernel_rfl
theorem cellsTab : Tryd.prog.cellsOf 121 = 65 := by kernel_rfl
theorem cellsInt : Tryd.prog.cellsOf 3 = 1 := by kernel_rfl
theorem tab_met {W : World} (h : laidMetH Tryd.prog [("dancestudio/angle.sines", Rows.laid_dancestudio_angle_sines)] W) : Tab W := by
  have ht : Lib.TabIs Tryd.prog W "dancestudio/angle.sines" .i64 tabS := Lib.tabIs_of_head (rest := []) gTab gTabType Tryd.underlying121 Tryd.underlying3 cellsInt cellsTab h
  exact ⟨fun k hk => ht.cell gTab k hk⟩
/-- A start for the witness: the settled one, the table holding what its initialiser lays. -/
noncomputable def laidWorld (os : Os) : World :=
  { World.holding Tryd.prog os ⟨#[], #[], []⟩ with heap := (World.holding Tryd.prog os ⟨#[], #[], []⟩).heap.modify 2 fun
      | .cells _ t frozen => .cells tabCells t frozen
      | o => o }
end Go.Proofs.YtighpjhipgobiaaDoor.AngW

/-
  Walks of the functions of package angle: what each call returns for every input. Condition: the table of sines lies in memory (Tab), which every start of the program gives.
-/
namespace Go.Proofs.YtighpjhipgobiaaDoor.AngW
open Go.ChangeShapes Go.WideShapes Go.ChangeAt Go.RowKit
open NumP NumW AngP

theorem tab_grown {w w' : World} (h : Tab w) (hg : Grown w w') : Tab w' := ⟨fun k hk => grown_cell hg (h.cell k hk)⟩

theorem and255 (n : Int) : bits .and .i64 n 255 = n % 256 := by
  have h255 : (BitVec.ofInt 64 255).toNat = 2 ^ 8 - 1 := by decide
  have key : (BitVec.ofInt 64 n &&& BitVec.ofInt 64 255).toNat = (n % ((2 ^ 64 : Nat) : Int)).toNat % 2 ^ 8 := by
    rw [BitVec.toNat_and, BitVec.toNat_ofInt, h255, Nat.and_two_pow_sub_one_eq_mod]
  show IntKind.i64.wrap ((BitVec.ofInt 64 n &&& BitVec.ofInt 64 255).toNat : Nat) = n % 256
  rw [key, IntKind.wrap_i64]
  omega
theorem norm_any (a : Int) (w : World) :
    Calls Tryd.prog 34 #[.int .i64 a] w fun e w' => e = .returned (.int .i64 (a % 256)) ∧ w = w' := by
  have H := Lib.hid (and255 a)
  go_enter Tryd.func34, Tryd.ntmps34
  go_wp2
  go_ret
  exact ⟨ret_int H.out, rfl⟩
theorem norm_at (a v : Int) (w : World) (H : Hid (a % 256 = v)) :
    Calls Tryd.prog 34 #[.int .i64 a] w fun e w' => e = .returned (.int .i64 v) ∧ w = w' := by
  obtain rfl := H.out
  exact norm_any a w
theorem mir_at (a v : Int) (w : World) (H : Hid ((-a) % 256 = v)) :
    Calls Tryd.prog 29 #[.int .i64 a] w fun e w' => e = .returned (.int .i64 v) ∧ w = w' := by
  have HM := Lib.hid (show (wrap64 (-a)) % 256 = v by rw [← H.out]; unfold wrap64; omega)
  go_enter Tryd.func29, Tryd.ntmps29
  go_wp2_with (go_at_call 34; refine (norm_at _ _ _ HM).mono ?_; rintro e w' ⟨rfl, rfl⟩)
  go_ret
  exact ⟨rfl, rfl⟩
theorem sin_cases' (n : Nat) (hn : n < 256) :
    n ≤ 64 ∧ tabN n = sinN n ∨ 64 < n ∧ n ≤ 128 ∧ tabN (128 - n) = sinN n ∨ 128 < n ∧ n ≤ 192 ∧ tabN (n - 128) = -sinN n ∨ 192 < n ∧ tabN (256 - n) = -sinN n := by
  unfold sinN
  by_cases h1 : n ≤ 64
  · rw [if_pos h1]; exact Or.inl ⟨h1, rfl⟩
  · rw [if_neg h1]
    by_cases h2 : n ≤ 128
    · rw [if_pos h2]; exact Or.inr (Or.inl ⟨by omega, h2, rfl⟩)
    · rw [if_neg h2]
      by_cases h3 : n ≤ 192
      · rw [if_pos h3, Int.neg_neg]; exact Or.inr (Or.inr (Or.inl ⟨by omega, h3, rfl⟩))
      · rw [if_neg h3, Int.neg_neg]; exact Or.inr (Or.inr (Or.inr ⟨by omega, rfl⟩))
set_option maxHeartbeats 1000000 in
theorem sin_core (a : Int) (n : Nat) (s : Int) (w : World) (H : Hid (a % 256 = n)) (hn : n < 256) (hs : -16384 ≤ s ∧ s ≤ 16384)
    (hc : n ≤ 64 ∧ w.cell? ⟨2, n, none⟩ = some (.int .i64 s) ∨ 64 < n ∧ n ≤ 128 ∧ w.cell? ⟨2, 128 - n, none⟩ = some (.int .i64 s) ∨ 128 < n ∧ n ≤ 192 ∧ w.cell? ⟨2, n - 128, none⟩ = some (.int .i64 (-s)) ∨ 192 < n ∧ w.cell? ⟨2, 256 - n, none⟩ = some (.int .i64 (-s))) :
    Calls Tryd.prog 84 #[.int .i64 a] w fun e w' => e = .returned (.int .i64 s) ∧ w = w' := by
  rcases hc with ⟨h1, h2⟩ | ⟨h1, h2, h3⟩ | ⟨h1, h2, h3⟩ | ⟨h1, h2⟩
  all_goals
    go_enter Tryd.func84, Tryd.ntmps84
    go_wp2_with (go_at_call 34; refine (norm_at _ _ _ H).mono ?_; rintro e w' ⟨rfl, rfl⟩)
    go_ret
    exact ⟨rfl, rfl⟩
theorem sin_at (a s : Int) (w : World) (H : Hid (sinV a = s)) (hT : Tab w) :
    Calls Tryd.prog 84 #[.int .i64 a] w fun e w' => e = .returned (.int .i64 s) ∧ w = w' := by
  obtain rfl := H.out
  obtain ⟨n, hn⟩ : ∃ n : Nat, a % 256 = n := ⟨(a % 256).toNat, by omega⟩
  have hl : n < 256 := by omega
  have e : sinV a = sinN n := by unfold sinV; rw [hn]; rfl
  refine sin_core a n (sinV a) w (Lib.hid hn) hl (sin_bd a) ?_
  rw [e]
  rcases sin_cases' n hl with ⟨h1, h2⟩ | ⟨h1, h2, h3⟩ | ⟨h1, h2, h3⟩ | ⟨h1, h2⟩
  · exact Or.inl ⟨h1, by rw [← h2]; exact hT.cell _ (by omega)⟩
  · exact Or.inr (Or.inl ⟨h1, h2, by rw [← h3]; exact hT.cell _ (by omega)⟩)
  · exact Or.inr (Or.inr (Or.inl ⟨h1, h2, by rw [← h3]; exact hT.cell _ (by omega)⟩))
  · exact Or.inr (Or.inr (Or.inr ⟨h1, by rw [← h2]; exact hT.cell _ (by omega)⟩))
theorem cos_at (a c : Int) (w : World) (H : Hid (cosV a = c)) (hT : Tab w) :
    Calls Tryd.prog 85 #[.int .i64 a] w fun e w' => e = .returned (.int .i64 c) ∧ w = w' := by
  obtain ⟨n, hn⟩ : ∃ n, a % 256 = n := ⟨_, rfl⟩
  have H1 := Lib.hid hn
  have h1 : 0 ≤ n ∧ n < 256 := by omega
  have H2 := Lib.hid (show sinV (n + 64) = c by rw [← hn]; exact H.out)
  clear hn
  go_enter Tryd.func85, Tryd.ntmps85
  go_wp2_with (first
    | (go_at_call 34; refine (norm_at _ _ _ H1).mono ?_; rintro e w' ⟨rfl, rfl⟩)
    | (go_at_call 84; refine (sin_at _ _ _ H2 hT).mono ?_; rintro e w' ⟨rfl, rfl⟩))
  go_ret
  exact ⟨rfl, rfl⟩

/-! ### Turned -/
def floorB (n : Int) : Bool := decide (-32768 ≤ n) && decide (n ≤ 32768)
theorem floor_iff (n : Int) : floorB n = true ↔ -32768 ≤ n ∧ n ≤ 32768 := by unfold floorB; rw [Bool.and_eq_true, decide_eq_true_eq, decide_eq_true_eq]
theorem floor_at (n : Int) (t : Bool) (w : World) (H : Hid (floorB n = t)) :
    Calls Tryd.prog 83 #[.int .i64 n] w fun e w' => e = .returned (.bool t) ∧ w = w' := by
  have hi := floor_iff n
  rw [H.out] at hi
  clear H
  by_cases h1 : -32768 ≤ n
  · by_cases h2 : n ≤ 32768
    · obtain rfl : t = true := hi.2 ⟨h1, h2⟩
      clear hi
      go_enter Tryd.func83, Tryd.ntmps83
      go_wp2
      go_ret
      exact ⟨ret_bool (by simp), rfl⟩
    · obtain rfl : t = false := by cases t <;> simp at hi ⊢; omega
      clear hi
      go_enter Tryd.func83, Tryd.ntmps83
      go_wp2
      go_ret
      exact ⟨ret_bool (by simp), rfl⟩
  · obtain rfl : t = false := by cases t <;> simp at hi ⊢; omega
    clear hi
    go_enter Tryd.func83, Tryd.ntmps83
    go_wp2
    go_ret
    exact ⟨ret_bool (by simp), rfl⟩

set_option maxRecDepth 100000 in
set_option maxHeartbeats 2000000 in
theorem tur_core (x y a c s u v : Int) (w : World) (h : -32768 ≤ x ∧ x ≤ 32768) (h2 : -32768 ≤ y ∧ y ≤ 32768) (HC : Hid (cosV a = c)) (HS : Hid (sinV a = s)) (hT : Tab w)
    (b1 : -536870912 ≤ x * c ∧ x * c ≤ 536870912) (b2 : -536870912 ≤ y * s ∧ y * s ≤ 536870912) (b3 : -536870912 ≤ y * c ∧ y * c ≤ 536870912) (b4 : -536870912 ≤ x * s ∧ x * s ≤ 536870912)
    (HX : Hid (roundV (x * c + y * s) 16384 = u ∧ roundE (x * c + y * s) 16384 = 0)) (HY : Hid (roundV (y * c - x * s) 16384 = v ∧ roundE (y * c - x * s) 16384 = 0)) :
    Calls Tryd.prog 62 #[.agg #[.int .i64 x, .int .i64 y], .int .i64 a] w fun e w' => e = .returned (.tuple #[.agg #[.int .i64 u, .int .i64 v], .int .i64 0]) ∧ Grown w w' := by
  have hg2 : ∀ (A B : Array Value) (t t' : TypeId), Tab ((w.alloc (.cells A t)).alloc (.cells B t')) := fun _ _ _ _ => tab_grown hT (((Grown.refl w).alloc _ _).alloc _ _)
  have HG2 := Lib.hid hg2
  have F1 := Lib.hid ((floor_iff x).2 h)
  have F2 := Lib.hid ((floor_iff y).2 h2)
  clear hg2
  go_enter Tryd.func62, Tryd.ntmps62
  go_wp2_with (first
    | (go_at_call 83; (first | (with_reducible refine (floor_at x true _ F1).mono ?_) | (with_reducible refine (floor_at y true _ F2).mono ?_)); rintro e w' ⟨rfl, rfl⟩)
    | (go_at_call 84; refine (sin_at _ s _ HS (HG2.out _ _ _ _)).mono ?_; rintro e w' ⟨rfl, rfl⟩)
    | (go_at_call 85; refine (cos_at _ c _ HC (HG2.out _ _ _ _)).mono ?_; rintro e w' ⟨rfl, rfl⟩)
    | (go_at_call 51; (first | (with_reducible refine (round_at (x * c + y * s) 16384 u 0 _ HX (by omega) (by omega) (by omega) (by omega)).mono ?_) | (with_reducible refine (round_at (y * c - x * s) 16384 v 0 _ HY (by omega) (by omega) (by omega) (by omega)).mono ?_)); rintro e w' ⟨rfl, ⟨n1, rfl⟩⟩))
  exact bodyPost_ret (v := .tuple #[.agg #[.int .i64 u, .int .i64 v], .int .i64 0]) (by simp [results, Tryd.results62, go_sem]) rfl ⟨rfl, by repeat (first | exact Grown.refl _ | apply grown_drewN | apply Grown.alloc | refine Grown.setCell ?_ (by simp) _)⟩
set_option maxHeartbeats 2000000 in
theorem tur_bad (x y a : Int) (w : World) (h : inMM x y = false) :
    Calls Tryd.prog 62 #[.agg #[.int .i64 x, .int .i64 y], .int .i64 a] w fun e w' => e = .returned (.tuple #[.agg #[.int .i64 0, .int .i64 0], .int .i64 1]) ∧ Grown w w' := by
  have hx := floor_iff x
  have hy := floor_iff y
  rw [inMM_no] at h
  obtain ⟨p, hp⟩ : ∃ p, floorB x = p := ⟨_, rfl⟩
  obtain ⟨q, hq⟩ : ∃ q, floorB y = q := ⟨_, rfl⟩
  rw [hp] at hx
  rw [hq] at hy
  have F1 := Lib.hid hp
  have F2 := Lib.hid hq
  have t : p = false ∨ p = true ∧ q = false := by
    cases p
    · exact Or.inl rfl
    · cases q
      · exact Or.inr ⟨rfl, rfl⟩
      · have := hx.1 rfl
        have := hy.1 rfl
        omega
  clear h hx hy hp hq
  rcases t with rfl | ⟨rfl, rfl⟩
  all_goals
    go_enter Tryd.func62, Tryd.ntmps62
    go_wp2_with (go_at_call 83; (first | (with_reducible refine (floor_at x _ _ F1).mono ?_) | (with_reducible refine (floor_at y _ _ F2).mono ?_)); rintro e w' ⟨rfl, rfl⟩)
    exact bodyPost_ret (v := .tuple #[.agg #[.int .i64 0, .int .i64 0], .int .i64 1]) (by simp [results, Tryd.results62, go_sem]) rfl ⟨rfl, ((Grown.refl w).alloc _ _).alloc _ _⟩
theorem tur_any (x y a : Int) (w : World) (hT : Tab w) :
    Calls Tryd.prog 62 #[.agg #[.int .i64 x, .int .i64 y], .int .i64 a] w fun e w' => e = .returned (.tuple #[.agg #[.int .i64 (turU x y a), .int .i64 (turV x y a)], .int .i64 (turE x y)]) ∧ Grown w w' := by
  unfold turU turV turE
  by_cases h : inMM x y = true
  · rw [if_pos h, if_pos h, if_pos h]
    obtain ⟨b1, b2, b3, b4⟩ := tur_bds h a
    obtain ⟨h1, h2⟩ := (inMM_iff x y).1 h
    exact tur_core x y a (cosV a) (sinV a) (turX x y a) (turY x y a) w h1 h2 (Lib.hid rfl) (Lib.hid rfl) hT b1 b2 b3 b4
      (Lib.hid (near_round (by generalize x * cosV a = p at *; generalize y * sinV a = q at *; omega))) (Lib.hid (near_round (by generalize y * cosV a = p at *; generalize x * sinV a = q at *; omega)))
  · rw [if_neg h, if_neg h, if_neg h]
    exact tur_bad x y a w (Bool.of_not_eq_true h)
theorem tur_at (x y a u v f : Int) (w : World) (H : Hid (turU x y a = u ∧ turV x y a = v ∧ turE x y = f)) (hT : Tab w) :
    Calls Tryd.prog 62 #[.agg #[.int .i64 x, .int .i64 y], .int .i64 a] w fun e w' => e = .returned (.tuple #[.agg #[.int .i64 u, .int .i64 v], .int .i64 f]) ∧ Grown w w' := by
  obtain ⟨rfl, rfl, rfl⟩ := H.out
  exact tur_any x y a w hT
end Go.Proofs.YtighpjhipgobiaaDoor.AngW
