/-
  Plain mathematics of layer build (no Go): the ranges of lengths and masses, steps, masses, scaled bodies. Condition: none.
-/
import Derived.Test.YtighpjhipgobiaaDoorNumBase
namespace Go.Proofs.YtighpjhipgobiaaDoor.BuiP
open NumP
/-- A body: its eleven lengths at 0 to 10, its four masses at 11 to 14. -/
abbrev Bl := Nat → Int
def los : List Int := [400, 200, 50, 200, 20, 50, 100, 0, 0, 20, 100]
def his : List Int := [1500, 1000, 500, 1200, 300, 400, 1200, 200, 200, 300, 1000]
def lo (i : Nat) : Int := los.getD i 0
def hi (i : Nat) : Int := his.getD i 0
/-- Whether a number is from low to high. -/
def inB (n l h : Int) : Bool := decide (l ≤ n) && decide (n ≤ h)
theorem inB_iff {n l h : Int} : inB n l h = true ↔ l ≤ n ∧ n ≤ h := by unfold inB; simp
theorem inB_no {n l h : Int} : inB n l h = false ↔ n < l ∨ h < n := by
  rw [← Bool.not_eq_true, inB_iff]; omega
def Lns (b : Bl) : Prop := ∀ i, i < 11 → lo i ≤ b i ∧ b i ≤ hi i
def Mss (b : Bl) : Prop := ∀ i, i < 4 → 1 ≤ b (11 + i) ∧ b (11 + i) ≤ 200000
def Okb (b : Bl) : Prop := Lns b ∧ Mss b
instance (b : Bl) : Decidable (Lns b) := inferInstanceAs (Decidable (∀ i, i < 11 → lo i ≤ b i ∧ b i ≤ hi i))
instance (b : Bl) : Decidable (Mss b) := inferInstanceAs (Decidable (∀ i, i < 4 → 1 ≤ b (11 + i) ∧ b (11 + i) ≤ 200000))
instance (b : Bl) : Decidable (Okb b) := inferInstanceAs (Decidable (Lns b ∧ Mss b))
/-- The error of Check. -/
def chk (b : Bl) : Int := if Okb b then 0 else 23
theorem chk_yes {b : Bl} (h : Okb b) : chk b = 0 := if_pos h
theorem chk_no {b : Bl} (h : ¬ Okb b) : chk b = 23 := if_neg h
theorem ok_of {b : Bl} (h : chk b = 0) : Okb b := by
  unfold chk at h
  split at h
  · assumption
  · exact absurd h (by decide)
theorem not_ok_of {b : Bl} (h : chk b ≠ 0) : ¬ Okb b := fun k => h (chk_yes k)
theorem chk_bad {b : Bl} (h : chk b ≠ 0) : chk b = 23 := chk_no (not_ok_of h)
theorem bad_len {b : Bl} {i : Nat} (hi' : i < 11) (h : b i < lo i ∨ hi i < b i) : chk b = 23 := chk_no fun k => by have := k.1 i hi'; omega
theorem bad_mass {b : Bl} {i : Nat} (hi' : i < 4) (h : b (11 + i) < 1 ∨ 200000 < b (11 + i)) : chk b = 23 := chk_no fun k => by have := k.2 i hi'; omega
theorem los_at : (lo 0 = 400 ∧ lo 1 = 200 ∧ lo 2 = 50 ∧ lo 3 = 200 ∧ lo 4 = 20 ∧ lo 5 = 50) ∧ lo 6 = 100 ∧ lo 7 = 0 ∧ lo 8 = 0 ∧ lo 9 = 20 ∧ lo 10 = 100 := by decide
theorem his_at : (hi 0 = 1500 ∧ hi 1 = 1000 ∧ hi 2 = 500 ∧ hi 3 = 1200 ∧ hi 4 = 300 ∧ hi 5 = 400) ∧ hi 6 = 1200 ∧ hi 7 = 200 ∧ hi 8 = 200 ∧ hi 9 = 300 ∧ hi 10 = 1000 := by decide
theorem lo_bd : ∀ i, i < 11 → 0 ≤ lo i ∧ hi i ≤ 1500 := by decide
theorem lns_of {b : Bl} (h0 : 400 ≤ b 0 ∧ b 0 ≤ 1500) (h1 : 200 ≤ b 1 ∧ b 1 ≤ 1000) (h2 : 50 ≤ b 2 ∧ b 2 ≤ 500) (h3 : 200 ≤ b 3 ∧ b 3 ≤ 1200) (h4 : 20 ≤ b 4 ∧ b 4 ≤ 300) (h5 : 50 ≤ b 5 ∧ b 5 ≤ 400)
    (h6 : 100 ≤ b 6 ∧ b 6 ≤ 1200) (h7 : 0 ≤ b 7 ∧ b 7 ≤ 200) (h8 : 0 ≤ b 8 ∧ b 8 ≤ 200) (h9 : 20 ≤ b 9 ∧ b 9 ≤ 300) (h10 : 100 ≤ b 10 ∧ b 10 ≤ 1000) : Lns b := by
  intro i hi
  match i, hi with
  | 0, _ => exact h0
  | 1, _ => exact h1
  | 2, _ => exact h2
  | 3, _ => exact h3
  | 4, _ => exact h4
  | 5, _ => exact h5
  | 6, _ => exact h6
  | 7, _ => exact h7
  | 8, _ => exact h8
  | 9, _ => exact h9
  | 10, _ => exact h10
  | n + 11, h => omega
/-- A length of a valid body is from 0 to 1500. -/
theorem len_bd {b : Bl} (h : Lns b) {i : Nat} (hi : i < 11) : 0 ≤ b i ∧ b i ≤ 1500 := by
  have := h i hi
  have := lo_bd i hi
  omega
/-! ### Steps -/
/-- How far an odd step leads along each axis. -/
def hf (s : Int) : Int := nearV (s * 11585) 16384
def stX (s h : Int) : Nat → Int | 0 => 0 | 1 => h | 2 => s | 3 => h | 4 => 0 | 5 => -h | 6 => -s | _ => -h
def stY (s h : Int) : Nat → Int | 0 => s | 1 => h | 2 => 0 | 3 => -h | 4 => -s | 5 => -h | 6 => 0 | _ => h
def stpE (b : Bl) (k : Int) : Int := if Okb b then (if 0 ≤ k ∧ k ≤ 7 then 0 else 1) else 23
def stpX (b : Bl) (k : Int) : Int := if stpE b k = 0 then stX (b 6) (hf (b 6)) k.toNat else 0
def stpY (b : Bl) (k : Int) : Int := if stpE b k = 0 then stY (b 6) (hf (b 6)) k.toNat else 0
theorem stp_bad {b : Bl} {k : Int} (h : ¬ Okb b) : stpE b k = chk b ∧ stpX b k = 0 ∧ stpY b k = 0 := by
  have he : stpE b k = 23 := if_neg h
  refine ⟨by rw [he, chk_no h], ?_, ?_⟩
  · unfold stpX; rw [he]; rfl
  · unfold stpY; rw [he]; rfl
theorem stp_range {b : Bl} {k : Int} (h : Okb b) (hk : ¬ (0 ≤ k ∧ k ≤ 7)) : stpE b k = 1 ∧ stpX b k = 0 ∧ stpY b k = 0 := by
  have he : stpE b k = 1 := by unfold stpE; rw [if_pos h, if_neg hk]
  refine ⟨he, ?_, ?_⟩
  · unfold stpX; rw [he]; rfl
  · unfold stpY; rw [he]; rfl
theorem stp_ok {b : Bl} {k : Nat} (h : Okb b) (hk : k < 8) : stpE b k = 0 ∧ stpX b k = stX (b 6) (hf (b 6)) k ∧ stpY b k = stY (b 6) (hf (b 6)) k := by
  have he : stpE b k = 0 := by unfold stpE; rw [if_pos h, if_pos (by omega)]
  refine ⟨he, ?_, ?_⟩
  · unfold stpX; rw [he]; rfl
  · unfold stpY; rw [he]; rfl
theorem step_bd {b : Bl} (h : Okb b) : 100 ≤ b 6 ∧ b 6 ≤ 1200 := h.1 6 (by omega)
def nice (s : Int) : Bool := decide ((s - 1) * (s - 1) < hf s * hf s + hf s * hf s) && decide (hf s * hf s + hf s * hf s < (s + 1) * (s + 1)) && decide (0 < hf s) && decide (hf s ≤ 1200)
theorem nice_all : ∀ n : Nat, n < 1101 → nice ((n : Int) + 100) = true := by decide +kernel
theorem hf_nice {s : Int} (h : 100 ≤ s ∧ s ≤ 1200) : (s - 1) * (s - 1) < hf s * hf s + hf s * hf s ∧ hf s * hf s + hf s * hf s < (s + 1) * (s + 1) ∧ 0 < hf s ∧ hf s ≤ 1200 := by
  have := nice_all (s - 100).toNat (by omega)
  rw [show (((s - 100).toNat : Nat) : Int) + 100 = s by omega] at this
  unfold nice at this
  simp only [Bool.and_eq_true, decide_eq_true_eq] at this
  exact ⟨this.1.1.1, this.1.1.2, this.1.2, this.2⟩
theorem st_four (s h : Int) : ∀ k, k < 8 → stX s h ((k + 4) % 8) = -stX s h k ∧ stY s h ((k + 4) % 8) = -stY s h k := by
  intro k hk
  match k, hk with
  | 0, _ => simp [stX, stY]
  | 1, _ => simp [stX, stY]
  | 2, _ => simp [stX, stY]
  | 3, _ => simp [stX, stY]
  | 4, _ => simp [stX, stY]
  | 5, _ => simp [stX, stY]
  | 6, _ => simp [stX, stY]
  | 7, _ => simp [stX, stY]
  | n + 8, h => omega
theorem st_two (s h : Int) : ∀ k, k < 8 → stX s h ((k + 2) % 8) = stY s h k ∧ stY s h ((k + 2) % 8) = -stX s h k := by
  intro k hk
  match k, hk with
  | 0, _ => simp [stX, stY]
  | 1, _ => simp [stX, stY]
  | 2, _ => simp [stX, stY]
  | 3, _ => simp [stX, stY]
  | 4, _ => simp [stX, stY]
  | 5, _ => simp [stX, stY]
  | 6, _ => simp [stX, stY]
  | 7, _ => simp [stX, stY]
  | n + 8, h => omega
theorem st_mir (s h : Int) : ∀ k, k < 8 → stX s h ((8 - k) % 8) = -stX s h k ∧ stY s h ((8 - k) % 8) = stY s h k := by
  intro k hk
  match k, hk with
  | 0, _ => simp [stX, stY]
  | 1, _ => simp [stX, stY]
  | 2, _ => simp [stX, stY]
  | 3, _ => simp [stX, stY]
  | 4, _ => simp [stX, stY]
  | 5, _ => simp [stX, stY]
  | 6, _ => simp [stX, stY]
  | 7, _ => simp [stX, stY]
  | n + 8, h => omega
/-! ### Mass -/
def masV (b : Bl) : Int := if Okb b then b 11 + b 12 + 2 * b 13 + 2 * b 14 else 0
/-! ### Scaled -/
def sc1 (n p : Int) : Int := nearV (n * p) 1000
/-- The body with its lengths multiplied. -/
def scB (b : Bl) (p : Int) : Bl := fun i => if i < 11 then sc1 (b i) p else b i
def scE (b : Bl) (p : Int) : Int := if Okb b then (if 500 ≤ p ∧ p ≤ 2000 then chk (scB b p) else 1) else 23
def scV (b : Bl) (p : Int) : Bl := fun i => if scE b p = 0 then scB b p i else 0
theorem scB_len (b : Bl) (p : Int) {i : Nat} (h : i < 11) : scB b p i = sc1 (b i) p := if_pos h
theorem scB_mass (b : Bl) (p : Int) (i : Nat) : scB b p (11 + i) = b (11 + i) := if_neg (by omega)
theorem near_mono {s t d : Int} (hd : 1 ≤ d) (h : s ≤ t) : nearV s d ≤ nearV t d := by
  have hs := near_spec s d hd
  have ht := near_spec t d hd
  generalize nearV s d = n at *
  generalize nearV t d = m at *
  refine Decidable.byContradiction fun hc => ?_
  have hg := mul_gap (n := n) (m := m) hd (by omega)
  unfold Near at hs ht
  generalize hx : n * d = x at *
  generalize hy : m * d = y at *
  have e1 : x = y + d := by omega
  have e2 : n % 2 = 0 := hs.2.2.1 (by omega)
  have e3 : m % 2 = 0 := ht.2.2.2 (by omega)
  have e4 : m + 2 ≤ n := by omega
  have := Int.mul_le_mul_of_nonneg_right (a := m + 2) (b := n) (c := d) e4 (by omega)
  rw [Int.add_mul, hx, hy] at this
  omega
theorem near_whole (n d : Int) (hd : 1 ≤ d) : nearV (n * d) d = n := nearV_eq hd ⟨by omega, by omega, by omega, by omega⟩
theorem sc1_one (n : Int) : sc1 n 1000 = n := near_whole n 1000 (by decide)
theorem scB_one (b : Bl) : scB b 1000 = b := by
  funext i
  unfold scB
  split
  · exact sc1_one _
  · rfl
theorem sc1_mono {n p q : Int} (hn : 0 ≤ n) (h : p ≤ q) : sc1 n p ≤ sc1 n q := near_mono (by decide) (Int.mul_le_mul_of_nonneg_left h hn)
theorem sc_bad {b : Bl} {p : Int} (h : ¬ Okb b) : scE b p = chk b ∧ scV b p = fun _ => 0 := by
  have he : scE b p = 23 := if_neg h
  refine ⟨by rw [he, chk_no h], ?_⟩
  funext i
  unfold scV
  rw [he]; rfl
theorem sc_range {b : Bl} {p : Int} (h : Okb b) (hp : ¬ (500 ≤ p ∧ p ≤ 2000)) : scE b p = 1 ∧ scV b p = fun _ => 0 := by
  have he : scE b p = 1 := by unfold scE; rw [if_pos h, if_neg hp]
  refine ⟨he, ?_⟩
  funext i
  unfold scV
  rw [he]; rfl
theorem sc_no {b : Bl} {p : Int} (h : Okb b) (hp : 500 ≤ p ∧ p ≤ 2000) (hb : ¬ Okb (scB b p)) : scE b p = 23 ∧ scV b p = fun _ => 0 := by
  have he : scE b p = 23 := by unfold scE; rw [if_pos h, if_pos hp, chk_no hb]
  refine ⟨he, ?_⟩
  funext i
  unfold scV
  rw [he]; rfl
theorem sc_yes {b : Bl} {p : Int} (h : Okb b) (hp : 500 ≤ p ∧ p ≤ 2000) (hb : Okb (scB b p)) : scE b p = 0 ∧ scV b p = scB b p := by
  have he : scE b p = 0 := by unfold scE; rw [if_pos h, if_pos hp, chk_yes hb]
  refine ⟨he, ?_⟩
  funext i
  unfold scV
  rw [he]; rfl
theorem sc_ok_of {b : Bl} {p : Int} (he : scE b p = 0) : Okb b ∧ (500 ≤ p ∧ p ≤ 2000) ∧ Okb (scB b p) := by
  by_cases h : Okb b
  · by_cases hp : 500 ≤ p ∧ p ≤ 2000
    · by_cases hb : Okb (scB b p)
      · exact ⟨h, hp, hb⟩
      · rw [(sc_no h hp hb).1] at he; exact absurd he (by decide)
    · rw [(sc_range h hp).1] at he; exact absurd he (by decide)
  · rw [(sc_bad h).1, chk_no h] at he; exact absurd he (by decide)
theorem sc1_bd {n p : Int} (hn : 0 ≤ n ∧ n ≤ 1500) (hp : 500 ≤ p ∧ p ≤ 2000) : 0 ≤ n * p ∧ n * p ≤ 3000000 := by
  have h1 := Int.mul_le_mul hn.2 hp.2 (by omega) (by omega)
  have h2 := Int.mul_nonneg hn.1 (show 0 ≤ p by omega)
  omega
/-- What Round says of a product of a length and a number of thousandths. -/
theorem round_sc {n p : Int} (hn : 0 ≤ n ∧ n ≤ 1500) (hp : 500 ≤ p ∧ p ≤ 2000) : roundV (n * p) 1000 = sc1 n p ∧ roundE (n * p) 1000 = 0 := by
  have hb := sc1_bd hn hp
  have h := round_ok (a := n * p) (b := 1000) ((small_iff _).2 (by omega)) ((small_iff _).2 (by omega)) (by decide)
  rw [if_neg (by decide)] at h
  exact ⟨h.2, h.1⟩
theorem round_hf {s : Int} (h : 100 ≤ s ∧ s ≤ 1200) : roundV (s * 11585) 16384 = hf s ∧ roundE (s * 11585) 16384 = 0 := by
  have h := round_ok (a := s * 11585) (b := 16384) ((small_iff _).2 (by omega)) ((small_iff _).2 (by omega)) (by decide)
  rw [if_neg (by decide)] at h
  exact ⟨h.2, h.1⟩
end Go.Proofs.YtighpjhipgobiaaDoor.BuiP
