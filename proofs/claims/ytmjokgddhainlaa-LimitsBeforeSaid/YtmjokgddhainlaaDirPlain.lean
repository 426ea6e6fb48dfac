/-
  Directions, levels, their rotations, mirror images and names, reckoned. Nothing of the program. Condition: none.
-/
import Derived.Test.YtmjokgddhainlaaStrs
namespace Go.Proofs.Ytmjokgddhainlaa.DirP
open StrW
def isD (d : Int) : Bool := decide (0 ≤ d) && decide (d ≤ 8)
def isL (l : Int) : Bool := decide (-1 ≤ l) && decide (l ≤ 1)
theorem isD_iff (d : Int) : isD d = true ↔ 0 ≤ d ∧ d ≤ 8 := by unfold isD; rw [Bool.and_eq_true, decide_eq_true_eq, decide_eq_true_eq]
theorem isL_iff (l : Int) : isL l = true ↔ -1 ≤ l ∧ l ≤ 1 := by unfold isL; rw [Bool.and_eq_true, decide_eq_true_eq, decide_eq_true_eq]
theorem isD_no (d : Int) : isD d = false ↔ d < 0 ∨ 8 < d := by
  rw [← Bool.not_eq_true, isD_iff]; omega
theorem isL_no (l : Int) : isL l = false ↔ l < -1 ∨ 1 < l := by
  rw [← Bool.not_eq_true, isL_iff]; omega
/-- The error of a direction and a level. -/
def chk (d l : Int) : Int := if (0 ≤ d ∧ d ≤ 8) ∧ -1 ≤ l ∧ l ≤ 1 then 0 else 1
def dirE (d : Int) : Int := if 0 ≤ d ∧ d ≤ 8 then 0 else 1
def mirV (d : Int) : Int := if 0 ≤ d ∧ d ≤ 8 then (if d = 0 ∨ d = 1 then d else 10 - d) else 0
def rotV (d n : Int) : Int := if 0 ≤ d ∧ d ≤ 8 then (if d = 0 then 0 else (d - 1 + n) % 8 + 1) else 0
def eigE (d : Int) : Int := if 0 ≤ d ∧ d ≤ 8 then (if d = 0 then 18 else 0) else 1
def eigV (d : Int) : Int := if 1 ≤ d ∧ d ≤ 8 then d - 1 else 0
/-! ### Words -/
def wds : Ss := [⟨#[112, 108, 97, 99, 101]⟩, ⟨#[102, 111, 114, 119, 97, 114, 100]⟩, ⟨#[102, 111, 114, 119, 97, 114, 100, 45, 114, 105, 103, 104, 116]⟩, ⟨#[114, 105, 103, 104, 116]⟩, ⟨#[98, 97, 99, 107, 45, 114, 105, 103, 104, 116]⟩,
  ⟨#[98, 97, 99, 107]⟩, ⟨#[98, 97, 99, 107, 45, 108, 101, 102, 116]⟩, ⟨#[108, 101, 102, 116]⟩, ⟨#[102, 111, 114, 119, 97, 114, 100, 45, 108, 101, 102, 116]⟩]
def lvs : Ss := [⟨#[108, 111, 119]⟩, ⟨#[109, 105, 100, 100, 108, 101]⟩, ⟨#[104, 105, 103, 104]⟩]
abbrev hy : ByteArray := ⟨#[45]⟩
def wd (d : Int) : ByteArray := atS wds d.toNat
def lv (l : Int) : ByteArray := atS lvs (l + 1).toNat
/-- The name of a direction and a level. -/
def nm (d l : Int) : ByteArray := wd d ++ hy ++ lv l
def namV (d l : Int) : ByteArray := if (0 ≤ d ∧ d ≤ 8) ∧ -1 ≤ l ∧ l ≤ 1 then nm d l else ⟨#[]⟩
/-- The names in a row: the number of a name, its direction and its level. -/
def pD (p : Nat) : Int := ((p / 3 : Nat) : Int)
def pL (p : Nat) : Int := ((p % 3 : Nat) : Int) - 1
def pN (p : Nat) : ByteArray := nm (pD p) (pL p)
theorem pN_inj : ∀ p, p < 27 → ∀ q, q < 27 → pN p = pN q → p = q := by decide +kernel
theorem wd_size : ∀ k, k < 9 → (atS wds k).size ≤ 13 := by decide +kernel
theorem lv_size : ∀ k, k < 3 → (atS lvs k).size ≤ 6 := by decide +kernel
/-- What a string is read as. -/
def Prs (s : ByteArray) (d l e : Int) : Prop := (∃ p, p < 27 ∧ pN p = s ∧ d = pD p ∧ l = pL p ∧ e = 0) ∨ (∀ p, p < 27 → pN p ≠ s) ∧ d = 0 ∧ l = 0 ∧ e = 8
theorem prs_ex (s : ByteArray) : ∃ d l e, Prs s d l e := by
  by_cases h : ∃ p, p < 27 ∧ pN p = s
  · obtain ⟨p, h1, h2⟩ := h
    exact ⟨_, _, _, .inl ⟨p, h1, h2, rfl, rfl, rfl⟩⟩
  · exact ⟨_, _, _, .inr ⟨fun p h1 h2 => h ⟨p, h1, h2⟩, rfl, rfl, rfl⟩⟩
theorem prs_hit {s : ByteArray} {d l e : Int} (H : Prs s d l e) {p : Nat} (hp : p < 27) (h : pN p = s) : d = pD p ∧ l = pL p ∧ e = 0 := by
  rcases H with ⟨q, h1, h2, h3⟩ | ⟨h1, _⟩
  · obtain rfl := pN_inj p hp q h1 (h.trans h2.symm)
    exact h3
  · exact absurd h (h1 p hp)
theorem prs_none {s : ByteArray} {d l e : Int} (H : Prs s d l e) (h : ∀ p, p < 27 → pN p ≠ s) : d = 0 ∧ l = 0 ∧ e = 8 := by
  rcases H with ⟨q, h1, h2, _⟩ | ⟨_, h3⟩
  · exact absurd h2 (h q h1)
  · exact h3
theorem num_of {d l : Int} (h : 0 ≤ d ∧ d ≤ 8) (k : -1 ≤ l ∧ l ≤ 1) : ∃ p, p < 27 ∧ pD p = d ∧ pL p = l := by
  refine ⟨d.toNat * 3 + (l + 1).toNat, by omega, ?_, ?_⟩
  · unfold pD; omega
  · unfold pL; omega
theorem p_ok {p : Nat} (h : p < 27) : (0 ≤ pD p ∧ pD p ≤ 8) ∧ -1 ≤ pL p ∧ pL p ≤ 1 := by unfold pD pL; omega
/-- A name is read as its direction and its level. -/
theorem prs_nm {d l : Int} (h : 0 ≤ d ∧ d ≤ 8) (k : -1 ≤ l ∧ l ≤ 1) : Prs (nm d l) d l 0 := by
  obtain ⟨p, hp, rfl, rfl⟩ := num_of h k
  exact .inl ⟨p, hp, rfl, rfl, rfl, rfl⟩
theorem nm_inj {d l d' l' : Int} (h : 0 ≤ d ∧ d ≤ 8) (k : -1 ≤ l ∧ l ≤ 1) (h' : 0 ≤ d' ∧ d' ≤ 8) (k' : -1 ≤ l' ∧ l' ≤ 1) (e : nm d l = nm d' l') : d = d' ∧ l = l' := by
  obtain ⟨p, hp, rfl, rfl⟩ := num_of h k
  obtain ⟨q, hq, rfl, rfl⟩ := num_of h' k'
  obtain rfl := pN_inj p hp q hq e
  exact ⟨rfl, rfl⟩
/-- What is read has just this name. -/
theorem nm_prs {s : ByteArray} {d l : Int} (H : Prs s d l 0) : (0 ≤ d ∧ d ≤ 8) ∧ (-1 ≤ l ∧ l ≤ 1) ∧ nm d l = s := by
  rcases H with ⟨p, hp, h, rfl, rfl, _⟩ | ⟨_, _, _, h⟩
  · exact ⟨(p_ok hp).1, (p_ok hp).2, h⟩
  · exact absurd h (by decide)
theorem prs_err {s : ByteArray} {d l e : Int} (H : Prs s d l e) : e = 0 ∨ e = 8 := by
  rcases H with ⟨_, _, _, _, _, h⟩ | ⟨_, _, _, h⟩
  · exact .inl h
  · exact .inr h
theorem nm_low {d : Int} (h : 0 ≤ d ∧ d ≤ 8) : wd d ++ (⟨#[45, 108, 111, 119]⟩ : ByteArray) = nm d (-1) := by
  obtain ⟨k, hk, rfl⟩ : ∃ k : Nat, k < 9 ∧ d = k := ⟨d.toNat, by omega, by omega⟩
  exact (show ∀ k : Nat, k < 9 → wd (k : Int) ++ (⟨#[45, 108, 111, 119]⟩ : ByteArray) = nm k (-1) by decide +kernel) k hk
theorem nm_middle {d : Int} (h : 0 ≤ d ∧ d ≤ 8) : wd d ++ (⟨#[45, 109, 105, 100, 100, 108, 101]⟩ : ByteArray) = nm d 0 := by
  obtain ⟨k, hk, rfl⟩ : ∃ k : Nat, k < 9 ∧ d = k := ⟨d.toNat, by omega, by omega⟩
  exact (show ∀ k : Nat, k < 9 → wd (k : Int) ++ (⟨#[45, 109, 105, 100, 100, 108, 101]⟩ : ByteArray) = nm k 0 by decide +kernel) k hk
theorem nm_high {d : Int} (h : 0 ≤ d ∧ d ≤ 8) : wd d ++ (⟨#[45, 104, 105, 103, 104]⟩ : ByteArray) = nm d 1 := by
  obtain ⟨k, hk, rfl⟩ : ∃ k : Nat, k < 9 ∧ d = k := ⟨d.toNat, by omega, by omega⟩
  exact (show ∀ k : Nat, k < 9 → wd (k : Int) ++ (⟨#[45, 104, 105, 103, 104]⟩ : ByteArray) = nm k 1 by decide +kernel) k hk
/-! ### The group -/
theorem rot_place (n : Int) : rotV 0 n = 0 := by unfold rotV; simp
theorem rot_in {d : Int} (h : 0 ≤ d ∧ d ≤ 8) (n : Int) : 0 ≤ rotV d n ∧ rotV d n ≤ 8 ∧ (rotV d n = 0 ↔ d = 0) := by
  unfold rotV
  rw [if_pos h]
  by_cases e : d = 0
  · rw [if_pos e]; omega
  · rw [if_neg e]; omega
theorem mir_in {d : Int} (h : 0 ≤ d ∧ d ≤ 8) : 0 ≤ mirV d ∧ mirV d ≤ 8 ∧ (mirV d = 0 ↔ d = 0) := by
  unfold mirV
  rw [if_pos h]
  by_cases e : d = 0 ∨ d = 1
  · rw [if_pos e]; omega
  · rw [if_neg e]; omega
theorem rot_of {d : Int} (h : 1 ≤ d ∧ d ≤ 8) (n : Int) : rotV d n = (d - 1 + n) % 8 + 1 := by
  unfold rotV
  rw [if_pos (by omega), if_neg (by omega)]
theorem mir_of {d : Int} (h : 1 ≤ d ∧ d ≤ 8) : mirV d = (1 - d) % 8 + 1 := by
  unfold mirV
  rw [if_pos (by omega)]
  by_cases e : d = 1
  · subst e; rfl
  · rw [if_neg (by omega)]; omega
theorem rot_add {d : Int} (h : 0 ≤ d ∧ d ≤ 8) (a b c : Int) (hc : (c - a - b) % 8 = 0) : rotV (rotV d a) b = rotV d c := by
  by_cases e : d = 0
  · subst e; simp only [rot_place]
  · have h1 : 1 ≤ d ∧ d ≤ 8 := by omega
    rw [rot_of h1, rot_of h1, rot_of (by omega)]
    omega
theorem rot_eight {d : Int} (h : 0 ≤ d ∧ d ≤ 8) : rotV d 8 = d := by
  by_cases e : d = 0
  · subst e; exact rot_place 8
  · rw [rot_of (by omega)]; omega
theorem mir_mir {d : Int} (h : 0 ≤ d ∧ d ≤ 8) : mirV (mirV d) = d := by
  by_cases e : d = 0
  · subst e; rfl
  · have h1 : 1 ≤ d ∧ d ≤ 8 := by omega
    rw [mir_of h1, mir_of (by omega)]
    omega
theorem mir_rot {d : Int} (h : 0 ≤ d ∧ d ≤ 8) (a c : Int) (hc : (c + a) % 8 = 0) : rotV (mirV d) c = mirV (rotV d a) := by
  by_cases e : d = 0
  · subst e; rw [rot_place, show mirV 0 = 0 by rfl, rot_place]
  · have h1 : 1 ≤ d ∧ d ≤ 8 := by omega
    rw [mir_of h1, rot_of h1, rot_of (by omega), mir_of (by omega)]
    omega
theorem rot_eig {d : Int} (h : 1 ≤ d ∧ d ≤ 8) : rotV 1 (d - 1) = d := by
  rw [rot_of (by omega)]
  omega
theorem mir_inj {d d' : Int} (h : 0 ≤ d ∧ d ≤ 8) (h' : 0 ≤ d' ∧ d' ≤ 8) (e : mirV d = mirV d') : d = d' := by rw [← mir_mir h, e, mir_mir h']
theorem rot_inj {d d' : Int} (h : 0 ≤ d ∧ d ≤ 8) (h' : 0 ≤ d' ∧ d' ≤ 8) (n : Int) (e : rotV d n = rotV d' n) : d = d' := by
  have h1 := rot_in h n
  have h2 := rot_in h' n
  by_cases k : d = 0
  · by_cases k' : d' = 0
    · omega
    · omega
  · have k' : d' ≠ 0 := by omega
    rw [rot_of (by omega), rot_of (by omega)] at e
    omega
end Go.Proofs.Ytmjokgddhainlaa.DirP
