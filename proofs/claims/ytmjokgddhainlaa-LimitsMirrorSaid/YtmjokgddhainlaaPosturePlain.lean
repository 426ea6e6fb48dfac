/-
  Starts and poses, reckoned: checks, notation, mirror images, rotations. Nothing of the program. Condition: none.
-/
import Derived.Test.YtmjokgddhainlaaAimPlain
namespace Go.Proofs.Ytmjokgddhainlaa.PstP
open AimP
abbrev Vl := Nat → Int
/-! ### The first error of six -/
def feN (E : Vl) : Nat → Int
  | 0 => 0
  | n + 1 => if feN E n ≠ 0 then feN E n else E n
theorem feN_ok {E : Vl} : ∀ {n : Nat}, (∀ i, i < n → E i = 0) → feN E n = 0
  | 0, _ => rfl
  | n + 1, h => by
    unfold feN
    rw [if_neg (fun x => x (feN_ok (n := n) (fun i hi => h i (by omega))))]
    exact h n (by omega)
theorem feN_at {E : Vl} {j : Nat} (h : ∀ i, i < j → E i = 0) (hj : E j ≠ 0) : ∀ {n : Nat}, j < n → feN E n = E j
  | 0, hn => absurd hn (by omega)
  | n + 1, hn => by
    unfold feN
    by_cases c : j = n
    · subst c
      rw [if_neg (fun x => x (feN_ok h))]
    · have := feN_at (E := E) h hj (n := n) (by omega)
      rw [this, if_pos hj]
theorem feN_no {E : Vl} : ∀ {n : Nat}, feN E n = 0 → ∀ i, i < n → E i = 0
  | 0, _ => fun i hi => absurd hi (by omega)
  | n + 1, h => fun i hi => by
    unfold feN at h
    by_cases c : feN E n = 0
    · rw [if_neg (fun x => x c)] at h
      by_cases ci : i = n
      · rw [ci]; exact h
      · exact feN_no c i (by omega)
    · rw [if_pos c] at h
      exact absurd h c
def fe (E : Vl) : Int := feN E 6
theorem fe_ok {E : Vl} (h : ∀ i, i < 6 → E i = 0) : fe E = 0 := feN_ok h
theorem fe_at {E : Vl} {j : Nat} (h : ∀ i, i < j → E i = 0) (hj : E j ≠ 0) (h6 : j < 6) : fe E = E j := feN_at h hj h6
theorem fe_no {E : Vl} (h : fe E = 0) : ∀ i, i < 6 → E i = 0 := feN_no h
theorem fe_eq {E F : Vl} (h : ∀ i, i < 6 → E i = F i) : fe E = fe F := by
  have e1 : ∀ n, n ≤ 6 → feN E n = feN F n := by
    intro n
    induction n with
    | zero => intro _; rfl
    | succ n ih =>
      intro hn
      unfold feN
      rw [ih (by omega), h n (by omega)]
  exact e1 6 (by omega)
/-- Either all six are none, or one is the first. -/
theorem fe_or (E : Vl) : (∀ i, i < 6 → E i = 0) ∨ ∃ j, j < 6 ∧ (∀ i, i < j → E i = 0) ∧ E j ≠ 0 := by
  by_cases h : ∀ i, i < 6 → E i = 0
  · exact .inl h
  · refine .inr ?_
    have : ∀ n, (∀ i, i < n → E i = 0) ∨ ∃ j, j < n ∧ (∀ i, i < j → E i = 0) ∧ E j ≠ 0 := by
      intro n
      induction n with
      | zero => exact .inl fun i hi => absurd hi (by omega)
      | succ n ih =>
        rcases ih with ih | ⟨j, h1, h2, h3⟩
        · by_cases c : E n = 0
          · refine .inl fun i hi => ?_
            by_cases ci : i = n
            · rw [ci]; exact c
            · exact ih i (by omega)
          · exact .inr ⟨n, by omega, ih, c⟩
        · exact .inr ⟨j, by omega, h2, h3⟩
    rcases this 6 with t | t
    · exact absurd t h
    · exact t
/-! ### Starts and their poses -/
def stR (s : Vl) : Prop := (-32768 ≤ s 0 ∧ s 0 ≤ 32768) ∧ (-32768 ≤ s 1 ∧ s 1 ≤ 32768) ∧ (0 ≤ s 2 ∧ s 2 ≤ 7) ∧ (-1 ≤ s 3 ∧ s 3 ≤ 1) ∧ 1 ≤ s 4 ∧ s 4 ≤ 3
instance (s : Vl) : Decidable (stR s) := by unfold stR; infer_instance
/-- The error of the target of limb k. -/
def tE (s : Vl) : Vl := fun k => ofE k (s (5 + k * 3)) (s (5 + k * 3 + 1)) (s (5 + k * 3 + 2))
/-- The target of limb k is straight down. -/
def dwn (s : Vl) (k : Nat) : Prop := s (5 + k * 3) = 0 ∧ s (5 + k * 3 + 1) = -1 ∧ s (5 + k * 3 + 2) = 0
instance (s : Vl) (k : Nat) : Decidable (dwn s k) := by unfold dwn; infer_instance
def wtOk (s : Vl) : Prop := (s 4 = 2 ∨ dwn s 0) ∧ (s 4 = 1 ∨ dwn s 1)
instance (s : Vl) : Decidable (wtOk s) := by unfold wtOk; infer_instance
def stE (s : Vl) : Int := if stR s then (if fe (tE s) = 0 then (if wtOk s then 0 else 19) else fe (tE s)) else 1
theorem st_yes {s : Vl} (h : stE s = 0) : stR s ∧ (∀ k, k < 6 → tE s k = 0) ∧ wtOk s := by
  unfold stE at h
  by_cases h1 : stR s
  · rw [if_pos h1] at h
    by_cases h2 : fe (tE s) = 0
    · rw [if_pos h2] at h
      by_cases h3 : wtOk s
      · exact ⟨h1, fe_no h2, h3⟩
      · rw [if_neg h3] at h; omega
    · rw [if_neg h2] at h; exact absurd h h2
  · rw [if_neg h1] at h; omega
theorem st_ok {s : Vl} (h1 : stR s) (h2 : ∀ k, k < 6 → tE s k = 0) (h3 : wtOk s) : stE s = 0 := by
  unfold stE; rw [if_pos h1, if_pos (fe_ok h2), if_pos h3]
/-- The values of the aims of the targets: three a limb. -/
def aZ (s : Vl) (k : Nat) : Int := ofZ k (s (5 + k * 3)) (s (5 + k * 3 + 1)) (s (5 + k * 3 + 2))
def aL (s : Vl) (k : Nat) : Int := ofL k (s (5 + k * 3)) (s (5 + k * 3 + 1)) (s (5 + k * 3 + 2))
def aB (s : Vl) (k : Nat) : Int := ofB k (s (5 + k * 3)) (s (5 + k * 3 + 1)) (s (5 + k * 3 + 2))
/-- Three values a limb, one after the other. -/
def tri (x y z : Vl) : Vl := fun j => if j % 3 = 0 then x (j / 3) else if j % 3 = 1 then y (j / 3) else z (j / 3)
theorem tri_0 (x y z : Vl) (k : Nat) : tri x y z (k * 3) = x k := by
  unfold tri; rw [if_pos (by omega), show k * 3 / 3 = k by omega]
theorem tri_1 (x y z : Vl) (k : Nat) : tri x y z (k * 3 + 1) = y k := by
  unfold tri; rw [if_neg (by omega), if_pos (by omega), show (k * 3 + 1) / 3 = k by omega]
theorem tri_2 (x y z : Vl) (k : Nat) : tri x y z (k * 3 + 2) = z k := by
  unfold tri; rw [if_neg (by omega), if_neg (by omega), show (k * 3 + 2) / 3 = k by omega]
theorem tri_eq {f : Vl} {x y z : Vl} {n : Nat} (h : ∀ k, k < n → f (k * 3) = x k ∧ f (k * 3 + 1) = y k ∧ f (k * 3 + 2) = z k) : ∀ j, j < n * 3 → f j = tri x y z j := by
  intro j hj
  obtain ⟨h0, h1, h2⟩ := h (j / 3) (by omega)
  unfold tri
  by_cases c : j % 3 = 0
  · rw [if_pos c, ← h0, show j / 3 * 3 = j by omega]
  · rw [if_neg c]
    by_cases c1 : j % 3 = 1
    · rw [if_pos c1, ← h1, show j / 3 * 3 + 1 = j by omega]
    · rw [if_neg c1, ← h2, show j / 3 * 3 + 2 = j by omega]
def aims (s : Vl) : Vl := tri (aZ s) (aL s) (aB s)
def nul : Vl := fun _ => 0
def ps4 (x y f l : Int) (t : Vl) : Vl := fun i => if i = 0 then x else if i = 1 then y else if i = 2 then f else if i = 3 then l else t (i - 4)
def st5 (x y f l u : Int) (t : Vl) : Vl := fun i => if i = 0 then x else if i = 1 then y else if i = 2 then f else if i = 3 then l else if i = 4 then u else t (i - 5)
theorem ps4_up (x y f l : Int) (t : Vl) (j : Nat) : ps4 x y f l t (4 + j) = t j := by
  unfold ps4; rw [if_neg (by omega), if_neg (by omega), if_neg (by omega), if_neg (by omega), show 4 + j - 4 = j by omega]
theorem st5_up (x y f l u : Int) (t : Vl) (j : Nat) : st5 x y f l u t (5 + j) = t j := by
  unfold st5; rw [if_neg (by omega), if_neg (by omega), if_neg (by omega), if_neg (by omega), if_neg (by omega), show 5 + j - 5 = j by omega]
theorem ps4_eq {p : Vl} {x y f l : Int} {t : Vl} {n : Nat} (h0 : p 0 = x) (h1 : p 1 = y) (h2 : p 2 = f) (h3 : p 3 = l) (h : ∀ j, j < n → p (4 + j) = t j) : ∀ i, i < 4 + n → p i = ps4 x y f l t i := by
  intro i hi
  unfold ps4
  by_cases c0 : i = 0
  · rw [if_pos c0, c0, h0]
  by_cases c1 : i = 1
  · rw [if_neg c0, if_pos c1, c1, h1]
  by_cases c2 : i = 2
  · rw [if_neg c0, if_neg c1, if_pos c2, c2, h2]
  by_cases c3 : i = 3
  · rw [if_neg c0, if_neg c1, if_neg c2, if_pos c3, c3, h3]
  · rw [if_neg c0, if_neg c1, if_neg c2, if_neg c3, ← h (i - 4) (by omega), show 4 + (i - 4) = i by omega]
theorem st5_eq {p : Vl} {x y f l u : Int} {t : Vl} {n : Nat} (h0 : p 0 = x) (h1 : p 1 = y) (h2 : p 2 = f) (h3 : p 3 = l) (h4 : p 4 = u) (h : ∀ j, j < n → p (5 + j) = t j) : ∀ i, i < 5 + n → p i = st5 x y f l u t i := by
  intro i hi
  unfold st5
  by_cases c0 : i = 0
  · rw [if_pos c0, c0, h0]
  by_cases c1 : i = 1
  · rw [if_neg c0, if_pos c1, c1, h1]
  by_cases c2 : i = 2
  · rw [if_neg c0, if_neg c1, if_pos c2, c2, h2]
  by_cases c3 : i = 3
  · rw [if_neg c0, if_neg c1, if_neg c2, if_pos c3, c3, h3]
  by_cases c4 : i = 4
  · rw [if_neg c0, if_neg c1, if_neg c2, if_neg c3, if_pos c4, c4, h4]
  · rw [if_neg c0, if_neg c1, if_neg c2, if_neg c3, if_neg c4, ← h (i - 5) (by omega), show 5 + (i - 5) = i by omega]
def poS (s : Vl) : Vl := ps4 (s 0) (s 1) (32 * s 2) (8 * s 3) (aims s)
def poV (s : Vl) : Vl := if stE s = 0 then poS s else nul
/-! ### Poses and their notation -/
def paR (p : Vl) : Prop := (-32768 ≤ p 0 ∧ p 0 ≤ 32768) ∧ (-32768 ≤ p 1 ∧ p 1 ≤ 32768) ∧ (0 ≤ p 2 ∧ p 2 ≤ 255) ∧ -8 ≤ p 3 ∧ p 3 ≤ 8
instance (p : Vl) : Decidable (paR p) := by unfold paR; infer_instance
def pE (p : Vl) : Vl := fun k => chk k (p (4 + k * 3)) (p (4 + k * 3 + 1)) (p (4 + k * 3 + 2))
def vaE (p : Vl) : Int := if paR p then fe (pE p) else 1
theorem va_yes {p : Vl} (h : vaE p = 0) : paR p ∧ ∀ k, k < 6 → pE p k = 0 := by
  unfold vaE at h
  by_cases h1 : paR p
  · rw [if_pos h1] at h; exact ⟨h1, fe_no h⟩
  · rw [if_neg h1] at h; omega
theorem va_ok {p : Vl} (h1 : paR p) (h2 : ∀ k, k < 6 → pE p k = 0) : vaE p = 0 := by
  unfold vaE; rw [if_pos h1, fe_ok h2]
/-- The number of the target that an aim is notated as. -/
instance (l z e b : Int) (p : Nat) : Decidable (Hit l z e b p) := by unfold Hit; infer_instance
def ntN (l z e b : Int) : Option Nat := if chk l z e b = 0 then (List.range 27).find? (fun p => decide (Hit l z e b p)) else none
def ntD (l z e b : Int) : Int := match ntN l z e b with | some p => DirP.pD p | none => 0
def ntL (l z e b : Int) : Int := match ntN l z e b with | some p => DirP.pL p | none => 0
def ntB (l z e b : Int) : Int := match ntN l z e b with | some _ => b | none => 0
def ntC (l z e b : Int) : Int := match ntN l z e b with | some _ => 0 | none => if chk l z e b = 0 then 2 else chk l z e b
theorem nt_is (l z e b : Int) : Nt l z e b (ntD l z e b) (ntL l z e b) (ntB l z e b) (ntC l z e b) := by
  unfold ntD ntL ntB ntC
  cases h : ntN l z e b with
  | some p =>
    unfold ntN at h
    by_cases c : chk l z e b = 0
    · rw [if_pos c] at h
      have h1 := List.find?_some h
      have h2 := List.mem_of_find?_eq_some h
      rw [List.mem_range] at h2
      exact .inr (.inl ⟨c, p, h2, of_decide_eq_true h1, rfl, rfl, rfl, rfl⟩)
    · rw [if_neg c] at h; cases h
  | none =>
    unfold ntN at h
    by_cases c : chk l z e b = 0
    · rw [if_pos c] at h
      refine .inr (.inr ⟨c, fun p hp hh => ?_, rfl, rfl, rfl, if_pos c⟩)
      have := List.find?_eq_none.1 h p (List.mem_range.2 hp)
      exact this (decide_eq_true hh)
    · exact .inl ⟨c, rfl, rfl, rfl, if_neg c⟩
theorem nt_one {l z e b d v u c d' v' u' c' : Int} (h : Nt l z e b d v u c) (h' : Nt l z e b d' v' u' c') : d = d' ∧ v = v' ∧ u = u' ∧ c = c' := by
  rcases h with ⟨h1, h2, h3, h4, h5⟩ | ⟨h1, p, hp, hh, h2, h3, h4, h5⟩ | ⟨h1, hn, h2, h3, h4, h5⟩
  · obtain ⟨k1, k2, k3, k4⟩ := nt_bad h' h1
    exact ⟨h2.trans k1.symm, h3.trans k2.symm, h4.trans k3.symm, h5.trans k4.symm⟩
  · obtain ⟨k1, k2, k3, k4⟩ := nt_hit h' h1 hp hh
    exact ⟨h2.trans k1.symm, h3.trans k2.symm, h4.trans k3.symm, h5.trans k4.symm⟩
  · obtain ⟨k1, k2, k3, k4⟩ := nt_none h' h1 hn
    exact ⟨h2.trans k1.symm, h3.trans k2.symm, h4.trans k3.symm, h5.trans k4.symm⟩
theorem nt_eq {l z e b d v u c : Int} (h : Nt l z e b d v u c) : ntD l z e b = d ∧ ntL l z e b = v ∧ ntB l z e b = u ∧ ntC l z e b = c := nt_one (nt_is l z e b) h
/-- An aim that is notated is that of its target. -/
theorem nt_back {l z e b : Int} (h : ntC l z e b = 0) : ofE l (ntD l z e b) (ntL l z e b) (ntB l z e b) = 0 ∧ ofZ l (ntD l z e b) (ntL l z e b) (ntB l z e b) = z ∧ ofL l (ntD l z e b) (ntL l z e b) (ntB l z e b) = e ∧ ofB l (ntD l z e b) (ntL l z e b) (ntB l z e b) = b := by
  have hi := nt_is l z e b
  rcases hi with ⟨h1, _, _, _, h5⟩ | ⟨h1, p, hp, hh, h2, h3, h4, h5⟩ | ⟨h1, hn, h2, h3, h4, h5⟩
  · exact absurd (h5.symm.trans h) h1
  · rw [h2, h3, h4]
    exact ⟨hh.1, hh.2.1, hh.2.2, (of_vals hh.1).2.2⟩
  · rw [h5] at h; omega
def nE (p : Vl) : Vl := fun k => ntC k (p (4 + k * 3)) (p (4 + k * 3 + 1)) (p (4 + k * 3 + 2))
def nD (p : Vl) : Vl := fun k => ntD k (p (4 + k * 3)) (p (4 + k * 3 + 1)) (p (4 + k * 3 + 2))
def nL (p : Vl) : Vl := fun k => ntL k (p (4 + k * 3)) (p (4 + k * 3 + 1)) (p (4 + k * 3 + 2))
def nB (p : Vl) : Vl := fun k => ntB k (p (4 + k * 3)) (p (4 + k * 3 + 1)) (p (4 + k * 3 + 2))
def ntS (p : Vl) (u : Int) : Vl := st5 (p 0) (p 1) (p 2 / 32) (p 3 / 8) u (tri (nD p) (nL p) (nB p))
def ntE (p : Vl) (u : Int) : Int := if vaE p = 0 then (if p 2 % 32 = 0 ∧ p 3 % 8 = 0 then (if fe (nE p) = 0 then stE (ntS p u) else fe (nE p)) else 2) else vaE p
def ntV (p : Vl) (u : Int) : Vl := if ntE p u = 0 then ntS p u else nul
theorem ntE_yes {p : Vl} {u : Int} (h : ntE p u = 0) : vaE p = 0 ∧ (p 2 % 32 = 0 ∧ p 3 % 8 = 0) ∧ (∀ k, k < 6 → nE p k = 0) ∧ stE (ntS p u) = 0 := by
  unfold ntE at h
  by_cases h1 : vaE p = 0
  · rw [if_pos h1] at h
    by_cases h2 : p 2 % 32 = 0 ∧ p 3 % 8 = 0
    · rw [if_pos h2] at h
      by_cases h3 : fe (nE p) = 0
      · rw [if_pos h3] at h
        exact ⟨h1, h2, fe_no h3, h⟩
      · rw [if_neg h3] at h; exact absurd h h3
    · rw [if_neg h2] at h; omega
  · rw [if_neg h1] at h; exact absurd h h1
/-! ### Mirror images -/
def swN (k : Nat) : Nat := [1, 0, 2, 4, 3, 5].getD k 0
theorem swN_lt {k : Nat} (h : k < 6) : swN k < 6 := by
  have : ∀ k, k < 6 → swN k < 6 := by decide
  exact this k h
theorem swN_swN {k : Nat} (h : k < 6) : swN (swN k) = k := by
  have : ∀ k, k < 6 → swN (swN k) = k := by decide
  exact this k h
theorem swp_nat {k : Nat} (h : k < 6) : swp (k : Int) = ((swN k : Nat) : Int) := by
  have : ∀ k : Nat, k < 6 → swp (k : Int) = ((swN k : Nat) : Int) := by decide
  exact this k h
def xch (u : Int) : Int := if u = 1 then 2 else if u = 2 then 1 else u
def miD (s : Vl) : Vl := fun k => DirP.mirV (s (5 + swN k * 3))
def miL (s : Vl) : Vl := fun k => s (5 + swN k * 3 + 1)
def miB (s : Vl) : Vl := fun k => s (5 + swN k * 3 + 2)
def miS (s : Vl) : Vl := st5 (-s 0) (s 1) ((8 - s 2) % 8) (s 3) (xch (s 4)) (tri (miD s) (miL s) (miB s))
def miV (s : Vl) : Vl := if stE s = 0 then miS s else nul
def mpZ (p : Vl) : Vl := fun k => (-p (4 + swN k * 3)) % 256
def mpL (p : Vl) : Vl := fun k => p (4 + swN k * 3 + 1)
def mpB (p : Vl) : Vl := fun k => p (4 + swN k * 3 + 2)
def mpS (p : Vl) : Vl := ps4 (-p 0) (p 1) ((-p 2) % 256) (p 3) (tri (mpZ p) (mpL p) (mpB p))
def mpV (p : Vl) : Vl := if vaE p = 0 then mpS p else nul
/-! ### Rotations -/
def tuX (q x y : Int) : Int := if q = 0 then x else if q = 1 then y else if q = 2 then -x else -y
def tuY (q x y : Int) : Int := if q = 0 then y else if q = 1 then -x else if q = 2 then -y else x
def roS (s : Vl) (n : Int) : Vl := st5 (tuX (n % 4) (s 0) (s 1)) (tuY (n % 4) (s 0) (s 1)) ((s 2 + 2 * (n % 4)) % 8) (s 3) (s 4) (fun j => s (5 + j))
def roV (s : Vl) (n : Int) : Vl := if stE s = 0 then roS s n else nul
def rpS (p : Vl) (n : Int) : Vl := ps4 (tuX (n % 4) (p 0) (p 1)) (tuY (n % 4) (p 0) (p 1)) ((p 2 + 64 * (n % 4)) % 256) (p 3) (fun j => p (4 + j))
def rpV (p : Vl) (n : Int) : Vl := if vaE p = 0 then rpS p n else nul
theorem tu_in {x y : Int} (q : Int) (hx : -32768 ≤ x ∧ x ≤ 32768) (hy : -32768 ≤ y ∧ y ≤ 32768) : (-32768 ≤ tuX q x y ∧ tuX q x y ≤ 32768) ∧ -32768 ≤ tuY q x y ∧ tuY q x y ≤ 32768 := by
  unfold tuX tuY
  split
  · exact ⟨hx, hy⟩
  · split
    · exact ⟨hy, by omega⟩
    · split <;> omega
theorem q4 (n : Int) : n % 4 = 0 ∨ n % 4 = 1 ∨ n % 4 = 2 ∨ n % 4 = 3 := by omega
theorem tu_add (x y a b : Int) : tuX (b % 4) (tuX (a % 4) x y) (tuY (a % 4) x y) = tuX ((a + b) % 4) x y ∧ tuY (b % 4) (tuX (a % 4) x y) (tuY (a % 4) x y) = tuY ((a + b) % 4) x y := by
  have e : (a + b) % 4 = (a % 4 + b % 4) % 4 := by omega
  rw [e]
  rcases q4 a with h | h | h | h <;> rcases q4 b with k | k | k | k <;> rw [h, k] <;> simp [tuX, tuY]
theorem tu_mod {a b : Int} (h : a % 4 = b % 4) (x y : Int) : tuX (a % 4) x y = tuX (b % 4) x y ∧ tuY (a % 4) x y = tuY (b % 4) x y := by rw [h]; exact ⟨rfl, rfl⟩
theorem tu_mir (x y a c : Int) (h : (a + c) % 4 = 0) : tuX (c % 4) (-x) y = -tuX (a % 4) x y ∧ tuY (c % 4) (-x) y = tuY (a % 4) x y := by
  have e : c % 4 = (4 - a % 4) % 4 := by omega
  rw [e]
  rcases q4 a with h | h | h | h <;> rw [h] <;> simp [tuX, tuY]
/-! ### The laws -/
theorem poV_yes {s : Vl} (h : stE s = 0) : poV s = poS s := if_pos h
theorem poV_no {s : Vl} (h : stE s ≠ 0) : poV s = nul := if_neg h
theorem ntV_yes {p : Vl} {u : Int} (h : ntE p u = 0) : ntV p u = ntS p u := if_pos h
theorem ntV_no {p : Vl} {u : Int} (h : ntE p u ≠ 0) : ntV p u = nul := if_neg h
theorem miV_yes {s : Vl} (h : stE s = 0) : miV s = miS s := if_pos h
theorem miV_no {s : Vl} (h : stE s ≠ 0) : miV s = nul := if_neg h
theorem mpV_yes {s : Vl} (h : vaE s = 0) : mpV s = mpS s := if_pos h
theorem mpV_no {s : Vl} (h : vaE s ≠ 0) : mpV s = nul := if_neg h
theorem roV_yes {s : Vl} {n : Int} (h : stE s = 0) : roV s n = roS s n := if_pos h
theorem roV_no {s : Vl} {n : Int} (h : stE s ≠ 0) : roV s n = nul := if_neg h
theorem rpV_yes {s : Vl} {n : Int} (h : vaE s = 0) : rpV s n = rpS s n := if_pos h
theorem rpV_no {s : Vl} {n : Int} (h : vaE s ≠ 0) : rpV s n = nul := if_neg h
/-- The three values of limb k of a pose that is made of parts. -/
theorem ps4_tri (x y f l : Int) (a b c : Vl) (k : Nat) : ps4 x y f l (tri a b c) (4 + k * 3) = a k ∧ ps4 x y f l (tri a b c) (4 + k * 3 + 1) = b k ∧ ps4 x y f l (tri a b c) (4 + k * 3 + 2) = c k := by
  rw [Nat.add_assoc 4, Nat.add_assoc 4, ps4_up, ps4_up, ps4_up, tri_0, tri_1, tri_2]
  exact ⟨rfl, rfl, rfl⟩
theorem st5_tri (x y f l u : Int) (a b c : Vl) (k : Nat) : st5 x y f l u (tri a b c) (5 + k * 3) = a k ∧ st5 x y f l u (tri a b c) (5 + k * 3 + 1) = b k ∧ st5 x y f l u (tri a b c) (5 + k * 3 + 2) = c k := by
  rw [Nat.add_assoc 5, Nat.add_assoc 5, st5_up, st5_up, st5_up, tri_0, tri_1, tri_2]
  exact ⟨rfl, rfl, rfl⟩
theorem po_cells (s : Vl) (k : Nat) : poS s (4 + k * 3) = aZ s k ∧ poS s (4 + k * 3 + 1) = aL s k ∧ poS s (4 + k * 3 + 2) = aB s k := ps4_tri _ _ _ _ _ _ _ k
theorem nt_cells (p : Vl) (u : Int) (k : Nat) : ntS p u (5 + k * 3) = nD p k ∧ ntS p u (5 + k * 3 + 1) = nL p k ∧ ntS p u (5 + k * 3 + 2) = nB p k := st5_tri _ _ _ _ _ _ _ _ k
theorem mi_cells (s : Vl) (k : Nat) : miS s (5 + k * 3) = miD s k ∧ miS s (5 + k * 3 + 1) = miL s k ∧ miS s (5 + k * 3 + 2) = miB s k := st5_tri _ _ _ _ _ _ _ _ k
theorem mp_cells (p : Vl) (k : Nat) : mpS p (4 + k * 3) = mpZ p k ∧ mpS p (4 + k * 3 + 1) = mpL p k ∧ mpS p (4 + k * 3 + 2) = mpB p k := ps4_tri _ _ _ _ _ _ _ k
theorem ro_up (s : Vl) (n : Int) (j : Nat) : roS s n (5 + j) = s (5 + j) := st5_up _ _ _ _ _ _ j
theorem rp_up (s : Vl) (n : Int) (j : Nat) : rpS s n (4 + j) = s (4 + j) := ps4_up _ _ _ _ _ j
/-- The pose of a valid start is valid. -/
theorem va_po {s : Vl} (h : stE s = 0) : vaE (poV s) = 0 := by
  obtain ⟨h1, h2, h3⟩ := st_yes h
  rw [poV_yes h]
  refine va_ok ?_ fun k hk => ?_
  · obtain ⟨r0, r1, r2, r3, r4⟩ := h1
    refine ⟨r0, r1, ?_, ?_⟩
    · show 0 ≤ 32 * s 2 ∧ 32 * s 2 ≤ 255
      omega
    · show -8 ≤ 8 * s 3 ∧ 8 * s 3 ≤ 8
      omega
  · unfold pE
    obtain ⟨e0, e1, e2⟩ := po_cells s k
    rw [e0, e1, e2]
    exact of_chk (h2 k hk)
theorem ntS_po {s : Vl} (h : stE s = 0) : (∀ k, k < 6 → nE (poS s) k = 0) ∧ ∀ i, i < 23 → s i = ntS (poS s) (s 4) i := by
  obtain ⟨h1, h2, h3⟩ := st_yes h
  have hn : ∀ k, k < 6 → nD (poS s) k = s (5 + k * 3) ∧ nL (poS s) k = s (5 + k * 3 + 1) ∧ nB (poS s) k = s (5 + k * 3 + 2) ∧ nE (poS s) k = 0 := by
    intro k hk
    unfold nD nL nB nE
    obtain ⟨e0, e1, e2⟩ := po_cells s k
    rw [e0, e1, e2]
    exact nt_eq (of_nt (h2 k hk))
  refine ⟨fun k hk => (hn k hk).2.2.2, ?_⟩
  unfold ntS
  refine st5_eq (n := 18) rfl rfl ?_ ?_ rfl ?_
  · show s 2 = 32 * s 2 / 32
    omega
  · show s 3 = 8 * s 3 / 8
    omega
  · refine tri_eq (f := fun j => s (5 + j)) (n := 6) fun k hk => ?_
    obtain ⟨e0, e1, e2, _⟩ := hn k hk
    exact ⟨e0.symm, e1.symm, e2.symm⟩
/-- What starts have in common where their cells agree. -/
theorem stR_eq {s t : Vl} (h : ∀ i, i < 23 → s i = t i) : stR s ↔ stR t := by
  unfold stR
  rw [h 0 (by omega), h 1 (by omega), h 2 (by omega), h 3 (by omega), h 4 (by omega)]
theorem stE_eq {s t : Vl} (h : ∀ i, i < 23 → s i = t i) : stE s = stE t := by
  have hr := stR_eq h
  have ht : fe (tE s) = fe (tE t) := fe_eq fun k hk => by
    unfold tE
    rw [h (5 + k * 3) (by omega), h (5 + k * 3 + 1) (by omega), h (5 + k * 3 + 2) (by omega)]
  have hw : wtOk s ↔ wtOk t := by
    unfold wtOk dwn
    rw [h 4 (by omega), h (5 + 0 * 3) (by omega), h (5 + 0 * 3 + 1) (by omega), h (5 + 0 * 3 + 2) (by omega), h (5 + 1 * 3) (by omega), h (5 + 1 * 3 + 1) (by omega), h (5 + 1 * 3 + 2) (by omega)]
  unfold stE
  rw [ht]
  simp only [hr, hw]
theorem vaE_eq {s t : Vl} (h : ∀ i, i < 22 → s i = t i) : vaE s = vaE t := by
  have hr : paR s ↔ paR t := by
    unfold paR
    rw [h 0 (by omega), h 1 (by omega), h 2 (by omega), h 3 (by omega)]
  have ht : fe (pE s) = fe (pE t) := fe_eq fun k hk => by
    unfold pE
    rw [h (4 + k * 3) (by omega), h (4 + k * 3 + 1) (by omega), h (4 + k * 3 + 2) (by omega)]
  unfold vaE
  rw [ht]
  simp only [hr]
/-- The pose of a valid start is notated as this start. -/
theorem nt_po {s : Vl} (h : stE s = 0) : ntE (poV s) (s 4) = 0 ∧ ∀ i, i < 23 → ntV (poV s) (s 4) i = s i := by
  obtain ⟨hn, he⟩ := ntS_po h
  have hv := va_po h
  rw [poV_yes h] at hv ⊢
  have h0 : ntE (poS s) (s 4) = 0 := by
    unfold ntE
    rw [if_pos hv, if_pos, if_pos (fe_ok hn)]
    · rw [← stE_eq he]; exact h
    · exact ⟨show (32 * s 2) % 32 = 0 by omega, show (8 * s 3) % 8 = 0 by omega⟩
  refine ⟨h0, fun i hi => ?_⟩
  rw [ntV_yes h0, ← he i hi]
/-- If a pose is notated, its start has this pose. -/
theorem po_nt {p : Vl} {u : Int} (h : ntE p u = 0) : stE (ntV p u) = 0 ∧ (∀ i, i < 22 → poV (ntV p u) i = p i) ∧ ntV p u 4 = u := by
  obtain ⟨h1, h2, h3, h4⟩ := ntE_yes h
  rw [ntV_yes h]
  refine ⟨h4, ?_, rfl⟩
  rw [poV_yes h4]
  intro i hi
  unfold poS
  refine (ps4_eq (p := p) (n := 18) rfl rfl ?_ ?_ ?_ i (by omega)).symm
  · show p 2 = 32 * (p 2 / 32)
    omega
  · show p 3 = 8 * (p 3 / 8)
    omega
  · refine tri_eq (f := fun j => p (4 + j)) (n := 6) fun k hk => ?_
    unfold aZ aL aB
    obtain ⟨e0, e1, e2⟩ := nt_cells p u k
    rw [e0, e1, e2]
    obtain ⟨_, f0, f1, f2⟩ := nt_back (h3 k hk)
    exact ⟨f0.symm, f1.symm, f2.symm⟩
theorem xch_xch {u : Int} (h : 1 ≤ u ∧ u ≤ 3) : xch (xch u) = u ∧ 1 ≤ xch u ∧ xch u ≤ 3 := by
  have t : u = 1 ∨ u = 2 ∨ u = 3 := by omega
  rcases t with rfl | rfl | rfl <;> decide
theorem dwn_mir {s : Vl} {k : Nat} (h : dwn s (swN k)) : dwn (miS s) k := by
  obtain ⟨h0, h1, h2⟩ := h
  obtain ⟨e0, e1, e2⟩ := mi_cells s k
  unfold dwn
  rw [e0, e1, e2]
  unfold miD miL miB
  rw [h0, h1, h2]
  exact ⟨rfl, rfl, rfl⟩
/-- The mirror image of a valid start is valid. -/
theorem mi_ok {s : Vl} (h : stE s = 0) : stE (miV s) = 0 := by
  obtain ⟨h1, h2, h3⟩ := st_yes h
  rw [miV_yes h]
  obtain ⟨r0, r1, r2, r3, r4⟩ := h1
  refine st_ok ⟨?_, r1, ?_, r3, (xch_xch r4).2⟩ (fun k hk => ?_) ?_
  · show -32768 ≤ -s 0 ∧ -s 0 ≤ 32768
    omega
  · show 0 ≤ (8 - s 2) % 8 ∧ (8 - s 2) % 8 ≤ 7
    omega
  · obtain ⟨e0, e1, e2⟩ := mi_cells s k
    unfold tE
    rw [e0, e1, e2]
    have hk' := swN_lt hk
    have := (of_mir (h2 (swN k) hk')).1
    rw [swp_nat hk', swN_swN hk] at this
    exact this
  · obtain ⟨w0, w1⟩ := h3
    constructor
    · show xch (s 4) = 2 ∨ dwn (miS s) 0
      rcases w1 with w1 | w1
      · rw [w1]; exact .inl rfl
      · exact .inr (dwn_mir w1)
    · show xch (s 4) = 1 ∨ dwn (miS s) 1
      rcases w0 with w0 | w0
      · rw [w0]; exact .inl rfl
      · exact .inr (dwn_mir w0)
theorem mi_mi {s : Vl} (h : stE s = 0) : ∀ i, i < 23 → miV (miV s) i = s i := by
  obtain ⟨h1, h2, h3⟩ := st_yes h
  rw [miV_yes (mi_ok h), miV_yes h]
  obtain ⟨r0, r1, r2, r3, r4⟩ := h1
  intro i hi
  refine (st5_eq (p := s) (n := 18) ?_ rfl ?_ rfl ?_ ?_ i (by omega)).symm
  · show s 0 = - - s 0
    omega
  · show s 2 = (8 - (8 - s 2) % 8) % 8
    omega
  · exact (xch_xch r4).1.symm
  · refine tri_eq (f := fun j => s (5 + j)) (n := 6) fun k hk => ?_
    have hk' := swN_lt hk
    obtain ⟨e0, e1, e2⟩ := mi_cells s (swN k)
    have hs := swN_swN hk
    have hd := (of_yes (h2 k hk)).2.1.1
    unfold miD at e0
    unfold miL at e1
    unfold miB at e2
    rw [hs] at e0 e1 e2
    refine ⟨?_, e1.symm, e2.symm⟩
    show s (5 + k * 3) = DirP.mirV (miS s (5 + swN k * 3))
    rw [e0, DirP.mir_mir hd]
/-- The mirror image of a valid pose is valid. -/
theorem mp_ok {p : Vl} (h : vaE p = 0) : vaE (mpV p) = 0 := by
  obtain ⟨⟨r0, r1, r2, r3⟩, h2⟩ := va_yes h
  rw [mpV_yes h]
  refine va_ok ⟨?_, r1, ?_, r3⟩ fun k hk => ?_
  · show -32768 ≤ -p 0 ∧ -p 0 ≤ 32768
    omega
  · show 0 ≤ (-p 2) % 256 ∧ (-p 2) % 256 ≤ 255
    omega
  · obtain ⟨e0, e1, e2⟩ := mp_cells p k
    unfold pE
    rw [e0, e1, e2]
    have hk' := swN_lt hk
    have := mir_chk (h2 (swN k) hk')
    rw [swp_nat hk', swN_swN hk] at this
    exact this
theorem mp_mp {p : Vl} (h : vaE p = 0) : ∀ i, i < 22 → mpV (mpV p) i = p i := by
  obtain ⟨⟨r0, r1, r2, r3⟩, h2⟩ := va_yes h
  rw [mpV_yes (mp_ok h), mpV_yes h]
  intro i hi
  refine (ps4_eq (p := p) (n := 18) ?_ rfl ?_ rfl ?_ i (by omega)).symm
  · show p 0 = - - p 0
    omega
  · show p 2 = (-((-p 2) % 256)) % 256
    omega
  · refine tri_eq (f := fun j => p (4 + j)) (n := 6) fun k hk => ?_
    have hk' := swN_lt hk
    obtain ⟨e0, e1, e2⟩ := mp_cells p (swN k)
    have hs := swN_swN hk
    have hd := (chk_yes (h2 k hk)).2.1
    unfold mpZ at e0
    unfold mpL at e1
    unfold mpB at e2
    rw [hs] at e0 e1 e2
    refine ⟨?_, e1.symm, e2.symm⟩
    show p (4 + k * 3) = (-mpS p (4 + swN k * 3)) % 256
    rw [e0]
    omega
/-- The pose of the mirror image is the mirror image of the pose. -/
theorem po_mi {s : Vl} (h : stE s = 0) : ∀ i, i < 22 → poV (miV s) i = mpV (poV s) i := by
  obtain ⟨h1, h2, h3⟩ := st_yes h
  have hm := mi_ok h
  have hv := va_po h
  rw [poV_yes hm, mpV_yes hv]
  rw [miV_yes h, poV_yes h]
  obtain ⟨r0, r1, r2, r3, r4⟩ := h1
  intro i hi
  refine ps4_eq (n := 18) rfl rfl ?_ rfl ?_ i (by omega)
  · show 32 * ((8 - s 2) % 8) = (-(32 * s 2)) % 256
    omega
  · refine tri_eq (f := fun j => poS (miS s) (4 + j)) (n := 6) fun k hk => ?_
    have hk' := swN_lt hk
    obtain ⟨e0, e1, e2⟩ := po_cells (miS s) k
    obtain ⟨f0, f1, f2⟩ := mi_cells s k
    unfold aZ at e0
    unfold aL at e1
    unfold aB at e2
    rw [f0, f1, f2] at e0 e1 e2
    obtain ⟨g0, g1, g2⟩ := po_cells s (swN k)
    have hq := (of_mir (h2 (swN k) hk')).2
    rw [swp_nat hk', swN_swN hk] at hq
    obtain ⟨q0, q1, q2⟩ := hq
    refine ⟨?_, ?_, ?_⟩
    · show poS (miS s) (4 + k * 3) = (-poS s (4 + swN k * 3)) % 256
      rw [e0, g0]
      exact q0
    · show poS (miS s) (4 + k * 3 + 1) = poS s (4 + swN k * 3 + 1)
      rw [e1, g1]
      exact q1
    · show poS (miS s) (4 + k * 3 + 2) = poS s (4 + swN k * 3 + 2)
      rw [e2, g2]
      exact q2
/-- The rotation of a valid start is valid. -/
theorem ro_ok {s : Vl} (h : stE s = 0) (n : Int) : stE (roV s n) = 0 := by
  obtain ⟨h1, h2, h3⟩ := st_yes h
  rw [roV_yes h]
  obtain ⟨r0, r1, r2, r3, r4⟩ := h1
  have ht := tu_in (n % 4) r0 r1
  refine st_ok ⟨ht.1, ht.2, ?_, r3, r4⟩ (fun k hk => ?_) h3
  · show 0 ≤ (s 2 + 2 * (n % 4)) % 8 ∧ (s 2 + 2 * (n % 4)) % 8 ≤ 7
    omega
  · unfold tE
    rw [Nat.add_assoc 5, Nat.add_assoc 5, ro_up, ro_up, ro_up]
    exact h2 k hk
theorem ro_back {s : Vl} (h : stE s = 0) (n m : Int) (hm : (n + m) % 4 = 0) : ∀ i, i < 23 → roV (roV s n) m i = s i := by
  obtain ⟨h1, h2, h3⟩ := st_yes h
  rw [roV_yes (ro_ok h n), roV_yes h]
  obtain ⟨r0, r1, r2, r3, r4⟩ := h1
  obtain ⟨t0, t1⟩ := tu_add (s 0) (s 1) n m
  rw [hm] at t0 t1
  intro i hi
  refine (st5_eq (p := s) (n := 18) t0.symm t1.symm ?_ rfl rfl (fun j _ => (ro_up s n j).symm) i (by omega)).symm
  show s 2 = ((s 2 + 2 * (n % 4)) % 8 + 2 * (m % 4)) % 8
  omega
theorem rp_ok {p : Vl} (h : vaE p = 0) (n : Int) : vaE (rpV p n) = 0 := by
  obtain ⟨⟨r0, r1, r2, r3⟩, h2⟩ := va_yes h
  rw [rpV_yes h]
  have ht := tu_in (n % 4) r0 r1
  refine va_ok ⟨ht.1, ht.2, ?_, r3⟩ fun k hk => ?_
  · show 0 ≤ (p 2 + 64 * (n % 4)) % 256 ∧ (p 2 + 64 * (n % 4)) % 256 ≤ 255
    omega
  · unfold pE
    rw [Nat.add_assoc 4, Nat.add_assoc 4, rp_up, rp_up, rp_up]
    exact h2 k hk
theorem rp_rp {p : Vl} (h : vaE p = 0) (a b c : Int) (hc : (a + b) % 4 = c % 4) : ∀ i, i < 22 → rpV (rpV p a) b i = rpV p c i := by
  rw [rpV_yes (rp_ok h a), rpV_yes h, rpV_yes h]
  obtain ⟨t0, t1⟩ := tu_add (p 0) (p 1) a b
  rw [hc] at t0 t1
  intro i hi
  refine ps4_eq (p := rpS (rpS p a) b) (n := 18) t0 t1 ?_ rfl (fun j _ => ?_) i (by omega)
  · show ((p 2 + 64 * (a % 4)) % 256 + 64 * (b % 4)) % 256 = (p 2 + 64 * (c % 4)) % 256
    omega
  · rw [rp_up, rp_up]
theorem mp_rp {p : Vl} (h : vaE p = 0) (a c : Int) (hc : (a + c) % 4 = 0) : ∀ i, i < 22 → mpV (rpV p a) i = rpV (mpV p) c i := by
  rw [mpV_yes (rp_ok h a), rpV_yes (mp_ok h), rpV_yes h, mpV_yes h]
  obtain ⟨t0, t1⟩ := tu_mir (p 0) (p 1) a c hc
  intro i hi
  refine ps4_eq (p := mpS (rpS p a)) (n := 18) t0.symm t1.symm ?_ rfl ?_ i (by omega)
  · show (-((p 2 + 64 * (a % 4)) % 256)) % 256 = ((-p 2) % 256 + 64 * (c % 4)) % 256
    omega
  · intro j hj
    have hx := tri_eq (f := fun j => mpS p (4 + j)) (x := mpZ (rpS p a)) (y := mpL (rpS p a)) (z := mpB (rpS p a)) (n := 6) (fun k hk => ?_) j hj
    · have hy : mpS (rpS p a) (4 + j) = tri (mpZ (rpS p a)) (mpL (rpS p a)) (mpB (rpS p a)) j := ps4_up _ _ _ _ _ j
      exact hy.trans hx.symm
    · obtain ⟨e0, e1, e2⟩ := mp_cells p k
      have z0 := rp_up p a (swN k * 3)
      have z1 := rp_up p a (swN k * 3 + 1)
      have z2 := rp_up p a (swN k * 3 + 2)
      refine ⟨e0.trans ?_, e1.trans ?_, e2.trans ?_⟩
      · unfold mpZ; rw [z0]
      · unfold mpL; exact z1.symm
      · unfold mpB; exact z2.symm
/-- The pose of a rotation is the rotation of the pose. -/
theorem po_ro {s : Vl} (h : stE s = 0) (n : Int) : ∀ i, i < 22 → poV (roV s n) i = rpV (poV s) n i := by
  rw [poV_yes (ro_ok h n), rpV_yes (va_po h), roV_yes h, poV_yes h]
  intro i hi
  refine ps4_eq (p := poS (roS s n)) (n := 18) rfl rfl ?_ rfl ?_ i (by omega)
  · show 32 * ((s 2 + 2 * (n % 4)) % 8) = (32 * s 2 + 64 * (n % 4)) % 256
    omega
  · intro j hj
    have hx := tri_eq (f := fun j => poS s (4 + j)) (x := aZ (roS s n)) (y := aL (roS s n)) (z := aB (roS s n)) (n := 6) (fun k hk => ?_) j hj
    · have hy : poS (roS s n) (4 + j) = tri (aZ (roS s n)) (aL (roS s n)) (aB (roS s n)) j := ps4_up _ _ _ _ _ j
      exact hy.trans hx.symm
    · obtain ⟨e0, e1, e2⟩ := po_cells s k
      have z0 := ro_up s n (k * 3)
      have z1 := ro_up s n (k * 3 + 1)
      have z2 := ro_up s n (k * 3 + 2)
      have a0 : aZ (roS s n) k = aZ s k := by unfold aZ; rw [Nat.add_assoc 5, Nat.add_assoc 5, z0, z1, z2]
      have a1 : aL (roS s n) k = aL s k := by unfold aL; rw [Nat.add_assoc 5, Nat.add_assoc 5, z0, z1, z2]
      have a2 : aB (roS s n) k = aB s k := by unfold aB; rw [Nat.add_assoc 5, Nat.add_assoc 5, z0, z1, z2]
      exact ⟨e0.trans a0.symm, e1.trans a1.symm, e2.trans a2.symm⟩
end Go.Proofs.Ytmjokgddhainlaa.PstP
