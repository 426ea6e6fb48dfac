/-
  Plain facts of package wire: groups read one after the other. No word of the program. Condition: none.
-/
import Derived.Test.YtbplglndcagglaaWirePlain
namespace Go.Proofs.Ytbplglndcagglaa.WirP
/-- The number that groups say, the lowest first. -/
def gval : Bs → Nat
  | [] => 0
  | c :: r => c.toNat % 128 + 128 * gval r
theorem gval_drop (l : Bs) (i : Nat) : gval (l.drop i) ≤ gval l := by
  induction i generalizing l with
  | zero => exact Nat.le_refl _
  | succ i ih =>
    cases l with
    | nil => exact Nat.le_refl _
    | cons c r =>
      have := ih r
      show gval (r.drop i) ≤ c.toNat % 128 + 128 * gval r
      omega
theorem gval_step {l : Bs} {i : Nat} (h : i < l.length) : gval (l.drop i) = l[i].toNat % 128 + 128 * gval (l.drop (i + 1)) := by
  rw [List.drop_eq_getElem_cons h]
  rfl
theorem read_some : ∀ {b : Bs} {i : Nat} (h : i < b.length), b[i].toNat < 128 → (∀ j, j < i → ∀ hj : j < b.length, 128 ≤ b[j].toNat) → readU b = some (gval (b.take (i + 1)), i + 1)
  | c :: r, 0, _, hl, _ => by
    have hl : c.toNat < 128 := hl
    show (if c.toNat < 128 then some (c.toNat, 1) else _) = some (c.toNat % 128 + 128 * 0, 1)
    rw [if_pos hl]
    congr 2
    omega
  | c :: r, i + 1, h, hl, hb => by
    have h0 : 128 ≤ c.toNat := hb 0 (by omega) (by simp)
    have ih := read_some (b := r) (i := i) (by simpa using h) (by simpa using hl) (fun j hj hjl => by
      have := hb (j + 1) (by omega) (by simpa using hjl)
      simpa using this)
    show (if c.toNat < 128 then _ else (readU r).map fun p => (c.toNat % 128 + 128 * p.1, p.2 + 1)) = _
    rw [if_neg (by omega), ih]
    rfl
theorem read_none : ∀ {b : Bs}, (∀ j, ∀ hj : j < b.length, 128 ≤ b[j].toNat) → readU b = none
  | [], _ => rfl
  | c :: r, hb => by
    have h0 : 128 ≤ c.toNat := hb 0 (by simp)
    have ih := read_none (b := r) (fun j hj => by
      have := hb (j + 1) (by simpa using hj)
      simpa using this)
    show (if c.toNat < 128 then _ else (readU r).map fun p => (c.toNat % 128 + 128 * p.1, p.2 + 1)) = _
    rw [if_neg (by omega), ih]
    rfl
theorem last_get {b : Bs} {k : Nat} (h : k < b.length) : lastB b (k + 1) = b[k].toNat := by
  unfold lastB
  rw [Nat.add_sub_cancel, List.getD_eq_getElem?_getD, List.getElem?_eq_getElem h]
  rfl
/-- What the first byte below 128, at place i, says of the error. -/
theorem take_at {b : Bs} {i u : Nat} (hr : readU b = some (u, i + 1)) : takeE b = if 9 < i ∨ (i = 9 ∧ 1 < lastB b 10) then 12 else if 0 < i ∧ lastB b (i + 1) = 0 then 2 else 0 := by
  unfold takeE
  rw [hr]
  show (if 10 < i + 1 ∨ (i + 1 = 10 ∧ 1 < lastB b 10) then (12 : Int) else if 1 < i + 1 ∧ lastB b (i + 1) = 0 then 2 else 0) = _
  have e1 : (10 < i + 1 ∨ (i + 1 = 10 ∧ 1 < lastB b 10)) ↔ (9 < i ∨ (i = 9 ∧ 1 < lastB b 10)) := by omega
  have e2 : (1 < i + 1 ∧ lastB b (i + 1) = 0) ↔ (0 < i ∧ lastB b (i + 1) = 0) := by omega
  simp only [e1, e2]
theorem take_u64 {b : Bs} {i u : Nat} (hr : readU b = some (u, i + 1)) (h : ¬ (9 < i ∨ (i = 9 ∧ 1 < lastB b 10))) : u < 18446744073709551616 := by
  by_cases q : i + 1 ≤ 9
  · exact Nat.lt_of_lt_of_le (read_bound 9 hr q) (by decide)
  · have k10 : i = 9 := by omega
    subst k10
    have hl : lastB b 10 ≤ 1 := by omega
    have ht := read_top hr
    have : (lastB b 10 + 1) * 128 ^ (10 - 1) ≤ 2 * 128 ^ 9 := Nat.mul_le_mul_right _ (by omega)
    exact Nat.lt_of_lt_of_le ht (Nat.le_trans this (by decide))
theorem take_none {b : Bs} (hr : readU b = none) : takeE b = 13 ∧ takeV b = 0 ∧ takeK b = 0 := by
  have he : takeE b = 13 := by unfold takeE; rw [hr]
  exact ⟨he, by unfold takeV; rw [he, if_neg (by decide)], by unfold takeK; rw [he, if_neg (by decide)]⟩
theorem take_some {b : Bs} {i u : Nat} (hr : readU b = some (u, i + 1)) (h : takeE b = 0) : takeV b = valI u ∧ takeK b = i + 1 := by
  constructor
  · unfold takeV; rw [if_pos h, hr]
  · unfold takeK; rw [if_pos h, hr]
end Go.Proofs.Ytbplglndcagglaa.WirP
