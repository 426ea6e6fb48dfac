/-
  Sorting in place by insertion and by merging, of equals the earlier first, as plain mathematics. No word of the program. Condition: none.
-/
import Derived.Test.YtmliajkbknjacaaPairs
namespace Go.Proofs.Ytmliajkbknjacaa.StaP
/-- Two places have changed their contents. -/
def swp (D : Nat → Nat) (i j : Nat) : Nat → Nat := fun k => if k = i then D j else if k = j then D i else D k
theorem swp_l {D : Nat → Nat} {i j : Nat} : swp D i j i = D j := if_pos rfl
theorem swp_r {D : Nat → Nat} {i j : Nat} : swp D i j j = D i := by
  unfold swp
  by_cases h : j = i
  · rw [if_pos h, h]
  · rw [if_neg h, if_pos rfl]
theorem swp_o {D : Nat → Nat} {i j k : Nat} (h1 : k ≠ i) (h2 : k ≠ j) : swp D i j k = D k := by unfold swp; rw [if_neg h1, if_neg h2]
/-- What comes of one list by changing contents of places from a to b. -/
inductive Rch (a b : Nat) (D : Nat → Nat) : (Nat → Nat) → Prop
  | refl : Rch a b D D
  | step {E : Nat → Nat} (i j : Nat) (h : Rch a b D E) (ha : a ≤ i) (hi : i < b) (hj : a ≤ j) (hb : j < b) : Rch a b D (swp E i j)
section
variable {a b c d n : Nat} {D E F : Nat → Nat}
theorem Rch.trans (h : Rch a b D E) (k : Rch a b E F) : Rch a b D F := by
  induction k with
  | refl => exact h
  | step i j _ ha hi hj hb ih => exact .step i j ih ha hi hj hb
theorem Rch.mono (h : Rch a b D E) (ha : c ≤ a) (hb : b ≤ d) : Rch c d D E := by
  induction h with
  | refl => exact .refl
  | step i j _ h1 h2 h3 h4 ih => exact .step i j ih (by omega) (by omega) (by omega) (by omega)
theorem Rch.out (h : Rch a b D E) {k : Nat} (hk : k < a ∨ b ≤ k) : E k = D k := by
  induction h with
  | refl => rfl
  | step i j _ h1 h2 h3 h4 ih => rw [swp_o (by omega) (by omega)]; exact ih
/-- What all contents of the places keep to they keep to. -/
theorem Rch.all (h : Rch a b D E) {P : Nat → Prop} (hP : ∀ k, a ≤ k → k < b → P (D k)) : ∀ k, a ≤ k → k < b → P (E k) := by
  induction h with
  | refl => exact hP
  | step i j _ h1 h2 h3 h4 ih =>
    intro k hk hb
    by_cases e : k = i
    · rw [e, swp_l]; exact ih j h3 h4
    · by_cases e2 : k = j
      · rw [e2, swp_r]; exact ih i h1 h2
      · rw [swp_o e e2]; exact ih k hk hb
theorem Rch.inj (h : Rch a b D E) (hb : b ≤ n) (hD : ∀ i j, i < n → j < n → D i = D j → i = j) : ∀ i j, i < n → j < n → E i = E j → i = j := by
  induction h with
  | refl => exact hD
  | step i j _ h1 h2 h3 h4 ih =>
    intro x y hx hy e
    by_cases x1 : x = i
    · rw [x1, swp_l] at e
      by_cases y1 : y = i
      · omega
      · by_cases y2 : y = j
        · rw [y2, swp_r] at e
          have := ih _ _ (by omega) (by omega) e
          omega
        · rw [swp_o y1 y2] at e
          have := ih _ _ (by omega) hy e
          omega
    · by_cases x2 : x = j
      · rw [x2, swp_r] at e
        by_cases y1 : y = i
        · rw [y1, swp_l] at e
          have := ih _ _ (by omega) (by omega) e
          omega
        · by_cases y2 : y = j
          · omega
          · rw [swp_o y1 y2] at e
            have := ih _ _ (by omega) hy e
            omega
      · rw [swp_o x1 x2] at e
        by_cases y1 : y = i
        · rw [y1, swp_l] at e
          have := ih _ _ hx (by omega) e
          omega
        · by_cases y2 : y = j
          · rw [y2, swp_r] at e
            have := ih _ _ hx (by omega) e
            omega
          · rw [swp_o y1 y2] at e
            exact ih _ _ hx hy e
end
/-- Comes before, and what the comparison says of a later one with an earlier one. -/
structure Bef (lt : Nat → Nat → Prop) (cf : Nat → Nat → Int) : Prop where
  trans : ∀ x y z, lt x y → lt y z → lt x z
  total : ∀ x y, x ≠ y → lt x y ∨ lt y x
  says : ∀ x y, y < x → (cf x y < 0 ↔ lt x y)
def Srt (lt : Nat → Nat → Prop) (a b : Nat) (D : Nat → Nat) : Prop := ∀ i j, a ≤ i → i < j → j < b → lt (D i) (D j)
section
variable {lt : Nat → Nat → Prop} {cf : Nat → Nat → Int} {a b m n i j k : Nat} {D E F : Nat → Nat}
theorem Bef.no (B : Bef lt cf) {x y : Nat} (h : y < x) (hc : ¬ cf x y < 0) : lt y x := (B.total x y (by omega)).resolve_left fun k => hc ((B.says x y h).2 k)
/-! ### Insertion -/
/-- The element that was at i has come down to j. -/
structure Ins (lt : Nat → Nat → Prop) (a i j : Nat) (D F : Nat → Nat) : Prop where
  le : a ≤ j ∧ j ≤ i
  rch : Rch a (i + 1) D F
  cur : F j = D i
  srt : ∀ p q, a ≤ p → p < q → q ≤ i → q ≠ j → lt (F p) (F q)
  low : ∀ p, a ≤ p → p ≤ i → p ≠ j → F p < D i
theorem ins_start (hs : Srt lt a i D) (ha : a ≤ i) (hl : ∀ p, a ≤ p → p < i → D p < D i) : Ins lt a i i D D :=
  ⟨⟨ha, Nat.le_refl _⟩, .refl, rfl, fun p q h1 h2 h3 h4 => hs p q h1 h2 (by omega), fun p h1 h2 h3 => hl p h1 (by omega)⟩
theorem Ins.step (h : Ins lt a i (j + 1) D F) (hj : a ≤ j) (hc : lt (D i) (F j)) : Ins lt a i j D (swp F (j + 1) j) := by
  obtain ⟨h1, h2, h3, h4, h5⟩ := h
  refine ⟨⟨hj, by omega⟩, .step _ _ h2 (by omega) (by omega) hj (by omega), by rw [swp_r]; exact h3, fun p q g1 g2 g3 g4 => ?_, fun p g1 g2 g3 => ?_⟩
  · by_cases e : q = j + 1
    · subst e
      rw [swp_l]
      by_cases e2 : p = j
      · subst e2
        rw [swp_r, h3]; exact hc
      · rw [swp_o (by omega) e2]; exact h4 p j g1 (by omega) (by omega) (by omega)
    · rw [swp_o (k := q) e g4]
      by_cases e1 : p = j + 1
      · rw [e1, swp_l]; exact h4 j q hj (by omega) g3 e
      · by_cases e2 : p = j
        · rw [e2, swp_r]; exact h4 (j + 1) q (by omega) (by omega) g3 e
        · rw [swp_o e1 e2]; exact h4 p q g1 g2 g3 e
  · by_cases e1 : p = j + 1
    · rw [e1, swp_l]; exact h5 j hj (by omega) (by omega)
    · rw [swp_o e1 g3]; exact h5 p g1 g2 e1
theorem Ins.stop (B : Bef lt cf) (h : Ins lt a i j D F) (hc : j = a ∨ ¬ cf (D i) (F (j - 1)) < 0) : Srt lt a (i + 1) F := by
  obtain ⟨h1, h2, h3, h4, h5⟩ := h
  intro p q g1 g2 g3
  by_cases e : q = j
  · subst e
    rcases hc with hc | hc
    · omega
    · have hl := B.no (h5 (q - 1) (by omega) (by omega) (by omega)) hc
      rw [h3]
      by_cases e2 : p = q - 1
      · rw [e2]; exact hl
      · exact B.trans _ _ _ (h4 p (q - 1) g1 (by omega) (by omega) (by omega)) hl
  · exact h4 p q g1 g2 (by omega) e
/-! ### Contents that are moved by one place -/
/-- What was at a has gone up to k. -/
def mvR (D : Nat → Nat) (a k : Nat) : Nat → Nat := fun p => if a ≤ p ∧ p < k then D (p + 1) else if p = k then D a else D p
theorem mvR_start (D : Nat → Nat) (a : Nat) : mvR D a a = D := by
  funext p
  unfold mvR
  rw [if_neg (by omega)]
  split
  · next h => rw [h]
  · rfl
theorem mvR_step (h : a ≤ k) : swp (mvR D a k) k (k + 1) = mvR D a (k + 1) := by
  funext p
  unfold swp mvR
  by_cases e1 : p = k
  · subst e1
    rw [if_pos rfl, if_neg (by omega), if_neg (by omega), if_pos (by omega)]
  · rw [if_neg e1]
    by_cases e2 : p = k + 1
    · subst e2
      rw [if_pos rfl, if_neg (by omega), if_pos rfl, if_neg (by omega), if_pos rfl]
    · rw [if_neg e2, if_neg e1, if_neg e2]
      by_cases e3 : a ≤ p ∧ p < k
      · rw [if_pos e3, if_pos (by omega)]
      · rw [if_neg e3, if_neg (by omega)]
/-- What was at m has come down to k. -/
def mvL (D : Nat → Nat) (m k : Nat) : Nat → Nat := fun p => if p = k then D m else if k < p ∧ p ≤ m then D (p - 1) else D p
theorem mvL_start (D : Nat → Nat) (m : Nat) : mvL D m m = D := by
  funext p
  unfold mvL
  split
  · next h => rw [h]
  · rw [if_neg (by omega)]
theorem mvL_step (h : k < m) : swp (mvL D m (k + 1)) (k + 1) k = mvL D m k := by
  funext p
  unfold swp mvL
  by_cases e1 : p = k + 1
  · subst e1
    rw [if_pos rfl, if_neg (by omega), if_neg (by omega), if_neg (by omega), if_pos (by omega)]
    rfl
  · rw [if_neg e1]
    by_cases e2 : p = k
    · subst e2
      rw [if_pos rfl, if_pos rfl, if_pos rfl]
    · rw [if_neg e2, if_neg e1, if_neg e2]
      by_cases e3 : k < p ∧ p ≤ m
      · rw [if_pos e3, if_pos (by omega)]
      · rw [if_neg e3, if_neg (by omega)]
/-! ### Rotation -/
/-- What is from a to m comes behind what is from m to b. -/
def rot (D : Nat → Nat) (a m b : Nat) : Nat → Nat := fun k => if a ≤ k ∧ k < a + (b - m) then D (k + (m - a)) else if a + (b - m) ≤ k ∧ k < b then D (k - (b - m)) else D k
/-- n places from a and n places from b have changed their contents, i of them so far. -/
def swr (D : Nat → Nat) (a b n : Nat) : Nat → Nat := fun k => if a ≤ k ∧ k < a + n then D (k + (b - a)) else if b ≤ k ∧ k < b + n then D (k - (b - a)) else D k
theorem swr_start : swr D a b 0 = D := by
  funext k
  unfold swr
  rw [if_neg (by omega), if_neg (by omega)]
theorem swr_step (h : a + i < b) : swp (swr D a b i) (a + i) (b + i) = swr D a b (i + 1) := by
  funext k
  unfold swp swr
  by_cases e1 : k = a + i
  · subst e1
    rw [if_pos rfl, if_neg (by omega), if_neg (by omega), if_pos (by omega), show a + i + (b - a) = b + i by omega]
  · rw [if_neg e1]
    by_cases e2 : k = b + i
    · subst e2
      rw [if_pos rfl, if_neg (by omega), if_neg (by omega), if_neg (by omega), if_pos (by omega), show b + i - (b - a) = a + i by omega]
    · rw [if_neg e2]
      by_cases e3 : a ≤ k ∧ k < a + i
      · rw [if_pos e3, if_pos (by omega)]
      · rw [if_neg e3, if_neg (show ¬ (a ≤ k ∧ k < a + (i + 1)) by omega)]
        by_cases e4 : b ≤ k ∧ k < b + i
        · rw [if_pos e4, if_pos (by omega)]
        · rw [if_neg e4, if_neg (by omega)]
theorem rot_up (h : j < i) (hm : i ≤ m) : rot (swr D (m - i) m j) (m - (i - j)) m (m + j) = rot D (m - i) m (m + j) := by
  funext k
  unfold rot swr
  by_cases c1 : k < m - i
  · repeat rw [if_neg (by omega)]
  · by_cases c2 : k < m - i + j
    · rw [if_neg (by omega), if_neg (by omega), if_pos (by omega), if_pos (by omega)]
    · by_cases c3 : k < m - i + j + j
      · rw [if_pos (by omega)]
        by_cases c4 : k + (m - (m - (i - j))) < m
        · omega
        · rw [if_neg (by omega), if_pos (by omega), if_neg (by omega), if_pos (by omega)]
          congr 1; omega
      · by_cases c4 : k < m + j
        · by_cases c5 : k < m - (i - j) + (m + j - m)
          · omega
          · rw [if_neg (show ¬ (m - (i - j) ≤ k ∧ k < m - (i - j) + (m + j - m)) by omega), if_pos (show m - (i - j) + (m + j - m) ≤ k ∧ k < m + j by omega), if_neg (show ¬ (m - i ≤ k - (m + j - m) ∧ k - (m + j - m) < m - i + j) by omega), if_neg (show ¬ (m ≤ k - (m + j - m) ∧ k - (m + j - m) < m + j) by omega), if_neg (show ¬ (m - i ≤ k ∧ k < m - i + (m + j - m)) by omega), if_pos (show m - i + (m + j - m) ≤ k ∧ k < m + j by omega)]
        · repeat rw [if_neg (by omega)]
theorem rot_down (h : i < j) (hm : i ≤ m) : rot (swr D (m - i) (m + j - i) i) (m - i) m (m + (j - i)) = rot D (m - i) m (m + j) := by
  funext k
  unfold rot swr
  by_cases c1 : k < m - i
  · repeat rw [if_neg (by omega)]
  · by_cases c2 : k < m - i + (j - i)
    · rw [if_pos (by omega), if_pos (show m - i ≤ k ∧ k < m - i + (m + j - m) by omega), if_neg (by omega), if_neg (by omega)]
    · by_cases c3 : k < m - i + j
      · rw [if_neg (by omega), if_pos (show m - i ≤ k ∧ k < m - i + (m + j - m) by omega)]
        by_cases c4 : k < m + (j - i)
        · rw [if_pos (by omega), if_pos (by omega)]
          congr 1; omega
        · omega
      · by_cases c4 : k < m + j
        · rw [if_neg (by omega), if_neg (by omega), if_neg (by omega), if_pos (by omega), if_neg (by omega), if_pos (by omega)]
          congr 1; omega
        · repeat rw [if_neg (by omega)]
theorem rot_end (hm : i ≤ m) : swr D (m - i) m i = rot D (m - i) m (m + i) := by
  funext k
  unfold rot swr
  by_cases c1 : m - i ≤ k ∧ k < m - i + i
  · rw [if_pos c1, if_pos (by omega)]
  · rw [if_neg c1, if_neg (show ¬ (m - i ≤ k ∧ k < m - i + (m + i - m)) by omega)]
    by_cases c2 : m ≤ k ∧ k < m + i
    · rw [if_pos c2, if_pos (by omega)]
      congr 1; omega
    · rw [if_neg c2, if_neg (by omega)]
end
end Go.Proofs.Ytmliajkbknjacaa.StaP
