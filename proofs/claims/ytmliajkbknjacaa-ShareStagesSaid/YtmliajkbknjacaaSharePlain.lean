/-
  Amounts divided in proportion to weights: rounded down, and one unit more for the greatest remainders, as plain mathematics. No word of the program. Condition: none.
-/
import Derived.Test.YtmliajkbknjacaaAssignPlain
namespace Go.Proofs.Ytmliajkbknjacaa.ShaP
open AsgP (su su_zero su_succ su_congr su_add su_le su_const su_bound su_one lsu lsu_perm su_lsu perm_of)
/-- k comes before i: a greater remainder, or the same and a lower index. -/
def prec (R : Nat → Int) (k i : Nat) : Bool := decide (R i < R k) || (decide (R k = R i) && decide (k < i))
theorem prec_iff {R : Nat → Int} {k i : Nat} : prec R k i = true ↔ R i < R k ∨ (R k = R i ∧ k < i) := by
  unfold prec
  rw [Bool.or_eq_true, Bool.and_eq_true, decide_eq_true_eq, decide_eq_true_eq, decide_eq_true_eq]
/-- How many come before. -/
def bef (R : Nat → Int) (n i : Nat) : Int := su (fun k => if prec R k i = true then 1 else 0) n
section
variable {R : Nat → Int} {n i j k : Nat}
theorem bef_nonneg : 0 ≤ bef R n i := by
  have := su_le (f := fun _ => 0) (g := fun k => if prec R k i = true then 1 else 0) (n := n) fun k _ => by (try dsimp only); split <;> omega
  rw [su_const] at this
  unfold bef
  omega
theorem bef_lt (hj : j < n) (h : prec R j i = true) : bef R n j < bef R n i := by
  have h1 := su_add (fun k => if prec R k j = true then 1 else 0) (fun k => if k = j then (1 : Int) else 0) n
  have h2 := su_le (f := fun k => (if prec R k j = true then 1 else 0) + (if k = j then (1 : Int) else 0)) (g := fun k => if prec R k i = true then 1 else 0) (n := n) fun k _ => by
    try dsimp only
    by_cases e : k = j
    · subst e
      have : ¬ prec R k k = true := fun q => by have := prec_iff.1 q; omega
      rw [if_neg this, if_pos rfl, if_pos h]
      decide
    · rw [if_neg e]
      by_cases q : prec R k j = true
      · have : prec R k i = true := prec_iff.2 (by have := prec_iff.1 q; have := prec_iff.1 h; omega)
        rw [if_pos q, if_pos this]; decide
      · rw [if_neg q]; split <;> omega
  rw [h1, su_one, if_pos hj] at h2
  unfold bef
  omega
theorem bef_top (hi : i < n) : bef R n i < n := by
  have h1 := su_add (fun k => if prec R k i = true then 1 else 0) (fun k => if k = i then (1 : Int) else 0) n
  have h2 := su_le (f := fun k => (if prec R k i = true then 1 else 0) + (if k = i then (1 : Int) else 0)) (g := fun _ => 1) (n := n) fun k _ => by
    try dsimp only
    by_cases e : k = i
    · subst e
      have : ¬ prec R k k = true := fun q => by have := prec_iff.1 q; omega
      rw [if_neg this, if_pos rfl]
      decide
    · rw [if_neg e]; split <;> omega
  rw [h1, su_one, if_pos hi, su_const] at h2
  unfold bef
  omega
theorem bef_inj (hi : i < n) (hj : j < n) (h : bef R n i = bef R n j) : i = j := by
  refine Classical.byContradiction fun e => ?_
  have : prec R i j = true ∨ prec R j i = true := by
    rw [prec_iff, prec_iff]
    omega
  rcases this with q | q
  · have := bef_lt hi q; omega
  · have := bef_lt hj q; omega
theorem su_first (m : Int) (hm : 0 ≤ m) : ∀ n : Nat, su (fun k => if (k : Int) < m then 1 else 0) n = if m ≤ n then m else n
  | 0 => by
    rw [su_zero]
    split <;> omega
  | n + 1 => by
    rw [su_succ, su_first m hm n]
    try dsimp only
    split <;> split <;> split <;> omega
/-- As many as are left come before one that gets a unit. -/
theorem cnt_eq {m : Int} (h0 : 0 ≤ m) (hm : m ≤ n) : su (fun i => if bef R n i < m then 1 else 0) n = m := by
  have hA : ((List.range n).map fun i => (bef R n i).toNat).Perm (List.range n) := by
    refine perm_of _ _ ?_ (fun a ha => ?_) (by rw [List.length_map])
    · rw [List.Nodup, List.pairwise_map]
      refine List.Pairwise.imp_of_mem ?_ (List.nodup_range (n := n))
      intro a b ha hb hne e
      have h1 := bef_nonneg (R := R) (n := n) (i := a)
      have h2 := bef_nonneg (R := R) (n := n) (i := b)
      exact hne (bef_inj (R := R) (List.mem_range.1 ha) (List.mem_range.1 hb) (by omega))
    · obtain ⟨i, hi, rfl⟩ := List.mem_map.1 ha
      have := bef_top (R := R) (List.mem_range.1 hi)
      have := bef_nonneg (R := R) (n := n) (i := i)
      exact List.mem_range.2 (by omega)
  have e1 : su (fun i => if bef R n i < m then 1 else 0) n = su (fun i => (fun k : Nat => if (k : Int) < m then (1 : Int) else 0) (bef R n i).toNat) n := su_congr fun i _ => by
    have := bef_nonneg (R := R) (n := n) (i := i)
    try dsimp only
    rw [Int.toNat_of_nonneg this]
  have e2 := lsu_perm (hA.map fun k : Nat => if (k : Int) < m then (1 : Int) else 0)
  rw [List.map_map] at e2
  rw [e1, su_lsu]
  refine Eq.trans e2 ?_
  rw [← su_lsu, su_first m h0, if_pos hm]
end
/-! ### Shares -/
/-- The exact share, rounded down, and its remainder. -/
def qF (t W : Int) (f : Nat → Int) (i : Nat) : Int := t * f i / W
def rF (t W : Int) (f : Nat → Int) (i : Nat) : Int := t * f i % W
def leftF (t W : Int) (f : Nat → Int) (n : Nat) : Int := t - su (qF t W f) n
def shF (t W : Int) (f : Nat → Int) (n i : Nat) : Int := qF t W f i + if bef (rF t W f) n i < leftF t W f n then 1 else 0
/-- Weights that can be divided by. -/
structure Wts (t W : Int) (f : Nat → Int) (n : Nat) : Prop where
  t0 : 0 ≤ t
  pos : 0 < W
  nn : ∀ i, i < n → 0 ≤ f i
  sum : su f n = W
section
variable {t W : Int} {f : Nat → Int} {n i k : Nat}
theorem qr (t W : Int) (f : Nat → Int) (i : Nat) : W * qF t W f i + rF t W f i = t * f i := Int.mul_ediv_add_emod _ _
theorem su_mul (a : Int) (g : Nat → Int) : ∀ n : Nat, su (fun i => a * g i) n = a * su g n
  | 0 => by rw [su_zero, su_zero, Int.mul_zero]
  | n + 1 => by rw [su_succ, su_succ, su_mul a g n, Int.mul_add]
theorem Wts.r0 (h : Wts t W f n) (i : Nat) : 0 ≤ rF t W f i ∧ rF t W f i < W := ⟨Int.emod_nonneg _ (by have := h.pos; omega), Int.emod_lt_of_pos _ h.pos⟩
theorem Wts.q0 (h : Wts t W f n) (hi : i < n) : 0 ≤ qF t W f i := Int.ediv_nonneg (Int.mul_nonneg h.t0 (h.nn i hi)) (by have := h.pos; omega)
/-- The remainders add up to what is left, times the sum. -/
theorem Wts.rest (h : Wts t W f n) : su (rF t W f) n = W * leftF t W f n := by
  have e1 : su (fun i => W * qF t W f i + rF t W f i) n = su (fun i => t * f i) n := su_congr fun i _ => qr t W f i
  rw [su_add, su_mul, su_mul, h.sum] at e1
  unfold leftF
  rw [Int.mul_sub, Int.mul_comm W t]
  omega
theorem Wts.left0 (h : Wts t W f n) : 0 ≤ leftF t W f n := by
  have h1 := su_bound (f := rF t W f) (a := 0) (b := W) (n := n) fun i _ => ⟨(h.r0 i).1, by have := (h.r0 i).2; omega⟩
  rw [h.rest] at h1
  have hp := h.pos
  refine Int.not_lt.1 fun q => ?_
  have := Int.mul_neg_of_pos_of_neg hp q
  omega
/-- Not more units are left than there are remainders. -/
theorem Wts.left_pos (h : Wts t W f n) : leftF t W f n ≤ su (fun i => if 0 < rF t W f i then 1 else 0) n := by
  have h1 := su_le (f := rF t W f) (g := fun i => W * if 0 < rF t W f i then 1 else 0) (n := n) fun i _ => by
    have := h.r0 i
    try dsimp only
    split
    · omega
    · rw [Int.mul_zero]; omega
  rw [su_mul, h.rest] at h1
  exact Int.le_of_mul_le_mul_left h1 h.pos
theorem pos_le (g : Nat → Int) (n : Nat) : su (fun i => if 0 < g i then 1 else 0) n ≤ n := by
  have := su_le (f := fun i => if 0 < g i then (1 : Int) else 0) (g := fun _ => 1) (n := n) fun i _ => by (try dsimp only); split <;> omega
  rw [su_const] at this
  omega
theorem Wts.left_le (h : Wts t W f n) : leftF t W f n ≤ n := Int.le_trans h.left_pos (pos_le _ _)
/-- One without a remainder gets no unit. -/
theorem Wts.none (h : Wts t W f n) (e : rF t W f i = 0) : leftF t W f n ≤ bef (rF t W f) n i := by
  refine Int.le_trans h.left_pos (su_le fun k _ => ?_)
  try dsimp only
  by_cases q : 0 < rF t W f k
  · rw [if_pos q, if_pos (prec_iff.2 (.inl (by omega)))]; decide
  · rw [if_neg q]; split <;> omega
theorem Wts.total (h : Wts t W f n) : su (shF t W f n) n = t := by
  have e : su (shF t W f n) n = su (qF t W f) n + su (fun i => if bef (rF t W f) n i < leftF t W f n then 1 else 0) n := su_add _ _ _
  rw [e, cnt_eq h.left0 h.left_le]
  unfold leftF
  omega
theorem Wts.sh0 (h : Wts t W f n) (hi : i < n) : 0 ≤ shF t W f n i := by
  have := h.q0 hi
  unfold shF
  split <;> omega
/-- More than the exact share less one, less than the exact share and one. -/
theorem Wts.fair (h : Wts t W f n) (i : Nat) : (shF t W f n i - 1) * W < t * f i ∧ t * f i < (shF t W f n i + 1) * W := by
  have e := qr t W f i
  have r := h.r0 i
  unfold shF
  split
  · next q =>
    have : rF t W f i ≠ 0 := fun z => by have := h.none z; omega
    rw [show qF t W f i + 1 - 1 = qF t W f i by omega, show qF t W f i + 1 + 1 = qF t W f i + 2 by omega, Int.add_mul, Int.mul_comm (qF t W f i) W]
    omega
  · rw [show qF t W f i + 0 - 1 = qF t W f i - 1 by omega, show qF t W f i + 0 + 1 = qF t W f i + 1 by omega, Int.add_mul, Int.sub_mul, Int.mul_comm (qF t W f i) W]
    omega
theorem Wts.zero (h : Wts t W f n) (e : f i = 0) : shF t W f n i = 0 := by
  have r : rF t W f i = 0 := by unfold rF; rw [e, Int.mul_zero]; exact Int.zero_emod _
  have q : qF t W f i = 0 := by unfold qF; rw [e, Int.mul_zero]; exact Int.zero_ediv _
  unfold shF
  have := h.none r
  rw [q, if_neg (by omega)]
  rfl
theorem shF_mono (h : Wts t W f n) (hk : k < n) (g : f i < f k ∨ (f k = f i ∧ k < i)) : shF t W f n i ≤ shF t W f n k := by
  have hp := h.pos
  have le : f i ≤ f k := by omega
  have h1 : t * f i ≤ t * f k := Int.mul_le_mul_of_nonneg_left le h.t0
  have q1 : qF t W f i ≤ qF t W f k := Int.ediv_le_ediv hp h1
  unfold shF
  by_cases e : qF t W f i = qF t W f k
  · have e1 := qr t W f i
    have e2 := qr t W f k
    rw [e] at e1
    by_cases z : rF t W f i = rF t W f k ∧ i < k
    · -- the weights differ, but nothing of the total does
      have hz : t * f i = t * f k := by omega
      have ht : t = 0 := by
        rcases g with g | ⟨_, g⟩
        · refine Classical.byContradiction fun ht => ?_
          have := Int.mul_lt_mul_of_pos_left g (show 0 < t by have := h.t0; omega)
          omega
        · omega
      have hr : ∀ j, rF t W f j = 0 := fun j => by unfold rF; rw [ht, Int.zero_mul]; exact Int.zero_emod _
      have a1 := h.none (hr i)
      have a2 := h.none (hr k)
      rw [if_neg (by omega), if_neg (by omega), e]
      exact Int.le_refl _
    · by_cases ik : i = k
      · subst ik; exact Int.le_refl _
      · have : prec (rF t W f) k i = true := prec_iff.2 (by omega)
        have := bef_lt (n := n) hk this
        rw [e]
        split <;> split <;> omega
  · split <;> split <;> omega
theorem shF_same (h : Wts t W f n) (hk : k < n) (e : f k = f i) (g : k < i) : shF t W f n i ≤ shF t W f n k := shF_mono h hk (.inr ⟨e, g⟩)
/-! ### Weights multiplied -/
theorem bef_congr {R S : Nat → Int} (hi : i < n) (h : ∀ a b, a < n → b < n → (R a < R b ↔ S a < S b)) : bef R n i = bef S n i := su_congr fun k hk => by
  try dsimp only
  have h1 := h i k hi hk
  have h2 := h k i hk hi
  have e : (prec R k i = true) ↔ (prec S k i = true) := by
    rw [prec_iff, prec_iff]
    omega
  by_cases q : prec R k i = true
  · rw [if_pos q, if_pos (e.1 q)]
  · rw [if_neg q, if_neg fun z => q (e.2 z)]
theorem scale_q {b : Int} (hb : 0 < b) (i : Nat) : qF t (W * b) (fun i => f i * b) i = qF t W f i := by
  unfold qF
  try dsimp only
  rw [← Int.mul_assoc]
  exact Int.mul_ediv_mul_of_pos_left _ _ hb
theorem scale_r {b : Int} (hb : 0 < b) (i : Nat) : rF t (W * b) (fun i => f i * b) i = rF t W f i * b := by
  unfold rF
  try dsimp only
  rw [← Int.mul_assoc, Int.mul_comm (t * f i) b, Int.mul_comm W b, Int.mul_emod_mul_of_pos _ _ hb, Int.mul_comm]
theorem scale_sh {b : Int} (hb : 0 < b) (hi : i < n) : shF t (W * b) (fun i => f i * b) n i = shF t W f n i := by
  have e1 : leftF t (W * b) (fun i => f i * b) n = leftF t W f n := by
    unfold leftF
    rw [su_congr fun i _ => scale_q hb i]
  unfold shF
  rw [e1, scale_q hb, bef_congr (S := rF t W f) hi fun a c _ _ => by
    rw [scale_r hb, scale_r hb]
    exact ⟨fun q => Int.lt_of_mul_lt_mul_right q (by omega), fun q => Int.mul_lt_mul_of_pos_right q hb⟩]
/-- Weights that add up to the total are their own shares. -/
theorem exact_sh (h : Wts t W f n) (e : W = t) : shF t W f n i = f i := by
  have hp := h.pos
  have q : ∀ j, qF t W f j = f j := fun j => by unfold qF; rw [e]; exact Int.mul_ediv_cancel_left _ (by omega)
  have r : ∀ j, rF t W f j = 0 := fun j => by unfold rF; rw [e]; exact Int.mul_emod_right _ _
  have := h.none (r i)
  unfold shF
  rw [q, if_neg (by omega)]
  omega
end
end Go.Proofs.Ytmliajkbknjacaa.ShaP
