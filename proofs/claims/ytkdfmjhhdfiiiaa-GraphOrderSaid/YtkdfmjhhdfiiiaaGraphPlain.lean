/-
  Plain facts of package graph: arcs, walks, what is reached, distances. No word of the program. Condition: none.
-/
import Derived.Test.YtkdfmjhhdfiiiaaPairs
namespace Go.Proofs.Ytkdfmjhhdfiiiaa.GraP
abbrev Ar := Int × Int
/-- An arc leads from a to b. -/
def ar (l : List Ar) (a b : Nat) : Bool := l.any fun p => decide (p.1 = (a : Int)) && decide (p.2 = (b : Int))
theorem ar_iff {l : List Ar} {a b : Nat} : ar l a b = true ↔ ((a : Int), (b : Int)) ∈ l := by
  unfold ar
  rw [List.any_eq_true]
  constructor
  · rintro ⟨⟨x, y⟩, hp, h⟩
    simp at h
    rw [← h.1, ← h.2]
    exact hp
  · intro h
    exact ⟨_, h, by simp⟩
/-- The ends of each arc are nodes. -/
def Fit (n : Nat) (l : List Ar) : Prop := ∀ p ∈ l, 0 ≤ p.1 ∧ p.1 < n ∧ 0 ≤ p.2 ∧ p.2 < n
theorem Fit.ar {n : Nat} {l : List Ar} (h : Fit n l) {a b : Nat} (k : ar l a b = true) : a < n ∧ b < n := by
  have := h _ (ar_iff.1 k)
  simp only at this
  omega
theorem Fit.nats {n : Nat} {l : List Ar} (h : Fit n l) {p : Ar} (hp : p ∈ l) : ∃ a b : Nat, p = ((a : Int), (b : Int)) ∧ a < n ∧ b < n := by
  have := h p hp
  exact ⟨p.1.toNat, p.2.toNat, Prod.ext (by simp; omega) (by simp; omega), by omega, by omega⟩
/-- A walk of k arcs leads from a to b. -/
def wk (n : Nat) (l : List Ar) : Nat → Nat → Nat → Bool
  | 0, a, b => decide (a = b)
  | k + 1, a, b => (List.range n).any fun c => ar l a c && wk n l k c b
theorem wk_succ {n : Nat} {l : List Ar} {k a b : Nat} : wk n l (k + 1) a b = true ↔ ∃ c, c < n ∧ ar l a c = true ∧ wk n l k c b = true := by
  show ((List.range n).any fun c => ar l a c && wk n l k c b) = true ↔ _
  rw [List.any_eq_true]
  constructor
  · rintro ⟨c, hc, h⟩
    rw [Bool.and_eq_true] at h
    exact ⟨c, List.mem_range.1 hc, h.1, h.2⟩
  · rintro ⟨c, hc, h1, h2⟩
    exact ⟨c, List.mem_range.2 hc, by rw [h1, h2]; rfl⟩
theorem wk_zero {n : Nat} {l : List Ar} {a b : Nat} : wk n l 0 a b = true ↔ a = b := decide_eq_true_iff
theorem wk_app {n : Nat} {l : List Ar} {c b : Nat} : ∀ {i j a : Nat}, wk n l i a c = true → wk n l j c b = true → wk n l (i + j) a b = true
  | 0, j, a, h, k => by
    rw [wk_zero] at h
    subst h
    rw [Nat.zero_add]
    exact k
  | i + 1, j, a, h, k => by
    obtain ⟨d, h1, h2, h3⟩ := wk_succ.1 h
    rw [Nat.add_right_comm]
    exact wk_succ.2 ⟨d, h1, h2, wk_app h3 k⟩
theorem wk_split {n : Nat} {l : List Ar} (G : Fit n l) {b : Nat} : ∀ {i j a : Nat}, a < n → wk n l (i + j) a b = true → ∃ c, c < n ∧ wk n l i a c = true ∧ wk n l j c b = true
  | 0, j, a, ha, h => ⟨a, ha, wk_zero.2 rfl, by rwa [Nat.zero_add] at h⟩
  | i + 1, j, a, ha, h => by
    rw [Nat.add_right_comm] at h
    obtain ⟨d, h1, h2, h3⟩ := wk_succ.1 h
    obtain ⟨c, k1, k2, k3⟩ := wk_split G h1 h3
    exact ⟨c, k1, wk_succ.2 ⟨d, h1, h2, k2⟩, k3⟩
theorem wk_one {n : Nat} {l : List Ar} (G : Fit n l) {a b : Nat} : wk n l 1 a b = true ↔ ar l a b = true := by
  rw [wk_succ]
  constructor
  · rintro ⟨c, h1, h2, h3⟩
    rw [wk_zero] at h3
    subst h3
    exact h2
  · intro h
    exact ⟨b, (G.ar h).2, h, wk_zero.2 rfl⟩
/-- The last arc of a walk. -/
theorem wk_last {n : Nat} {l : List Ar} (G : Fit n l) {k a b : Nat} (ha : a < n) (h : wk n l (k + 1) a b = true) : ∃ c, c < n ∧ wk n l k a c = true ∧ ar l c b = true := by
  obtain ⟨c, h1, h2, h3⟩ := wk_split G ha h
  exact ⟨c, h1, h2, (wk_one G).1 h3⟩
theorem wk_more {n : Nat} {l : List Ar} (G : Fit n l) {k a b c : Nat} (h : wk n l k a b = true) (h2 : ar l b c = true) : wk n l (k + 1) a c = true := wk_app h ((wk_one G).2 h2)
theorem wk_in {n : Nat} {l : List Ar} : ∀ {k a b : Nat}, a < n → wk n l k a b = true → b < n
  | 0, a, b, ha, h => by
    rw [wk_zero] at h
    omega
  | k + 1, a, b, ha, h => by
    obtain ⟨c, h1, _, h3⟩ := wk_succ.1 h
    exact wk_in h1 h3
/-! ### Drawers -/
theorem nodup_le : ∀ (n : Nat) (p : List Nat), p.Nodup → (∀ x ∈ p, x < n) → p.length ≤ n
  | 0, p, _, h => by
    cases p with
    | nil => exact Nat.le_refl _
    | cons x r => exact absurd (h x (List.mem_cons_self ..)) (Nat.not_lt_zero _)
  | n + 1, p, hn, h => by
    have ih := nodup_le n (p.erase n) (hn.erase n) fun x hx => by
      have h1 := hn.mem_erase_iff.1 hx
      have := h x h1.2
      omega
    rw [List.length_erase] at ih
    split at ih <;> omega
theorem inj_le {n m : Nat} (f : Nat → Nat) (h : ∀ i, i < m → f i < n) (k : ∀ i j, i < j → j < m → f i ≠ f j) : m ≤ n := by
  have h1 := nodup_le n ((List.range m).map f) (by
    unfold List.Nodup
    rw [List.pairwise_map]
    refine (List.pairwise_lt_range).imp_of_mem fun {i j} hi hj hlt => k i j hlt (List.mem_range.1 hj)) (fun x hx => by
    obtain ⟨i, hi, rfl⟩ := List.mem_map.1 hx
    exact h i (List.mem_range.1 hi))
  rwa [List.length_map, List.length_range] at h1
/-- A least number of a kind. -/
theorem least {p : Nat → Bool} : ∀ {k : Nat}, p k = true → ∃ m, m ≤ k ∧ p m = true ∧ ∀ j, j < m → p j = false
  | 0, h => ⟨0, Nat.le_refl _, h, fun j hj => absurd hj (Nat.not_lt_zero _)⟩
  | k + 1, h => by
    by_cases c : ∃ j, j ≤ k ∧ p j = true
    · obtain ⟨j, hj, hp⟩ := c
      obtain ⟨m, h1, h2, h3⟩ := least' j k hj hp
      exact ⟨m, by omega, h2, h3⟩
    · refine ⟨k + 1, Nat.le_refl _, h, fun j hj => ?_⟩
      refine Bool.eq_false_iff.2 fun hp => c ⟨j, by omega, hp⟩
where
  least' {p : Nat → Bool} : ∀ (j k : Nat), j ≤ k → p j = true → ∃ m, m ≤ k ∧ p m = true ∧ ∀ i, i < m → p i = false
  | j, k, hj, hp => by
    by_cases c : ∃ i, i < j ∧ p i = true
    · obtain ⟨i, hi, hpi⟩ := c
      exact least' i k (by omega) hpi
    · exact ⟨j, hj, hp, fun i hi => Bool.eq_false_iff.2 fun h => c ⟨i, hi, h⟩⟩
  termination_by j => j
/-- What is reached is reached by fewer arcs than there are nodes. -/
theorem wk_short {n : Nat} {l : List Ar} (G : Fit n l) {a b k : Nat} (ha : a < n) (h : wk n l k a b = true) : ∃ j, j < n ∧ j ≤ k ∧ wk n l j a b = true ∧ ∀ i, i < j → wk n l i a b = false := by
  obtain ⟨m, h1, h2, h3⟩ := least (p := fun k => wk n l k a b) h
  refine ⟨m, ?_, h1, h2, h3⟩
  have hc : ∀ i : Nat, ∃ c, i ≤ m → c < n ∧ wk n l i a c = true ∧ wk n l (m - i) c b = true := fun i => by
    by_cases hi : i ≤ m
    · obtain ⟨c, k1, k2, k3⟩ := wk_split G (i := i) (j := m - i) (b := b) ha (by rwa [Nat.add_sub_cancel' hi])
      exact ⟨c, fun _ => ⟨k1, k2, k3⟩⟩
    · exact ⟨0, fun h => absurd h hi⟩
  have hf : ∃ f : Nat → Nat, ∀ i, i ≤ m → f i < n ∧ wk n l i a (f i) = true ∧ wk n l (m - i) (f i) b = true := ⟨fun i => (hc i).choose, fun i => (hc i).choose_spec⟩
  obtain ⟨f, hf⟩ := hf
  have := inj_le (n := n) (m := m + 1) f (fun i hi => (hf i (by omega)).1) fun i j hij hj e => by
    have k1 := (hf i (by omega)).2.1
    have k2 := (hf j (by omega)).2.2
    rw [← e] at k2
    have k3 := wk_app k1 k2
    have k4 := h3 (i + (m - j)) (by omega)
    rw [k3] at k4
    cases k4
  omega
/-- There is a path from a to b. -/
def rch (n : Nat) (l : List Ar) (a b : Nat) : Bool := (List.range n).any fun k => wk n l k a b
theorem rch_iff {n : Nat} {l : List Ar} (G : Fit n l) {a b : Nat} (ha : a < n) : rch n l a b = true ↔ ∃ k, wk n l k a b = true := by
  unfold rch
  rw [List.any_eq_true]
  constructor
  · rintro ⟨k, _, h⟩
    exact ⟨k, h⟩
  · rintro ⟨k, h⟩
    obtain ⟨j, h1, _, h2, _⟩ := wk_short G ha h
    exact ⟨j, List.mem_range.2 h1, h2⟩
theorem rch_refl {n : Nat} {l : List Ar} {a : Nat} (ha : a < n) : rch n l a a = true := by
  unfold rch
  rw [List.any_eq_true]
  exact ⟨0, List.mem_range.2 (by omega), wk_zero.2 rfl⟩
theorem rch_trans {n : Nat} {l : List Ar} (G : Fit n l) {a b c : Nat} (ha : a < n) (hb : b < n) (h : rch n l a b = true) (k : rch n l b c = true) : rch n l a c = true := by
  obtain ⟨i, hi⟩ := (rch_iff G ha).1 h
  obtain ⟨j, hj⟩ := (rch_iff G hb).1 k
  exact (rch_iff G ha).2 ⟨i + j, wk_app hi hj⟩
theorem rch_arc {n : Nat} {l : List Ar} (G : Fit n l) {a b : Nat} (h : ar l a b = true) : rch n l a b = true := (rch_iff G (G.ar h).1).2 ⟨1, (wk_one G).2 h⟩
theorem rch_in {n : Nat} {l : List Ar} (G : Fit n l) {a b : Nat} (ha : a < n) (h : rch n l a b = true) : b < n := by
  obtain ⟨k, hk⟩ := (rch_iff G ha).1 h
  exact wk_in ha hk
/-- What is reached, node by node. -/
def rchV (n : Nat) (l : List Ar) (a : Nat) : List Bool := (List.range n).map (rch n l a)
/-- The fewest arcs of a path from a to b. -/
def dst (n : Nat) (l : List Ar) (a b : Nat) : Option Nat := (List.range n).find? fun k => wk n l k a b
theorem find_range {n : Nat} {p : Nat → Bool} {k : Nat} : (List.range n).find? p = some k ↔ k < n ∧ p k = true ∧ ∀ j, j < k → p j = false := by
  rw [List.find?_range_eq_some]
  simp only [List.mem_range, Bool.not_eq_true']
  constructor
  · rintro ⟨h1, h2, h3⟩
    exact ⟨h2, h1, h3⟩
  · rintro ⟨h1, h2, h3⟩
    exact ⟨h2, h1, h3⟩
theorem dst_some {n : Nat} {l : List Ar} {a b k : Nat} : dst n l a b = some k ↔ k < n ∧ wk n l k a b = true ∧ ∀ j, j < k → wk n l j a b = false := find_range
theorem dst_none {n : Nat} {l : List Ar} {a b : Nat} : dst n l a b = none ↔ rch n l a b = false := by
  unfold dst rch
  rw [List.find?_eq_none, List.any_eq_false]
/-- A distance is known by its two sides. -/
theorem dst_of {n : Nat} {l : List Ar} (G : Fit n l) {a b k : Nat} (ha : a < n) (h : wk n l k a b = true) (h2 : ∀ j, j < k → wk n l j a b = false) : dst n l a b = some k := by
  obtain ⟨j, h3, h4, h5, _⟩ := wk_short G ha h
  rcases Nat.lt_or_ge j k with c | c
  · rw [h2 j c] at h5; cases h5
  · obtain rfl : j = k := by omega
    exact dst_some.2 ⟨h3, h, h2⟩
theorem dst_zero {n : Nat} {l : List Ar} {a b : Nat} (ha : a < n) : dst n l a b = some 0 ↔ a = b := by
  rw [dst_some]
  constructor
  · rintro ⟨_, h, _⟩
    exact wk_zero.1 h
  · rintro rfl
    exact ⟨by omega, wk_zero.2 rfl, fun j hj => absurd hj (Nat.not_lt_zero _)⟩
theorem dst_le {n : Nat} {l : List Ar} (G : Fit n l) {a b k : Nat} (ha : a < n) (h : wk n l k a b = true) : ∃ j, j ≤ k ∧ dst n l a b = some j := by
  obtain ⟨j, h3, h4, h5, h6⟩ := wk_short G ha h
  exact ⟨j, h4, dst_of G ha h5 h6⟩
/-- The step of a shortest path. -/
theorem dst_step {n : Nat} {l : List Ar} (G : Fit n l) {a b c k : Nat} (h : dst n l a b = some (k + 1)) (hc : ar l a c = true) : dst n l c b = some k ↔ wk n l k c b = true := by
  obtain ⟨h1, h2, h3⟩ := dst_some.1 h
  constructor
  · exact fun h => (dst_some.1 h).2.1
  · intro h4
    refine dst_of G (G.ar hc).2 h4 fun j hj => Bool.eq_false_iff.2 fun h5 => ?_
    have := h3 (j + 1) (by omega)
    rw [wk_succ.2 ⟨c, (G.ar hc).2, hc, h5⟩] at this
    cases this
end Go.Proofs.Ytkdfmjhhdfiiiaa.GraP
