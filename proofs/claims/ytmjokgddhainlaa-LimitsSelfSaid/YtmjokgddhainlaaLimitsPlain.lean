/-
  Limits of dancers, reckoned: checks, sectors, what is allowed, narrowed limits, mirror images, the first fault of a movement. Nothing of the program. Condition: none.
-/
import Derived.Test.YtmjokgddhainlaaPosturePlain
namespace Go.Proofs.Ytmjokgddhainlaa.LimP
open AngP AimP PstP
/-! ### The first place that is not so -/
def run (p : Nat → Bool) : Nat → Nat → Nat
  | k, 0 => k
  | k, m + 1 => if p k = true then run p (k + 1) m else k
theorem run_is (p : Nat → Bool) : ∀ (m k : Nat), k ≤ run p k m ∧ run p k m ≤ k + m ∧ (∀ i, k ≤ i → i < run p k m → p i = true) ∧ (run p k m < k + m → p (run p k m) = false)
  | 0, k => ⟨Nat.le_refl _, Nat.le_refl _, fun i h1 h2 => absurd h2 (by show ¬ i < k; omega), fun h => absurd h (by show ¬ k < k + 0; omega)⟩
  | m + 1, k => by
    by_cases c : p k = true
    · have e : run p k (m + 1) = run p (k + 1) m := if_pos c
      rw [e]
      obtain ⟨h1, h2, h3, h4⟩ := run_is p m (k + 1)
      refine ⟨by omega, by omega, fun i hi hj => ?_, fun h => h4 (by omega)⟩
      by_cases e : i = k
      · rw [e]; exact c
      · exact h3 i (by omega) hj
    · have e : run p k (m + 1) = k := if_neg c
      rw [e]
      exact ⟨Nat.le_refl _, by omega, fun i h1 h2 => absurd h2 (by omega), fun _ => Bool.eq_false_iff.2 c⟩
theorem run_at {p : Nat → Bool} {k m r : Nat} (h1 : k ≤ r) (h2 : r ≤ k + m) (h3 : ∀ i, k ≤ i → i < r → p i = true) (h4 : r < k + m → p r = false) : run p k m = r := by
  obtain ⟨g1, g2, g3, g4⟩ := run_is p m k
  by_cases c : run p k m = r
  · exact c
  · by_cases d : run p k m < r
    · have := h3 _ g1 d
      rw [g4 (by omega)] at this
      exact absurd this Bool.false_ne_true
    · have := g3 r h1 (by omega)
      rw [h4 (by omega)] at this
      exact absurd this Bool.false_ne_true
/-- The first of n that is an error. -/
def fx (E : Vl) (n : Nat) : Nat := run (fun i => decide (E i = 0)) 0 n
theorem fx_at {E : Vl} {j n : Nat} (h : ∀ i, i < j → E i = 0) (hj : E j ≠ 0) (hn : j < n) : fx E n = j :=
  run_at (by omega) (by omega) (fun i _ hi => decide_eq_true (h i hi)) (fun _ => decide_eq_false hj)
theorem feN_or (E : Vl) : ∀ n : Nat, (∀ i, i < n → E i = 0) ∨ ∃ j, j < n ∧ (∀ i, i < j → E i = 0) ∧ E j ≠ 0
  | 0 => .inl fun i hi => absurd hi (by omega)
  | n + 1 => by
    rcases feN_or E n with ih | ⟨j, h1, h2, h3⟩
    · by_cases c : E n = 0
      · refine .inl fun i hi => ?_
        by_cases ci : i = n
        · rw [ci]; exact c
        · exact ih i (by omega)
      · exact .inr ⟨n, by omega, ih, c⟩
    · exact .inr ⟨j, by omega, h2, h3⟩
theorem feN_eq {E F : Vl} : ∀ {n : Nat}, (∀ i, i < n → E i = F i) → feN E n = feN F n
  | 0, _ => rfl
  | n + 1, h => by
    unfold feN
    rw [feN_eq (n := n) fun i hi => h i (by omega), h n (by omega)]
theorem feN_in {E : Vl} {c : Int} : ∀ {n : Nat}, (∀ i, i < n → E i = 0 ∨ E i = c) → feN E n = 0 ∨ feN E n = c := fun {n} h => by
  rcases feN_or E n with g | ⟨j, h1, h2, h3⟩
  · exact .inl (feN_ok g)
  · rw [feN_at h2 h3 h1]; exact h j h1
/-! ### Limits: 36 numbers, two answers (36, 37), two numbers -/
def lim (l : Vl) (i : Nat) : Vl := fun j => l (i * 6 + j)
def okX (x : Vl) : Prop := (-64 ≤ x 0 ∧ x 0 ≤ x 1 ∧ x 1 ≤ 64) ∧ (0 ≤ x 2 ∧ x 2 ≤ 255) ∧ (0 ≤ x 3 ∧ x 3 ≤ 255) ∧ (0 ≤ x 4 ∧ x 4 ≤ 6) ∧ 1 ≤ x 5 ∧ x 5 ≤ 128
instance (x : Vl) : Decidable (okX x) := by unfold okX; infer_instance
def okT (l : Vl) : Prop := (0 ≤ l 38 ∧ l 38 ≤ 8192) ∧ 1 ≤ l 39 ∧ l 39 ≤ 128
instance (l : Vl) : Decidable (okT l) := by unfold okT; infer_instance
def liE (l : Vl) : Vl := fun i => if okX (lim l i) then 0 else 1
def chE (l : Vl) : Int := if feN (liE l) 6 = 0 then (if okT l then 0 else 1) else 1
theorem ch_yes {l : Vl} (h : chE l = 0) : (∀ i, i < 6 → okX (lim l i)) ∧ okT l := by
  unfold chE at h
  by_cases c : feN (liE l) 6 = 0
  · rw [if_pos c] at h
    refine ⟨fun i hi => ?_, ?_⟩
    · have this : (if okX (lim l i) then (0 : Int) else 1) = 0 := feN_no c i hi
      by_cases d : okX (lim l i)
      · exact d
      · rw [if_neg d] at this; exact absurd this (by decide)
    · by_cases d : okT l
      · exact d
      · rw [if_neg d] at h; exact absurd h (by decide)
  · rw [if_neg c] at h; exact absurd h (by decide)
theorem ch_ok {l : Vl} (h1 : ∀ i, i < 6 → okX (lim l i)) (h2 : okT l) : chE l = 0 := by
  unfold chE
  rw [if_pos (show feN (liE l) 6 = 0 from feN_ok fun i hi => if_pos (h1 i hi)), if_pos h2]
theorem ch_lim {l : Vl} {i : Nat} (hi : i < 6) (h : ¬ okX (lim l i)) : chE l = 1 := by
  unfold chE
  by_cases c : feN (liE l) 6 = 0
  · have this : (if okX (lim l i) then (0 : Int) else 1) = 0 := feN_no c i hi
    rw [if_neg h] at this
    exact absurd this (by decide)
  · exact if_neg c
theorem ch_tail {l : Vl} (h : ¬ okT l) : chE l = 1 := by
  unfold chE
  by_cases c : feN (liE l) 6 = 0
  · rw [if_pos c, if_neg h]
  · exact if_neg c
theorem ch_or (l : Vl) : chE l = 0 ∨ chE l = 1 := by
  by_cases c : chE l = 0
  · exact .inl c
  · unfold chE at c ⊢
    by_cases d : feN (liE l) 6 = 0
    · rw [if_pos d] at c ⊢
      by_cases e : okT l
      · rw [if_pos e] at c; exact absurd rfl c
      · rw [if_neg e]; exact .inr rfl
    · rw [if_neg d]; exact .inr rfl
/-! ### What is allowed -/
def inS (x : Vl) (z : Int) : Bool := decide ((z - x 2) % 256 ≤ x 3)
theorem in_iff (x : Vl) (z : Int) : inS x z = true ↔ (z - x 2) % 256 ≤ x 3 := decide_eq_true_iff
theorem in_no (x : Vl) (z : Int) : inS x z = false ↔ x 3 < (z - x 2) % 256 := by rw [← Bool.not_eq_true, in_iff]; omega
theorem in_mod (x : Vl) {z y : Int} (h : z % 256 = y % 256) : inS x z = inS x y := by
  unfold inS
  rw [show (z - x 2) % 256 = (y - x 2) % 256 by omega]
def mayB (x : Vl) (z e b : Int) : Bool := decide (x 0 ≤ e) && decide (e ≤ x 1) && decide (b ≤ x 4) && (poleB e || inS x z)
theorem may_iff (x : Vl) (z e b : Int) : mayB x z e b = true ↔ (x 0 ≤ e ∧ e ≤ x 1 ∧ b ≤ x 4) ∧ ((e = 64 ∨ e = -64) ∨ (z - x 2) % 256 ≤ x 3) := by
  simp only [mayB, Bool.and_eq_true, Bool.or_eq_true, pole_iff, in_iff, decide_eq_true_eq, and_assoc]
def alE (l : Vl) (k z e b : Int) : Int := if chE l = 0 then chk k z e b else chE l
def alV (l : Vl) (k z e b : Int) : Bool := decide (alE l k z e b = 0) && mayB (lim l k.toNat) z e b
theorem al_yes {l : Vl} {k z e b : Int} (h : alE l k z e b = 0) : chE l = 0 ∧ chk k z e b = 0 ∧ alV l k z e b = mayB (lim l k.toNat) z e b := by
  have h0 := h
  unfold alE at h
  by_cases c : chE l = 0
  · rw [if_pos c] at h
    refine ⟨c, h, ?_⟩
    unfold alV
    rw [decide_eq_true h0, Bool.true_and]
  · rw [if_neg c] at h; exact absurd h c
theorem al_ok {l : Vl} {k z e b : Int} (h1 : chE l = 0) (h2 : chk k z e b = 0) : alE l k z e b = 0 ∧ alV l k z e b = mayB (lim l k.toNat) z e b := by
  have e : alE l k z e b = 0 := by unfold alE; rw [if_pos h1]; exact h2
  exact ⟨e, (al_yes e).2.2⟩
theorem al_no {l : Vl} {k z e b : Int} (h : alE l k z e b ≠ 0) : alV l k z e b = false := by
  unfold alV
  rw [decide_eq_false h, Bool.false_and]
/-! ### Sectors in common -/
def com (x y : Vl) : Nat → Bool := fun k => inS y (x 2 + k)
/-- The first azimuth in common, and the one behind the first run. -/
def f0 (x y : Vl) : Nat := run (fun k => !com x y k) 0 ((x 3).toNat + 1)
def l0 (x y : Vl) : Nat := run (com x y) (f0 x y) ((x 3).toNat + 1 - f0 x y)
theorem f0_is (x y : Vl) : f0 x y ≤ (x 3).toNat + 1 ∧ (∀ i, i < f0 x y → com x y i = false) ∧ (f0 x y ≤ (x 3).toNat → com x y (f0 x y) = true) := by
  obtain ⟨h1, h2, h3, h4⟩ := run_is (fun k => !com x y k) ((x 3).toNat + 1) 0
  refine ⟨by unfold f0; omega, fun i hi => ?_, fun h => ?_⟩
  · have := h3 i (by omega) hi
    simpa using this
  · have := h4 (by unfold f0 at h; omega)
    simpa [f0] using this
theorem f0_at {x y : Vl} {k : Nat} (h1 : k ≤ (x 3).toNat + 1) (h2 : ∀ i, i < k → com x y i = false) (h3 : k ≤ (x 3).toNat → com x y k = true) : f0 x y = k :=
  run_at (by omega) (by omega) (fun i _ hi => by simp [h2 i hi]) (fun h => by simp [h3 (by omega)])
theorem l0_is {x y : Vl} (h : f0 x y ≤ (x 3).toNat) : f0 x y < l0 x y ∧ l0 x y ≤ (x 3).toNat + 1 ∧ (∀ i, f0 x y ≤ i → i < l0 x y → com x y i = true) ∧ (l0 x y ≤ (x 3).toNat → com x y (l0 x y) = false) := by
  obtain ⟨h1, h2, h3, h4⟩ := run_is (com x y) ((x 3).toNat + 1 - f0 x y) (f0 x y)
  have hf := (f0_is x y).2.2 h
  unfold l0
  refine ⟨?_, by omega, h3, fun g => h4 (by omega)⟩
  by_cases c : run (com x y) (f0 x y) ((x 3).toNat + 1 - f0 x y) = f0 x y
  · rw [c] at h4
    rw [h4 (by omega)] at hf
    exact absurd hf Bool.false_ne_true
  · omega
theorem l0_at {x y : Vl} {k : Nat} (h0 : f0 x y ≤ k) (h1 : k ≤ (x 3).toNat + 1) (h2 : ∀ i, f0 x y ≤ i → i < k → com x y i = true) (h3 : k ≤ (x 3).toNat → com x y k = false) : l0 x y = k :=
  run_at h0 (by omega) h2 (fun h => h3 (by omega))
/-- The common sector: where it begins, its width. -/
def coF (x y : Vl) : Int := (x 2 + f0 x y) % 256
def coW (x y : Vl) : Int := (l0 x y : Int) - f0 x y - 1
def nrE (x y : Vl) : Int := if max (x 0) (y 0) ≤ min (x 1) (y 1) ∧ f0 x y ≤ (x 3).toNat then 0 else 25
def nrS (x y : Vl) : Vl := fun j => if j = 0 then max (x 0) (y 0) else if j = 1 then min (x 1) (y 1) else if j = 2 then coF x y else if j = 3 then coW x y else if j = 4 then min (x 4) (y 4) else min (x 5) (y 5)
def nrV (x y : Vl) : Vl := if nrE x y = 0 then nrS x y else nul
theorem nr_yes {x y : Vl} (h : nrE x y = 0) : max (x 0) (y 0) ≤ min (x 1) (y 1) ∧ f0 x y ≤ (x 3).toNat := by
  unfold nrE at h
  by_cases c : max (x 0) (y 0) ≤ min (x 1) (y 1) ∧ f0 x y ≤ (x 3).toNat
  · exact c
  · rw [if_neg c] at h; exact absurd h (by decide)
theorem nr_or (x y : Vl) : nrE x y = 0 ∨ nrE x y = 25 := by
  unfold nrE
  by_cases c : max (x 0) (y 0) ≤ min (x 1) (y 1) ∧ f0 x y ≤ (x 3).toNat
  · rw [if_pos c]; exact .inl rfl
  · rw [if_neg c]; exact .inr rfl
/-- A limit narrowed by one that has all azimuths of it stays. -/
theorem co_all {x y : Vl} (hx : okX x) (h : ∀ k : Nat, k ≤ (x 3).toNat → com x y k = true) : f0 x y = 0 ∧ coF x y = x 2 ∧ coW x y = x 3 := by
  have e0 : f0 x y = 0 := f0_at (by omega) (fun i hi => absurd hi (by omega)) (fun _ => h 0 (by omega))
  have e1 : l0 x y = (x 3).toNat + 1 := l0_at (by omega) (by omega) (fun i _ hi => h i (by omega)) (fun g => absurd g (by omega))
  obtain ⟨-, h2, h3, -⟩ := hx
  refine ⟨e0, ?_, ?_⟩
  · unfold coF; rw [e0]; omega
  · unfold coW; rw [e0, e1]; omega
theorem com_self {x : Vl} (hx : okX x) {k : Nat} (hk : k ≤ (x 3).toNat) : com x x k = true := by
  obtain ⟨-, h2, h3, -⟩ := hx
  exact (in_iff _ _).2 (by omega)
theorem com_wide {x y : Vl} (h : y 3 = 255) (k : Nat) : com x y k = true := (in_iff _ _).2 (by omega)
theorem nr_self {x : Vl} (hx : okX x) : nrE x x = 0 ∧ ∀ j, j < 6 → nrV x x j = x j := by
  obtain ⟨e0, e1, e2⟩ := co_all (y := x) hx (fun k hk => com_self hx hk)
  have e : nrE x x = 0 := by
    unfold nrE
    rw [if_pos ⟨by have := hx.1; omega, by omega⟩]
  refine ⟨e, fun j hj => ?_⟩
  unfold nrV
  rw [if_pos e]
  unfold nrS
  have t : j = 0 ∨ j = 1 ∨ j = 2 ∨ j = 3 ∨ j = 4 ∨ j = 5 := by omega
  rcases t with rfl | rfl | rfl | rfl | rfl | rfl
  · simp
  · simp
  · simp [e1]
  · simp [e2]
  · simp
  · simp
theorem nr_wide {x y : Vl} (hx : okX x) (h0 : y 0 = -64) (h1 : y 1 = 64) (h3 : y 3 = 255) (h4 : y 4 = 6) (h5 : y 5 = 128) : nrE x y = 0 ∧ ∀ j, j < 6 → nrV x y j = x j := by
  obtain ⟨e0, e1, e2⟩ := co_all (y := y) hx (fun k _ => com_wide h3 k)
  have hx' := hx
  obtain ⟨g1, g2, g3, g4, g5⟩ := hx'
  have e : nrE x y = 0 := by
    unfold nrE
    rw [if_pos ⟨by omega, by omega⟩]
  refine ⟨e, fun j hj => ?_⟩
  unfold nrV
  rw [if_pos e]
  unfold nrS
  have t : j = 0 ∨ j = 1 ∨ j = 2 ∨ j = 3 ∨ j = 4 ∨ j = 5 := by omega
  rcases t with rfl | rfl | rfl | rfl | rfl | rfl
  · simp; omega
  · simp; omega
  · simp [e1]
  · simp [e2]
  · simp; omega
  · simp; omega
theorem co_in {x y : Vl} (hx : okX x) (h : f0 x y ≤ (x 3).toNat) : (0 ≤ coF x y ∧ coF x y ≤ 255) ∧ (0 ≤ coW x y ∧ coW x y ≤ x 3) := by
  obtain ⟨g1, g2, -, -⟩ := l0_is h
  obtain ⟨-, h2, h3, -⟩ := hx
  unfold coF coW
  omega
theorem nr_ok {x y : Vl} (hx : okX x) (hy : okX y) (h : nrE x y = 0) : okX (nrV x y) := by
  obtain ⟨h1, h2⟩ := nr_yes h
  obtain ⟨c1, c2⟩ := co_in hx h2
  obtain ⟨a1, a2, a3, a4, a5⟩ := hx
  obtain ⟨b1, b2, b3, b4, b5⟩ := hy
  unfold nrV
  rw [if_pos h]
  show (-64 ≤ max (x 0) (y 0) ∧ max (x 0) (y 0) ≤ min (x 1) (y 1) ∧ min (x 1) (y 1) ≤ 64) ∧ (0 ≤ coF x y ∧ coF x y ≤ 255) ∧ (0 ≤ coW x y ∧ coW x y ≤ 255) ∧ (0 ≤ min (x 4) (y 4) ∧ min (x 4) (y 4) ≤ 6) ∧ 1 ≤ min (x 5) (y 5) ∧ min (x 5) (y 5) ≤ 128
  omega
/-- What the narrowed limit allows, both allow. -/
theorem nr_may {x y : Vl} (hx : okX x) (h : nrE x y = 0) {z e b : Int} (hm : mayB (nrV x y) z e b = true) : mayB x z e b = true ∧ mayB y z e b = true := by
  obtain ⟨h1, h2⟩ := nr_yes h
  obtain ⟨g1, g2, g3, -⟩ := l0_is h2
  unfold nrV at hm
  rw [if_pos h, may_iff] at hm
  obtain ⟨⟨m1, m2, m3⟩, m4⟩ := hm
  replace m1 : max (x 0) (y 0) ≤ e := m1
  replace m2 : e ≤ min (x 1) (y 1) := m2
  replace m3 : b ≤ min (x 4) (y 4) := m3
  replace m4 : (e = 64 ∨ e = -64) ∨ (z - coF x y) % 256 ≤ coW x y := m4
  rw [may_iff, may_iff]
  rcases m4 with m4 | m4
  · exact ⟨⟨by omega, .inl m4⟩, by omega, .inl m4⟩
  · obtain ⟨-, k2, k3, -⟩ := hx
    obtain ⟨d, hd⟩ : ∃ d : Nat, (z - coF x y) % 256 = d := ⟨((z - coF x y) % 256).toNat, by omega⟩
    rw [hd] at m4
    have hw : f0 x y + d < l0 x y := by unfold coW at m4; omega
    have hc := g3 (f0 x y + d) (by omega) hw
    have ez : z % 256 = (x 2 + ((f0 x y + d : Nat) : Int)) % 256 := by unfold coF at hd; omega
    refine ⟨⟨by omega, .inr ?_⟩, by omega, .inr ?_⟩
    · omega
    · have := in_mod y ez
      rw [show inS y (x 2 + ((f0 x y + d : Nat) : Int)) = true from hc] at this
      exact (in_iff _ _).1 this
/-! ### One common run -/
/-- How many runs begin below m. -/
def rn (p : Nat → Bool) : Nat → Nat
  | 0 => 0
  | k + 1 => rn p k + if p k = true ∧ (k = 0 ∨ p (k - 1) = false) then 1 else 0
theorem rn_le (p : Nat → Bool) (a : Nat) : ∀ d : Nat, rn p a ≤ rn p (a + d)
  | 0 => Nat.le_refl _
  | d + 1 => by
    have := rn_le p a d
    show rn p a ≤ rn p (a + d) + _
    omega
theorem rn_start {p : Nat → Bool} {s m : Nat} (h1 : p s = true) (h2 : s = 0 ∨ p (s - 1) = false) (hm : s < m) : rn p s + 1 ≤ rn p m := by
  have e : rn p (s + 1) = rn p s + 1 := by
    show rn p s + _ = _
    rw [if_pos ⟨h1, h2⟩]
  have := rn_le p (s + 1) (m - (s + 1))
  rw [show s + 1 + (m - (s + 1)) = m by omega] at this
  omega
/-- Behind a place that is not so, before one that is so, a run begins. -/
theorem start_in {p : Nat → Bool} {a : Nat} (ha : p a = false) : ∀ d : Nat, p (a + d) = true → ∃ s, a < s ∧ s ≤ a + d ∧ p s = true ∧ p (s - 1) = false
  | 0, h => by rw [Nat.add_zero, ha] at h; exact absurd h Bool.false_ne_true
  | d + 1, h => by
    by_cases c : p (a + d) = true
    · obtain ⟨s, h1, h2, h3, h4⟩ := start_in ha d c
      exact ⟨s, h1, by omega, h3, h4⟩
    · exact ⟨a + (d + 1), by omega, Nat.le_refl _, h, by rw [show a + (d + 1) - 1 = a + d by omega]; exact Bool.eq_false_iff.2 c⟩
theorem one_run {x y : Vl} (h : f0 x y ≤ (x 3).toNat) (h1 : rn (com x y) ((x 3).toNat + 1) = 1) {d : Nat} (hd : d ≤ (x 3).toNat) (hc : com x y d = true) : f0 x y ≤ d ∧ d < l0 x y := by
  obtain ⟨-, f1, f2⟩ := f0_is x y
  obtain ⟨g1, g2, g3, g4⟩ := l0_is h
  have hf : f0 x y ≤ d := by
    by_cases c : f0 x y ≤ d
    · exact c
    · rw [f1 d (by omega)] at hc; exact absurd hc Bool.false_ne_true
  refine ⟨hf, ?_⟩
  by_cases c : d < l0 x y
  · exact c
  · have hl := g4 (by omega)
    obtain ⟨s, s1, s2, s3, s4⟩ := start_in hl (d - l0 x y) (by rw [show l0 x y + (d - l0 x y) = d by omega]; exact hc)
    have r1 := rn_start (m := s) (f2 h) (by
      by_cases e : f0 x y = 0
      · exact .inl e
      · exact .inr (f1 _ (by omega))) (by omega)
    have r2 := rn_start (m := (x 3).toNat + 1) s3 (.inr s4) (by omega)
    omega
theorem nr_all {x y : Vl} (hx : okX x) (h : nrE x y = 0) (h1 : rn (com x y) ((x 3).toNat + 1) = 1) {z e b : Int} (ha : mayB x z e b = true) (hb : mayB y z e b = true) : mayB (nrV x y) z e b = true := by
  obtain ⟨-, h2⟩ := nr_yes h
  rw [may_iff] at ha hb
  obtain ⟨⟨a1, a2, a3⟩, a4⟩ := ha
  obtain ⟨⟨b1, b2, b3⟩, b4⟩ := hb
  unfold nrV
  rw [if_pos h, may_iff]
  show (max (x 0) (y 0) ≤ e ∧ e ≤ min (x 1) (y 1) ∧ b ≤ min (x 4) (y 4)) ∧ ((e = 64 ∨ e = -64) ∨ (z - coF x y) % 256 ≤ coW x y)
  refine ⟨by omega, ?_⟩
  rcases a4 with a4 | a4
  · exact .inl a4
  · rcases b4 with b4 | b4
    · exact .inl b4
    · obtain ⟨-, k2, k3, -⟩ := hx
      obtain ⟨d, hd⟩ : ∃ d : Nat, (z - x 2) % 256 = d := ⟨((z - x 2) % 256).toNat, by omega⟩
      have ez : z % 256 = (x 2 + (d : Int)) % 256 := by omega
      have hc : com x y d = true := by
        show inS y (x 2 + (d : Int)) = true
        rw [← in_mod y ez]
        exact (in_iff _ _).2 b4
      obtain ⟨r1, r2⟩ := one_run h2 h1 (by omega) hc
      refine .inr ?_
      unfold coF coW
      omega
/-! ### Narrowed limits -/
def nwN (a b : Vl) : Vl := fun i => nrE (lim a i) (lim b i)
def nwE (a b : Vl) : Int := if chE a = 0 then (if chE b = 0 then feN (nwN a b) 6 else chE b) else chE a
def nwS (a b : Vl) : Vl := fun i => if i < 36 then nrV (lim a (i / 6)) (lim b (i / 6)) (i % 6) else if i = 36 then (if a 36 = 1 ∧ b 36 = 1 then 1 else 0) else if i = 37 then (if a 37 = 1 ∧ b 37 = 1 then 1 else 0) else if i = 38 then min (a 38) (b 38) else min (a 39) (b 39)
def nwV (a b : Vl) : Vl := if nwE a b = 0 then nwS a b else nul
theorem nw_yes {a b : Vl} (h : nwE a b = 0) : chE a = 0 ∧ chE b = 0 ∧ (∀ i, i < 6 → nrE (lim a i) (lim b i) = 0) ∧ nwV a b = nwS a b := by
  have h0 := h
  unfold nwE at h
  by_cases c : chE a = 0
  · rw [if_pos c] at h
    by_cases d : chE b = 0
    · rw [if_pos d] at h
      exact ⟨c, d, feN_no h, if_pos h0⟩
    · rw [if_neg d] at h; exact absurd h d
  · rw [if_neg c] at h; exact absurd h c
theorem nw_nul {a b : Vl} (h : nwE a b ≠ 0) : nwV a b = nul := if_neg h
theorem nw_ok {a b : Vl} (h1 : chE a = 0) (h2 : chE b = 0) (h3 : ∀ i, i < 6 → nrE (lim a i) (lim b i) = 0) : nwE a b = 0 ∧ nwV a b = nwS a b := by
  have e : nwE a b = 0 := by
    unfold nwE
    rw [if_pos h1, if_pos h2]
    exact feN_ok h3
  exact ⟨e, if_pos e⟩
theorem nw_fst {a b : Vl} (h : chE a ≠ 0) : nwE a b = chE a := if_neg h
theorem nw_snd {a b : Vl} (h : chE a = 0) (h2 : chE b ≠ 0) : nwE a b = chE b := by unfold nwE; rw [if_pos h, if_neg h2]
theorem nw_lim {a b : Vl} (h : chE a = 0) (h2 : chE b = 0) {i : Nat} (hi : i < 6) (hn : nrE (lim a i) (lim b i) ≠ 0) : nwE a b = 25 := by
  unfold nwE
  rw [if_pos h, if_pos h2]
  rcases feN_in (E := nwN a b) (c := 25) (n := 6) (fun i _ => nr_or _ _) with g | g
  · exact absurd (feN_no g i hi) hn
  · exact g
theorem nwS_lim (a b : Vl) {i j : Nat} (hi : i < 6) (hj : j < 6) : nwS a b (i * 6 + j) = nrV (lim a i) (lim b i) j := by
  unfold nwS
  rw [if_pos (by omega), show (i * 6 + j) / 6 = i by omega, show (i * 6 + j) % 6 = j by omega]
theorem okX_eq {x y : Vl} (h : ∀ j, j < 6 → x j = y j) (hx : okX x) : okX y := by
  obtain ⟨h1, h2, h3, h4, h5⟩ := hx
  rw [h 0 (by omega), h 1 (by omega)] at h1
  rw [h 2 (by omega)] at h2
  rw [h 3 (by omega)] at h3
  rw [h 4 (by omega)] at h4
  rw [h 5 (by omega)] at h5
  exact ⟨h1, h2, h3, h4, h5⟩
theorem nw_chk {a b : Vl} (h : nwE a b = 0) : chE (nwV a b) = 0 := by
  obtain ⟨ha, hb, hn, hv⟩ := nw_yes h
  obtain ⟨a1, a2, a3⟩ := ch_yes ha
  obtain ⟨b1, b2, b3⟩ := ch_yes hb
  rw [hv]
  refine ch_ok (fun i hi => ?_) ?_
  · exact okX_eq (fun j hj => (nwS_lim a b hi hj).symm) (nr_ok (a1 i hi) (b1 i hi) (hn i hi))
  · unfold okT
    show (0 ≤ min (a 38) (b 38) ∧ min (a 38) (b 38) ≤ 8192) ∧ 1 ≤ min (a 39) (b 39) ∧ min (a 39) (b 39) ≤ 128
    omega
theorem lim_nw {a b : Vl} {i : Nat} (hi : i < 6) (hv : nwV a b = nwS a b) : ∀ j, j < 6 → lim (nwV a b) i j = nrV (lim a i) (lim b i) j := fun j hj => by
  unfold lim
  rw [hv]
  exact nwS_lim a b hi hj
theorem may_eq {x y : Vl} (h : ∀ j, j < 6 → x j = y j) (z e b : Int) : mayB x z e b = mayB y z e b := by
  unfold mayB inS
  rw [h 0 (by omega), h 1 (by omega), h 2 (by omega), h 3 (by omega), h 4 (by omega)]
/-- What narrowed limits allow, both allow; and what both allow, where there is one common run. -/
theorem nw_may {a b : Vl} (h : nwE a b = 0) {k z e u : Int} (hk : chk k z e u = 0) :
    (alV (nwV a b) k z e u = true → alV a k z e u = true ∧ alV b k z e u = true) ∧
    (alV a k z e u = true → alV b k z e u = true → rn (com (lim a k.toNat) (lim b k.toNat)) ((lim a k.toNat 3).toNat + 1) = 1 → alV (nwV a b) k z e u = true) := by
  obtain ⟨ha, hb, hn, hv⟩ := nw_yes h
  have hc := nw_chk h
  obtain ⟨hk6, -⟩ := chk_yes hk
  have hi : k.toNat < 6 := by omega
  rw [(al_ok ha hk).2, (al_ok hb hk).2, (al_ok hc hk).2, may_eq (lim_nw hi hv)]
  exact ⟨nr_may ((ch_yes ha).1 _ hi) (hn _ hi), fun h1 h2 h3 => nr_all ((ch_yes ha).1 _ hi) (hn _ hi) h3 h1 h2⟩
/-- The cells of limits: the answers count by being 1. -/
def sameL (l m : Vl) : Prop := ∀ i, i < 40 → (if i = 36 ∨ i = 37 then (l i = 1 ↔ m i = 1) else l i = m i)
theorem nw_self {l : Vl} (h : chE l = 0) : nwE l l = 0 ∧ sameL (nwV l l) l := by
  obtain ⟨h1, h2⟩ := ch_yes h
  obtain ⟨e, hv⟩ := nw_ok h h (fun i hi => (nr_self (h1 i hi)).1)
  refine ⟨e, fun i hi => ?_⟩
  rw [hv]
  by_cases c : i < 36
  · rw [if_neg (by omega), show i = i / 6 * 6 + i % 6 by omega, nwS_lim l l (by omega) (by omega), (nr_self (h1 _ (by omega))).2 _ (by omega)]
    rfl
  · have t : i = 36 ∨ i = 37 ∨ i = 38 ∨ i = 39 := by omega
    rcases t with rfl | rfl | rfl | rfl
    · rw [if_pos (by omega)]
      show (if l 36 = 1 ∧ l 36 = 1 then (1 : Int) else 0) = 1 ↔ l 36 = 1
      by_cases d : l 36 = 1 <;> simp [d]
    · rw [if_pos (by omega)]
      show (if l 37 = 1 ∧ l 37 = 1 then (1 : Int) else 0) = 1 ↔ l 37 = 1
      by_cases d : l 37 = 1 <;> simp [d]
    · rw [if_neg (by omega)]
      show min (l 38) (l 38) = l 38
      omega
    · rw [if_neg (by omega)]
      show min (l 39) (l 39) = l 39
      omega
/-- Limits that allow everything. -/
def wid : Vl := fun i => if i < 36 then (if i % 6 = 0 then -64 else if i % 6 = 1 then 64 else if i % 6 = 2 then 0 else if i % 6 = 3 then 255 else if i % 6 = 4 then 6 else 128) else if i = 36 ∨ i = 37 then 1 else if i = 38 then 8192 else 128
theorem wid_ok : chE wid = 0 := by decide +kernel
theorem wid_at {i : Nat} (hi : i < 6) : lim wid i 0 = -64 ∧ lim wid i 1 = 64 ∧ lim wid i 3 = 255 ∧ lim wid i 4 = 6 ∧ lim wid i 5 = 128 := by
  have t : i = 0 ∨ i = 1 ∨ i = 2 ∨ i = 3 ∨ i = 4 ∨ i = 5 := by omega
  rcases t with rfl | rfl | rfl | rfl | rfl | rfl <;> decide
theorem nw_wide {l : Vl} (h : chE l = 0) : nwE l wid = 0 ∧ sameL (nwV l wid) l := by
  obtain ⟨h1, h2⟩ := ch_yes h
  have hw : ∀ i, i < 6 → nrE (lim l i) (lim wid i) = 0 ∧ ∀ j, j < 6 → nrV (lim l i) (lim wid i) j = lim l i j := fun i hi => by
    obtain ⟨w0, w1, w3, w4, w5⟩ := wid_at hi
    exact nr_wide (h1 i hi) w0 w1 w3 w4 w5
  obtain ⟨e, hv⟩ := nw_ok h wid_ok (fun i hi => (hw i hi).1)
  refine ⟨e, fun i hi => ?_⟩
  rw [hv]
  by_cases c : i < 36
  · rw [if_neg (by omega), show i = i / 6 * 6 + i % 6 by omega, nwS_lim l wid (by omega) (by omega), (hw _ (by omega)).2 _ (by omega)]
    rfl
  · have t : i = 36 ∨ i = 37 ∨ i = 38 ∨ i = 39 := by omega
    obtain ⟨t1, t2⟩ := h2
    rcases t with rfl | rfl | rfl | rfl
    · rw [if_pos (by omega)]
      show (if l 36 = 1 ∧ wid 36 = 1 then (1 : Int) else 0) = 1 ↔ l 36 = 1
      by_cases d : l 36 = 1 <;> simp [d, wid]
    · rw [if_pos (by omega)]
      show (if l 37 = 1 ∧ wid 37 = 1 then (1 : Int) else 0) = 1 ↔ l 37 = 1
      by_cases d : l 37 = 1 <;> simp [d, wid]
    · rw [if_neg (by omega)]
      show min (l 38) 8192 = l 38
      omega
    · rw [if_neg (by omega)]
      show min (l 39) 128 = l 39
      omega
/-! ### Mirror images -/
def mrS (l : Vl) : Vl := fun i => if i < 36 then (if i % 6 = 2 then (-(l (swN (i / 6) * 6 + 2) + l (swN (i / 6) * 6 + 3))) % 256 else l (swN (i / 6) * 6 + i % 6)) else l i
def mrV (l : Vl) : Vl := if chE l = 0 then mrS l else nul
theorem mrS_lim (l : Vl) {i j : Nat} (hi : i < 6) (hj : j < 6) : mrS l (i * 6 + j) = if j = 2 then (-(l (swN i * 6 + 2) + l (swN i * 6 + 3))) % 256 else l (swN i * 6 + j) := by
  unfold mrS
  rw [if_pos (by omega), show (i * 6 + j) / 6 = i by omega, show (i * 6 + j) % 6 = j by omega]
/-- The mirror image of one limit. -/
def mx (x : Vl) : Vl := fun j => if j = 2 then (-(x 2 + x 3)) % 256 else x j
theorem lim_mr {l : Vl} {i : Nat} (hi : i < 6) : ∀ j, j < 6 → lim (mrS l) i j = mx (lim l (swN i)) j := fun j hj => by
  show mrS l (i * 6 + j) = _
  rw [mrS_lim l hi hj]
  rfl
theorem mx_ok {x : Vl} (h : okX x) : okX (mx x) := by
  obtain ⟨h1, h2, h3, h4, h5⟩ := h
  refine ⟨h1, ?_, h3, h4, h5⟩
  show 0 ≤ (-(x 2 + x 3)) % 256 ∧ (-(x 2 + x 3)) % 256 ≤ 255
  omega
theorem mr_chk {l : Vl} (h : chE l = 0) : chE (mrS l) = 0 := by
  obtain ⟨h1, h2⟩ := ch_yes h
  refine ch_ok (fun i hi => ?_) h2
  exact okX_eq (fun j hj => (lim_mr hi j hj).symm) (mx_ok (h1 _ (swN_lt hi)))
theorem mr_mr {l : Vl} (h : chE l = 0) : ∀ i, i < 40 → mrS (mrS l) i = l i := fun i hi => by
  by_cases c : i < 36
  · have hq : i / 6 < 6 := by omega
    have hs := swN_lt hq
    obtain ⟨-, h2, h3, -⟩ := (ch_yes h).1 _ hq
    rw [show i = i / 6 * 6 + i % 6 by omega, mrS_lim _ hq (by omega)]
    by_cases d : i % 6 = 2
    · rw [if_pos d, mrS_lim _ hs (by omega), mrS_lim _ hs (by omega), if_pos rfl, if_neg (by omega), swN_swN hq, d]
      unfold lim at h2 h3
      omega
    · rw [if_neg d, mrS_lim _ hs (by omega), if_neg d, swN_swN hq]
  · unfold mrS
    rw [if_neg c, if_neg c]
theorem mx_may {x : Vl} (hx : okX x) {z e b : Int} : mayB (mx x) ((-z) % 256) e b = mayB x z e b := by
  obtain ⟨-, h2, h3, -⟩ := hx
  rw [Bool.eq_iff_iff, may_iff, may_iff]
  show (x 0 ≤ e ∧ e ≤ x 1 ∧ b ≤ x 4) ∧ ((e = 64 ∨ e = -64) ∨ ((-z) % 256 - (-(x 2 + x 3)) % 256) % 256 ≤ x 3) ↔ _
  have : ((-z) % 256 - (-(x 2 + x 3)) % 256) % 256 ≤ x 3 ↔ (z - x 2) % 256 ≤ x 3 := by omega
  rw [this]
/-- The mirror image allows the mirror image. -/
theorem mr_al {l : Vl} (h : chE l = 0) {k z e b : Int} (hk : chk k z e b = 0) : chk (swp k) (mirZ k z e b) (mirL k z e b) (mirB k z e b) = 0 ∧ alV (mrS l) (swp k) (mirZ k z e b) (mirL k z e b) (mirB k z e b) = alV l k z e b := by
  obtain ⟨hk6, k2, k3, k4, k5⟩ := chk_yes hk
  obtain ⟨m1, m2, m3⟩ := mir_yes hk
  have hs := swp_in hk6
  have hc : chk (swp k) ((-z) % 256) e b = 0 := chk_ok ⟨hs.1, hs.2.1⟩ (by omega) k3 k4 (fun h => by have := k5 h; omega)
  rw [m1, m2, m3]
  refine ⟨hc, ?_⟩
  rw [(al_ok (mr_chk h) hc).2, (al_ok h hk).2]
  obtain ⟨n, rfl⟩ : ∃ n : Nat, k = n := ⟨k.toNat, by omega⟩
  have hn : n < 6 := by omega
  rw [swp_nat hn, Int.toNat_natCast, Int.toNat_natCast, may_eq (lim_mr (swN_lt hn)), swN_swN hn]
  exact mx_may ((ch_yes h).1 n hn)
/-! ### The first fault of a movement -/
def chg (x y : Int) : Int := max (betV x y 64) (-(betV x y 64))
theorem chg_self {x : Int} (h : 0 ≤ x ∧ x ≤ 255) : chg x x = 0 := by
  have e := (bet_ok (s := 64) ((wayOk_iff x x).2 ⟨h, h⟩) (by decide)).2
  unfold chg
  rw [e]
  unfold wayV
  rw [Int.sub_self, if_pos (by decide)]
  decide
theorem bet_bd (x y : Int) : -128 ≤ betV x y 64 ∧ betV x y 64 ≤ 128 := by
  by_cases h : wayOk x y = true
  · rw [(bet_ok h (by decide)).2]
    unfold wayV halfV
    by_cases c : (y - x) % 256 < 128
    · rw [if_pos c]; omega
    · rw [if_neg c]
      by_cases d : 128 < (y - x) % 256
      · rw [if_pos d]; omega
      · rw [if_neg d]
        by_cases t : through x (if x = 64 ∨ y = 64 then 0 else 64) = true
        · rw [if_pos t]; omega
        · rw [if_neg t]; omega
  · rw [(bet_range (Bool.eq_false_iff.2 h)).2]; omega
theorem chg_bd (x y : Int) : 0 ≤ chg x y ∧ chg x y ≤ 128 := by
  have := bet_bd x y
  unfold chg
  omega
/-- A limb goes too fast. -/
def fstB (x : Vl) (z e z' e' : Int) : Bool := decide (x 5 < max (e' - e) (-(e' - e))) || (!poleB e && !poleB e' && decide (x 5 < chg z z'))
theorem fst_iff (x : Vl) (z e z' e' : Int) : fstB x z e z' e' = true ↔ x 5 < max (e' - e) (-(e' - e)) ∨ ((¬ (e = 64 ∨ e = -64) ∧ ¬ (e' = 64 ∨ e' = -64)) ∧ x 5 < chg z z') := by
  unfold fstB
  rw [Bool.or_eq_true, decide_eq_true_eq, Bool.and_eq_true, Bool.and_eq_true, decide_eq_true_eq, Bool.not_eq_true', Bool.not_eq_true', pole_no, pole_no]
  constructor
  · rintro (h | ⟨⟨h1, h2⟩, h3⟩)
    · exact .inl h
    · exact .inr ⟨⟨by omega, by omega⟩, h3⟩
  · rintro (h | ⟨⟨h1, h2⟩, h3⟩)
    · exact .inl h
    · exact .inr ⟨⟨by omega, by omega⟩, h3⟩
theorem fst_self {x : Vl} (hx : okX x) {z e : Int} (hz : 0 ≤ z ∧ z ≤ 255) : fstB x z e z e = false := by
  rw [← Bool.not_eq_true, fst_iff, chg_self hz]
  have := hx.2.2.2.2
  omega
/-- The error of a limb that goes from one aim to another. -/
def lbE (x : Vl) (z e z' e' b' : Int) : Int := if mayB x z' e' b' = true then (if fstB x z e z' e' = true then 26 else 0) else 25
def aZ (p : Vl) (i : Nat) : Int := p (4 + i * 3)
def aL (p : Vl) (i : Nat) : Int := p (4 + i * 3 + 1)
def aB (p : Vl) (i : Nat) : Int := p (4 + i * 3 + 2)
/-- The error of the body. -/
def bdE (l p q : Vl) (a : Int) : Int := if (q 3 < 0 ∧ l 36 ≠ 1) ∨ (0 < q 3 ∧ l 37 ≠ 1) then 25 else if l 39 < chg (p 2) (q 2) then 26 else if l 38 < a then 28 else 0
def tkE (l p q : Vl) (a : Int) : Vl := fun i => if i < 6 then lbE (lim l i) (aZ p i) (aL p i) (aZ q i) (aL q i) (aB q i) else bdE l p q a
def ftE (l p q : Vl) (a : Int) : Int := feN (tkE l p q a) 7
def ftP (l p q : Vl) (a : Int) : Int := if ftE l p q a = 0 then 0 else (fx (tkE l p q a) 7 : Nat)
theorem ft_ok {l p q : Vl} {a : Int} (h : ∀ i, i < 7 → tkE l p q a i = 0) : ftE l p q a = 0 ∧ ftP l p q a = 0 := by
  have e : ftE l p q a = 0 := feN_ok h
  exact ⟨e, if_pos e⟩
theorem ft_at {l p q : Vl} {a : Int} {j : Nat} (h : ∀ i, i < j → tkE l p q a i = 0) (hj : tkE l p q a j ≠ 0) (hn : j < 7) : ftE l p q a = tkE l p q a j ∧ ftP l p q a = (j : Int) := by
  have e : ftE l p q a = tkE l p q a j := feN_at h hj hn
  refine ⟨e, ?_⟩
  unfold ftP
  rw [if_neg (by rw [e]; exact hj), fx_at h hj hn]
/-- How many neighbouring ticks ahead of a tick are without support. -/
def airN (q : Nat → Int) : Nat → Nat
  | 0 => 0
  | k + 1 => if q k = 0 then airN q k + 1 else 0
theorem air_is (q : Nat → Int) : ∀ k : Nat, airN q k ≤ k ∧ (∀ i, k - airN q k ≤ i → i < k → q i = 0) ∧ (airN q k < k → q (k - airN q k - 1) ≠ 0)
  | 0 => ⟨Nat.le_refl _, fun i _ h => absurd h (by omega), fun h => absurd h (by show ¬ 0 < 0; omega)⟩
  | k + 1 => by
    obtain ⟨h1, h2, h3⟩ := air_is q k
    by_cases c : q k = 0
    · have e : airN q (k + 1) = airN q k + 1 := if_pos c
      rw [e]
      refine ⟨by omega, fun i hi hk => ?_, fun h => ?_⟩
      · by_cases d : i = k
        · rw [d]; exact c
        · exact h2 i (by omega) (by omega)
      · have := h3 (by omega)
        rw [show k + 1 - (airN q k + 1) - 1 = k - airN q k - 1 by omega]
        exact this
    · have e : airN q (k + 1) = 0 := if_neg c
      rw [e]
      exact ⟨by omega, fun i hi hk => absurd hk (by omega), fun _ => c⟩
theorem air_iff (q : Nat → Int) (k A : Nat) : A < airN q k ↔ A < k ∧ ∀ i, k - A - 1 ≤ i → i < k → q i = 0 := by
  obtain ⟨h1, h2, h3⟩ := air_is q k
  constructor
  · intro h
    exact ⟨by omega, fun i hi hk => h2 i (by omega) hk⟩
  · rintro ⟨g1, g2⟩
    by_cases c : A < airN q k
    · exact c
    · exact absurd (g2 (k - airN q k - 1) (by omega) (by omega)) (h3 (by omega))
theorem air_eq {q r : Nat → Int} : ∀ {k : Nat}, (∀ i, i < k → q i = r i) → airN q k = airN r k
  | 0, _ => rfl
  | k + 1, h => by
    show (if q k = 0 then airN q k + 1 else 0) = if r k = 0 then airN r k + 1 else 0
    rw [h k (by omega), air_eq (k := k) fun i hi => h i (by omega)]
/-- The fault at a tick. -/
def tiE (l : Vl) (f : Nat → Vl) (q : Nat → Int) : Vl := fun k => ftE l (f (k - 1)) (f k) (airN q k)
def tiP (l : Vl) (f : Nat → Vl) (q : Nat → Int) : Vl := fun k => ftP l (f (k - 1)) (f k) (airN q k)
def fsN (f : Nat → Vl) : Vl := fun k => vaE (f k)
def fsE (l : Vl) (f : Nat → Vl) (n m : Nat) : Int := if chE l = 0 then (if m = 0 ∨ n ≠ m + 1 then 2 else feN (fsN f) n) else chE l
def fvE (l : Vl) (f : Nat → Vl) (q : Nat → Int) (n m : Nat) : Int := if fsE l f n m = 0 then feN (tiE l f q) n else 0
def fvT (l : Vl) (f : Nat → Vl) (q : Nat → Int) (n m : Nat) : Int := if fvE l f q n m = 0 then 0 else (fx (tiE l f q) n : Nat)
def fvP (l : Vl) (f : Nat → Vl) (q : Nat → Int) (n m : Nat) : Int := if fvE l f q n m = 0 then 0 else tiP l f q (fx (tiE l f q) n)
theorem fs_chk {l : Vl} {f : Nat → Vl} {n m : Nat} (h : chE l ≠ 0) : fsE l f n m = chE l := if_neg h
theorem fs_form {l : Vl} {f : Nat → Vl} {n m : Nat} (h : chE l = 0) (h2 : m = 0 ∨ n ≠ m + 1) : fsE l f n m = 2 := by unfold fsE; rw [if_pos h, if_pos h2]
theorem fs_else {l : Vl} {f : Nat → Vl} {n m : Nat} (h : chE l = 0) (h2 : m ≠ 0) (h3 : n = m + 1) : fsE l f n m = feN (fsN f) n := by unfold fsE; rw [if_pos h, if_neg (by omega)]
theorem fv_nul {l : Vl} {f : Nat → Vl} {q : Nat → Int} {n m : Nat} (h : fsE l f n m ≠ 0) : fvE l f q n m = 0 ∧ fvT l f q n m = 0 ∧ fvP l f q n m = 0 := by
  have e : fvE l f q n m = 0 := if_neg h
  exact ⟨e, if_pos e, if_pos e⟩
theorem fv_ok {l : Vl} {f : Nat → Vl} {q : Nat → Int} {n m : Nat} (h : ∀ k, k < n → tiE l f q k = 0) : fvE l f q n m = 0 ∧ fvT l f q n m = 0 ∧ fvP l f q n m = 0 := by
  have e : fvE l f q n m = 0 := by
    unfold fvE
    by_cases c : fsE l f n m = 0
    · rw [if_pos c]; exact feN_ok h
    · exact if_neg c
  exact ⟨e, if_pos e, if_pos e⟩
theorem fv_at {l : Vl} {f : Nat → Vl} {q : Nat → Int} {n m j : Nat} (h0 : fsE l f n m = 0) (h : ∀ i, i < j → tiE l f q i = 0) (hj : tiE l f q j ≠ 0) (hn : j < n) : fvE l f q n m = tiE l f q j ∧ fvT l f q n m = (j : Int) ∧ fvP l f q n m = tiP l f q j := by
  have e : fvE l f q n m = tiE l f q j := by
    unfold fvE
    rw [if_pos h0]
    exact feN_at h hj hn
  have ne : fvE l f q n m ≠ 0 := by rw [e]; exact hj
  refine ⟨e, ?_, ?_⟩
  · unfold fvT; rw [if_neg ne, fx_at h hj hn]
  · unfold fvP; rw [if_neg ne, fx_at h hj hn]
theorem fs_yes {l : Vl} {f : Nat → Vl} {n m : Nat} (h : fsE l f n m = 0) : chE l = 0 ∧ m ≠ 0 ∧ n = m + 1 ∧ ∀ k, k < n → vaE (f k) = 0 := by
  unfold fsE at h
  by_cases c : chE l = 0
  · rw [if_pos c] at h
    by_cases d : m = 0 ∨ n ≠ m + 1
    · rw [if_pos d] at h; exact absurd h (by decide)
    · rw [if_neg d] at h
      exact ⟨c, by omega, by omega, feN_no h⟩
  · rw [if_neg c] at h; exact absurd h c
theorem fs_ok {l : Vl} {f : Nat → Vl} {n m : Nat} (h : chE l = 0) (h1 : m ≠ 0) (h2 : n = m + 1) (h3 : ∀ k, k < n → vaE (f k) = 0) : fsE l f n m = 0 := by
  rw [fs_else h h1 h2]
  exact feN_ok h3
/-- Without a fault, there is none at any tick. -/
theorem fv_each {l : Vl} {f : Nat → Vl} {q : Nat → Int} {n m : Nat} (h0 : fsE l f n m = 0) (h : fvE l f q n m = 0) : ∀ k, k < n → tiE l f q k = 0 := by
  unfold fvE at h
  rw [if_pos h0] at h
  exact feN_no h
theorem fv_some {l : Vl} {f : Nat → Vl} {q : Nat → Int} {n m : Nat} (h : fvE l f q n m ≠ 0) : fsE l f n m = 0 ∧ ∃ j, j < n ∧ (∀ i, i < j → tiE l f q i = 0) ∧ tiE l f q j ≠ 0 := by
  have h0 : fsE l f n m = 0 := by
    by_cases c : fsE l f n m = 0
    · exact c
    · exact absurd (fv_nul c).1 h
  refine ⟨h0, ?_⟩
  rcases feN_or (tiE l f q) n with g | g
  · exact absurd (fv_ok g).1 h
  · exact g
/-- What a fault may be. -/
theorem bd_in (l p q : Vl) (a : Int) : bdE l p q a = 0 ∨ bdE l p q a = 25 ∨ bdE l p q a = 26 ∨ bdE l p q a = 28 := by
  unfold bdE
  by_cases h1 : (q 3 < 0 ∧ l 36 ≠ 1) ∨ (0 < q 3 ∧ l 37 ≠ 1)
  · rw [if_pos h1]; exact .inr (.inl rfl)
  · rw [if_neg h1]
    by_cases h2 : l 39 < chg (p 2) (q 2)
    · rw [if_pos h2]; exact .inr (.inr (.inl rfl))
    · rw [if_neg h2]
      by_cases h3 : l 38 < a
      · rw [if_pos h3]; exact .inr (.inr (.inr rfl))
      · rw [if_neg h3]; exact .inl rfl
theorem lb_in (x : Vl) (z e z' e' b' : Int) : lbE x z e z' e' b' = 0 ∨ lbE x z e z' e' b' = 25 ∨ lbE x z e z' e' b' = 26 := by
  unfold lbE
  by_cases h1 : mayB x z' e' b' = true
  · rw [if_pos h1]
    by_cases h2 : fstB x z e z' e' = true
    · rw [if_pos h2]; exact .inr (.inr rfl)
    · rw [if_neg h2]; exact .inl rfl
  · rw [if_neg h1]; exact .inr (.inl rfl)
theorem tk_in (l p q : Vl) (a : Int) (i : Nat) : tkE l p q a i = 0 ∨ tkE l p q a i = 25 ∨ tkE l p q a i = 26 ∨ tkE l p q a i = 28 := by
  unfold tkE
  by_cases c : i < 6
  · rw [if_pos c]
    rcases lb_in (lim l i) (aZ p i) (aL p i) (aZ q i) (aL q i) (aB q i) with h | h | h
    · exact .inl h
    · exact .inr (.inl h)
    · exact .inr (.inr (.inl h))
  · rw [if_neg c]; exact bd_in l p q a
theorem ft_in {l p q : Vl} {a : Int} (h : ftE l p q a ≠ 0) : (ftE l p q a = 25 ∨ ftE l p q a = 26 ∨ ftE l p q a = 28) ∧ 0 ≤ ftP l p q a ∧ ftP l p q a ≤ 6 := by
  rcases feN_or (tkE l p q a) 7 with g | ⟨j, h1, h2, h3⟩
  · exact absurd (ft_ok g).1 h
  · obtain ⟨e1, e2⟩ := ft_at h2 h3 h1
    rw [e1, e2]
    rcases tk_in l p q a j with t | t
    · exact absurd t h3
    · exact ⟨t, by omega, by omega⟩
/-- A fault of a movement: what it may be; ahead of it is none. -/
theorem fv_in {l : Vl} {f : Nat → Vl} {q : Nat → Int} {n m : Nat} (h : fvE l f q n m ≠ 0) :
    (fvE l f q n m = 25 ∨ fvE l f q n m = 26 ∨ fvE l f q n m = 28) ∧ (0 ≤ fvP l f q n m ∧ fvP l f q n m ≤ 6) ∧ ∃ j : Nat, fvT l f q n m = (j : Int) ∧ j < n ∧ n = m + 1 ∧
      (2 ≤ j → ∀ g r, (∀ i, i < j → g i = f i) → (∀ i, i < j - 1 → r i = q i) → fsE l g j (j - 1) = 0 ∧ fvE l g r j (j - 1) = 0 ∧ fvT l g r j (j - 1) = 0 ∧ fvP l g r j (j - 1) = 0) := by
  obtain ⟨h0, j, h1, h2, h3⟩ := fv_some h
  obtain ⟨e1, e2, e3⟩ := fv_at h0 h2 h3 h1
  obtain ⟨c0, c1, c2, c3⟩ := fs_yes h0
  obtain ⟨t1, t2⟩ := ft_in h3
  refine ⟨by rw [e1]; exact t1, by rw [e3]; exact t2, j, e2, h1, c2, fun hj g r hg hr => ?_⟩
  refine ⟨fs_ok c0 (by omega) (by omega) (fun k hk => by rw [hg k hk]; exact c3 k (by omega)), fv_ok fun k hk => ?_⟩
  have := h2 k hk
  unfold tiE at this ⊢
  rw [hg k hk, hg (k - 1) (by omega), air_eq (r := q) (k := k) fun i hi => hr i (by omega)]
  exact this
/-- What holds at a tick without a fault. -/
theorem ti_ok {l : Vl} {f : Nat → Vl} {q : Nat → Int} {k : Nat} (hl : chE l = 0) (hv : vaE (f k) = 0) (h : tiE l f q k = 0) :
    (∀ i : Nat, i < 6 → alE l i (aZ (f k) i) (aL (f k) i) (aB (f k) i) = 0 ∧ alV l i (aZ (f k) i) (aL (f k) i) (aB (f k) i) = true ∧ (aL (f k) i - aL (f (k - 1)) i ≤ lim l i 5 ∧ -(aL (f k) i - aL (f (k - 1)) i) ≤ lim l i 5)) ∧
    (f k 3 < 0 → l 36 = 1) ∧ (0 < f k 3 → l 37 = 1) ∧ (k ≠ 0 → l 38 = 0 → q (k - 1) ≠ 0) := by
  have h7 := feN_no h
  refine ⟨fun i hi => ?_, ?_⟩
  · have := h7 i (by omega)
    unfold tkE at this
    rw [if_pos hi] at this
    have hc : chk i (aZ (f k) i) (aL (f k) i) (aB (f k) i) = 0 := (va_yes hv).2 i hi
    obtain ⟨a1, a2⟩ := al_ok hl hc
    unfold lbE at this
    by_cases c : mayB (lim l i) (aZ (f k) i) (aL (f k) i) (aB (f k) i) = true
    · rw [if_pos c] at this
      refine ⟨a1, by rw [a2, Int.toNat_natCast]; exact c, ?_⟩
      by_cases d : fstB (lim l i) (aZ (f (k - 1)) i) (aL (f (k - 1)) i) (aZ (f k) i) (aL (f k) i) = true
      · rw [if_pos d] at this; exact absurd this (by decide)
      · rw [fst_iff] at d
        omega
    · rw [if_neg c] at this; exact absurd this (by decide)
  · have := h7 6 (by omega)
    unfold tkE at this
    rw [if_neg (by omega)] at this
    unfold bdE at this
    by_cases h1 : (f k 3 < 0 ∧ l 36 ≠ 1) ∨ (0 < f k 3 ∧ l 37 ≠ 1)
    · rw [if_pos h1] at this; exact absurd this (by decide)
    · rw [if_neg h1] at this
      refine ⟨by omega, by omega, fun hk ha => ?_⟩
      by_cases h2 : l 39 < chg (f (k - 1) 2) (f k 2)
      · rw [if_pos h2] at this; exact absurd this (by decide)
      · rw [if_neg h2] at this
        by_cases h3 : l 38 < (airN q k : Int)
        · rw [if_pos h3] at this; exact absurd this (by decide)
        · obtain ⟨j, rfl⟩ : ∃ j, k = j + 1 := ⟨k - 1, by omega⟩
          intro hq
          have e : airN q (j + 1) = airN q j + 1 := if_pos (by simpa using hq)
          omega
end Go.Proofs.Ytmjokgddhainlaa.LimP
