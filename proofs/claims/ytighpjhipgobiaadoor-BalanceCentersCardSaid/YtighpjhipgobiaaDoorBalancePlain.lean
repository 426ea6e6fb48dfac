/-
  Balance, reckoned: the centre of mass, the base, the least foot, the first tick out of balance; mirror images, quarters, moved bodies, other feet. Nothing of the program. Condition: none.
-/
import Derived.Test.YtighpjhipgobiaaDoorJointsPlain
import Derived.Test.YtighpjhipgobiaaDoorGeoBase
namespace Go.Proofs.YtighpjhipgobiaaDoor.BalP
open NumP AngP AimP PstP JntP
abbrev NB := GeoP.nearB
/-! ### The centre -/
/-- The sum over all parts of the mass times the sum of both ends, of one coordinate. -/
def wsm (b j : Vl) (c : Nat) : Int := b 11 * (j c + j (3 + c)) + b 12 * (j (3 + c) + j (6 + c)) + b 13 * (j (15 + c) + j (21 + c)) + b 14 * (j (9 + c) + j (27 + c)) + b 13 * (j (18 + c) + j (24 + c)) + b 14 * (j (12 + c) + j (30 + c))
def ce (b j : Vl) (c : Nat) : Int := nearV (wsm b j c) (2 * BuiP.masV b)
theorem mas_is {b : Vl} (h : BuiP.chk b = 0) : BuiP.masV b = b 11 + b 12 + 2 * b 13 + 2 * b 14 ∧ (1 ≤ b 11 ∧ b 11 ≤ 200000) ∧ (1 ≤ b 12 ∧ b 12 ≤ 200000) ∧ (1 ≤ b 13 ∧ b 13 ≤ 200000) ∧ 1 ≤ b 14 ∧ b 14 ≤ 200000 := by
  have ho := BuiP.ok_of h
  have hm := ho.2
  exact ⟨if_pos ho, hm 0 (by omega), hm 1 (by omega), hm 2 (by omega), hm 3 (by omega)⟩
theorem pr_ge {m u v l : Int} (hm : 1 ≤ m) (hu : l ≤ u) (hv : l ≤ v) : m * (2 * l) ≤ m * (u + v) := Int.mul_le_mul_of_nonneg_left (by omega) (by omega)
theorem pr_le {m u v l : Int} (hm : 1 ≤ m) (hu : u ≤ l) (hv : v ≤ l) : m * (u + v) ≤ m * (2 * l) := Int.mul_le_mul_of_nonneg_left (by omega) (by omega)
/-- A sum of places lies between the least and the greatest one. -/
theorem sm_in {b j : Vl} {c : Nat} {l h : Int} (hb : BuiP.chk b = 0) (hj : ∀ k, k < 11 → l ≤ j (k * 3 + c) ∧ j (k * 3 + c) ≤ h) : l * (2 * BuiP.masV b) ≤ wsm b j c ∧ wsm b j c ≤ h * (2 * BuiP.masV b) := by
  obtain ⟨e, ⟨h1, -⟩, ⟨h2, -⟩, ⟨h3, -⟩, h4, -⟩ := mas_is hb
  have q0 := hj 0 (by omega)
  have q1 := hj 1 (by omega)
  have q2 := hj 2 (by omega)
  have q3 := hj 3 (by omega)
  have q4 := hj 4 (by omega)
  have q5 := hj 5 (by omega)
  have q6 := hj 6 (by omega)
  have q7 := hj 7 (by omega)
  have q8 := hj 8 (by omega)
  have q9 := hj 9 (by omega)
  have q10 := hj 10 (by omega)
  simp only [Nat.zero_mul, Nat.reduceMul, Nat.zero_add] at q0 q1 q2 q3 q4 q5 q6 q7 q8 q9 q10
  have el : l * (2 * BuiP.masV b) = b 11 * (2 * l) + b 12 * (2 * l) + b 13 * (2 * l) + b 14 * (2 * l) + b 13 * (2 * l) + b 14 * (2 * l) := by rw [e]; grind
  have eh : h * (2 * BuiP.masV b) = b 11 * (2 * h) + b 12 * (2 * h) + b 13 * (2 * h) + b 14 * (2 * h) + b 13 * (2 * h) + b 14 * (2 * h) := by rw [e]; grind
  rw [el, eh]
  unfold wsm
  have a1 := pr_ge h1 q0.1 q1.1
  have a2 := pr_ge h2 q1.1 q2.1
  have a3 := pr_ge h3 q5.1 q7.1
  have a4 := pr_ge h4 q3.1 q9.1
  have a5 := pr_ge h3 q6.1 q8.1
  have a6 := pr_ge h4 q4.1 q10.1
  have c1 := pr_le h1 q0.2 q1.2
  have c2 := pr_le h2 q1.2 q2.2
  have c3 := pr_le h3 q5.2 q7.2
  have c4 := pr_le h4 q3.2 q9.2
  have c5 := pr_le h3 q6.2 q8.2
  have c6 := pr_le h4 q4.2 q10.2
  omega
theorem ce_in {b j : Vl} {c : Nat} {l h : Int} (hb : BuiP.chk b = 0) (hj : ∀ k, k < 11 → l ≤ j (k * 3 + c) ∧ j (k * 3 + c) ≤ h) : l ≤ ce b j c ∧ ce b j c ≤ h := by
  obtain ⟨a1, a2⟩ := sm_in hb hj
  obtain ⟨e, ⟨h1, -⟩, ⟨h2, -⟩, ⟨h3, -⟩, h4, -⟩ := mas_is hb
  exact ⟨near_ge (by omega) a1, near_le (by omega) a2⟩
/-- Every place of valid joints is near the body's own place. -/
theorem pl_rel {b p : Vl} {s : Int} (h : joE b p s = 0) {k : Nat} (hk : k < 11) : (-3400 ≤ plX b p s k - p 0 ∧ plX b p s k - p 0 ≤ 3400) ∧ -3400 ≤ plY b p s k - p 1 ∧ plY b p s k - p 1 ≤ 3400 := by
  obtain ⟨hb, hp, hs⟩ := jo_yes h
  obtain ⟨ha, -⟩ := pt_bd hb hp
  have hL := (BuiP.ok_of hb).1
  have len : ∀ i, i < 11 → 0 ≤ b i ∧ b i ≤ 1500 := fun i hi => BuiP.len_bd hL hi
  have h4 : 20 ≤ b 4 ∧ b 4 ≤ 300 := hL 4 (by omega)
  have h5 : 50 ≤ b 5 ∧ b 5 ≤ 400 := hL 5 (by omega)
  have s4 : ∀ i, i < 2 → -400 ≤ sg i * b 4 ∧ sg i * b 4 ≤ 400 := fun i hi => by rcases sg_or i hi (b 4) with ⟨_, _, e⟩ | ⟨_, _, e⟩ <;> omega
  have s5 : ∀ i, i < 2 → -400 ≤ sg i * b 5 ∧ sg i * b 5 ≤ 400 := fun i hi => by rcases sg_or i hi (b 5) with ⟨_, _, e⟩ | ⟨_, _, e⟩ <;> omega
  obtain ⟨t1, t2, t3⟩ := ha (b 1) 2 (len 1 (by omega)).1 (len 1 (by omega)).2 (by omega)
  rcases k11 hk with rfl | rfl | rfl | ⟨i, hi, rfl⟩ | ⟨i, hi, rfl⟩ | ⟨i, hi, rfl⟩ | ⟨i, hi, rfl⟩
  · obtain ⟨u1, u2, u3⟩ := pl_hip b p s
    rw [u1, u2]; omega
  · obtain ⟨u1, u2, u3⟩ := pl_neck b p s
    rw [u1, u2]; unfold nkX nkY; omega
  · obtain ⟨u1, u2, u3⟩ := pl_head b p s
    obtain ⟨c1, c2, c3⟩ := ha (b 2) 5 (len 2 (by omega)).1 (len 2 (by omega)).2 (by omega)
    rw [u1, u2]
    unfold hdX hdY nkX nkY
    omega
  · obtain ⟨u1, u2, u3⟩ := pl_hips b p s hi
    obtain ⟨c1, c2⟩ := sd_bd (s4 i hi) (p 2)
    rw [u1, u2]
    unfold hiX hiY
    omega
  · obtain ⟨u1, u2, u3⟩ := pl_shoulders b p s hi
    obtain ⟨c1, c2⟩ := sd_bd (s5 i hi) (p 2)
    rw [u1, u2]
    unfold shX shY nkX nkY
    omega
  · obtain ⟨u1, u2, u3⟩ := pl_hands b p s hi
    obtain ⟨c1, c2⟩ := sd_bd (s5 i hi) (p 2)
    obtain ⟨d1, d2, d3⟩ := ha (b 3) (3 + i) (len 3 (by omega)).1 (len 3 (by omega)).2 (by omega)
    rw [u1, u2]
    unfold haX haY shX shY nkX nkY
    omega
  · obtain ⟨u1, u2, u3⟩ := pl_feet b p s hi
    obtain ⟨c1, c2⟩ := sd_bd (s4 i hi) (p 2)
    obtain ⟨d1, d2, d3⟩ := ha (b 0) i (len 0 (by omega)).1 (len 0 (by omega)).2 (by omega)
    rw [u1, u2]
    unfold feX feY hiX hiY
    by_cases c : on s i = true
    · simp only [if_pos c]; omega
    · simp only [if_neg c]; omega
theorem jo_rel {b p : Vl} {s : Int} (h : joE b p s = 0) {k : Nat} (hk : k < 11) : (-3400 ≤ joV b p s (k * 3) - p 0 ∧ joV b p s (k * 3) - p 0 ≤ 3400) ∧ -3400 ≤ joV b p s (k * 3 + 1) - p 1 ∧ joV b p s (k * 3 + 1) - p 1 ≤ 3400 := by
  rw [joV_yes h]
  obtain ⟨a1, a2, -⟩ := jo_cells b p s k
  rw [a1, a2]
  exact pl_rel h hk
/-- The centre is near the body's place. -/
theorem ce_rel {b p : Vl} {s : Int} (h : joE b p s = 0) : (-3400 ≤ ce b (joV b p s) 0 - p 0 ∧ ce b (joV b p s) 0 - p 0 ≤ 3400) ∧ -3400 ≤ ce b (joV b p s) 1 - p 1 ∧ ce b (joV b p s) 1 - p 1 ≤ 3400 := by
  obtain ⟨hb, -, -⟩ := jo_yes h
  have h0 := ce_in (c := 0) (l := p 0 - 3400) (h := p 0 + 3400) hb (fun k hk => by
    have := (jo_rel h hk).1
    show p 0 - 3400 ≤ joV b p s (k * 3) ∧ joV b p s (k * 3) ≤ p 0 + 3400
    omega)
  have h1 := ce_in (c := 1) (l := p 1 - 3400) (h := p 1 + 3400) hb (fun k hk => by
    have := (jo_rel h hk).2
    show p 1 - 3400 ≤ joV b p s (k * 3 + 1) ∧ joV b p s (k * 3 + 1) ≤ p 1 + 3400
    omega)
  omega
/-- The sums are small. -/
theorem sm_bd {b p : Vl} {s : Int} (h : joE b p s = 0) {c : Nat} (hc : c < 3) : (2 ≤ 2 * BuiP.masV b ∧ 2 * BuiP.masV b ≤ 2400000) ∧ -96000000000 ≤ wsm b (joV b p s) c ∧ wsm b (joV b p s) c ≤ 96000000000 := by
  obtain ⟨hb, -, -⟩ := jo_yes h
  obtain ⟨e, h1, h2, h3, h4⟩ := mas_is hb
  have hj := jo_bd h
  obtain ⟨a1, a2⟩ := sm_in (c := c) (l := -40000) (h := 40000) hb (fun k hk => hj (k * 3 + c) (by omega))
  omega
theorem ce_round {b p : Vl} {s : Int} (h : joE b p s = 0) {c : Nat} (hc : c < 3) : roundV (wsm b (joV b p s) c) (2 * BuiP.masV b) = ce b (joV b p s) c ∧ roundE (wsm b (joV b p s) c) (2 * BuiP.masV b) = 0 := by
  obtain ⟨h1, h2⟩ := sm_bd h hc
  have h3 := round_ok ((small_iff (wsm b (joV b p s) c)).2 (by omega)) ((small_iff (2 * BuiP.masV b)).2 (by omega)) (by omega)
  rw [if_neg (by omega)] at h3
  exact ⟨h3.2, h3.1⟩
/-! ### Nearness -/
theorem mul_self_le {r t : Int} (h0 : 0 ≤ r) (h : r ≤ t) : r * r ≤ t * t := Int.mul_le_mul h h h0 (by omega)
theorem nb_mono {p a b : GeoP.Pt} {r t : Int} (h0 : 0 ≤ r) (h : r ≤ t) (hn : NB p a b r = true) : NB p a b t = true := by
  have hr := mul_self_le h0 h
  have hm := Int.mul_le_mul_of_nonneg_right hr (GeoP.sq_pos a b)
  unfold NB GeoP.nearB at hn ⊢
  split at hn
  · rw [if_pos (by assumption)]
    rw [decide_eq_true_eq] at hn ⊢; omega
  · rw [if_neg (by assumption)]
    split at hn
    · rw [if_pos (by assumption)]
      rw [decide_eq_true_eq] at hn ⊢; omega
    · rw [if_neg (by assumption)]
      rw [decide_eq_true_eq] at hn ⊢; omega
theorem nb_eq {p a b p' a' b' : GeoP.Pt} (r : Int) (h1 : GeoP.along p' a' b' = GeoP.along p a b) (h2 : GeoP.sq p' a' = GeoP.sq p a) (h3 : GeoP.sq a' b' = GeoP.sq a b) (h4 : GeoP.sq p' b' = GeoP.sq p b) (h5 : GeoP.cr a' b' p' * GeoP.cr a' b' p' = GeoP.cr a b p * GeoP.cr a b p) : NB p' a' b' r = NB p a b r := by
  unfold NB GeoP.nearB
  rw [h1, h2, h3, h4, h5]
theorem nb_mir (x y u v m n r : Int) : NB (-x, y) (-u, v) (-m, n) r = NB (x, y) (u, v) (m, n) r :=
  nb_eq r (by unfold GeoP.along; grind) (by unfold GeoP.sq; grind) (by unfold GeoP.sq; grind) (by unfold GeoP.sq; grind) (by unfold GeoP.cr; grind)
theorem nb_q (x y u v m n r : Int) : NB (y, -x) (v, -u) (n, -m) r = NB (x, y) (u, v) (m, n) r :=
  nb_eq r (by unfold GeoP.along; grind) (by unfold GeoP.sq; grind) (by unfold GeoP.sq; grind) (by unfold GeoP.sq; grind) (by unfold GeoP.cr; grind)
theorem nb_at (x y u v m n s t r : Int) : NB (x - s, y - t) (u - s, v - t) (m - s, n - t) r = NB (x, y) (u, v) (m, n) r :=
  nb_eq r (by unfold GeoP.along; grind) (by unfold GeoP.sq; grind) (by unfold GeoP.sq; grind) (by unfold GeoP.sq; grind) (by unfold GeoP.cr; grind)
theorem nb_to {x y u v m n x' y' u' v' m' n' : Int} (s t r : Int) (h1 : x' = x + s) (h2 : y' = y + t) (h3 : u' = u + s) (h4 : v' = v + t) (h5 : m' = m + s) (h6 : n' = n + t) : NB (x', y') (u', v') (m', n') r = NB (x, y) (u, v) (m, n) r := by
  have := nb_at x' y' u' v' m' n' s t r
  rw [← this, h1, h2, h3, h4, h5, h6]
  simp only [Int.add_sub_cancel]
/-! ### The base -/
def baL (j : Vl) (s : Int) (c : Nat) : Int := if s = 2 then j (30 + c) else j (27 + c)
def baR (j : Vl) (s : Int) (c : Nat) : Int := if s = 1 then j (27 + c) else j (30 + c)
/-- Whether the centre is at most r away from the base. -/
def abo (b j : Vl) (s r : Int) : Bool := NB (ce b j 0, ce b j 1) (baL j s 0, baL j s 1) (baR j s 0, baR j s 1) r
theorem abo_mono {b j : Vl} {s r t : Int} (h0 : 0 ≤ r) (h : r ≤ t) (hn : abo b j s r = true) : abo b j s t = true := nb_mono h0 h hn
theorem ba_or (j : Vl) (s : Int) (c : Nat) : (baL j s c = j (27 + c) ∨ baL j s c = j (30 + c)) ∧ (baR j s c = j (27 + c) ∨ baR j s c = j (30 + c)) := by
  unfold baL baR
  constructor
  · split
    · exact .inr rfl
    · exact .inl rfl
  · split
    · exact .inl rfl
    · exact .inr rfl
theorem ba_rel {b p : Vl} {s : Int} (h : joE b p s = 0) : ((-3400 ≤ baL (joV b p s) s 0 - p 0 ∧ baL (joV b p s) s 0 - p 0 ≤ 3400) ∧ -3400 ≤ baL (joV b p s) s 1 - p 1 ∧ baL (joV b p s) s 1 - p 1 ≤ 3400) ∧
    (-3400 ≤ baR (joV b p s) s 0 - p 0 ∧ baR (joV b p s) s 0 - p 0 ≤ 3400) ∧ -3400 ≤ baR (joV b p s) s 1 - p 1 ∧ baR (joV b p s) s 1 - p 1 ≤ 3400 := by
  obtain ⟨x1, y1⟩ := jo_rel h (k := 9) (by omega)
  obtain ⟨x2, y2⟩ := jo_rel h (k := 10) (by omega)
  simp only [Nat.reduceMul, Nat.reduceAdd] at x1 y1 x2 y2
  obtain ⟨l0, r0⟩ := ba_or (joV b p s) s 0
  obtain ⟨l1, r1⟩ := ba_or (joV b p s) s 1
  simp only [Nat.add_zero, Nat.reduceAdd] at l0 r0 l1 r1
  refine ⟨⟨?_, ?_⟩, ?_, ?_⟩
  · rcases l0 with e | e <;> rw [e] <;> omega
  · rcases l1 with e | e <;> rw [e] <;> omega
  · rcases r0 with e | e <;> rw [e] <;> omega
  · rcases r1 with e | e <;> rw [e] <;> omega
/-- What the specification asks of geom.Near: all places seen from the body's own. -/
theorem abo_spec {b p : Vl} {s r : Int} (h : joE b p s = 0) (hr : 0 ≤ r ∧ r ≤ 32768) (t : Bool) (ht : abo b (joV b p s) s r = t) :
    GeoP.nrV (ce b (joV b p s) 0 - p 0, ce b (joV b p s) 1 - p 1) (baL (joV b p s) s 0 - p 0, baL (joV b p s) s 1 - p 1) (baR (joV b p s) s 0 - p 0, baR (joV b p s) s 1 - p 1) r = t ∧
    GeoP.nrE (ce b (joV b p s) 0 - p 0, ce b (joV b p s) 1 - p 1) (baL (joV b p s) s 0 - p 0, baL (joV b p s) s 1 - p 1) (baR (joV b p s) s 0 - p 0, baR (joV b p s) s 1 - p 1) r = 0 := by
  have h1 := ce_rel h
  obtain ⟨h2, h3⟩ := ba_rel h
  have ok : GeoP.nearOk (ce b (joV b p s) 0 - p 0, ce b (joV b p s) 1 - p 1) (baL (joV b p s) s 0 - p 0, baL (joV b p s) s 1 - p 1) (baR (joV b p s) s 0 - p 0, baR (joV b p s) s 1 - p 1) r = true := by
    unfold GeoP.nearOk
    rw [(GeoP.okP_iff _).2 (by simp only; omega), (GeoP.okP_iff _).2 (by simp only; omega), (GeoP.okP_iff _).2 (by simp only; omega), (GeoP.okR_iff r).2 hr]
    rfl
  unfold GeoP.nrV GeoP.nrE
  rw [ok, if_pos rfl, ← ht]
  refine ⟨?_, rfl⟩
  rw [Bool.true_and]
  exact nb_at _ _ _ _ _ _ _ _ r
/-- What the program asks of it: both ends seen from the centre. -/
theorem abo_prog {b p : Vl} {s r : Int} (h : joE b p s = 0) (hr : 0 ≤ r ∧ r ≤ 32768) (t : Bool) (ht : abo b (joV b p s) s r = t) :
    GeoP.nrV (0, 0) (baL (joV b p s) s 0 - ce b (joV b p s) 0, baL (joV b p s) s 1 - ce b (joV b p s) 1) (baR (joV b p s) s 0 - ce b (joV b p s) 0, baR (joV b p s) s 1 - ce b (joV b p s) 1) r = t ∧
    GeoP.nrE (0, 0) (baL (joV b p s) s 0 - ce b (joV b p s) 0, baL (joV b p s) s 1 - ce b (joV b p s) 1) (baR (joV b p s) s 0 - ce b (joV b p s) 0, baR (joV b p s) s 1 - ce b (joV b p s) 1) r = 0 := by
  have h1 := ce_rel h
  obtain ⟨h2, h3⟩ := ba_rel h
  have ok : GeoP.nearOk (0, 0) (baL (joV b p s) s 0 - ce b (joV b p s) 0, baL (joV b p s) s 1 - ce b (joV b p s) 1) (baR (joV b p s) s 0 - ce b (joV b p s) 0, baR (joV b p s) s 1 - ce b (joV b p s) 1) r = true := by
    unfold GeoP.nearOk
    rw [(GeoP.okP_iff _).2 (by simp only; omega), (GeoP.okP_iff _).2 (by simp only; omega), (GeoP.okP_iff _).2 (by simp only; omega), (GeoP.okR_iff r).2 hr]
    rfl
  unfold GeoP.nrV GeoP.nrE
  rw [ok, if_pos rfl, ← ht]
  refine ⟨?_, rfl⟩
  rw [Bool.true_and]
  exact nb_to (-(ce b (joV b p s) 0)) (-(ce b (joV b p s) 1)) r (by omega) (by omega) (by omega) (by omega) (by omega) (by omega)
/-! ### Center, Stable, Margin -/
def ceV (b p : Vl) (s : Int) (c : Nat) : Int := if joE b p s = 0 then ce b (joV b p s) c else 0
theorem ceV_yes {b p : Vl} {s : Int} (h : joE b p s = 0) (c : Nat) : ceV b p s c = ce b (joV b p s) c := if_pos h
theorem ceV_no {b p : Vl} {s : Int} (h : joE b p s ≠ 0) (c : Nat) : ceV b p s c = 0 := if_neg h
def stV (b p : Vl) (s : Int) : Bool := decide (joE b p s = 0) && (decide (s = 0) || abo b (joV b p s) s (b 9))
theorem stV_yes {b p : Vl} {s : Int} (h : joE b p s = 0) (hs : s ≠ 0) : stV b p s = abo b (joV b p s) s (b 9) := by
  unfold stV; rw [decide_eq_true h, decide_eq_false hs]; rfl
theorem stV_air {b p : Vl} {s : Int} (h : joE b p s = 0) (hs : s = 0) : stV b p s = true := by
  unfold stV; rw [decide_eq_true h, decide_eq_true hs]; rfl
theorem stV_no {b p : Vl} {s : Int} (h : joE b p s ≠ 0) : stV b p s = false := by
  unfold stV; rw [decide_eq_false h]; rfl
/-- The least number at which something is so, from k on; n tries. -/
def least (q : Nat → Bool) : Nat → Nat → Nat
  | 0, k => k
  | n + 1, k => if q k = true then k else least q n (k + 1)
theorem least_is {q : Nat → Bool} : ∀ (n k m : Nat), k ≤ m → m ≤ k + n → (∀ i, k ≤ i → i < m → q i = false) → (m = k + n ∨ q m = true) → least q n k = m
  | 0, k, m, h1, h2, _, _ => by unfold least; omega
  | n + 1, k, m, h1, h2, h3, h4 => by
    unfold least
    by_cases e : k = m
    · subst e
      rcases h4 with h4 | h4
      · omega
      · rw [if_pos h4]
    · rw [h3 k (Nat.le_refl k) (by omega), if_neg Bool.false_ne_true]
      exact least_is n (k + 1) m (by omega) (by omega) (fun i a c => h3 i (by omega) c) (by rcases h4 with h4 | h4 <;> first | exact .inr h4 | exact .inl (by omega))
theorem least_spec {q : Nat → Bool} : ∀ (n k : Nat), (k ≤ least q n k ∧ least q n k ≤ k + n) ∧ (∀ i, k ≤ i → i < least q n k → q i = false) ∧ (least q n k = k + n ∨ q (least q n k) = true)
  | 0, k => ⟨⟨Nat.le_refl _, Nat.le_refl _⟩, fun i a c => absurd c (by unfold least; omega), .inl rfl⟩
  | n + 1, k => by
    unfold least
    by_cases e : q k = true
    · rw [if_pos e]
      exact ⟨⟨Nat.le_refl _, by omega⟩, fun i a c => absurd c (by omega), .inr e⟩
    · rw [if_neg e]
      obtain ⟨⟨h1, h2⟩, h3, h4⟩ := least_spec (q := q) n (k + 1)
      refine ⟨⟨by omega, by omega⟩, fun i a c => ?_, by rcases h4 with h4 | h4 <;> first | exact .inr h4 | exact .inl (by omega)⟩
      by_cases t : i = k
      · rw [t]; cases x : q k
        · rfl
        · exact absurd x e
      · exact h3 i (by omega) c
def ab (b j : Vl) (s : Int) (k : Nat) : Bool := abo b j s (k : Int)
/-- The least foot. -/
def lst (b j : Vl) (s : Int) : Nat := least (ab b j s) ((b 9).toNat + 1) 0
def mgE (b p : Vl) (s : Int) : Int := if joE b p s = 0 then (if s = 0 then 28 else if abo b (joV b p s) s (b 9) = true then 0 else 27) else joE b p s
def mgV (b p : Vl) (s : Int) : Int := if mgE b p s = 0 then b 9 - (lst b (joV b p s) s : Int) else 0
theorem mg_no {b p : Vl} {s : Int} (h : joE b p s ≠ 0) : mgE b p s = joE b p s ∧ mgV b p s = 0 := by
  have e : mgE b p s = joE b p s := if_neg h
  exact ⟨e, by unfold mgV; rw [e, if_neg h]⟩
theorem mg_air {b p : Vl} {s : Int} (h : joE b p s = 0) (hs : s = 0) : mgE b p s = 28 ∧ mgV b p s = 0 := by
  have e : mgE b p s = 28 := by unfold mgE; rw [if_pos h, if_pos hs]
  exact ⟨e, by unfold mgV; rw [e]; rfl⟩
theorem mg_fall {b p : Vl} {s : Int} (h : joE b p s = 0) (hs : s ≠ 0) (ha : abo b (joV b p s) s (b 9) = false) : mgE b p s = 27 ∧ mgV b p s = 0 := by
  have e : mgE b p s = 27 := by unfold mgE; rw [if_pos h, if_neg hs, ha, if_neg Bool.false_ne_true]
  exact ⟨e, by unfold mgV; rw [e]; rfl⟩
theorem mg_yes {b p : Vl} {s : Int} (h : joE b p s = 0) (hs : s ≠ 0) (ha : abo b (joV b p s) s (b 9) = true) : mgE b p s = 0 ∧ mgV b p s = b 9 - (lst b (joV b p s) s : Int) := by
  have e : mgE b p s = 0 := by unfold mgE; rw [if_pos h, if_neg hs, if_pos ha]
  exact ⟨e, by unfold mgV; rw [e]; rfl⟩
theorem foot_bd {b : Vl} (h : BuiP.chk b = 0) : 20 ≤ b 9 ∧ b 9 ≤ 300 := (BuiP.ok_of h).1 9 (by omega)
/-- The least foot of a stable body. -/
theorem lst_yes {b j : Vl} {s : Int} (hb : BuiP.chk b = 0) (ha : abo b j s (b 9) = true) : (lst b j s : Int) ≤ b 9 ∧ abo b j s (lst b j s : Int) = true ∧ ∀ r : Int, 0 ≤ r → r < (lst b j s : Int) → abo b j s r = false := by
  have hf := foot_bd hb
  obtain ⟨⟨-, h2⟩, h3, h4⟩ := least_spec (q := ab b j s) ((b 9).toNat + 1) 0
  have e : least (ab b j s) ((b 9).toNat + 1) 0 = lst b j s := rfl
  rw [e] at h2 h3 h4
  have hn : lst b j s ≤ (b 9).toNat := by
    by_cases c : lst b j s ≤ (b 9).toNat
    · exact c
    · have := h3 (b 9).toNat (by omega) (by omega)
      unfold ab at this
      rw [show (((b 9).toNat : Nat) : Int) = b 9 by omega, ha] at this
      exact absurd this (by decide)
  refine ⟨by omega, ?_, fun r h0 hr => ?_⟩
  · rcases h4 with h4 | h4
    · omega
    · exact h4
  · have := h3 r.toNat (by omega) (by omega)
    unfold ab at this
    rwa [show ((r.toNat : Nat) : Int) = r by omega] at this
/-- Beyond the foot there is none. -/
theorem lst_no {b j : Vl} {s : Int} (hb : BuiP.chk b = 0) (ha : abo b j s (b 9) = false) : lst b j s = (b 9).toNat + 1 := by
  have hf := foot_bd hb
  refine least_is _ 0 _ (by omega) (by omega) (fun i _ hi => ?_) (.inl (by omega))
  cases c : ab b j s i
  · rfl
  · have := abo_mono (t := b 9) (by omega) (by omega) c
    rw [ha] at this
    exact absurd this (by decide)
/-- Found by counting down from the foot: after k numbers that are too small. -/
theorem lst_at {b j : Vl} {s : Int} (hb : BuiP.chk b = 0) {k : Nat} (h1 : ∀ i, i < k → ab b j s i = false) (h2 : ab b j s k = true) (hk : (k : Int) ≤ b 9) : lst b j s = k := by
  have hf := foot_bd hb
  exact least_is _ 0 _ (by omega) (by omega) (fun i _ hi => h1 i hi) (.inr h2)
/-! ### The mirror image -/
theorem mj_at (j : Vl) (k : Nat) : mjS j (k * 3) = -j (fl k * 3) ∧ mjS j (k * 3 + 1) = j (fl k * 3 + 1) := ⟨tri_0 _ _ _ k, tri_1 _ _ _ k⟩
theorem jo_mirs {b p : Vl} {s : Int} (h : joE b p s = 0) : ∀ k, k < 11 → joV b (mpV p) (xs s) (k * 3) = -joV b p s (fl k * 3) ∧ joV b (mpV p) (xs s) (k * 3 + 1) = joV b p s (fl k * 3 + 1) := by
  intro k hk
  have hm := (jo_mir h).2
  obtain ⟨a1, a2⟩ := mj_at (joV b p s) k
  exact ⟨(hm (k * 3) (by omega)).trans a1, (hm (k * 3 + 1) (by omega)).trans a2⟩
theorem sm_mir {b j j' : Vl} (h : ∀ k, k < 11 → j' (k * 3) = -j (fl k * 3) ∧ j' (k * 3 + 1) = j (fl k * 3 + 1)) : wsm b j' 0 = -wsm b j 0 ∧ wsm b j' 1 = wsm b j 1 := by
  have q0 := h 0 (by omega)
  have q1 := h 1 (by omega)
  have q2 := h 2 (by omega)
  have q3 := h 3 (by omega)
  have q4 := h 4 (by omega)
  have q5 := h 5 (by omega)
  have q6 := h 6 (by omega)
  have q7 := h 7 (by omega)
  have q8 := h 8 (by omega)
  have q9 := h 9 (by omega)
  have q10 := h 10 (by omega)
  simp [fl] at q0 q1 q2 q3 q4 q5 q6 q7 q8 q9 q10
  unfold wsm
  simp only [Nat.add_zero, Nat.reduceAdd]
  constructor
  · rw [q0.1, q1.1, q2.1, q3.1, q4.1, q5.1, q6.1, q7.1, q8.1, q9.1, q10.1]; grind
  · rw [q0.2, q1.2, q2.2, q3.2, q4.2, q5.2, q6.2, q7.2, q8.2, q9.2, q10.2]; grind
theorem ce_mir {b j j' : Vl} (hb : BuiP.chk b = 0) (h : ∀ k, k < 11 → j' (k * 3) = -j (fl k * 3) ∧ j' (k * 3 + 1) = j (fl k * 3 + 1)) : ce b j' 0 = -ce b j 0 ∧ ce b j' 1 = ce b j 1 := by
  obtain ⟨h1, h2⟩ := sm_mir (b := b) h
  obtain ⟨e, m1, m2, m3, m4⟩ := mas_is hb
  unfold ce
  rw [h1, h2, near_neg _ _ (by omega)]
  exact ⟨rfl, rfl⟩
theorem abo_mir {b p : Vl} {s : Int} (h : joE b p s = 0) (r : Int) : abo b (joV b (mpV p) (xs s)) (xs s) r = abo b (joV b p s) s r := by
  obtain ⟨hb, -, hs⟩ := jo_yes h
  have hm := jo_mirs h
  obtain ⟨c1, c2⟩ := ce_mir hb hm
  have q9 := hm 9 (by omega)
  have q10 := hm 10 (by omega)
  simp [fl] at q9 q10
  generalize joV b (mpV p) (xs s) = j' at *
  generalize joV b p s = j at *
  unfold abo
  rw [c1, c2]
  have t : s = 0 ∨ s = 1 ∨ s = 2 ∨ s = 3 := by omega
  rcases t with rfl | rfl | rfl | rfl
  · show NB _ (j' 27, j' 28) (j' 30, j' 31) r = NB _ (j 27, j 28) (j 30, j 31) r
    rw [q9.1, q9.2, q10.1, q10.2, nb_mir]
    exact GeoP.nearB_swap _ _ _ _
  · show NB _ (j' 30, j' 31) (j' 30, j' 31) r = NB _ (j 27, j 28) (j 27, j 28) r
    rw [q10.1, q10.2, nb_mir]
  · show NB _ (j' 27, j' 28) (j' 27, j' 28) r = NB _ (j 30, j 31) (j 30, j 31) r
    rw [q9.1, q9.2, nb_mir]
  · show NB _ (j' 27, j' 28) (j' 30, j' 31) r = NB _ (j 27, j 28) (j 30, j 31) r
    rw [q9.1, q9.2, q10.1, q10.2, nb_mir]
    exact GeoP.nearB_swap _ _ _ _
theorem xs_zero {s : Int} (h : 0 ≤ s ∧ s ≤ 3) : xs s = 0 ↔ s = 0 := by
  have t : s = 0 ∨ s = 1 ∨ s = 2 ∨ s = 3 := by omega
  rcases t with rfl | rfl | rfl | rfl <;> decide
/-- What two bodies have in common that are equally balanced. -/
theorem same {b b' p p' : Vl} {s s' : Int} (h : joE b p s = 0) (h' : joE b' p' s' = 0) (hf : b' 9 = b 9) (hs : s' = 0 ↔ s = 0) (ha : ∀ r, abo b' (joV b' p' s') s' r = abo b (joV b p s) s r) :
    stV b' p' s' = stV b p s ∧ mgE b' p' s' = mgE b p s ∧ mgV b' p' s' = mgV b p s := by
  have hl : lst b' (joV b' p' s') s' = lst b (joV b p s) s := by
    unfold lst
    rw [hf, show ab b' (joV b' p' s') s' = ab b (joV b p s) s from funext fun k => ha _]
  by_cases z : s = 0
  · have z' := hs.2 z
    rw [stV_air h z, stV_air h' z', (mg_air h z).1, (mg_air h z).2, (mg_air h' z').1, (mg_air h' z').2]
    exact ⟨rfl, rfl, rfl⟩
  · have z' : s' ≠ 0 := fun q => z (hs.1 q)
    have h9 := ha (b 9)
    refine ⟨by rw [stV_yes h z, stV_yes h' z', hf, h9], ?_⟩
    cases c : abo b (joV b p s) s (b 9)
    · rw [c, ← hf] at h9
      rw [(mg_fall h z c).1, (mg_fall h z c).2, (mg_fall h' z' h9).1, (mg_fall h' z' h9).2]
      exact ⟨rfl, rfl⟩
    · rw [c, ← hf] at h9
      rw [(mg_yes h z c).1, (mg_yes h z c).2, (mg_yes h' z' h9).1, (mg_yes h' z' h9).2, hl, hf]
      exact ⟨rfl, rfl⟩
theorem ba_mir {b p : Vl} {s : Int} (h : joE b p s = 0) : joE b (mpV p) (xs s) = 0 ∧ (ceV b (mpV p) (xs s) 0 = -ceV b p s 0 ∧ ceV b (mpV p) (xs s) 1 = ceV b p s 1) ∧ stV b (mpV p) (xs s) = stV b p s ∧ mgE b (mpV p) (xs s) = mgE b p s ∧ mgV b (mpV p) (xs s) = mgV b p s := by
  have h' := (jo_mir h).1
  obtain ⟨hb, -, hs⟩ := jo_yes h
  refine ⟨h', ?_, same h h' rfl (xs_zero hs) (abo_mir h)⟩
  rw [ceV_yes h, ceV_yes h', ceV_yes h, ceV_yes h']
  exact ce_mir hb (jo_mirs h)
/-! ### Quarters -/
theorem tj_at (j : Vl) (k : Nat) : tjS j (k * 3) = j (k * 3 + 1) ∧ tjS j (k * 3 + 1) = -j (k * 3) := ⟨tri_0 _ _ _ k, tri_1 _ _ _ k⟩
theorem sm_q {b j j' : Vl} (h : ∀ k, k < 11 → j' (k * 3) = j (k * 3 + 1) ∧ j' (k * 3 + 1) = -j (k * 3)) : wsm b j' 0 = wsm b j 1 ∧ wsm b j' 1 = -wsm b j 0 := by
  have q0 := h 0 (by omega)
  have q1 := h 1 (by omega)
  have q2 := h 2 (by omega)
  have q3 := h 3 (by omega)
  have q4 := h 4 (by omega)
  have q5 := h 5 (by omega)
  have q6 := h 6 (by omega)
  have q7 := h 7 (by omega)
  have q8 := h 8 (by omega)
  have q9 := h 9 (by omega)
  have q10 := h 10 (by omega)
  simp only [Nat.zero_mul, Nat.reduceMul, Nat.reduceAdd, Nat.zero_add] at q0 q1 q2 q3 q4 q5 q6 q7 q8 q9 q10
  unfold wsm
  simp only [Nat.add_zero, Nat.reduceAdd]
  constructor
  · rw [q0.1, q1.1, q2.1, q3.1, q4.1, q5.1, q6.1, q7.1, q8.1, q9.1, q10.1]
  · rw [q0.2, q1.2, q2.2, q3.2, q4.2, q5.2, q6.2, q7.2, q8.2, q9.2, q10.2]; grind
theorem ba_q {b p : Vl} {s : Int} (h : joE b p s = 0) : joE b (rpV p 1) s = 0 ∧ (ceV b (rpV p 1) s 0 = ceV b p s 1 ∧ ceV b (rpV p 1) s 1 = -ceV b p s 0) ∧ stV b (rpV p 1) s = stV b p s ∧ mgE b (rpV p 1) s = mgE b p s ∧ mgV b (rpV p 1) s = mgV b p s := by
  obtain ⟨h', hq⟩ := jo_q h
  obtain ⟨hb, -, hs⟩ := jo_yes h
  obtain ⟨e, m1, m2, m3, m4⟩ := mas_is hb
  have hk : ∀ k, k < 11 → joV b (rpV p 1) s (k * 3) = joV b p s (k * 3 + 1) ∧ joV b (rpV p 1) s (k * 3 + 1) = -joV b p s (k * 3) := fun k hk => by
    obtain ⟨a1, a2⟩ := tj_at (joV b p s) k
    exact ⟨(hq (k * 3) (by omega)).trans a1, (hq (k * 3 + 1) (by omega)).trans a2⟩
  obtain ⟨s1, s2⟩ := sm_q (b := b) hk
  have hc : ce b (joV b (rpV p 1) s) 0 = ce b (joV b p s) 1 ∧ ce b (joV b (rpV p 1) s) 1 = -ce b (joV b p s) 0 := by
    unfold ce
    rw [s1, s2, near_neg _ _ (by omega)]
    exact ⟨rfl, rfl⟩
  refine ⟨h', ?_, same h h' rfl Iff.rfl fun r => ?_⟩
  · rw [ceV_yes h, ceV_yes h', ceV_yes h, ceV_yes h']
    exact hc
  · have q9 := hk 9 (by omega)
    have q10 := hk 10 (by omega)
    simp only [Nat.reduceMul, Nat.reduceAdd] at q9 q10
    unfold abo
    rw [hc.1, hc.2]
    have l0 : baL (joV b (rpV p 1) s) s 0 = baL (joV b p s) s 1 := by unfold baL; split <;> first | exact q10.1 | exact q9.1
    have l1 : baL (joV b (rpV p 1) s) s 1 = -baL (joV b p s) s 0 := by unfold baL; split <;> first | exact q10.2 | exact q9.2
    have r0 : baR (joV b (rpV p 1) s) s 0 = baR (joV b p s) s 1 := by unfold baR; split <;> first | exact q9.1 | exact q10.1
    have r1 : baR (joV b (rpV p 1) s) s 1 = -baR (joV b p s) s 0 := by unfold baR; split <;> first | exact q9.2 | exact q10.2
    rw [l0, l1, r0, r1]
    exact nb_q _ _ _ _ _ _ r
/-! ### Moved by an even number -/
theorem sm_at {b j j' : Vl} {c : Nat} {d : Int} (hb : BuiP.chk b = 0) (h : ∀ k, k < 11 → j' (k * 3 + c) = j (k * 3 + c) + d) : wsm b j' c = wsm b j c + d * (2 * BuiP.masV b) := by
  have q0 := h 0 (by omega)
  have q1 := h 1 (by omega)
  have q2 := h 2 (by omega)
  have q3 := h 3 (by omega)
  have q4 := h 4 (by omega)
  have q5 := h 5 (by omega)
  have q6 := h 6 (by omega)
  have q7 := h 7 (by omega)
  have q8 := h 8 (by omega)
  have q9 := h 9 (by omega)
  have q10 := h 10 (by omega)
  simp only [Nat.zero_mul, Nat.reduceMul, Nat.zero_add] at q0 q1 q2 q3 q4 q5 q6 q7 q8 q9 q10
  unfold wsm
  rw [q0, q1, q2, q3, q4, q5, q6, q7, q8, q9, q10, (mas_is hb).1]
  grind
theorem ba_at {b p : Vl} {s x y : Int} (h : joE b p s = 0) (h' : joE b (at2 p x y) s = 0) (hx : (x - p 0) % 2 = 0) (hy : (y - p 1) % 2 = 0) :
    (ceV b (at2 p x y) s 0 = ceV b p s 0 + (x - p 0) ∧ ceV b (at2 p x y) s 1 = ceV b p s 1 + (y - p 1)) ∧ stV b (at2 p x y) s = stV b p s ∧ mgE b (at2 p x y) s = mgE b p s ∧ mgV b (at2 p x y) s = mgV b p s := by
  obtain ⟨hb, -, hs⟩ := jo_yes h
  obtain ⟨e, m1, m2, m3, m4⟩ := mas_is hb
  have ha : ∀ k, k < 11 → joV b (at2 p x y) s (k * 3) = joV b p s (k * 3) + (x - p 0) ∧ joV b (at2 p x y) s (k * 3 + 1) = joV b p s (k * 3 + 1) + (y - p 1) := fun k hk => by
    obtain ⟨a1, a2, -⟩ := jo_at h h' hk
    omega
  have hc : ce b (joV b (at2 p x y) s) 0 = ce b (joV b p s) 0 + (x - p 0) ∧ ce b (joV b (at2 p x y) s) 1 = ce b (joV b p s) 1 + (y - p 1) := by
    unfold ce
    rw [sm_at (c := 0) hb (fun k hk => (ha k hk).1), sm_at (c := 1) hb (fun k hk => (ha k hk).2), near_shift _ _ _ (by omega) hx, near_shift _ _ _ (by omega) hy]
    exact ⟨rfl, rfl⟩
  refine ⟨?_, same h h' rfl Iff.rfl fun r => ?_⟩
  · rw [ceV_yes h, ceV_yes h', ceV_yes h, ceV_yes h']
    exact hc
  · have q9 := ha 9 (by omega)
    have q10 := ha 10 (by omega)
    simp only [Nat.reduceMul, Nat.reduceAdd] at q9 q10
    unfold abo
    refine nb_to (x - p 0) (y - p 1) r hc.1 hc.2 ?_ ?_ ?_ ?_
    · unfold baL; split <;> first | exact q10.1 | exact q9.1
    · unfold baL; split <;> first | exact q10.2 | exact q9.2
    · unfold baR; split <;> first | exact q9.1 | exact q10.1
    · unfold baR; split <;> first | exact q9.2 | exact q10.2
theorem jo_moved {b p q : Vl} {s : Int} (hp : vaE p = 0) (hq : vaE q = 0) : joE b q s = joE b p s := by
  unfold joE; rw [hp, hq]
/-! ### Other feet -/
def foot (b : Vl) (r : Int) : Vl := fun i => if i = 9 then r else b i
theorem foot_9 (b : Vl) (r : Int) : foot b r 9 = r := rfl
theorem foot_pl (b p : Vl) (r s : Int) : plX (foot b r) p s = plX b p s ∧ plY (foot b r) p s = plY b p s ∧ plZ (foot b r) p s = plZ b p s := ⟨rfl, rfl, rfl⟩
theorem foot_jo {b p : Vl} {r s : Int} (h : joE b p s = 0) (hc : BuiP.chk (foot b r) = 0) : joE (foot b r) p s = 0 ∧ joV (foot b r) p s = joV b p s := by
  obtain ⟨hb, hp, hs⟩ := jo_yes h
  have h' : joE (foot b r) p s = 0 := jo_ok hc hp hs
  refine ⟨h', ?_⟩
  rw [joV_yes h, joV_yes h']
  rfl
theorem foot_abo {b p : Vl} {r s : Int} (h : joE b p s = 0) (hc : BuiP.chk (foot b r) = 0) (t : Int) : abo (foot b r) (joV (foot b r) p s) s t = abo b (joV b p s) s t := by
  obtain ⟨h', hj⟩ := foot_jo h hc
  obtain ⟨hb, -, -⟩ := jo_yes h
  rw [hj]
  have hm : BuiP.masV (foot b r) = BuiP.masV b := by rw [(mas_is hc).1, (mas_is hb).1]; rfl
  have hce : ∀ c, ce (foot b r) (joV b p s) c = ce b (joV b p s) c := fun c => by unfold ce; rw [hm]; rfl
  unfold abo
  rw [hce, hce]
/-- Larger feet, feet that are just enough, feet that are a millimetre less. -/
theorem ba_feet {b p : Vl} {s : Int} (h : mgE b p s = 0) : joE b p s = 0 ∧ (0 ≤ mgV b p s ∧ mgV b p s ≤ b 9) ∧
    (BuiP.chk (foot b (b 9 + 1)) = 0 → stV (foot b (b 9 + 1)) p s = true) ∧ (BuiP.chk (foot b (b 9 - mgV b p s)) = 0 → stV (foot b (b 9 - mgV b p s)) p s = true) ∧
    (BuiP.chk (foot b (b 9 - mgV b p s - 1)) = 0 → stV (foot b (b 9 - mgV b p s - 1)) p s = false) := by
  have hj : joE b p s = 0 := by
    by_cases c : joE b p s = 0
    · exact c
    · rw [(mg_no c).1] at h; exact absurd h c
  have hs : s ≠ 0 := fun z => by rw [(mg_air hj z).1] at h; exact absurd h (by decide)
  have ha : abo b (joV b p s) s (b 9) = true := by
    cases c : abo b (joV b p s) s (b 9)
    · rw [(mg_fall hj hs c).1] at h; exact absurd h (by decide)
    · rfl
  obtain ⟨hb, -, -⟩ := jo_yes hj
  have hf := foot_bd hb
  obtain ⟨l1, l2, l3⟩ := lst_yes hb ha
  have hm := (mg_yes hj hs ha).2
  refine ⟨hj, by rw [hm]; omega, fun hc => ?_, fun hc => ?_, fun hc => ?_⟩
  · rw [stV_yes (foot_jo hj hc).1 hs, foot_9, foot_abo hj hc]
    exact abo_mono (by omega) (by omega) ha
  · rw [stV_yes (foot_jo hj hc).1 hs, foot_9, foot_abo hj hc, hm, show b 9 - (b 9 - (lst b (joV b p s) s : Int)) = (lst b (joV b p s) s : Int) by omega]
    exact l2
  · have hg := foot_bd hc
    rw [foot_9] at hg
    rw [stV_yes (foot_jo hj hc).1 hs, foot_9, foot_abo hj hc]
    exact l3 _ (by omega) (by rw [hm]; omega)
/-! ### First -/
/-- The supports of tick k. -/
def su (q : Nat → Int) (m : Nat) (k : Nat) : Int := q (min k (m - 1))
/-- The first error before tick k. -/
def fA (b : Vl) (f : Nat → Vl) (q : Nat → Int) (m : Nat) : Nat → Int
  | 0 => 0
  | k + 1 => if fA b f q m k = 0 then joE b (f k) (su q m k) else fA b f q m k
/-- The first tick before k that is not stable. -/
def tA (b : Vl) (f : Nat → Vl) (q : Nat → Int) (m : Nat) : Nat → Int
  | 0 => -1
  | k + 1 => if tA b f q m k < 0 ∧ stV b (f k) (su q m k) = false then (k : Int) else tA b f q m k
def fiE (b : Vl) (f : Nat → Vl) (q : Nat → Int) (n m : Nat) : Int := if m = 0 ∨ n ≠ m + 1 then 2 else fA b f q m n
def fiV (b : Vl) (f : Nat → Vl) (q : Nat → Int) (n m : Nat) : Int := if fiE b f q n m = 0 then tA b f q m n else 0
theorem fA_next {b : Vl} {f : Nat → Vl} {q : Nat → Int} {m k : Nat} (h : fA b f q m k = 0) : fA b f q m (k + 1) = joE b (f k) (su q m k) := if_pos h
theorem fA_stay {b : Vl} {f : Nat → Vl} {q : Nat → Int} {m k : Nat} (h : fA b f q m k ≠ 0) : ∀ i, fA b f q m (k + i) = fA b f q m k
  | 0 => rfl
  | i + 1 => by
    have := fA_stay h i
    show (if fA b f q m (k + i) = 0 then _ else fA b f q m (k + i)) = _
    rw [this, if_neg h]
theorem fA_end {b : Vl} {f : Nat → Vl} {q : Nat → Int} {m k n : Nat} (h : fA b f q m k ≠ 0) (hk : k ≤ n) : fA b f q m n = fA b f q m k := by
  have := fA_stay h (n - k)
  rwa [show k + (n - k) = n by omega] at this
theorem fA_all {b : Vl} {f : Nat → Vl} {q : Nat → Int} {m n : Nat} (h : fA b f q m n = 0) : ∀ k, k ≤ n → fA b f q m k = 0 := fun k hk => by
  by_cases c : fA b f q m k = 0
  · exact c
  · rw [fA_end c hk] at h; exact absurd h c
theorem fA_each {b : Vl} {f : Nat → Vl} {q : Nat → Int} {m n : Nat} (h : fA b f q m n = 0) : ∀ k, k < n → joE b (f k) (su q m k) = 0 := fun k hk => by
  rw [← fA_next (fA_all h k (by omega))]
  exact fA_all h (k + 1) (by omega)
theorem tA_bd (b : Vl) (f : Nat → Vl) (q : Nat → Int) (m : Nat) (k : Nat) : -1 ≤ tA b f q m k ∧ (k = 0 ∨ tA b f q m k < (k : Int)) := by
  induction k with
  | zero => exact ⟨by show (-1 : Int) ≤ -1; omega, .inl rfl⟩
  | succ k ih =>
    have e : tA b f q m (k + 1) = if tA b f q m k < 0 ∧ stV b (f k) (su q m k) = false then (k : Int) else tA b f q m k := rfl
    rw [e]
    have z : k = 0 → tA b f q m k = -1 := fun z => by rw [z]; rfl
    by_cases c : tA b f q m k < 0 ∧ stV b (f k) (su q m k) = false
    · rw [if_pos c]; omega
    · rw [if_neg c]; omega
/-- Before the first tick the body is stable, there it is not. -/
theorem tA_is (b : Vl) (f : Nat → Vl) (q : Nat → Int) (m : Nat) : ∀ k i : Nat, i < k → ((i : Int) = tA b f q m k → stV b (f i) (su q m i) = false) ∧ ((tA b f q m k < 0 ∨ (i : Int) < tA b f q m k) → stV b (f i) (su q m i) = true)
  | 0, i, h => absurd h (by omega)
  | k + 1, i, h => by
    have hb := tA_bd b f q m k
    have z : k = 0 → tA b f q m k = -1 := fun z => by rw [z]; rfl
    have e : tA b f q m (k + 1) = if tA b f q m k < 0 ∧ stV b (f k) (su q m k) = false then (k : Int) else tA b f q m k := rfl
    by_cases c : tA b f q m k < 0 ∧ stV b (f k) (su q m k) = false
    · rw [if_pos c] at e
      rw [e]
      refine ⟨fun t => ?_, fun t => ?_⟩
      · have ik : i = k := by omega
        rw [ik]
        exact c.2
      · have ik : i < k := by omega
        exact (tA_is b f q m k i ik).2 (.inl c.1)
    · rw [if_neg c] at e
      rw [e]
      by_cases ik : i < k
      · exact tA_is b f q m k i ik
      · have ik : i = k := by omega
        refine ⟨fun t => by omega, fun t => ?_⟩
        rcases t with t | t
        · rw [ik]
          cases x : stV b (f k) (su q m k)
          · exact absurd ⟨t, x⟩ c
          · rfl
        · omega
theorem fi_form {b : Vl} {f : Nat → Vl} {q : Nat → Int} {n m : Nat} (h : m = 0 ∨ n ≠ m + 1) : fiE b f q n m = 2 ∧ fiV b f q n m = 0 := by
  have e : fiE b f q n m = 2 := if_pos h
  exact ⟨e, by unfold fiV; rw [e]; rfl⟩
theorem fi_else {b : Vl} {f : Nat → Vl} {q : Nat → Int} {n m : Nat} (h1 : m ≠ 0) (h2 : n = m + 1) : fiE b f q n m = fA b f q m n ∧ fiV b f q n m = if fA b f q m n = 0 then tA b f q m n else 0 := by
  have e : fiE b f q n m = fA b f q m n := if_neg (by omega)
  exact ⟨e, by unfold fiV; rw [e]⟩
end Go.Proofs.YtighpjhipgobiaaDoor.BalP
