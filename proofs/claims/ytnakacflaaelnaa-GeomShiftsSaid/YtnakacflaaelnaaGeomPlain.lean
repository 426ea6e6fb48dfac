/-
  Plain facts of package geom: points, hulls, discs, with no word of the program. Condition: none.
-/
namespace Go.Proofs.Ytnakacflaaelnaa.GeoP
abbrev Pt := Int × Int
def okP (p : Pt) : Bool := decide (-32768 ≤ p.1) && decide (p.1 ≤ 32768) && (decide (-32768 ≤ p.2) && decide (p.2 ≤ 32768))
theorem okP_iff (p : Pt) : okP p = true ↔ (-32768 ≤ p.1 ∧ p.1 ≤ 32768) ∧ (-32768 ≤ p.2 ∧ p.2 ≤ 32768) := by
  unfold okP; rw [Bool.and_eq_true, Bool.and_eq_true, Bool.and_eq_true, decide_eq_true_eq, decide_eq_true_eq, decide_eq_true_eq, decide_eq_true_eq]
theorem okP_no (p : Pt) : okP p = false ↔ p.1 < -32768 ∨ 32768 < p.1 ∨ p.2 < -32768 ∨ 32768 < p.2 := by rw [← Bool.not_eq_true, okP_iff]; omega
def okR (r : Int) : Bool := decide (0 ≤ r) && decide (r ≤ 32768)
theorem okR_iff (r : Int) : okR r = true ↔ 0 ≤ r ∧ r ≤ 32768 := by unfold okR; rw [Bool.and_eq_true, decide_eq_true_eq, decide_eq_true_eq]
def sq (p q : Pt) : Int := (p.1 - q.1) * (p.1 - q.1) + (p.2 - q.2) * (p.2 - q.2)
def cr (o p q : Pt) : Int := (p.1 - o.1) * (q.2 - o.2) - (p.2 - o.2) * (q.1 - o.1)
/-- The part of q along the way from c, on the direction (u, v). -/
def dt (u v : Int) (c q : Pt) : Int := u * (q.1 - c.1) + v * (q.2 - c.2)

theorem sqn (a : Int) : 0 ≤ a * a := by
  rcases Int.le_total 0 a with h | h
  · exact Int.mul_nonneg h h
  · have := Int.mul_nonneg (Int.neg_nonneg.2 h) (Int.neg_nonneg.2 h); rwa [Int.neg_mul_neg] at this
theorem sq0 {a : Int} (h : a * a ≤ 0) : a = 0 := by
  have h1 := sqn a
  have h2 : a * a = 0 := by omega
  rcases Int.mul_eq_zero.1 h2 with h | h <;> exact h
theorem sq_pos (p q : Pt) : 0 ≤ sq p q := by unfold sq; have := sqn (p.1 - q.1); have := sqn (p.2 - q.2); omega
theorem sq_self (p : Pt) : sq p p = 0 := by unfold sq; simp
theorem sq_zero {p q : Pt} (h : sq p q ≤ 0) : p = q := by
  unfold sq at h
  have h1 := sqn (p.1 - q.1)
  have h2 := sqn (p.2 - q.2)
  have e1 := sq0 (a := p.1 - q.1) (by omega)
  have e2 := sq0 (a := p.2 - q.2) (by omega)
  exact Prod.ext (by omega) (by omega)
theorem sq_comm (p q : Pt) : sq p q = sq q p := by unfold sq; grind
theorem cr_swap (o p q : Pt) : cr o q p = -cr o p q := by unfold cr; grind
theorem cr_turn (o p q : Pt) : cr q p o = -cr o p q := by unfold cr; grind
theorem cr_self (o q : Pt) : cr o o q = 0 := by unfold cr; simp
theorem cr_back (o p : Pt) : cr o p o = 0 := by unfold cr; simp
theorem cr_end (o p : Pt) : cr o p p = 0 := by unfold cr; grind
theorem trip (u v : Int) (c a b d : Pt) : dt u v c b * cr c a d = dt u v c a * cr c b d + dt u v c d * cr c a b := by unfold dt cr; grind

/-- c is a corner of l: all other points of l are on one side of a line through c. -/
def Corner (l : List Pt) (c : Pt) : Prop := ∃ u v : Int, ∀ q ∈ l, q ≠ c → 0 < dt u v c q
/-- e follows c: no point is to the right of the way from c to e, and none on it is farther than e. -/
def Next (l : List Pt) (c e : Pt) : Prop := e ∈ l ∧ ∀ q ∈ l, 0 < cr c e q ∨ cr c e q = 0 ∧ sq c q ≤ sq c e

theorem inner (c e q : Pt) : sq c e - ((e.1 - c.1) * (q.1 - c.1) + (e.2 - c.2) * (q.2 - c.2)) = dt (c.1 - e.1) (c.2 - e.2) e q := by unfold sq dt; grind
theorem par {c e q : Pt} (h : sq c q ≤ sq c e) (h2 : dt (c.1 - e.1) (c.2 - e.2) e q ≤ 0) : q = e := by
  have h3 : sq e q = 2 * dt (c.1 - e.1) (c.2 - e.2) e q + sq c q - sq c e := by unfold sq dt; grind
  exact (sq_zero (p := e) (q := q) (by omega)).symm
/-- Two points on one line with c, both before c's line: on one side of c. -/
theorem same_side {u v : Int} {c a b : Pt} (h : cr c a b = 0) (ha : 0 < dt u v c a) (hb : 0 < dt u v c b) : 0 < (a.1 - c.1) * (b.1 - c.1) + (a.2 - c.2) * (b.2 - c.2) := by
  have e : sq c a * dt u v c b = ((a.1 - c.1) * (b.1 - c.1) + (a.2 - c.2) * (b.2 - c.2)) * dt u v c a + cr c a b * (v * (a.1 - c.1) - u * (a.2 - c.2)) := by unfold sq dt cr; grind
  rw [h, Int.zero_mul, Int.add_zero] at e
  have hs : 0 < sq c a := by
    have := sq_pos c a
    by_cases z : sq c a ≤ 0
    · have := sq_zero z
      subst this
      unfold dt at ha
      simp at ha
    · omega
  have hp := Int.mul_pos hs hb
  rw [e] at hp
  rw [Int.mul_comm] at hp
  exact Int.pos_of_mul_pos_right hp ha

theorem next_unique {l : List Pt} {c e e' : Pt} (hc : Corner l c) (h : Next l c e) (h' : Next l c e') : e = e' := by
  obtain ⟨u, v, hd⟩ := hc
  have h1 := h.2 e' h'.1
  have h2 := h'.2 e h.1
  have hs := cr_swap c e e'
  have e0 : cr c e e' = 0 := by omega
  have l1 : sq c e' ≤ sq c e := by omega
  have l2 : sq c e ≤ sq c e' := by omega
  by_cases z : e = c
  · rw [z] at l1 ⊢
    rw [sq_self] at l1
    exact sq_zero l1
  by_cases z' : e' = c
  · rw [z'] at l2 ⊢
    rw [sq_self] at l2
    exact (sq_zero l2).symm
  have hp := same_side e0 (hd e h.1 z) (hd e' h'.1 z')
  -- (u.v)^2 = |u|^2 |v|^2 = |u|^4
  have hl : ((e.1 - c.1) * (e'.1 - c.1) + (e.2 - c.2) * (e'.2 - c.2)) * ((e.1 - c.1) * (e'.1 - c.1) + (e.2 - c.2) * (e'.2 - c.2)) = sq c e * sq c e' - cr c e e' * cr c e e' := by unfold sq cr; grind
  rw [e0, Int.zero_mul, Int.sub_zero, show sq c e' = sq c e by omega] at hl
  have hi := inner c e e'
  generalize (e.1 - c.1) * (e'.1 - c.1) + (e.2 - c.2) * (e'.2 - c.2) = k at *
  have hk : k = sq c e := by
    have h0 := sq_pos c e
    generalize sq c e = m at *
    rcases Int.lt_trichotomy k m with t | t | t
    · have a1 := Int.mul_lt_mul_of_pos_left t hp
      have a2 := Int.mul_le_mul_of_nonneg_right (Int.le_of_lt t) h0
      omega
    · exact t
    · have a1 := Int.mul_le_mul_of_nonneg_right (Int.le_of_lt t) h0
      have a2 := Int.mul_lt_mul_of_pos_left t hp
      omega
  exact (par l1 (by omega)).symm
theorem next_corner {l : List Pt} {c e : Pt} (hb : ∀ q ∈ l, okP q = true) (hc : c ∈ l) (h : Next l c e) : Corner l e := by
  refine ⟨17179869184 * (-(e.2 - c.2)) + (c.1 - e.1), 17179869184 * (e.1 - c.1) + (c.2 - e.2), fun q hq hn => ?_⟩
  have e1 : dt (17179869184 * (-(e.2 - c.2)) + (c.1 - e.1)) (17179869184 * (e.1 - c.1) + (c.2 - e.2)) e q = 17179869184 * cr c e q + dt (c.1 - e.1) (c.2 - e.2) e q := by unfold dt cr; grind
  rw [e1]
  rcases h.2 q hq with g | ⟨g, g2⟩
  · obtain ⟨⟨q1, q2⟩, q3, q4⟩ := (okP_iff q).1 (hb q hq)
    obtain ⟨⟨c1, c2⟩, c3, c4⟩ := (okP_iff c).1 (hb c hc)
    obtain ⟨⟨e1, e2⟩, e3, e4⟩ := (okP_iff e).1 (hb e h.1)
    have m : ∀ a b : Int, -65536 ≤ a ∧ a ≤ 65536 → -65536 ≤ b ∧ b ≤ 65536 → -4294967296 ≤ a * b := by
      intro a b ha hb
      have h1 := Int.mul_nonneg (show 0 ≤ 65536 - a by omega) (show 0 ≤ 65536 - b by omega)
      have h2 := Int.mul_nonneg (show 0 ≤ 65536 + a by omega) (show 0 ≤ 65536 + b by omega)
      rw [Int.sub_mul, Int.mul_sub, Int.mul_sub] at h1
      rw [Int.add_mul, Int.mul_add, Int.mul_add] at h2
      omega
    unfold dt
    have m1 := m (c.1 - e.1) (q.1 - e.1) (by omega) (by omega)
    have m2 := m (c.2 - e.2) (q.2 - e.2) (by omega) (by omega)
    omega
  · have := mt (par g2) hn
    omega
theorem next_inj {l : List Pt} {a b c : Pt} (ha : a ∈ l) (hb : b ∈ l) (ca : Corner l a) (cb : Corner l b) (h : Next l a c) (h' : Next l b c) : a = b := by
  by_cases n : a = b
  · exact n
  exfalso
  have h1 := h.2 b hb
  have h2 := h'.2 a ha
  have t : cr b c a = -cr a c b := by unfold cr; grind
  have e0 : cr a c b = 0 := by omega
  have e1 : cr b c a = 0 := by omega
  have l1 : sq a b ≤ sq a c := by omega
  have l2 : sq b a ≤ sq b c := by omega
  have za : c ≠ a := by
    intro z
    rw [z, sq_self] at l1
    exact n (sq_zero l1)
  have zb : c ≠ b := by
    intro z
    rw [z, sq_self] at l2
    exact n (sq_zero l2).symm
  obtain ⟨u, v, hd⟩ := ca
  obtain ⟨u', v', hd'⟩ := cb
  have p1 := same_side e0 (hd c h.1 za) (hd b hb (fun x => n x.symm))
  have p2 := same_side e1 (hd' c h.1 zb) (hd' a ha n)
  -- the parts: |b - a|^2 = x + y with x = (c-a).(b-a), y = (c-b).(a-b)
  have s1 : (c.1 - a.1) * (b.1 - a.1) + (c.2 - a.2) * (b.2 - a.2) + ((c.1 - b.1) * (a.1 - b.1) + (c.2 - b.2) * (a.2 - b.2)) = sq a b := by unfold sq; grind
  have s2 : ((c.1 - a.1) * (b.1 - a.1) + (c.2 - a.2) * (b.2 - a.2)) * ((c.1 - a.1) * (b.1 - a.1) + (c.2 - a.2) * (b.2 - a.2)) = sq a b * sq a c - cr a c b * cr a c b := by unfold sq cr; grind
  rw [e0, Int.zero_mul, Int.sub_zero] at s2
  generalize (c.1 - a.1) * (b.1 - a.1) + (c.2 - a.2) * (b.2 - a.2) = x at *
  generalize (c.1 - b.1) * (a.1 - b.1) + (c.2 - b.2) * (a.2 - b.2) = y at *
  have k1 : x < sq a b := by omega
  have k2 := Int.mul_lt_mul_of_pos_left k1 p1
  have k3 := Int.mul_le_mul_of_nonneg_right (Int.le_of_lt k1) (sq_pos a b)
  have k4 := Int.mul_le_mul_of_nonneg_left l1 (sq_pos a b)
  omega

/-! ### The next corner, found in the order of the list -/
def better (c out q : Pt) : Bool := decide (out = c) || decide (cr c out q < 0) || (decide (cr c out q = 0) && decide (sq c out < sq c q))
def nstep (c out q : Pt) : Pt := if q = c then out else if better c out q = true then q else out
def nxt (l : List Pt) (c : Pt) : Pt := l.foldl (nstep c) c
def Inv (s : List Pt) (c out : Pt) : Prop := (out = c ∨ out ∈ s) ∧ ∀ q ∈ s, 0 < cr c out q ∨ cr c out q = 0 ∧ sq c q ≤ sq c out
theorem better_iff (c out q : Pt) : better c out q = true ↔ out = c ∨ cr c out q < 0 ∨ cr c out q = 0 ∧ sq c out < sq c q := by
  unfold better; rw [Bool.or_eq_true, Bool.or_eq_true, Bool.and_eq_true, decide_eq_true_eq, decide_eq_true_eq, decide_eq_true_eq, decide_eq_true_eq, or_assoc]
theorem inv_step {l s : List Pt} {c out q : Pt} (hc : Corner l c) (hs : ∀ p ∈ s, p ∈ l) (hq : q ∈ l) (h : Inv s c out) : Inv (s ++ [q]) c (nstep c out q) := by
  obtain ⟨u, v, hd⟩ := hc
  obtain ⟨h1, h2⟩ := h
  unfold nstep
  by_cases z : q = c
  · rw [if_pos z]
    refine ⟨h1.imp id (fun m => List.mem_append_left _ m), fun p hp => ?_⟩
    rcases List.mem_append.1 hp with m | m
    · exact h2 p m
    · rw [List.mem_singleton] at m
      rw [m, z, cr_back, sq_self]
      exact Or.inr ⟨rfl, sq_pos _ _⟩
  rw [if_neg z]
  by_cases g : better c out q = true
  · rw [if_pos g]
    refine ⟨Or.inr (List.mem_append_right _ (List.mem_singleton.2 rfl)), fun p hp => ?_⟩
    rcases List.mem_append.1 hp with m | m
    · have hp2 := h2 p m
      by_cases zp : p = c
      · rw [zp, cr_back, sq_self]
        exact Or.inr ⟨rfl, sq_pos _ _⟩
      by_cases zo : out = c
      · rw [zo, cr_self, sq_self] at hp2
        exact absurd (sq_zero (show sq c p ≤ 0 by omega)).symm zp
      have mo : out ∈ l := hs out (h1.resolve_left zo)
      have d1 := hd out mo zo
      have d2 := hd p (hs p m) zp
      have d3 := hd q hq z
      have t := trip u v c q out p
      have w := cr_swap c out q
      rcases (better_iff c out q).1 g with k | k | ⟨k, k2⟩
      · exact absurd k zo
      · -- q is to the right of out
        have e1 := Int.mul_pos d2 (show 0 < cr c q out by omega)
        have e2 : 0 ≤ dt u v c q * cr c out p := Int.mul_nonneg (Int.le_of_lt d3) (by omega)
        have e3 : 0 < dt u v c out * cr c q p := by omega
        exact Or.inl (Int.pos_of_mul_pos_right e3 d1)
      · rw [show cr c q out = 0 by omega, Int.mul_zero, Int.add_zero] at t
        rcases hp2 with j | ⟨j, j2⟩
        · have e2 := Int.mul_pos d3 j
          exact Or.inl (Int.pos_of_mul_pos_right (by rw [t]; exact e2) d1)
        · rw [j, Int.mul_zero] at t
          refine Or.inr ⟨(Int.mul_eq_zero.1 t).resolve_left (by omega), by omega⟩
    · rw [List.mem_singleton] at m
      rw [m, cr_end]
      exact Or.inr ⟨rfl, Int.le_refl _⟩
  · rw [if_neg g]
    refine ⟨h1.imp id (fun m => List.mem_append_left _ m), fun p hp => ?_⟩
    rcases List.mem_append.1 hp with m | m
    · exact h2 p m
    · rw [List.mem_singleton] at m
      rw [m]
      have k := mt (better_iff c out q).2 g
      have k1 : ¬ cr c out q < 0 := fun x => k (Or.inr (Or.inl x))
      by_cases k2 : cr c out q = 0
      · exact Or.inr ⟨k2, by have : ¬ sq c out < sq c q := fun x => k (Or.inr (Or.inr ⟨k2, x⟩)); omega⟩
      · exact Or.inl (by omega)
theorem inv_fold {l : List Pt} {c : Pt} (hc : Corner l c) : ∀ (r s : List Pt) (out : Pt), (∀ p ∈ s, p ∈ l) → (∀ p ∈ r, p ∈ l) → Inv s c out → Inv (s ++ r) c (r.foldl (nstep c) out)
  | [], s, out, _, _, h => by simpa using h
  | q :: r, s, out, hs, hr, h => by
    have h1 := inv_step hc hs (hr q (List.mem_cons_self ..)) h
    have h2 := inv_fold hc r (s ++ [q]) (nstep c out q) (fun p hp => by
      rcases List.mem_append.1 hp with m | m
      · exact hs p m
      · rw [List.mem_singleton] at m; rw [m]; exact hr q (List.mem_cons_self ..)) (fun p hp => hr p (List.mem_cons_of_mem _ hp)) h1
    rw [List.append_assoc] at h2
    exact h2
theorem nxt_next {l : List Pt} {c : Pt} (hc : Corner l c) (hm : c ∈ l) : Next l c (nxt l c) := by
  have h := inv_fold hc l [] c (fun _ h => by cases h) (fun _ h => h) ⟨Or.inl rfl, fun _ h => by cases h⟩
  rw [List.nil_append] at h
  refine ⟨?_, h.2⟩
  rcases h.1 with e | e
  · show l.foldl (nstep c) c ∈ l
    rw [e]; exact hm
  · exact e

/-! ### The first corner -/
def before (p q : Pt) : Bool := decide (p.1 < q.1) || (decide (p.1 = q.1) && decide (p.2 < q.2))
theorem before_iff (p q : Pt) : before p q = true ↔ p.1 < q.1 ∨ p.1 = q.1 ∧ p.2 < q.2 := by
  unfold before; rw [Bool.or_eq_true, Bool.and_eq_true, decide_eq_true_eq, decide_eq_true_eq, decide_eq_true_eq]
def lstep (f q : Pt) : Pt := if before q f = true then q else f
def low : List Pt → Pt
  | [] => (0, 0)
  | a :: l => (a :: l).foldl lstep a
theorem low_fold : ∀ (r : List Pt) (f : Pt), (r.foldl lstep f = f ∨ r.foldl lstep f ∈ r) ∧ before f (r.foldl lstep f) = false ∧ ∀ q ∈ r, before q (r.foldl lstep f) = false
  | [], f => ⟨Or.inl rfl, by rw [← Bool.not_eq_true, before_iff]; simp, fun _ h => by cases h⟩
  | q :: r, f => by
    obtain ⟨h1, h2, h3⟩ := low_fold r (lstep f q)
    have hs : lstep f q = q ∧ before q f = true ∨ lstep f q = f ∧ before q f = false := by
      unfold lstep
      by_cases g : before q f = true
      · rw [if_pos g]; exact Or.inl ⟨rfl, g⟩
      · rw [if_neg g]; exact Or.inr ⟨rfl, Bool.of_not_eq_true g⟩
    show (r.foldl lstep (lstep f q) = f ∨ r.foldl lstep (lstep f q) ∈ q :: r) ∧ before f (r.foldl lstep (lstep f q)) = false ∧ ∀ p ∈ q :: r, before p (r.foldl lstep (lstep f q)) = false
    generalize r.foldl lstep (lstep f q) = z at *
    have tr : ∀ a b : Pt, before a b = false ↔ b.1 < a.1 ∨ b.1 = a.1 ∧ b.2 ≤ a.2 := fun a b => by rw [← Bool.not_eq_true, before_iff]; omega
    rcases hs with ⟨e, g⟩ | ⟨e, g⟩
    · rw [e] at h1 h2
      rw [before_iff] at g
      refine ⟨h1.elim (fun x => Or.inr (by rw [x]; exact List.mem_cons_self ..)) (fun x => Or.inr (List.mem_cons_of_mem _ x)), ?_, fun p hp => ?_⟩
      · rw [tr] at h2 ⊢; omega
      · rcases List.mem_cons.1 hp with m | m
        · rw [m]; exact h2
        · exact h3 p m
    · rw [e] at h1 h2
      rw [tr] at g
      refine ⟨h1.imp id (fun x => List.mem_cons_of_mem _ x), h2, fun p hp => ?_⟩
      rcases List.mem_cons.1 hp with m | m
      · rw [m]; rw [tr] at h2 ⊢; omega
      · exact h3 p m
theorem low_mem {l : List Pt} (h : l ≠ []) : low l ∈ l := by
  cases l with
  | nil => exact absurd rfl h
  | cons a l =>
    rcases (low_fold (a :: l) a).1 with e | e
    · show (a :: l).foldl lstep a ∈ _
      rw [e]; exact List.mem_cons_self ..
    · exact e
theorem low_least {l : List Pt} {q : Pt} (h : q ∈ l) : (low l).1 < q.1 ∨ (low l).1 = q.1 ∧ (low l).2 ≤ q.2 := by
  cases l with
  | nil => cases h
  | cons a l =>
    have := (low_fold (a :: l) a).2.2 q h
    rw [← Bool.not_eq_true, before_iff] at this
    show (((a :: l).foldl lstep a).1 < q.1) ∨ _
    show _ ∨ ((a :: l).foldl lstep a).1 = q.1 ∧ ((a :: l).foldl lstep a).2 ≤ q.2
    omega
theorem low_eq {l : List Pt} {f : Pt} (hm : f ∈ l) (h : ∀ q ∈ l, f.1 < q.1 ∨ f.1 = q.1 ∧ f.2 ≤ q.2) : low l = f := by
  have hn : l ≠ [] := fun e => by rw [e] at hm; cases hm
  have h1 := h _ (low_mem hn)
  have h2 := low_least hm
  exact Prod.ext (by omega) (by omega)
theorem low_corner {l : List Pt} (h : l ≠ []) (hb : ∀ q ∈ l, okP q = true) : Corner l (low l) := by
  refine ⟨131072, 1, fun q hq hn => ?_⟩
  have h1 := low_least hq
  have h2 := (okP_iff q).1 (hb q hq)
  have h3 := (okP_iff _).1 (hb _ (low_mem h))
  unfold dt
  have h4 : ¬ (q.1 = (low l).1 ∧ q.2 = (low l).2) := fun x => hn (Prod.ext x.1 x.2)
  omega

/-! ### The walk around the hull -/
def itn (l : List Pt) : Nat → Pt
  | 0 => low l
  | k + 1 => nxt l (itn l k)
theorem itn_ok {l : List Pt} (h : l ≠ []) (hb : ∀ q ∈ l, okP q = true) : ∀ k, itn l k ∈ l ∧ Corner l (itn l k)
  | 0 => ⟨low_mem h, low_corner h hb⟩
  | k + 1 => by
    obtain ⟨h1, h2⟩ := itn_ok h hb k
    have hn := nxt_next h2 h1
    exact ⟨hn.1, next_corner hb h1 hn⟩
theorem itn_next {l : List Pt} (h : l ≠ []) (hb : ∀ q ∈ l, okP q = true) (k : Nat) : Next l (itn l k) (itn l (k + 1)) :=
  nxt_next (itn_ok h hb k).2 (itn_ok h hb k).1
theorem itn_back {l : List Pt} (h : l ≠ []) (hb : ∀ q ∈ l, okP q = true) (d : Nat) : ∀ i, itn l i = itn l (i + d) → itn l 0 = itn l d
  | 0, e => by rw [Nat.zero_add] at e; exact e
  | i + 1, e => by
    refine itn_back h hb d i ?_
    have n1 := itn_next h hb i
    have n2 := itn_next h hb (i + d)
    rw [show i + d + 1 = i + 1 + d by omega, ← e] at n2
    exact next_inj (itn_ok h hb i).1 (itn_ok h hb (i + d)).1 (itn_ok h hb i).2 (itn_ok h hb (i + d)).2 n1 n2
theorem pigeon : ∀ (n : Nat) (l : List Pt) (f : Nat → Pt), l.length < n → (∀ i, i < n → f i ∈ l) → ∃ i j, i < j ∧ j < n ∧ f i = f j
  | 0, l, _, hl, _ => absurd hl (Nat.not_lt_zero _)
  | n + 1, l, f, hl, hm => by
    by_cases g : ∃ i, i < n ∧ f i = f n
    · obtain ⟨i, h1, h2⟩ := g
      exact ⟨i, n, h1, Nat.lt_succ_self _, h2⟩
    · have hn := hm n (Nat.lt_succ_self _)
      obtain ⟨i, j, h1, h2, h3⟩ := pigeon n (l.erase (f n)) f (by rw [List.length_erase_of_mem hn]; have : 0 < l.length := List.length_pos_of_mem hn; omega)
        (fun i hi => (List.mem_erase_of_ne (fun e => g ⟨i, hi, e⟩)).2 (hm i (by omega)))
      exact ⟨i, j, h1, by omega, h3⟩
theorem least {p : Nat → Prop} [DecidablePred p] : ∀ n, p n → ∃ m, m ≤ n ∧ p m ∧ ∀ k, k < m → ¬ p k
  | 0, h => ⟨0, Nat.le_refl _, h, fun _ h => absurd h (Nat.not_lt_zero _)⟩
  | n + 1, h => by
    by_cases g : ∃ m, m ≤ n ∧ p m
    · obtain ⟨m, h1, h2⟩ := g
      obtain ⟨k, h3, h4, h5⟩ := least m h2
      exact ⟨k, by omega, h4, h5⟩
    · exact ⟨n + 1, Nat.le_refl _, h, fun k hk hp => g ⟨k, by omega, hp⟩⟩
/-- The number of corners. -/
def period (l : List Pt) : Nat := ((List.range l.length).find? (fun k => decide (itn l (k + 1) = low l))).getD 0 + 1
theorem period_spec {l : List Pt} (h : l ≠ []) (hb : ∀ q ∈ l, okP q = true) :
    1 ≤ period l ∧ period l ≤ l.length ∧ itn l (period l) = low l ∧ ∀ k, 0 < k → k < period l → itn l k ≠ low l := by
  obtain ⟨i, j, h1, h2, h3⟩ := pigeon (l.length + 1) l (itn l) (Nat.lt_succ_self _) (fun i _ => (itn_ok h hb i).1)
  have h4 := itn_back h hb (j - i) i (by rw [show i + (j - i) = j by omega]; exact h3)
  have hp : ∃ k, k < l.length ∧ itn l (k + 1) = low l := ⟨j - i - 1, by omega, by rw [show j - i - 1 + 1 = j - i by omega]; exact h4.symm⟩
  unfold period
  cases hf : (List.range l.length).find? (fun k => decide (itn l (k + 1) = low l)) with
  | none =>
    obtain ⟨k, hk, hk2⟩ := hp
    have := List.find?_eq_none.1 hf k (List.mem_range.2 hk)
    exact absurd (decide_eq_true hk2) this
  | some m =>
    have hm := List.find?_some hf
    have hl := List.mem_range.1 (List.mem_of_find?_eq_some hf)
    rw [decide_eq_true_eq] at hm
    refine ⟨Nat.le_add_left _ _, hl, hm, fun k hk hk2 e => ?_⟩
    obtain ⟨h5, h6⟩ := List.find?_eq_some_iff_append.1 hf
    obtain ⟨as, bs, h7, h8⟩ := h6
    have hk3 : k - 1 ∈ as := by
      have hlen : as.length = m := by
        have := congrArg (fun x => x[as.length]?) h7
        simp at this
        have ha : as.length < l.length := by
          have := congrArg List.length h7
          simp at this
          omega
        rw [List.getElem?_range ha] at this
        simpa using this
      have := congrArg (fun x => x[k - 1]?) h7
      rw [List.getElem?_range (by simp at hk2; omega), List.getElem?_append_left (by simp at hk2; omega)] at this
      exact List.mem_of_getElem? this.symm
    have := h8 _ hk3
    simp [show k - 1 + 1 = k by omega, e] at this
/-- The hull's corners, in their order. -/
def hull (l : List Pt) : List Pt := if l = [] then [] else (List.range (period l)).map (itn l)
theorem hull_nil : hull [] = [] := rfl
theorem hull_ne {l : List Pt} (h : l ≠ []) : hull l = (List.range (period l)).map (itn l) := by unfold hull; rw [if_neg h]
theorem hull_len {l : List Pt} (h : l ≠ []) : (hull l).length = period l := by rw [hull_ne h]; simp
theorem hull_at {l : List Pt} (h : l ≠ []) {k : Nat} (hk : k < period l) : (hull l)[k]? = some (itn l k) := by rw [hull_ne h]; simp [hk]
theorem hull_mem {l : List Pt} {p : Pt} (h : p ∈ hull l) : l ≠ [] ∧ ∃ k, k < period l ∧ p = itn l k := by
  by_cases e : l = []
  · rw [e, hull_nil] at h; cases h
  · rw [hull_ne e] at h
    obtain ⟨k, h1, h2⟩ := List.mem_map.1 h
    exact ⟨e, k, List.mem_range.1 h1, h2.symm⟩
/-- The corner behind corner k. -/
theorem itn_mod {l : List Pt} (h : l ≠ []) (hb : ∀ q ∈ l, okP q = true) {k : Nat} (hk : k < period l) : itn l (k + 1) = itn l ((k + 1) % period l) := by
  by_cases e : k + 1 < period l
  · rw [Nat.mod_eq_of_lt e]
  · have : k + 1 = period l := by omega
    rw [this, Nat.mod_self]
    exact (period_spec h hb).2.2.1
/-- What starts at the least point and goes from each corner to the next, round to the first, is the hull. -/
theorem hull_unique {l : List Pt} (h : l ≠ []) (hb : ∀ q ∈ l, okP q = true) (m : List Pt) (hm : 0 < m.length) (h0 : m[0]? = some (low l))
    (hs : ∀ k a b, m[k]? = some a → m[(k + 1) % m.length]? = some b → Next l a b) (hd : ∀ k a, 0 < k → m[k]? = some a → a ≠ low l) : m = hull l := by
  have hi : ∀ k, k < m.length → m[k]? = some (itn l k) := by
    intro k
    induction k with
    | zero => intro _; exact h0
    | succ k ih =>
      intro hk
      have h1 := ih (by omega)
      obtain ⟨b, hb2⟩ : ∃ b, m[k + 1]? = some b := ⟨m[k + 1], List.getElem?_eq_getElem hk⟩
      have h2 := hs k _ _ h1 (by rw [Nat.mod_eq_of_lt hk]; exact hb2)
      rw [hb2, next_unique (itn_ok h hb k).2 h2 (itn_next h hb k)]
  obtain ⟨p1, p2, p3, p4⟩ := period_spec h hb
  have hl : m.length = period l := by
    have e1 := hi (m.length - 1) (by omega)
    have e2 := hs (m.length - 1) _ _ e1 (by rw [show m.length - 1 + 1 = m.length by omega, Nat.mod_self]; exact h0)
    have e3 := next_unique (itn_ok h hb (m.length - 1)).2 e2 (itn_next h hb _)
    rw [show m.length - 1 + 1 = m.length by omega] at e3
    rcases Nat.lt_trichotomy m.length (period l) with t | t | t
    · exact absurd e3.symm (p4 _ hm t)
    · exact t
    · exact absurd p3 (hd (period l) _ p1 (hi _ t))
  refine List.ext_getElem? fun k => ?_
  by_cases hk : k < m.length
  · rw [hi k hk, hull_at h (by omega)]
  · rw [List.getElem?_eq_none (by omega), List.getElem?_eq_none (by rw [hull_len h]; omega)]
/-- The hull of the corners is the hull. -/
theorem hull_hull {l : List Pt} (hb : ∀ q ∈ l, okP q = true) : hull (hull l) = hull l := by
  by_cases h : l = []
  · rw [h]; rfl
  obtain ⟨p1, p2, p3, p4⟩ := period_spec h hb
  have hsub : ∀ q ∈ hull l, q ∈ l := fun q hq => by
    obtain ⟨_, k, _, e⟩ := hull_mem hq
    rw [e]; exact (itn_ok h hb k).1
  have hlen := hull_len h
  have hne : hull l ≠ [] := fun e => by rw [e] at hlen; simp at hlen; omega
  have hmem : ∀ k, k < period l → itn l k ∈ hull l := fun k hk => List.mem_of_getElem? (hull_at h hk)
  have h0 : low (hull l) = low l := low_eq (hmem 0 (by omega)) (fun q hq => low_least (hsub q hq))
  symm
  refine hull_unique hne (fun q hq => hb q (hsub q hq)) (hull l) (by omega) (by rw [hull_at h (by omega), h0]; rfl) ?_ ?_
  · intro k a b ha hb'
    have hk : k < period l := by
      by_cases g : k < period l
      · exact g
      · rw [List.getElem?_eq_none (by omega)] at ha; cases ha
    rw [hull_at h hk] at ha
    rw [hlen, hull_at h (Nat.mod_lt _ (by omega))] at hb'
    obtain rfl := Option.some.inj ha
    obtain rfl := Option.some.inj hb'
    rw [← itn_mod h hb hk]
    have hn := itn_next h hb k
    refine ⟨?_, fun q hq => hn.2 q (hsub q hq)⟩
    rw [itn_mod h hb hk]
    exact hmem _ (Nat.mod_lt _ (by omega))
  · intro k a hk ha
    have hk2 : k < period l := by
      by_cases g : k < period l
      · exact g
      · rw [List.getElem?_eq_none (by omega)] at ha; cases ha
    rw [hull_at h hk2] at ha
    obtain rfl := Option.some.inj ha
    rw [h0]
    exact p4 k hk hk2

/-! ### Measures -/
def distE (p q : Pt) : Int := if (okP p && okP q) = true then 0 else 1
def distV (p q : Pt) : Int := if (okP p && okP q) = true then sq p q else 0
def crossE (o p q : Pt) : Int := if (okP o && (okP p && okP q)) = true then 0 else 1
def crossV (o p q : Pt) : Int := if (okP o && (okP p && okP q)) = true then cr o p q else 0
def along (p a b : Pt) : Int := (p.1 - a.1) * (b.1 - a.1) + (p.2 - a.2) * (b.2 - a.2)
/-- Near, of what is valid. -/
def nearB (p a b : Pt) (r : Int) : Bool :=
  if along p a b ≤ 0 then decide (sq p a ≤ r * r) else if sq a b ≤ along p a b then decide (sq p b ≤ r * r) else decide (cr a b p * cr a b p ≤ r * r * sq a b)
def nearOk (p a b : Pt) (r : Int) : Bool := okP p && okP a && (okP b && okR r)
def nrE (p a b : Pt) (r : Int) : Int := if nearOk p a b r = true then 0 else 1
def nrV (p a b : Pt) (r : Int) : Bool := nearOk p a b r && nearB p a b r
theorem nearOk_swap (p a b : Pt) (r : Int) : nearOk p b a r = nearOk p a b r := by unfold nearOk; cases okP p <;> cases okP a <;> cases okP b <;> cases okR r <;> rfl
theorem along_swap (p a b : Pt) : along p b a = sq a b - along p a b := by unfold along sq; grind
theorem nearB_swap (p a b : Pt) (r : Int) : nearB p b a r = nearB p a b r := by
  unfold nearB
  rw [along_swap, sq_comm b a]
  have hs := sq_pos a b
  have hc : cr b a p * cr b a p = cr a b p * cr a b p := by unfold cr; grind
  rw [hc]
  by_cases h1 : along p a b ≤ 0
  · by_cases h2 : sq a b ≤ along p a b
    · have z : a = b := sq_zero (by omega)
      rw [if_pos h1, if_pos (by omega), z]
    · rw [if_pos h1, if_neg (by omega), if_pos (by omega)]
  · by_cases h2 : sq a b ≤ along p a b
    · rw [if_neg h1, if_pos h2, if_pos (by omega)]
    · rw [if_neg h1, if_neg h2, if_neg (by omega), if_neg (by omega)]
theorem near_swap (p a b : Pt) (r : Int) : nrV p b a r = nrV p a b r ∧ nrE p b a r = nrE p a b r := by
  unfold nrV nrE; rw [nearOk_swap, nearB_swap]; exact ⟨rfl, rfl⟩
/-! ### Touch: by the differences (x, y) of the starts, (u, v) of the ways, and the sum r of the radii -/
structure Mo where
  f : Pt
  t : Pt
  r : Int
def okM (m : Mo) : Bool := okP m.f && (okP m.t && okR m.r)
def hitB (x y u v r : Int) : Bool :=
  decide (x * x + y * y < r * r) || decide ((x + u) * (x + u) + (y + v) * (y + v) < r * r) ||
    (decide (0 < -(x * u + y * v)) && decide (-(x * u + y * v) < u * u + v * v) && decide ((x * v - y * u) * (x * v - y * u) < r * r * (u * u + v * v)))
def touchB (p q : Mo) : Bool := hitB (p.f.1 - q.f.1) (p.f.2 - q.f.2) (p.t.1 - q.t.1 - (p.f.1 - q.f.1)) (p.t.2 - q.t.2 - (p.f.2 - q.f.2)) (p.r + q.r)
def touchE (p q : Mo) : Int := if (okM p && okM q) = true then 0 else 1
def touchV (p q : Mo) : Bool := okM p && okM q && touchB p q
theorem hitB_neg (x y u v r : Int) : hitB (-x) (-y) (-u) (-v) r = hitB x y u v r := by
  unfold hitB
  rw [show -x * -x = x * x by grind, show -y * -y = y * y by grind, show (-x + -u) * (-x + -u) = (x + u) * (x + u) by grind, show (-y + -v) * (-y + -v) = (y + v) * (y + v) by grind,
    show -x * -u = x * u by grind, show -y * -v = y * v by grind, show -u * -u = u * u by grind, show -v * -v = v * v by grind, show -x * -v = x * v by grind, show -y * -u = y * u by grind]
theorem hitB_back (x y u v r : Int) : hitB (x + u) (y + v) (-u) (-v) r = hitB x y u v r := by
  have e1 : (x + u + -u) * (x + u + -u) + (y + v + -v) * (y + v + -v) = x * x + y * y := by grind
  have e2 : -((x + u) * -u + (y + v) * -v) = (u * u + v * v) - -(x * u + y * v) := by grind
  have e3 : -u * -u + -v * -v = u * u + v * v := by grind
  have e4 : ((x + u) * -v - (y + v) * -u) * ((x + u) * -v - (y + v) * -u) = (x * v - y * u) * (x * v - y * u) := by grind
  unfold hitB
  rw [e1, e2, e3, e4]
  have e5 : decide (0 < (u * u + v * v) - -(x * u + y * v)) = decide (-(x * u + y * v) < u * u + v * v) := decide_eq_decide.2 (by omega)
  have e6 : decide ((u * u + v * v) - -(x * u + y * v) < u * u + v * v) = decide (0 < -(x * u + y * v)) := decide_eq_decide.2 (by omega)
  rw [e5, e6]
  cases decide (x * x + y * y < r * r) <;> cases decide ((x + u) * (x + u) + (y + v) * (y + v) < r * r) <;> cases decide (0 < -(x * u + y * v)) <;> cases decide (-(x * u + y * v) < u * u + v * v) <;> rfl
theorem touch_swap (p q : Mo) : touchV q p = touchV p q ∧ touchE q p = touchE p q := by
  have e : touchB q p = touchB p q := by
    unfold touchB
    rw [← hitB_neg (p.f.1 - q.f.1)]
    rw [show -(p.f.1 - q.f.1) = q.f.1 - p.f.1 by omega, show -(p.f.2 - q.f.2) = q.f.2 - p.f.2 by omega, show -(p.t.1 - q.t.1 - (p.f.1 - q.f.1)) = q.t.1 - p.t.1 - (q.f.1 - p.f.1) by omega,
      show -(p.t.2 - q.t.2 - (p.f.2 - q.f.2)) = q.t.2 - p.t.2 - (q.f.2 - p.f.2) by omega, Int.add_comm p.r]
  unfold touchV touchE
  rw [e, Bool.and_comm (okM q)]
  exact ⟨rfl, rfl⟩
theorem touch_back (p q : Mo) : touchV ⟨p.t, p.f, p.r⟩ ⟨q.t, q.f, q.r⟩ = touchV p q ∧ touchE ⟨p.t, p.f, p.r⟩ ⟨q.t, q.f, q.r⟩ = touchE p q := by
  have e : touchB ⟨p.t, p.f, p.r⟩ ⟨q.t, q.f, q.r⟩ = touchB p q := by
    unfold touchB
    rw [← hitB_back (p.f.1 - q.f.1)]
    show hitB (p.t.1 - q.t.1) (p.t.2 - q.t.2) (p.f.1 - q.f.1 - (p.t.1 - q.t.1)) (p.f.2 - q.f.2 - (p.t.2 - q.t.2)) (p.r + q.r) = _
    rw [show p.f.1 - q.f.1 + (p.t.1 - q.t.1 - (p.f.1 - q.f.1)) = p.t.1 - q.t.1 by omega, show p.f.2 - q.f.2 + (p.t.2 - q.t.2 - (p.f.2 - q.f.2)) = p.t.2 - q.t.2 by omega,
      show -(p.t.1 - q.t.1 - (p.f.1 - q.f.1)) = p.f.1 - q.f.1 - (p.t.1 - q.t.1) by omega, show -(p.t.2 - q.t.2 - (p.f.2 - q.f.2)) = p.f.2 - q.f.2 - (p.t.2 - q.t.2) by omega]
  have k : ∀ m : Mo, okM ⟨m.t, m.f, m.r⟩ = okM m := fun m => by unfold okM; cases okP m.f <;> cases okP m.t <;> cases okR m.r <;> rfl
  unfold touchV touchE
  rw [e, k, k]
  exact ⟨rfl, rfl⟩
/-- Discs that do not touch are apart at each moment k / n. -/
theorem apart {x y u v r n k : Int} (h : hitB x y u v r = false) (_hr : 0 ≤ r) (hk : 0 ≤ k) (hn : k ≤ n) (hn1 : 1 ≤ n) :
    (r * n) * (r * n) ≤ (x * n + u * k) * (x * n + u * k) + (y * n + v * k) * (y * n + v * k) := by
  unfold hitB at h
  rw [Bool.or_eq_false_iff, Bool.or_eq_false_iff, decide_eq_false_iff_not, decide_eq_false_iff_not] at h
  obtain ⟨⟨h1, h2⟩, h3⟩ := h
  rw [Bool.and_eq_false_iff, Bool.and_eq_false_iff, decide_eq_false_iff_not, decide_eq_false_iff_not, decide_eq_false_iff_not] at h3
  have E : (x * n + u * k) * (x * n + u * k) + (y * n + v * k) * (y * n + v * k) = (n * n) * (x * x + y * y) + 2 * ((n * k) * (x * u + y * v)) + (k * k) * (u * u + v * v) := by grind
  have R : (r * n) * (r * n) = (n * n) * (r * r) := by grind
  have X2 : (x + u) * (x + u) + (y + v) * (y + v) = (x * x + y * y) + 2 * (x * u + y * v) + (u * u + v * v) := by grind
  have C : (x * v - y * u) * (x * v - y * u) = (x * x + y * y) * (u * u + v * v) - (x * u + y * v) * (x * u + y * v) := by grind
  rw [X2] at h2
  rw [C] at h3
  rw [E, R]
  have hA := Int.add_nonneg (sqn u) (sqn v)
  generalize x * x + y * y = D at *
  generalize x * u + y * v = B at *
  generalize u * u + v * v = A at *
  generalize r * r = Q at *
  clear E R X2 C
  have hn2 : 0 ≤ n * n := sqn n
  have hk2 : 0 ≤ k * k := sqn k
  have hnk : 0 ≤ n * k := Int.mul_nonneg (by omega) hk
  have g1 : 0 ≤ (n * n) * (D - Q) := Int.mul_nonneg hn2 (by omega)
  rw [Int.mul_sub] at g1
  rcases h3 with (h3 | h3) | h3
  · -- they do not come nearer
    have g2 : 0 ≤ (n * k) * B := Int.mul_nonneg hnk (by omega)
    have g3 : 0 ≤ (k * k) * A := Int.mul_nonneg hk2 hA
    omega
  · -- they come nearer until the end
    have h4 : 0 ≤ D + 2 * B + A - Q := by omega
    -- at the moment k/n: D + 2B t + A t^2, falling up to 1
    have g2 : 0 ≤ (n * n) * (D + 2 * B + A - Q) := Int.mul_nonneg hn2 h4
    have g3 : 0 ≤ (n - k) * ((n - k) * A) := Int.mul_nonneg (by omega) (Int.mul_nonneg (by omega) hA)
    have g4 : 0 ≤ (n * (n - k)) * (-B - A) := Int.mul_nonneg (Int.mul_nonneg (by omega) (by omega)) (by omega)
    have e : (n * n) * D + 2 * ((n * k) * B) + (k * k) * A - (n * n) * Q = (n * n) * (D + 2 * B + A - Q) + 2 * ((n * (n - k)) * (-B - A)) + (n - k) * ((n - k) * A) := by grind
    omega
  · by_cases hz : A = 0
    · by_cases hb : 0 ≤ B
      · have g2 : 0 ≤ (n * k) * B := Int.mul_nonneg hnk hb
        have g3 : 0 ≤ (k * k) * A := Int.mul_nonneg hk2 hA
        omega
      · have h4 : 0 ≤ D + 2 * B + A - Q := by omega
        have g2 : 0 ≤ (n * n) * (D + 2 * B + A - Q) := Int.mul_nonneg hn2 h4
        have g3 : 0 ≤ (n - k) * ((n - k) * A) := Int.mul_nonneg (by omega) (Int.mul_nonneg (by omega) hA)
        have g4 : 0 ≤ (n * (n - k)) * (-B - A) := Int.mul_nonneg (Int.mul_nonneg (by omega) (by omega)) (by omega)
        have e : (n * n) * D + 2 * ((n * k) * B) + (k * k) * A - (n * n) * Q = (n * n) * (D + 2 * B + A - Q) + 2 * ((n * (n - k)) * (-B - A)) + (n - k) * ((n - k) * A) := by grind
        omega
    · -- A (n^2 D + 2 n k B + k^2 A) = (k A + n B)^2 + n^2 (D A - B^2)
      have e : A * ((n * n) * D + 2 * ((n * k) * B) + (k * k) * A - (n * n) * Q) = (k * A + n * B) * (k * A + n * B) + (n * n) * (D * A - B * B - Q * A) := by grind
      have g2 := sqn (k * A + n * B)
      have g3 : 0 ≤ (n * n) * (D * A - B * B - Q * A) := Int.mul_nonneg hn2 (by omega)
      have g4 : 0 ≤ A * ((n * n) * D + 2 * ((n * k) * B) + (k * k) * A - (n * n) * Q) := by omega
      have g5 := Int.nonneg_of_mul_nonneg_right g4 (show 0 < A by omega)
      omega
theorem touch_apart {p q : Mo} (h : touchV p q = false) (he : touchE p q = 0) {n k : Int} (hk : 0 ≤ k) (hn : k ≤ n) (hn1 : 1 ≤ n) :
    (p.r + q.r) * n * ((p.r + q.r) * n) ≤ ((p.f.1 - q.f.1) * (n - k) + (p.t.1 - q.t.1) * k) * ((p.f.1 - q.f.1) * (n - k) + (p.t.1 - q.t.1) * k) + ((p.f.2 - q.f.2) * (n - k) + (p.t.2 - q.t.2) * k) * ((p.f.2 - q.f.2) * (n - k) + (p.t.2 - q.t.2) * k) := by
  have ho : (okM p && okM q) = true := by
    unfold touchE at he
    by_cases g : (okM p && okM q) = true
    · exact g
    · rw [if_neg g] at he; omega
  unfold touchV at h
  rw [ho, Bool.true_and] at h
  rw [Bool.and_eq_true] at ho
  have r1 := ho.1
  have r2 := ho.2
  unfold okM at r1 r2
  rw [Bool.and_eq_true, Bool.and_eq_true, okR_iff] at r1 r2
  have g := apart (n := n) (k := k) h (by omega) hk hn hn1
  rw [show (p.f.1 - q.f.1) * n + (p.t.1 - q.t.1 - (p.f.1 - q.f.1)) * k = (p.f.1 - q.f.1) * (n - k) + (p.t.1 - q.t.1) * k by grind,
    show (p.f.2 - q.f.2) * n + (p.t.2 - q.t.2 - (p.f.2 - q.f.2)) * k = (p.f.2 - q.f.2) * (n - k) + (p.t.2 - q.t.2) * k by grind] at g
  exact g

/-! ### Hull and Inside with their errors -/
def hullE (l : List Pt) : Int := if 16 < l.length then 3 else if l.all okP = true then 0 else 1
def hullL (l : List Pt) : List Pt := if hullE l = 0 then hull l else []
def at' (h : List Pt) (i : Nat) : Pt := h.getD i (0, 0)
def inB (p : Pt) (h : List Pt) : Bool :=
  if h.length = 0 then false else if h.length < 3 then nearB p (at' h 0) (at' h (h.length - 1)) 0 else (List.range h.length).all fun i => decide (0 ≤ cr (at' h i) (at' h ((i + 1) % h.length)) p)
def insideE (p : Pt) (l : List Pt) : Int := if hullE l = 0 then (if okP p = true then 0 else 1) else hullE l
def insideV (p : Pt) (l : List Pt) : Bool := decide (insideE p l = 0) && inB p (hull l)
theorem hullE_zero (l : List Pt) : hullE l = 0 ↔ l.length ≤ 16 ∧ ∀ q ∈ l, okP q = true := by
  unfold hullE
  by_cases h : 16 < l.length
  · rw [if_pos h]; omega
  · rw [if_neg h]
    by_cases g : l.all okP = true
    · rw [if_pos g]; exact ⟨fun _ => ⟨by omega, List.all_eq_true.1 g⟩, fun _ => rfl⟩
    · rw [if_neg g]; exact ⟨fun x => by omega, fun x => absurd (List.all_eq_true.2 x.2) g⟩
theorem hull_sub {l : List Pt} (hb : ∀ q ∈ l, okP q = true) : (∀ q ∈ hull l, q ∈ l) ∧ (hull l).length ≤ l.length ∧ (l ≠ [] → 0 < (hull l).length) := by
  by_cases h : l = []
  · rw [h]; exact ⟨fun q hq => hq, Nat.le_refl _, fun x => absurd rfl x⟩
  · have hp := period_spec h hb
    refine ⟨fun q hq => ?_, by rw [hull_len h]; exact hp.2.1, fun _ => by rw [hull_len h]; exact hp.1⟩
    obtain ⟨_, k, _, e⟩ := hull_mem hq
    rw [e]; exact (itn_ok h hb k).1
theorem hullE_hull {l : List Pt} (h : hullE l = 0) : hullE (hull l) = 0 := by
  rw [hullE_zero] at h ⊢
  obtain ⟨h1, h2⟩ := h
  have hs := hull_sub h2
  exact ⟨by omega, fun q hq => h2 q (hs.1 q hq)⟩
theorem hullL_again {l : List Pt} (h : hullE l = 0) : hullL (hull l) = hull l := by
  unfold hullL; rw [if_pos (hullE_hull h)]; exact hull_hull ((hullE_zero l).1 h).2
theorem inside_again {l : List Pt} (p : Pt) (h : hullE l = 0) : insideE p (hull l) = insideE p l ∧ insideV p (hull l) = insideV p l := by
  have e : insideE p (hull l) = insideE p l := by unfold insideE; rw [if_pos h, if_pos (hullE_hull h)]
  refine ⟨e, ?_⟩
  unfold insideV
  rw [e, hull_hull ((hullE_zero l).1 h).2]
theorem hull_get {l : List Pt} (h : l ≠ []) {k : Nat} (hk : k < period l) : at' (hull l) k = itn l k := by
  unfold at'; rw [List.getD_eq_getElem?_getD, hull_at h hk]; rfl
/-- Each point lies in the hull. -/
theorem inside_own {l : List Pt} {q : Pt} (h : hullE l = 0) (hq : q ∈ l) : insideE q l = 0 ∧ insideV q l = true := by
  have hb := ((hullE_zero l).1 h).2
  have hne : l ≠ [] := fun e => by rw [e] at hq; cases hq
  have e : insideE q l = 0 := by unfold insideE; rw [if_pos h, if_pos (hb q hq)]
  refine ⟨e, ?_⟩
  unfold insideV
  rw [decide_eq_true e, Bool.true_and]
  obtain ⟨p1, p2, p3, p4⟩ := period_spec hne hb
  have hl := hull_len hne
  unfold inB
  rw [if_neg (by omega)]
  by_cases g : (hull l).length < 3
  · rw [if_pos g, hl, hull_get hne p1, hull_get hne (show period l - 1 < period l by omega)]
    have n1 := (itn_next hne hb (period l - 1)).2 q hq
    rw [show period l - 1 + 1 = period l by omega, p3] at n1
    have n0 := (itn_next hne hb 0).2 q hq
    have c0 := (itn_ok hne hb 0).2
    show nearB q (low l) _ 0 = true
    have hc : period l = 1 ∨ period l = 2 := by omega
    rcases hc with hc | hc
    · rw [hc] at n1 ⊢
      change 0 < cr (low l) (low l) q ∨ _ ∧ sq (low l) q ≤ sq (low l) (low l) at n1
      rw [cr_self, sq_self] at n1
      have z := sq_zero (show sq (low l) q ≤ 0 by omega)
      show nearB q (low l) (low l) 0 = true
      rw [← z]
      unfold nearB along
      simp [sq_self]
    · rw [hc] at n1 ⊢
      change 0 < cr (itn l 1) (low l) q ∨ cr (itn l 1) (low l) q = 0 ∧ sq (itn l 1) q ≤ sq (itn l 1) (low l) at n1
      change 0 < cr (low l) (itn l 1) q ∨ cr (low l) (itn l 1) q = 0 ∧ sq (low l) q ≤ sq (low l) (itn l 1) at n0
      have c0' : Corner l (low l) := c0
      show nearB q (low l) (itn l 1) 0 = true
      have hd : itn l 1 ≠ low l := p4 1 (by omega) (by omega)
      have hm1 := (itn_ok hne hb 1).1
      generalize itn l 1 = b at *
      generalize low l = a at *
      have t : cr b a q = -cr a b q := by unfold cr; grind
      have z0 : cr a b q = 0 := by omega
      have l1 : sq a q ≤ sq a b := by omega
      unfold nearB
      by_cases k1 : along q a b ≤ 0
      · rw [if_pos k1]
        obtain ⟨u, v, hd'⟩ := c0'
        by_cases z : q = a
        · rw [z, sq_self]; rfl
        · have := same_side z0 (hd' b hm1 hd) (hd' q hq z)
          have e2 : along q a b = (b.1 - a.1) * (q.1 - a.1) + (b.2 - a.2) * (q.2 - a.2) := by unfold along; grind
          omega
      · rw [if_neg k1]
        by_cases k2 : sq a b ≤ along q a b
        · rw [if_pos k2]
          have e2 : along q a b = (b.1 - a.1) * (q.1 - a.1) + (b.2 - a.2) * (q.2 - a.2) := by unfold along; grind
          have hi := inner a b q
          rw [par l1 (by omega), sq_self]
          rfl
        · rw [if_neg k2, z0]
          simp
  · rw [if_neg g, List.all_eq_true]
    intro i hi
    rw [List.mem_range] at hi
    rw [hl] at hi ⊢
    rw [hull_get hne hi, hull_get hne (Nat.mod_lt _ p1), ← itn_mod hne hb hi]
    have := (itn_next hne hb i).2 q hq
    exact decide_eq_true (by omega)
/-- No point is to the right of a side. -/
theorem side_left {l : List Pt} {q : Pt} (h : hullE l = 0) (hq : q ∈ l) {k : Nat} (hk : k < (hull l).length) : 0 ≤ cr (at' (hull l) k) (at' (hull l) ((k + 1) % (hull l).length)) q := by
  have hb := ((hullE_zero l).1 h).2
  have hne : l ≠ [] := fun e => by rw [e] at hq; cases hq
  have hp := period_spec hne hb
  have hl := hull_len hne
  rw [hl] at hk ⊢
  rw [hull_get hne hk, hull_get hne (Nat.mod_lt _ hp.1), ← itn_mod hne hb hk]
  have := (itn_next hne hb k).2 q hq
  omega
/-- The other corners come behind the first. -/
theorem first_least {l : List Pt} (h : hullE l = 0) {k : Nat} (h0 : 0 < k) (hk : k < (hull l).length) : (at' (hull l) 0).1 < (at' (hull l) k).1 ∨ (at' (hull l) 0).1 = (at' (hull l) k).1 ∧ (at' (hull l) 0).2 < (at' (hull l) k).2 := by
  have hb := ((hullE_zero l).1 h).2
  have hne : l ≠ [] := fun e => by rw [e] at hk; simp [hull_nil] at hk
  have hp := period_spec hne hb
  have hl := hull_len hne
  rw [hl] at hk
  rw [hull_get hne hk, hull_get hne hp.1]
  have h1 := low_least (itn_ok hne hb k).1
  have h2 := hp.2.2.2 k h0 hk
  show (low l).1 < _ ∨ (low l).1 = _ ∧ (low l).2 < _
  have h3 : ¬ ((itn l k).1 = (low l).1 ∧ (itn l k).2 = (low l).2) := fun x => h2 (Prod.ext x.1 x.2)
  omega
theorem at_mem {h : List Pt} {k : Nat} (hk : k < h.length) : at' h k ∈ h := by
  unfold at'; rw [List.getD_eq_getElem?_getD, List.getElem?_eq_getElem hk]; exact List.getElem_mem hk

/-! ### Translations -/
def shift (p t : Pt) : Pt := (p.1 + t.1, p.2 + t.2)
theorem sq_shift (p q t : Pt) : sq (shift p t) (shift q t) = sq p q := by
  unfold sq shift; rw [show p.1 + t.1 - (q.1 + t.1) = p.1 - q.1 by omega, show p.2 + t.2 - (q.2 + t.2) = p.2 - q.2 by omega]
theorem cr_shift (o p q t : Pt) : cr (shift o t) (shift p t) (shift q t) = cr o p q := by
  unfold cr shift
  rw [show p.1 + t.1 - (o.1 + t.1) = p.1 - o.1 by omega, show p.2 + t.2 - (o.2 + t.2) = p.2 - o.2 by omega, show q.1 + t.1 - (o.1 + t.1) = q.1 - o.1 by omega, show q.2 + t.2 - (o.2 + t.2) = q.2 - o.2 by omega]
theorem nearB_shift (p a b t : Pt) (r : Int) : nearB (shift p t) (shift a t) (shift b t) r = nearB p a b r := by
  have e : along (shift p t) (shift a t) (shift b t) = along p a b := by
    unfold along shift
    rw [show p.1 + t.1 - (a.1 + t.1) = p.1 - a.1 by omega, show p.2 + t.2 - (a.2 + t.2) = p.2 - a.2 by omega, show b.1 + t.1 - (a.1 + t.1) = b.1 - a.1 by omega, show b.2 + t.2 - (a.2 + t.2) = b.2 - a.2 by omega]
  unfold nearB
  rw [e, sq_shift, sq_shift, sq_shift, cr_shift]
def halfP (p : Pt) : Bool := decide (-16384 ≤ p.1) && decide (p.1 ≤ 16384) && (decide (-16384 ≤ p.2) && decide (p.2 ≤ 16384))
theorem halfP_iff (p : Pt) : halfP p = true ↔ (-16384 ≤ p.1 ∧ p.1 ≤ 16384) ∧ (-16384 ≤ p.2 ∧ p.2 ≤ 16384) := by
  unfold halfP; rw [Bool.and_eq_true, Bool.and_eq_true, Bool.and_eq_true, decide_eq_true_eq, decide_eq_true_eq, decide_eq_true_eq, decide_eq_true_eq]
theorem half_ok {p : Pt} (h : halfP p = true) : okP p = true := by rw [halfP_iff] at h; rw [okP_iff]; omega
theorem shift_ok {p t : Pt} (h : halfP p = true) (ht : halfP t = true) : okP (shift p t) = true := by
  rw [halfP_iff] at h ht; rw [okP_iff]; unfold shift; show (-32768 ≤ p.1 + t.1 ∧ p.1 + t.1 ≤ 32768) ∧ -32768 ≤ p.2 + t.2 ∧ p.2 + t.2 ≤ 32768; omega
theorem near_shift {p a b t : Pt} {r : Int} (hp : halfP p = true) (ha : halfP a = true) (hb : halfP b = true) (ht : halfP t = true) :
    nrV (shift p t) (shift a t) (shift b t) r = nrV p a b r ∧ nrE (shift p t) (shift a t) (shift b t) r = nrE p a b r := by
  unfold nrV nrE nearOk
  rw [nearB_shift, shift_ok hp ht, shift_ok ha ht, shift_ok hb ht, half_ok hp, half_ok ha, half_ok hb]
  exact ⟨rfl, rfl⟩
theorem touch_shift {a b c d t : Pt} {r : Int} (ha : halfP a = true) (hb : halfP b = true) (hc : halfP c = true) (hd : halfP d = true) (ht : halfP t = true) :
    touchV ⟨shift a t, shift b t, r⟩ ⟨shift c t, shift d t, r⟩ = touchV ⟨a, b, r⟩ ⟨c, d, r⟩ ∧ touchE ⟨shift a t, shift b t, r⟩ ⟨shift c t, shift d t, r⟩ = touchE ⟨a, b, r⟩ ⟨c, d, r⟩ := by
  have e : touchB ⟨shift a t, shift b t, r⟩ ⟨shift c t, shift d t, r⟩ = touchB ⟨a, b, r⟩ ⟨c, d, r⟩ := by
    unfold touchB shift
    show hitB (a.1 + t.1 - (c.1 + t.1)) (a.2 + t.2 - (c.2 + t.2)) (b.1 + t.1 - (d.1 + t.1) - (a.1 + t.1 - (c.1 + t.1))) (b.2 + t.2 - (d.2 + t.2) - (a.2 + t.2 - (c.2 + t.2))) (r + r) = hitB (a.1 - c.1) (a.2 - c.2) (b.1 - d.1 - (a.1 - c.1)) (b.2 - d.2 - (a.2 - c.2)) (r + r)
    rw [show a.1 + t.1 - (c.1 + t.1) = a.1 - c.1 by omega, show a.2 + t.2 - (c.2 + t.2) = a.2 - c.2 by omega, show b.1 + t.1 - (d.1 + t.1) = b.1 - d.1 by omega, show b.2 + t.2 - (d.2 + t.2) = b.2 - d.2 by omega]
  unfold touchV touchE okM
  rw [e]
  show _ = (okP a && (okP b && okR r) && (okP c && (okP d && okR r)) && _) ∧ _ = if (okP a && (okP b && okR r) && (okP c && (okP d && okR r))) = true then 0 else 1
  rw [shift_ok ha ht, shift_ok hb ht, shift_ok hc ht, shift_ok hd ht, half_ok ha, half_ok hb, half_ok hc, half_ok hd]
  exact ⟨rfl, rfl⟩
end Go.Proofs.Ytnakacflaaelnaa.GeoP
