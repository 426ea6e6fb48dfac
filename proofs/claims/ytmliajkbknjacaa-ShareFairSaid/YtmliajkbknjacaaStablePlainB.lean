/-
  Merging in place, of equals the earlier first, and sorting by blocks, as plain mathematics. No word of the program. Condition: none.
-/
import Derived.Test.YtmliajkbknjacaaStablePlain
namespace Go.Proofs.Ytmliajkbknjacaa.StaP
section
variable {lt : Nat → Nat → Prop} {cf : Nat → Nat → Int} {a b m n i j k s e : Nat} {D E F G : Nat → Nat}
/-- Two sorted parts, all of the first earlier than all of the second. -/
structure Two (lt : Nat → Nat → Prop) (a m b : Nat) (D : Nat → Nat) : Prop where
  am : a < m
  mb : m < b
  s1 : Srt lt a m D
  s2 : Srt lt m b D
  cr : ∀ p q, a ≤ p → p < m → m ≤ q → q < b → D p < D q
/-- What a part has become: sorted. -/
structure Mg (lt : Nat → Nat → Prop) (a b : Nat) (D E : Nat → Nat) : Prop where
  rch : Rch a b D E
  srt : Srt lt a b E
theorem Srt.sub (h : Srt lt a b D) {c d : Nat} (h1 : a ≤ c) (h2 : d ≤ b) : Srt lt c d D := fun i j g1 g2 g3 => h i j (by omega) g2 (by omega)
/-! ### One element before -/
structure OneR (lt : Nat → Nat → Prop) (a b i j : Nat) (D : Nat → Nat) : Prop where
  i0 : a + 1 ≤ i
  ij : i ≤ j
  jb : j ≤ b
  lo : ∀ k, a + 1 ≤ k → k < i → lt (D k) (D a)
  hi : ∀ k, j ≤ k → k < b → lt (D a) (D k)
theorem oneR_start (h : a < b) : OneR lt a b (a + 1) b D := ⟨Nat.le_refl _, h, Nat.le_refl _, fun k h1 h2 => by omega, fun k h1 h2 => by omega⟩
theorem OneR.mid (h : OneR lt a b i j D) (hij : i < j) : a + 1 ≤ (i + j) / 2 ∧ (i + j) / 2 < b ∧ i ≤ (i + j) / 2 ∧ (i + j) / 2 < j := by
  have := h.i0; have := h.jb
  omega
theorem OneR.up (B : Bef lt cf) (t : Two lt a (a + 1) b D) (h : OneR lt a b i j D) (hij : i < j) (hc : cf (D ((i + j) / 2)) (D a) < 0) : OneR lt a b ((i + j) / 2 + 1) j D := by
  obtain ⟨m0, m1, m2, m3⟩ := h.mid hij
  have hl := (B.says _ _ (t.cr a _ (Nat.le_refl _) (by omega) m0 m1)).1 hc
  refine ⟨by omega, by omega, h.jb, fun k h1 h2 => ?_, h.hi⟩
  by_cases e : k = (i + j) / 2
  · rw [e]; exact hl
  · exact B.trans _ _ _ (t.s2 k _ h1 (by omega) m1) hl
theorem OneR.down (B : Bef lt cf) (t : Two lt a (a + 1) b D) (h : OneR lt a b i j D) (hij : i < j) (hc : ¬ cf (D ((i + j) / 2)) (D a) < 0) : OneR lt a b i ((i + j) / 2) D := by
  obtain ⟨m0, m1, m2, m3⟩ := h.mid hij
  have hl := B.no (t.cr a _ (Nat.le_refl _) (by omega) m0 m1) hc
  refine ⟨h.i0, by omega, by omega, h.lo, fun k h1 h2 => ?_⟩
  by_cases e : k = (i + j) / 2
  · rw [e]; exact hl
  · exact B.trans _ _ _ hl (t.s2 _ k m0 (by omega) h2)
theorem mvR_rch (hb : k < b) (ha : a ≤ k) : Rch a b D (mvR D a k) := by
  induction k with
  | zero =>
    obtain rfl : a = 0 := by omega
    rw [mvR_start]; exact .refl
  | succ k ih =>
    by_cases e : a = k + 1
    · subst e; rw [mvR_start]; exact .refl
    · rw [← mvR_step (by omega)]
      exact .step _ _ (ih (by omega) (by omega)) (by omega) (by omega) (by omega) hb
theorem OneR.stop (t : Two lt a (a + 1) b D) (h : OneR lt a b i i D) : Mg lt a b D (mvR D a (i - 1)) := by
  have h0 := h.i0
  have h1 := h.jb
  refine ⟨mvR_rch (by omega) (by omega), fun p q g1 g2 g3 => ?_⟩
  unfold mvR
  by_cases p1 : a ≤ p ∧ p < i - 1
  · rw [if_pos p1]
    by_cases q1 : a ≤ q ∧ q < i - 1
    · rw [if_pos q1]; exact t.s2 _ _ (by omega) (by omega) (by omega)
    · rw [if_neg q1]
      by_cases q2 : q = i - 1
      · rw [if_pos q2]; exact h.lo _ (by omega) (by omega)
      · rw [if_neg q2]; exact t.s2 _ _ (by omega) (by omega) (by omega)
  · rw [if_neg p1, if_neg (show ¬ (a ≤ q ∧ q < i - 1) by omega), if_neg (show ¬ q = i - 1 by omega)]
    by_cases p2 : p = i - 1
    · rw [if_pos p2]; exact h.hi _ (by omega) g3
    · rw [if_neg p2]; exact t.s2 _ _ (by omega) g2 g3
/-! ### One element behind -/
structure OneL (lt : Nat → Nat → Prop) (a m i j : Nat) (D : Nat → Nat) : Prop where
  i0 : a ≤ i
  ij : i ≤ j
  jm : j ≤ m
  lo : ∀ k, a ≤ k → k < i → lt (D k) (D m)
  hi : ∀ k, j ≤ k → k < m → lt (D m) (D k)
theorem oneL_start (h : a ≤ m) : OneL lt a m a m D := ⟨Nat.le_refl _, h, Nat.le_refl _, fun k h1 h2 => by omega, fun k h1 h2 => by omega⟩
theorem OneL.mid (h : OneL lt a m i j D) (hij : i < j) : a ≤ (i + j) / 2 ∧ (i + j) / 2 < m ∧ i ≤ (i + j) / 2 ∧ (i + j) / 2 < j := by
  have := h.i0; have := h.jm
  omega
theorem OneL.up (B : Bef lt cf) (t : Two lt a m (m + 1) D) (h : OneL lt a m i j D) (hij : i < j) (hc : ¬ cf (D m) (D ((i + j) / 2)) < 0) : OneL lt a m ((i + j) / 2 + 1) j D := by
  obtain ⟨m0, m1, m2, m3⟩ := h.mid hij
  have hl := B.no (t.cr _ m m0 m1 (Nat.le_refl _) (by omega)) hc
  refine ⟨by omega, by omega, h.jm, fun k h1 h2 => ?_, h.hi⟩
  by_cases e : k = (i + j) / 2
  · rw [e]; exact hl
  · exact B.trans _ _ _ (t.s1 k _ h1 (by omega) m1) hl
theorem OneL.down (B : Bef lt cf) (t : Two lt a m (m + 1) D) (h : OneL lt a m i j D) (hij : i < j) (hc : cf (D m) (D ((i + j) / 2)) < 0) : OneL lt a m i ((i + j) / 2) D := by
  obtain ⟨m0, m1, m2, m3⟩ := h.mid hij
  have hl := (B.says _ _ (t.cr _ m m0 m1 (Nat.le_refl _) (by omega))).1 hc
  refine ⟨h.i0, by omega, by omega, h.lo, fun k h1 h2 => ?_⟩
  by_cases e : k = (i + j) / 2
  · rw [e]; exact hl
  · exact B.trans _ _ _ hl (t.s1 _ k m0 (by omega) h2)
theorem mvL_rch (ha : a ≤ k) (hk : k ≤ m) (hb : m < b) : Rch a b D (mvL D m k) := by
  obtain ⟨d, hd⟩ : ∃ d, m - k = d := ⟨_, rfl⟩
  induction d generalizing k with
  | zero =>
    obtain rfl : k = m := by omega
    rw [mvL_start]; exact .refl
  | succ d ih =>
    rw [← mvL_step (by omega)]
    exact .step _ _ (ih (k := k + 1) (by omega) (by omega) (by omega)) (by omega) (by omega) ha (by omega)
theorem OneL.stop (t : Two lt a m (m + 1) D) (h : OneL lt a m i i D) : Mg lt a (m + 1) D (mvL D m i) := by
  have h0 := h.i0
  have h1 := h.jm
  refine ⟨mvL_rch h0 h1 (by omega), fun p q g1 g2 g3 => ?_⟩
  unfold mvL
  by_cases p1 : p = i
  · rw [if_pos p1, if_neg (show ¬ q = i by omega), if_pos (show i < q ∧ q ≤ m by omega)]
    exact h.hi _ (by omega) (by omega)
  · rw [if_neg p1]
    by_cases p2 : i < p ∧ p ≤ m
    · rw [if_pos p2, if_neg (show ¬ q = i by omega), if_pos (show i < q ∧ q ≤ m by omega)]
      exact t.s1 _ _ (by omega) (by omega) (by omega)
    · rw [if_neg p2]
      by_cases q1 : q = i
      · rw [if_pos q1]; exact h.lo _ g1 (by omega)
      · rw [if_neg q1]
        by_cases q2 : i < q ∧ q ≤ m
        · rw [if_pos q2]; exact t.s1 _ _ g1 (by omega) (by omega)
        · rw [if_neg q2]; exact t.s1 _ _ g1 g2 (by omega)
/-! ### Several of both -/
/-- The search for the place at which both parts are cut: n is the middle and m. -/
structure Cut (lt : Nat → Nat → Prop) (a m b n lo hi s r : Nat) (D : Nat → Nat) : Prop where
  en : n = (a + b) / 2 + m
  lo0 : ((a + b) / 2 < m ∧ lo = n - b ∧ hi = (a + b) / 2) ∨ (m ≤ (a + b) / 2 ∧ lo = a ∧ hi = m)
  ls : lo ≤ s
  sr : s ≤ r
  rh : r ≤ hi
  left : lo < s → lt (D (s - 1)) (D (n - s))
  right : r < hi → lt (D (n - 1 - r)) (D r)
theorem Cut.mid {lo hi r : Nat} (c : Cut lt a m b n lo hi s r D) (am : a < m) (mb : m < b) (h : s < r) : a ≤ (s + r) / 2 ∧ (s + r) / 2 < m ∧ m ≤ n - 1 - (s + r) / 2 ∧ n - 1 - (s + r) / 2 < b ∧ s ≤ (s + r) / 2 ∧ (s + r) / 2 < r := by
  obtain ⟨h1, h2, h3, h4, h5, -, -⟩ := c
  omega
theorem Cut.up {lo hi r : Nat} (B : Bef lt cf) (t : Two lt a m b D) (c : Cut lt a m b n lo hi s r D) (h : s < r) (hc : ¬ cf (D (n - 1 - (s + r) / 2)) (D ((s + r) / 2)) < 0) : Cut lt a m b n lo hi ((s + r) / 2 + 1) r D := by
  obtain ⟨m1, m2, m3, m4, m5, m6⟩ := c.mid t.am t.mb h
  have hl := B.no (t.cr _ _ m1 m2 m3 m4) hc
  refine ⟨c.en, c.lo0, by have := c.ls; omega, by omega, c.rh, fun _ => ?_, c.right⟩
  rw [Nat.add_sub_cancel, show n - ((s + r) / 2 + 1) = n - 1 - (s + r) / 2 by omega]
  exact hl
theorem Cut.down {lo hi r : Nat} (B : Bef lt cf) (t : Two lt a m b D) (c : Cut lt a m b n lo hi s r D) (h : s < r) (hc : cf (D (n - 1 - (s + r) / 2)) (D ((s + r) / 2)) < 0) : Cut lt a m b n lo hi s ((s + r) / 2) D := by
  obtain ⟨m1, m2, m3, m4, m5, m6⟩ := c.mid t.am t.mb h
  have hl := (B.says _ _ (t.cr _ _ m1 m2 m3 m4)).1 hc
  exact ⟨c.en, c.lo0, c.ls, by omega, by have := c.rh; omega, c.left, fun _ => hl⟩
/-- Where both parts are cut. -/
structure Pl (lt : Nat → Nat → Prop) (a m b s e : Nat) (D : Nat → Nat) : Prop where
  se : s + e = (a + b) / 2 + m
  a_s : a ≤ s
  sm : s ≤ m
  me : m ≤ e
  eb : e ≤ b
  left : a < s → e < b → lt (D (s - 1)) (D e)
  right : s < m → m < e → lt (D (e - 1)) (D s)
theorem Cut.stop {lo hi : Nat} (am : a < m) (mb : m < b) (c : Cut lt a m b n lo hi s s D) : Pl lt a m b s (n - s) D := by
  obtain ⟨h1, h2, h3, h4, h5, h6, h7⟩ := c
  refine ⟨by omega, by omega, by omega, by omega, by omega, fun g1 g2 => h6 (by omega), fun g1 g2 => ?_⟩
  rw [show n - s - 1 = n - 1 - s by omega]
  exact h7 (by omega)
theorem rot_id (h : a = m ∨ m = b) : rot D a m b = D := by
  funext k
  unfold rot
  by_cases c1 : a ≤ k ∧ k < a + (b - m)
  · rw [if_pos c1]; congr 1; omega
  · rw [if_neg c1]
    by_cases c2 : a + (b - m) ≤ k ∧ k < b
    · rw [if_pos c2]; congr 1; omega
    · rw [if_neg c2]
theorem rot_0 (h : k < a) : rot D a m b k = D k := by unfold rot; rw [if_neg (by omega), if_neg (by omega)]
theorem rot_1 (h : a ≤ k) (h2 : k < a + (b - m)) : rot D a m b k = D (k + (m - a)) := by unfold rot; rw [if_pos ⟨h, h2⟩]
theorem rot_2 (h : a + (b - m) ≤ k) (h2 : k < b) : rot D a m b k = D (k - (b - m)) := by unfold rot; rw [if_neg (by omega), if_pos ⟨h, h2⟩]
theorem rot_3 (h : b ≤ k) (ham : a ≤ m) (hmb : m ≤ b) : rot D a m b k = D k := by unfold rot; rw [if_neg (by omega), if_neg (by omega)]
variable (t : Two lt a m b D) (p : Pl lt a m b s e D)
include t p
/-- The first halves. -/
theorem Pl.two1 (h1 : a < s) (h2 : s < (a + b) / 2) : Two lt a s ((a + b) / 2) (rot D s m e) := by
  obtain ⟨p1, p2, p3, p4, p5, -, -⟩ := p
  obtain ⟨t1, t2, t3, t4, t5⟩ := t
  refine ⟨h1, h2, fun i j g1 g2 g3 => ?_, fun i j g1 g2 g3 => ?_, fun i j g1 g2 g3 g4 => ?_⟩
  · rw [rot_0 (by omega), rot_0 (by omega)]; exact t3 _ _ g1 g2 (by omega)
  · rw [rot_1 (by omega) (by omega), rot_1 (by omega) (by omega)]; exact t4 _ _ (by omega) (by omega) (by omega)
  · rw [rot_0 (by omega), rot_1 (by omega) (by omega)]; exact t5 _ _ g1 (by omega) (by omega) (by omega)
theorem Pl.two2 (h1 : (a + b) / 2 < e) (h2 : e < b) : Two lt ((a + b) / 2) e b (rot D s m e) := by
  obtain ⟨p1, p2, p3, p4, p5, -, -⟩ := p
  obtain ⟨t1, t2, t3, t4, t5⟩ := t
  refine ⟨h1, h2, fun i j g1 g2 g3 => ?_, fun i j g1 g2 g3 => ?_, fun i j g1 g2 g3 g4 => ?_⟩
  · rw [rot_2 (by omega) (by omega), rot_2 (by omega) (by omega)]; exact t3 _ _ (by omega) (by omega) (by omega)
  · rw [rot_3 (by omega) p3 p4, rot_3 (by omega) p3 p4]; exact t4 _ _ (by omega) g2 g3
  · rw [rot_2 (by omega) (by omega), rot_3 (by omega) p3 p4]; exact t5 _ _ (by omega) (by omega) (by omega) g4
theorem Pl.srt1 (h : ¬ (a < s ∧ s < (a + b) / 2)) : Srt lt a ((a + b) / 2) (rot D s m e) := by
  obtain ⟨p1, p2, p3, p4, p5, -, -⟩ := p
  obtain ⟨t1, t2, t3, t4, t5⟩ := t
  intro i j g1 g2 g3
  by_cases c : s = a
  · rw [rot_1 (by omega) (by omega), rot_1 (by omega) (by omega)]; exact t4 _ _ (by omega) (by omega) (by omega)
  · rw [rot_0 (by omega), rot_0 (by omega)]; exact t3 _ _ g1 g2 (by omega)
theorem Pl.srt2 (h : ¬ ((a + b) / 2 < e ∧ e < b)) : Srt lt ((a + b) / 2) b (rot D s m e) := by
  obtain ⟨p1, p2, p3, p4, p5, -, -⟩ := p
  obtain ⟨t1, t2, t3, t4, t5⟩ := t
  intro i j g1 g2 g3
  by_cases c : e = b
  · rw [rot_2 (by omega) (by omega), rot_2 (by omega) (by omega)]; exact t3 _ _ (by omega) (by omega) (by omega)
  · rw [rot_3 (by omega) p3 p4, rot_3 (by omega) p3 p4]; exact t4 _ _ (by omega) g2 g3
/-- All of the first half come before all of the second. -/
theorem Pl.split (B : Bef lt cf) : ∀ i j, a ≤ i → i < (a + b) / 2 → (a + b) / 2 ≤ j → j < b → lt (rot D s m e i) (rot D s m e j) := by
  obtain ⟨p1, p2, p3, p4, p5, p6, p7⟩ := p
  obtain ⟨t1, t2, t3, t4, t5⟩ := t
  intro i j g1 g2 g3 g4
  by_cases c1 : i < s
  · rw [rot_0 c1]
    by_cases c2 : j < e
    · rw [rot_2 (by omega) c2]; exact t3 _ _ g1 (by omega) (by omega)
    · rw [rot_3 (by omega) p3 p4]
      have h1 := p6 (by omega) (by omega)
      have h2 : lt (D i) (D e) := by
        by_cases x : i = s - 1
        · rw [x]; exact h1
        · exact B.trans _ _ _ (t3 i (s - 1) g1 (by omega) (by omega)) h1
      by_cases x : j = e
      · rw [x]; exact h2
      · exact B.trans _ _ _ h2 (t4 e j (by omega) (by omega) g4)
  · rw [rot_1 (by omega) (by omega)]
    by_cases c2 : j < e
    · rw [rot_2 (by omega) c2]
      have h1 := p7 (by omega) (by omega)
      have h2 : lt (D (i + (m - s))) (D s) := by
        by_cases x : i + (m - s) = e - 1
        · rw [x]; exact h1
        · exact B.trans _ _ _ (t4 _ (e - 1) (by omega) (by omega) (by omega)) h1
      by_cases x : j - (e - m) = s
      · rw [x]; exact h2
      · exact B.trans _ _ _ h2 (t3 s _ (by omega) (by omega) (by omega))
    · rw [rot_3 (by omega) p3 p4]; exact t4 _ _ (by omega) (by omega) g4
omit t p in
theorem swr_rch {c d : Nat} (ha : c ≤ a) (hab : a + n ≤ b) (hb : b + n ≤ d) : Rch c d D (swr D a b n) := by
  induction n with
  | zero => rw [swr_start]; exact .refl
  | succ n ih =>
    rw [← swr_step (by omega)]
    exact .step _ _ (ih (by omega) (by omega)) (by omega) (by omega) (by omega) (by omega)
/-- Both halves sorted, the whole is. -/
theorem Pl.done (B : Bef lt cf) (hr : Rch a b D (rot D s m e)) (h1 : Mg lt a ((a + b) / 2) (rot D s m e) F) (h2 : Mg lt ((a + b) / 2) b F G) : Mg lt a b D G := by
  have hab : a ≤ (a + b) / 2 ∧ (a + b) / 2 ≤ b := by have := t.am; have := t.mb; omega
  refine ⟨(hr.trans (h1.rch.mono (Nat.le_refl _) hab.2)).trans (h2.rch.mono hab.1 (Nat.le_refl _)), fun i j g1 g2 g3 => ?_⟩
  by_cases c1 : j < (a + b) / 2
  · rw [h2.rch.out (.inl (by omega)), h2.rch.out (.inl c1)]; exact h1.srt i j g1 g2 c1
  · by_cases c2 : (a + b) / 2 ≤ i
    · exact h2.srt i j c2 g2 g3
    · rw [h2.rch.out (.inl (by omega))]
      refine h2.rch.all (P := fun y => lt (F i) y) (fun k k1 k2 => ?_) j (by omega) g3
      rw [h1.rch.out (.inr k1)]
      exact h1.rch.all (P := fun x => lt x (rot D s m e k)) (fun l l1 l2 => p.split t B l k l1 l2 k1 k2) i g1 (by omega)
end
/-! ### Blocks -/
/-- Between two boundaries the list is sorted; across a boundary the earlier elements come first. -/
structure Inv (lt : Nat → Nat → Prop) (n : Nat) (W : Nat → Prop) (D : Nat → Nat) : Prop where
  srt : ∀ p q, p < q → q < n → (∀ x, p < x → x ≤ q → ¬ W x) → lt (D p) (D q)
  cr : ∀ p q, p < q → q < n → (∃ x, p < x ∧ x ≤ q ∧ W x) → D p < D q
section
variable {lt : Nat → Nat → Prop} {cf : Nat → Nat → Int} {a b m n : Nat} {D E : Nat → Nat} {W V : Nat → Prop}
theorem Inv.congr (h : Inv lt n W D) (e : ∀ x, x < n → (W x ↔ V x)) : Inv lt n V D :=
  ⟨fun p q h1 h2 h3 => h.srt p q h1 h2 fun x x1 x2 k => h3 x x1 x2 ((e x (by omega)).1 k), fun p q h1 h2 ⟨x, x1, x2, k⟩ => h.cr p q h1 h2 ⟨x, x1, x2, (e x (by omega)).2 k⟩⟩
theorem Inv.sorted (h : Inv lt n W D) (h1 : Mg lt a b D E) (hb : b ≤ n) (ha : a = 0 ∨ W a) (hbW : b = n ∨ W b) : Inv lt n (fun x => W x ∧ ¬ (a < x ∧ x < b)) E := by
  obtain ⟨hr, hs⟩ := h1
  constructor
  · intro p q hp hq hW
    by_cases c1 : q < a
    · rw [hr.out (.inl (by omega)), hr.out (.inl c1)]
      exact h.srt p q hp hq fun x x1 x2 k => hW x x1 x2 ⟨k, by omega⟩
    · by_cases c2 : p < a
      · exact absurd ⟨ha.resolve_left (by omega), by omega⟩ (hW a c2 (by omega))
      · by_cases c3 : q < b
        · exact hs p q (by omega) hp c3
        · by_cases c4 : p < b
          · exact absurd ⟨hbW.resolve_left (by omega), by omega⟩ (hW b c4 (by omega))
          · rw [hr.out (.inr (by omega)), hr.out (.inr (by omega))]
            exact h.srt p q hp hq fun x x1 x2 k => hW x x1 x2 ⟨k, by omega⟩
  · rintro p q hp hq ⟨x, x1, x2, xW, xn⟩
    by_cases p1 : a ≤ p ∧ p < b
    · by_cases q1 : q < b
      · omega
      · rw [hr.out (k := q) (.inr (by omega))]
        exact hr.all (P := fun y => y < D q) (fun k k1 k2 => h.cr k q (by omega) hq ⟨b, k2, by omega, hbW.resolve_left (by omega)⟩) p p1.1 p1.2
    · rw [hr.out (k := p) (by omega)]
      by_cases q1 : a ≤ q ∧ q < b
      · exact hr.all (P := fun y => D p < y) (fun k k1 k2 => h.cr p k (by omega) (by omega) ⟨a, by omega, k1, ha.resolve_left (by omega)⟩) q q1.1 q1.2
      · rw [hr.out (k := q) (by omega)]
        exact h.cr p q hp hq ⟨x, x1, x2, xW⟩
theorem Inv.two (h : Inv lt n W D) (am : a < m) (mb : m < b) (hb : b ≤ n) (hm : W m) (h1 : ∀ x, a < x → x < b → x ≠ m → ¬ W x) : Two lt a m b D :=
  ⟨am, mb, fun i j g1 g2 g3 => h.srt i j g2 (by omega) fun x x1 x2 => h1 x (by omega) (by omega) (by omega), fun i j g1 g2 g3 => h.srt i j g2 (by omega) fun x x1 x2 => h1 x (by omega) (by omega) (by omega),
    fun p q g1 g2 g3 g4 => h.cr p q (by omega) (by omega) ⟨m, g2, g3, hm⟩⟩
theorem inv_start (h : ∀ p q, p < q → q < n → D p < D q) : Inv lt n (fun _ => True) D := ⟨fun _ q h1 _ h3 => absurd trivial (h3 q h1 (Nat.le_refl _)), fun p q h1 h2 _ => h p q h1 h2⟩
theorem Inv.all (h : Inv lt n W D) (hW : ∀ x, 0 < x → x < n → ¬ W x) : Srt lt 0 n D := fun i j _ h2 h3 => h.srt i j h2 h3 fun x x1 x2 => hW x (by omega) (by omega)
end
end Go.Proofs.Ytmliajkbknjacaa.StaP
