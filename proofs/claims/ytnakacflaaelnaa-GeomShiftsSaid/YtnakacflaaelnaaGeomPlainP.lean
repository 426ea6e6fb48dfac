/-
  Plain facts of the program's own way through package geom: least distances from the origin, points that are picked by a comparison, and the hull with one more point. Condition: none.
-/
import Derived.Test.YtnakacflaaelnaaGeomPlain
import Derived.Test.YtnakacflaaelnaaNumPlainC
namespace Go.Proofs.Ytnakacflaaelnaa.GeoP
open NumP

def sub (p q : Pt) : Pt := (p.1 - q.1, p.2 - q.2)
def dotP (p q : Pt) : Int := p.1 * q.1 + p.2 * q.2
def crsP (p q : Pt) : Int := p.1 * q.2 - p.2 * q.1
/-- The least distance from the origin, on the way between f and t, against r. -/
def leastV (f t : Pt) (r : Int) : Int :=
  if 0 ≤ dotP f (sub t f) then cmp3 (dotP f f) (r * r) else if dotP t (sub t f) ≤ 0 then cmp3 (dotP t t) (r * r) else cmp3 (crsP f (sub t f) * crsP f (sub t f)) (r * r * dotP (sub t f) (sub t f))
theorem cmp3_le (p q : Int) : cmp3 p q ≤ 0 ↔ p ≤ q := by have := cmp3_iff p q; have := cmp3_bd p q; omega
theorem cmp3_neg (p q : Int) : cmp3 p q < 0 ↔ p < q := by have := cmp3_iff p q; have := cmp3_bd p q; omega
theorem near_least (p a b : Pt) (r : Int) : decide (leastV (sub a p) (sub b p) r ≤ 0) = nearB p a b r := by
  have e1 : dotP (sub a p) (sub (sub b p) (sub a p)) = -along p a b := by unfold dotP sub along; grind
  have e2 : dotP (sub b p) (sub (sub b p) (sub a p)) = sq a b - along p a b := by unfold dotP sub along sq; grind
  have e3 : dotP (sub a p) (sub a p) = sq p a := by unfold dotP sub sq; grind
  have e4 : dotP (sub b p) (sub b p) = sq p b := by unfold dotP sub sq; grind
  have e5 : crsP (sub a p) (sub (sub b p) (sub a p)) = cr a b p := by unfold crsP sub cr; grind
  have e6 : dotP (sub (sub b p) (sub a p)) (sub (sub b p) (sub a p)) = sq a b := by unfold dotP sub sq; grind
  unfold leastV nearB
  rw [e1, e2, e3, e4, e5, e6]
  by_cases h1 : along p a b ≤ 0
  · rw [if_pos (by omega), if_pos h1]; exact decide_eq_decide.2 (cmp3_le _ _)
  · rw [if_neg (by omega), if_neg h1]
    by_cases h2 : sq a b ≤ along p a b
    · rw [if_pos (by omega), if_pos h2]; exact decide_eq_decide.2 (cmp3_le _ _)
    · rw [if_neg (by omega), if_neg h2]; exact decide_eq_decide.2 (cmp3_le _ _)
/-- The least distance by the differences, as the specification has it. -/
theorem hit_least (x y u v r : Int) : decide (leastV (-x, -y) (-x - u, -y - v) r < 0) = hitB x y u v r := by
  have e1 : dotP (-x, -y) (sub (-x - u, -y - v) (-x, -y)) = x * u + y * v := by unfold dotP sub; grind
  have e2 : dotP (-x - u, -y - v) (sub (-x - u, -y - v) (-x, -y)) = x * u + y * v + (u * u + v * v) := by unfold dotP sub; grind
  have e3 : dotP (-x, -y) (-x, -y) = x * x + y * y := by unfold dotP; grind
  have e4 : dotP (-x - u, -y - v) (-x - u, -y - v) = (x + u) * (x + u) + (y + v) * (y + v) := by unfold dotP; grind
  have e5 : crsP (-x, -y) (sub (-x - u, -y - v) (-x, -y)) = x * v - y * u := by unfold crsP sub; grind
  have e6 : dotP (sub (-x - u, -y - v) (-x, -y)) (sub (-x - u, -y - v) (-x, -y)) = u * u + v * v := by unfold dotP sub; grind
  unfold leastV hitB
  rw [e1, e2, e3, e4, e5, e6]
  have i1 : (x + u) * (x + u) + (y + v) * (y + v) = x * x + y * y + 2 * (x * u + y * v) + (u * u + v * v) := by grind
  have i2 : (x * v - y * u) * (x * v - y * u) = (x * x + y * y) * (u * u + v * v) - (x * u + y * v) * (x * u + y * v) := by grind
  have i3 : (x * v - y * u) * (x * v - y * u) = ((x + u) * (x + u) + (y + v) * (y + v)) * (u * u + v * v) - (x * u + y * v + (u * u + v * v)) * (x * u + y * v + (u * u + v * v)) := by grind
  have p1 := sqn u
  have p2 := sqn v
  generalize (x + u) * (x + u) + (y + v) * (y + v) = B at *
  generalize hA : x * x + y * y = A at *
  generalize hW : u * u + v * v = W at *
  generalize hK : x * u + y * v = K at *
  generalize (x * v - y * u) * (x * v - y * u) = C at *
  generalize r * r = R at *
  have hW0 : 0 ≤ W := by omega
  by_cases h1 : 0 ≤ K
  · rw [if_pos h1]
    rw [Bool.eq_iff_iff, decide_eq_true_eq, cmp3_neg]
    simp only [Bool.or_eq_true, Bool.and_eq_true, decide_eq_true_eq]
    omega
  · rw [if_neg h1]
    by_cases h2 : K + W ≤ 0
    · rw [if_pos h2]
      rw [Bool.eq_iff_iff, decide_eq_true_eq, cmp3_neg]
      simp only [Bool.or_eq_true, Bool.and_eq_true, decide_eq_true_eq]
      omega
    · rw [if_neg h2]
      rw [Bool.eq_iff_iff, decide_eq_true_eq, cmp3_neg]
      simp only [Bool.or_eq_true, Bool.and_eq_true, decide_eq_true_eq]
      have hWp : 0 < W := by omega
      have q1 := sqn K
      have q2 := sqn (K + W)
      constructor
      · intro h; exact Or.inr ⟨⟨by omega, by omega⟩, h⟩
      · rintro ((h | h) | h)
        · have := Int.mul_lt_mul_of_pos_right h hWp; omega
        · have := Int.mul_lt_mul_of_pos_right h hWp; omega
        · exact h.2
theorem touch_least (p q : Mo) : decide (leastV (sub q.f p.f) (sub q.t p.t) (p.r + q.r) < 0) = touchB p q := by
  unfold touchB
  rw [← hit_least]
  have h1 : sub q.f p.f = (-(p.f.1 - q.f.1), -(p.f.2 - q.f.2)) := by unfold sub; exact Prod.ext (by simp only; omega) (by simp only; omega)
  have h2 : sub q.t p.t = (-(p.f.1 - q.f.1) - (p.t.1 - q.t.1 - (p.f.1 - q.f.1)), -(p.f.2 - q.f.2) - (p.t.2 - q.t.2 - (p.f.2 - q.f.2))) := by unfold sub; exact Prod.ext (by simp only; omega) (by simp only; omega)
  rw [h1, h2]

/-! ### Points that are picked -/
def orI (a b : Int) : Int := if a = 0 then b else a
/-- The first one that no other comes before. -/
def pickS (cf : Pt → Pt → Int) (m q : Pt) : Pt := if cf q m < 0 then q else m
def pick (cf : Pt → Pt → Int) (l : List Pt) : Pt := (l.drop 1).foldl (pickS cf) (at' l 0)
def pcmp (p q : Pt) : Int := orI (cmp3 p.1 q.1) (cmp3 p.2 q.2)
def rcmp (c p q : Pt) : Int := orI (cmp3 0 (crsP (sub p c) (sub q c))) (cmp3 (dotP (sub q c) (sub q c)) (dotP (sub p c) (sub p c)))
theorem pcmp_neg (p q : Pt) : pcmp p q < 0 ↔ before p q = true := by
  rw [before_iff]
  unfold pcmp orI
  have a := cmp3_iff p.1 q.1
  have b := cmp3_neg p.2 q.2
  have c := cmp3_neg p.1 q.1
  by_cases h : cmp3 p.1 q.1 = 0
  · rw [if_pos h]; omega
  · rw [if_neg h]; omega
theorem rcmp_neg (c p q : Pt) : rcmp c p q < 0 ↔ cr c q p < 0 ∨ cr c q p = 0 ∧ sq c q < sq c p := by
  have e1 : crsP (sub p c) (sub q c) = cr c p q := by unfold crsP sub cr; grind
  have e2 : ∀ p, dotP (sub p c) (sub p c) = sq c p := fun p => by unfold dotP sub sq; grind
  have e3 := cr_swap c q p
  unfold rcmp orI
  rw [e1, e2, e2]
  have a := cmp3_iff 0 (cr c p q)
  have b := cmp3_neg 0 (cr c p q)
  have d := cmp3_neg (sq c q) (sq c p)
  by_cases h : cmp3 0 (cr c p q) = 0
  · rw [if_pos h]; omega
  · rw [if_neg h]; omega
theorem pick_low {l : List Pt} (h : l ≠ []) : pick pcmp l = low l := by
  have hs : pickS pcmp = lstep := by
    funext m q
    unfold pickS lstep
    have := pcmp_neg q m
    by_cases g : before q m = true
    · rw [if_pos g, if_pos (this.2 g)]
    · rw [if_neg g, if_neg (mt this.1 g)]
  unfold pick
  rw [hs]
  cases l with
  | nil => exact absurd rfl h
  | cons a r =>
    show r.foldl lstep a = r.foldl lstep (lstep a a)
    rw [show lstep a a = a by unfold lstep; split <;> rfl]
theorem rstep_eq (c m q : Pt) : pickS (rcmp c) m q = nstep c m q := by
  unfold pickS nstep
  have h1 := rcmp_neg c q m
  have h2 := better_iff c m q
  by_cases g : q = c
  · rw [if_pos g, if_neg]
    rw [h1, g, cr_back, sq_self]
    have := sq_pos c m
    omega
  · rw [if_neg g]
    by_cases k : better c m q = true
    · rw [if_pos k, if_pos]
      rw [h1]
      rcases h2.1 k with z | z | z
      · subst z
        have h3 : ¬ sq m q ≤ 0 := fun z => g (sq_zero z).symm
        exact Or.inr ⟨cr_self m q, by rw [sq_self]; omega⟩
      · exact Or.inl z
      · exact Or.inr z
    · rw [if_neg k, if_neg]
      rw [h1]
      exact fun z => k (h2.2 (Or.inr z))
theorem pick_nxt {l : List Pt} (c : Pt) (h : l ≠ []) : pick (rcmp c) l = nxt l c := by
  have hs : pickS (rcmp c) = nstep c := by funext m q; exact rstep_eq c m q
  unfold pick
  rw [hs]
  cases l with
  | nil => exact absurd rfl h
  | cons a r =>
    show r.foldl (nstep c) a = r.foldl (nstep c) (nstep c c a)
    have : nstep c c a = a := by
      unfold nstep
      by_cases g : a = c
      · rw [if_pos g, g]
      · rw [if_neg g, if_pos ((better_iff c c a).2 (Or.inl rfl))]
    rw [this]

/-! ### The hull with one more point -/
theorem inB_own {l : List Pt} {q : Pt} (hb : ∀ q ∈ l, okP q = true) (hq : q ∈ l) : inB q (hull l) = true := by
  have hne : l ≠ [] := fun e => by rw [e] at hq; cases hq
  obtain ⟨p1, p2, p3, p4⟩ := period_spec hne hb
  have hl := hull_len hne
  unfold inB
  rw [if_neg (by omega)]
  by_cases g : (hull l).length < 3
  · rw [if_pos g, hl, hull_get hne p1, hull_get hne (show period l - 1 < period l by omega)]
    have n1 := (itn_next hne hb (period l - 1)).2 q hq
    rw [show period l - 1 + 1 = period l by omega, p3] at n1
    have n0 := (itn_next hne hb 0).2 q hq
    have c0 := (itn_ok hne hb 0).2
    show nearB q (low l) _ 0 = true
    have hc : period l = 1 ∨ period l = 2 := by omega
    rcases hc with hc | hc
    · rw [hc] at n1 ⊢
      change 0 < cr (low l) (low l) q ∨ _ ∧ sq (low l) q ≤ sq (low l) (low l) at n1
      rw [cr_self, sq_self] at n1
      have z := sq_zero (show sq (low l) q ≤ 0 by omega)
      show nearB q (low l) (low l) 0 = true
      rw [← z]
      unfold nearB along
      simp [sq_self]
    · rw [hc] at n1 ⊢
      change 0 < cr (itn l 1) (low l) q ∨ cr (itn l 1) (low l) q = 0 ∧ sq (itn l 1) q ≤ sq (itn l 1) (low l) at n1
      change 0 < cr (low l) (itn l 1) q ∨ cr (low l) (itn l 1) q = 0 ∧ sq (low l) q ≤ sq (low l) (itn l 1) at n0
      have c0' : Corner l (low l) := c0
      show nearB q (low l) (itn l 1) 0 = true
      have hd : itn l 1 ≠ low l := p4 1 (by omega) (by omega)
      have hm1 := (itn_ok hne hb 1).1
      generalize itn l 1 = b at *
      generalize low l = a at *
      have t : cr b a q = -cr a b q := by unfold cr; grind
      have z0 : cr a b q = 0 := by omega
      have l1 : sq a q ≤ sq a b := by omega
      unfold nearB
      by_cases k1 : along q a b ≤ 0
      · rw [if_pos k1]
        obtain ⟨u, v, hd'⟩ := c0'
        by_cases z : q = a
        · rw [z, sq_self]; rfl
        · have := same_side z0 (hd' b hm1 hd) (hd' q hq z)
          have e2 : along q a b = (b.1 - a.1) * (q.1 - a.1) + (b.2 - a.2) * (q.2 - a.2) := by unfold along; grind
          omega
      · rw [if_neg k1]
        by_cases k2 : sq a b ≤ along q a b
        · rw [if_pos k2]
          have e2 : along q a b = (b.1 - a.1) * (q.1 - a.1) + (b.2 - a.2) * (q.2 - a.2) := by unfold along; grind
          have hi := inner a b q
          rw [par l1 (by omega), sq_self]
          rfl
        · rw [if_neg k2, z0]
          simp
  · rw [if_neg g, List.all_eq_true]
    intro i hi
    rw [List.mem_range] at hi
    rw [hl] at hi ⊢
    rw [hull_get hne hi, hull_get hne (Nat.mod_lt _ p1), ← itn_mod hne hb hi]
    have := (itn_next hne hb i).2 q hq
    exact decide_eq_true (by omega)
theorem itn_per {l : List Pt} (h : l ≠ []) (hb : ∀ q ∈ l, okP q = true) : ∀ k, itn l (k + period l) = itn l k
  | 0 => by rw [Nat.zero_add]; exact (period_spec h hb).2.2.1
  | k + 1 => by
    have := itn_per h hb k
    rw [show k + 1 + period l = k + period l + 1 by omega]
    show nxt l (itn l (k + period l)) = nxt l (itn l k)
    rw [this]
theorem itn_mods {l : List Pt} (h : l ≠ []) (hb : ∀ q ∈ l, okP q = true) (k : Nat) : itn l k = itn l (k % period l) := by
  have hp := (period_spec h hb).1
  induction k using Nat.strongRecOn with
  | ind k ih =>
    by_cases g : k < period l
    · rw [Nat.mod_eq_of_lt g]
    · have := ih (k - period l) (by omega)
      rw [show itn l k = itn l (k - period l) by rw [← itn_per h hb (k - period l)]; congr 1; omega, this, ← Nat.mod_eq_sub_mod (by omega)]
/-- On the line through a and b: how far along. -/
theorem on_line {a b p : Pt} (h : cr a b p = 0) : sq a b * sq a p = along p a b * along p a b := by
  have e : sq a b * sq a p = along p a b * along p a b + cr a b p * cr a b p := by unfold sq along cr; grind
  rw [h] at e
  omega
theorem le_of_sq {s k : Int} (h1 : 0 ≤ k) (h2 : k ≤ s) : k * k ≤ s * s := by
  have a := Int.mul_le_mul_of_nonneg_right h2 h1
  have b := Int.mul_le_mul_of_nonneg_left h2 (show 0 ≤ s by omega)
  omega
theorem within {a b p : Pt} (h : cr a b p = 0) (hn : a ≠ b) (h1 : 0 ≤ along p a b) (h2 : along p a b ≤ sq a b) : sq a p ≤ sq a b := by
  have e := on_line h
  have s := sq_pos a b
  have hs : 0 < sq a b := by
    by_cases z : sq a b ≤ 0
    · exact absurd (sq_zero z) hn
    · omega
  have k := le_of_sq h1 h2
  rw [← e] at k
  exact Int.le_of_mul_le_mul_left k hs
theorem same_line {l : List Pt} {a b c : Pt} (ha : a ∈ l) (hbm : b ∈ l) (hc : c ∈ l) (ca : Corner l a) (cb : Corner l b) (h1 : a ≠ b) (h2 : a ≠ c) (h3 : b ≠ c) (hz : cr a b c = 0) (hd : sq b a ≤ sq b c) : False := by
  obtain ⟨u, v, hu⟩ := ca
  obtain ⟨u', v', hu'⟩ := cb
  have z1 : cr b a c = 0 := by have : cr b a c = -cr a b c := by unfold cr; grind
                               omega
  have s1 := same_side z1 (hu' a ha h1) (hu' c hc (Ne.symm h3))
  have s2 := same_side hz (hu b hbm (Ne.symm h1)) (hu c hc (Ne.symm h2))
  have e1 : ((a.1 - b.1) * (c.1 - b.1) + (a.2 - b.2) * (c.2 - b.2)) * ((a.1 - b.1) * (c.1 - b.1) + (a.2 - b.2) * (c.2 - b.2)) = sq b a * sq b c - cr b a c * cr b a c := by unfold sq cr; grind
  have e2 : (b.1 - a.1) * (c.1 - a.1) + (b.2 - a.2) * (c.2 - a.2) = sq b a - ((a.1 - b.1) * (c.1 - b.1) + (a.2 - b.2) * (c.2 - b.2)) := by unfold sq; grind
  rw [z1] at e1
  generalize (a.1 - b.1) * (c.1 - b.1) + (a.2 - b.2) * (c.2 - b.2) = x at *
  have hx : x < sq b a := by omega
  have q := Int.mul_lt_mul_of_pos_left hx s1
  have q2 := Int.mul_lt_mul_of_pos_right hx (show 0 < sq b a by omega)
  have q3 := Int.mul_le_mul_of_nonneg_left hd (sq_pos b a)
  omega
theorem turn_left {l : List Pt} (h : l ≠ []) (hb : ∀ q ∈ l, okP q = true) (hn : 3 ≤ period l) (k : Nat) : 0 < cr (itn l k) (itn l (k + 1)) (itn l (k + 2)) := by
  have hp := period_spec h hb
  have d1 : itn l k ≠ itn l (k + 1) := fun e => hp.2.2.2 1 (by omega) (by omega) (itn_back h hb 1 k e).symm
  have d2 : itn l k ≠ itn l (k + 2) := fun e => hp.2.2.2 2 (by omega) (by omega) (itn_back h hb 2 k e).symm
  have d3 : itn l (k + 1) ≠ itn l (k + 2) := fun e => hp.2.2.2 1 (by omega) (by omega) (itn_back h hb 1 (k + 1) e).symm
  have n1 := (itn_next h hb k).2 _ (itn_ok h hb (k + 2)).1
  have n2 := (itn_next h hb (k + 1)).2 _ (itn_ok h hb k).1
  have e := cr_turn (itn l k) (itn l (k + 1)) (itn l (k + 2))
  rcases n1 with n1 | n1
  · exact n1
  · exfalso
    have e2 : cr (itn l (k + 1)) (itn l (k + 1 + 1)) (itn l k) = cr (itn l k) (itn l (k + 1)) (itn l (k + 2)) := by unfold cr; grind
    rw [e2] at n2
    exact same_line (itn_ok h hb k).1 (itn_ok h hb (k + 1)).1 (itn_ok h hb (k + 2)).1 (itn_ok h hb k).2 (itn_ok h hb (k + 1)).2 d1 d2 d3 n1.1 (by have := n2; change _ ∨ _ ∧ sq (itn l (k + 1)) (itn l k) ≤ sq (itn l (k + 1)) (itn l (k + 2)) at this; omega)
/-- A point that is to the right of no side, on the line of one of them: no farther than its end. -/
theorem side_in {z a b c p : Pt} (hz : 0 < cr z a b) (hc : 0 < cr a b c) (h1 : 0 ≤ cr z a p) (h2 : cr a b p = 0) (h3 : 0 ≤ cr b c p) (hn : a ≠ b) : sq a p ≤ sq a b := by
  have e1 : sq a b * cr b c p = (sq a b - along p a b) * cr a b c + cr a b p * ((b.1 - a.1) * (c.1 - b.1) + (b.2 - a.2) * (c.2 - b.2)) := by unfold sq cr along; grind
  have e2 : sq a b * cr z a p = along p a b * cr z a b + cr a b p * ((a.1 - z.1) * (b.1 - a.1) + (a.2 - z.2) * (b.2 - a.2)) := by unfold sq cr along; grind
  rw [h2, Int.zero_mul, Int.add_zero] at e1 e2
  have s := sq_pos a b
  have k1 := Int.mul_nonneg s h3
  have k2 := Int.mul_nonneg s h1
  rw [e1] at k1
  rw [e2] at k2
  refine within h2 hn ?_ ?_
  · by_cases g : 0 ≤ along p a b
    · exact g
    · have := Int.mul_neg_of_neg_of_pos (show along p a b < 0 by omega) hz; omega
  · by_cases g : along p a b ≤ sq a b
    · exact g
    · have := Int.mul_neg_of_neg_of_pos (show sq a b - along p a b < 0 by omega) hc; omega
theorem lex_of {D A B e1 e2 f1 f2 w1 w2 : Int} (hD : 0 < D) (hA : 0 ≤ A) (hB : 0 ≤ B) (he : 0 < e1 ∨ e1 = 0 ∧ 0 ≤ e2) (hf : 0 < f1 ∨ f1 = 0 ∧ 0 ≤ f2) (h1 : D * w1 = A * e1 + B * f1) (h2 : D * w2 = A * e2 + B * f2) : 0 < w1 ∨ w1 = 0 ∧ 0 ≤ w2 := by
  have a1 := Int.mul_nonneg hA (show 0 ≤ e1 by omega)
  have b1 := Int.mul_nonneg hB (show 0 ≤ f1 by omega)
  have hw : 0 ≤ w1 := by
    by_cases g : 0 ≤ w1
    · exact g
    · have := Int.mul_neg_of_pos_of_neg hD (show w1 < 0 by omega); omega
  by_cases g : 0 < w1
  · exact Or.inl g
  · have w0 : w1 = 0 := by omega
    subst w0
    rw [Int.mul_zero] at h1
    refine Or.inr ⟨rfl, ?_⟩
    have z1 : 0 ≤ A * e2 := by
      rcases he with g | g
      · rcases Int.lt_or_eq_of_le hA with t | t
        · have := Int.mul_pos t g; omega
        · rw [← t]; omega
      · exact Int.mul_nonneg hA g.2
    have z2 : 0 ≤ B * f2 := by
      rcases hf with g | g
      · rcases Int.lt_or_eq_of_le hB with t | t
        · have := Int.mul_pos t g; omega
        · rw [← t]; omega
      · exact Int.mul_nonneg hB g.2
    by_cases g : 0 ≤ w2
    · exact g
    · have := Int.mul_neg_of_pos_of_neg hD (show w2 < 0 by omega); omega
theorem near_zero {p a b : Pt} (h : nearB p a b 0 = true) : p = a ∨ p = b ∨ cr a b p = 0 ∧ 0 < along p a b ∧ along p a b < sq a b := by
  unfold nearB at h
  by_cases h1 : along p a b ≤ 0
  · rw [if_pos h1, decide_eq_true_eq] at h; exact Or.inl (sq_zero (by omega))
  · rw [if_neg h1] at h
    by_cases h2 : sq a b ≤ along p a b
    · rw [if_pos h2, decide_eq_true_eq] at h; exact Or.inr (Or.inl (sq_zero (by omega)))
    · rw [if_neg h2, decide_eq_true_eq] at h
      exact Or.inr (Or.inr ⟨sq0 (by rw [Int.zero_mul, Int.zero_mul] at h; exact h), by omega, by omega⟩)
/-- What a point that lies in the hull adds: nothing. -/
theorem in_adds {l : List Pt} {p : Pt} (h : l ≠ []) (hb : ∀ q ∈ l, okP q = true) (hi : inB p (hull l) = true) :
    ((low l).1 < p.1 ∨ (low l).1 = p.1 ∧ (low l).2 ≤ p.2) ∧ ∀ k, k < period l → 0 < cr (itn l k) (itn l (k + 1)) p ∨ cr (itn l k) (itn l (k + 1)) p = 0 ∧ sq (itn l k) p ≤ sq (itn l k) (itn l (k + 1)) := by
  obtain ⟨p1, p2, p3, p4⟩ := period_spec h hb
  have hl := hull_len h
  unfold inB at hi
  rw [if_neg (by omega)] at hi
  by_cases g : (hull l).length < 3
  · rw [if_pos g, hl, hull_get h p1, hull_get h (show period l - 1 < period l by omega)] at hi
    have hc : period l = 1 ∨ period l = 2 := by omega
    rcases hc with hc | hc
    · rw [hc] at hi
      have e : p = low l := by
        have := near_zero hi
        change p = low l ∨ p = low l ∨ cr (low l) (low l) p = 0 ∧ 0 < along p (low l) (low l) ∧ along p (low l) (low l) < sq (low l) (low l) at this
        rw [sq_self] at this
        rcases this with e | e | e
        · exact e
        · exact e
        · omega
      subst e
      refine ⟨Or.inr ⟨rfl, Int.le_refl _⟩, fun k hk => ?_⟩
      have hk0 : k = 0 := by omega
      subst hk0
      have e1 : itn l (0 + 1) = low l := by rw [hc] at p3; exact p3
      rw [e1]
      show 0 < cr (low l) (low l) (low l) ∨ cr (low l) (low l) (low l) = 0 ∧ _
      exact Or.inr ⟨cr_self _ _, Int.le_refl _⟩
    · rw [hc] at hi
      change nearB p (low l) (itn l 1) 0 = true at hi
      have hd : itn l 1 ≠ low l := p4 1 (by omega) (by omega)
      have hx := low_least (itn_ok h hb 1).1
      have e2 : itn l 2 = low l := by rw [hc] at p3; exact p3
      have key : ((low l).1 < p.1 ∨ (low l).1 = p.1 ∧ (low l).2 ≤ p.2) ∧ cr (low l) (itn l 1) p = 0 ∧ sq (low l) p ≤ sq (low l) (itn l 1) ∧ sq (itn l 1) p ≤ sq (itn l 1) (low l) := by
        generalize itn l 1 = b at *
        generalize low l = a at *
        rcases near_zero hi with e | e | ⟨e1, e3, e4⟩
        · subst e
          refine ⟨Or.inr ⟨rfl, Int.le_refl _⟩, cr_back _ _, ?_, Int.le_refl _⟩
          rw [sq_self]; exact sq_pos _ _
        · subst e
          refine ⟨hx, cr_end _ _, Int.le_refl _, ?_⟩
          rw [sq_self]; exact sq_pos _ _
        · have s : 0 < sq a b := by omega
          refine ⟨?_, e1, within e1 (Ne.symm hd) (by omega) (by omega), ?_⟩
          · have i1 : sq a b * (p.1 - a.1) = along p a b * (b.1 - a.1) + 0 * (b.1 - a.1) := by
              have : sq a b * (p.1 - a.1) = along p a b * (b.1 - a.1) - cr a b p * (b.2 - a.2) := by unfold sq along cr; grind
              rw [this, e1]; omega
            have i2 : sq a b * (p.2 - a.2) = along p a b * (b.2 - a.2) + 0 * (b.2 - a.2) := by
              have : sq a b * (p.2 - a.2) = along p a b * (b.2 - a.2) + cr a b p * (b.1 - a.1) := by unfold sq along cr; grind
              rw [this, e1]; omega
            have := lex_of s (show 0 ≤ along p a b by omega) (Int.le_refl 0) (by omega) (by omega) i1 i2
            omega
          · have e5 : cr b a p = 0 := by have : cr b a p = -cr a b p := by unfold cr; grind
                                         omega
            have e6 : along p b a = sq b a - along p a b := by rw [along_swap, sq_comm]
            have e7 := sq_comm a b
            exact within e5 hd (by omega) (by omega)
      refine ⟨key.1, fun k hk => ?_⟩
      have hk2 : k = 0 ∨ k = 1 := by omega
      rcases hk2 with rfl | rfl
      · exact Or.inr ⟨key.2.1, key.2.2.1⟩
      · rw [show (1 : Nat) + 1 = 2 by rfl, e2]
        refine Or.inr ⟨?_, key.2.2.2⟩
        have : cr (itn l 1) (low l) p = -cr (low l) (itn l 1) p := by unfold cr; grind
        have := key.2.1
        omega
  · rw [if_neg g, List.all_eq_true, hl] at hi
    rw [hl] at g
    have hall : ∀ k, 0 ≤ cr (itn l k) (itn l (k + 1)) p := by
      intro k
      have hk : k % period l < period l := Nat.mod_lt _ p1
      have h1 := hi (k % period l) (List.mem_range.2 hk)
      rw [decide_eq_true_eq, hull_get h hk, hull_get h (Nat.mod_lt _ p1), ← itn_mods h hb (k % period l + 1), ← itn_mods h hb k] at h1
      have e : itn l (k % period l + 1) = itn l (k + 1) := by
        show nxt l (itn l (k % period l)) = nxt l (itn l k)
        rw [← itn_mods h hb k]
      rw [e] at h1
      exact h1
    have hst := turn_left h hb (by omega)
    refine ⟨?_, fun k hk => ?_⟩
    · have t := hst (period l - 1)
      have A := hall (period l - 1)
      have B := hall 0
      have x1 := low_least (itn_ok h hb 1).1
      have x2 := low_least (itn_ok h hb (period l - 1)).1
      rw [show period l - 1 + 2 = 1 + period l by omega, itn_per h hb 1] at t
      rw [show period l - 1 + 1 = period l by omega, p3] at t A
      change 0 ≤ cr (low l) (itn l 1) p at B
      generalize itn l 1 = b at *
      generalize low l = a at *
      generalize itn l (period l - 1) = z at *
      have i1 : cr z a b * (p.1 - a.1) = cr z a p * (b.1 - a.1) + cr a b p * (z.1 - a.1) := by unfold cr; grind
      have i2 : cr z a b * (p.2 - a.2) = cr z a p * (b.2 - a.2) + cr a b p * (z.2 - a.2) := by unfold cr; grind
      have := lex_of t A B (by omega) (by omega) i1 i2
      omega
    · rcases Int.lt_or_eq_of_le (hall k) with t | t
      · exact Or.inl t
      · refine Or.inr ⟨t.symm, ?_⟩
        have hp1 : itn l k = itn l (k + period l - 1 + 1) := by rw [show k + period l - 1 + 1 = k + period l by omega, itn_per h hb k]
        have hp2 : itn l (k + 1) = itn l (k + period l - 1 + 2) := by rw [show k + period l - 1 + 2 = k + 1 + period l by omega, itn_per h hb (k + 1)]
        have dn : itn l k ≠ itn l (k + 1) := fun e => p4 1 (by omega) (by omega) (itn_back h hb 1 k e).symm
        have a1 := hst (k + period l - 1)
        have a2 := hst k
        have a3 := hall (k + period l - 1)
        have a4 := hall (k + 1)
        rw [← hp1, ← hp2] at a1
        rw [← hp1] at a3
        exact side_in a1 a2 a3 t.symm a4 dn
theorem hull_more {l : List Pt} {p : Pt} (h : l ≠ []) (hb : ∀ q ∈ l, okP q = true) (hp : okP p = true) : hull (l ++ [p]) = hull l ↔ inB p (hull l) = true := by
  have hb2 : ∀ q ∈ l ++ [p], okP q = true := by
    intro q hq
    rcases List.mem_append.1 hq with g | g
    · exact hb q g
    · rw [List.mem_singleton.1 g]; exact hp
  constructor
  · intro e
    rw [← e]
    exact inB_own hb2 (List.mem_append.2 (Or.inr (List.mem_singleton.2 rfl)))
  · intro hi
    obtain ⟨h1, h2⟩ := in_adds h hb hi
    obtain ⟨p1, p2, p3, p4⟩ := period_spec h hb
    have hl := hull_len h
    have hlow : low (l ++ [p]) = low l := by
      refine low_eq (List.mem_append.2 (Or.inl (low_mem h))) fun q hq => ?_
      rcases List.mem_append.1 hq with g | g
      · exact low_least g
      · rw [List.mem_singleton.1 g]; exact h1
    refine (hull_unique (l := l ++ [p]) (by simp) hb2 (hull l) (by omega) (by rw [hlow, hull_at h p1]; rfl) ?_ ?_).symm
    · intro k a b ha hbk
      have hk : k < period l := by
        by_cases g : k < period l
        · exact g
        · rw [List.getElem?_eq_none (by omega)] at ha; cases ha
      rw [hull_at h hk] at ha
      rw [hl, hull_at h (Nat.mod_lt _ p1), ← itn_mod h hb hk] at hbk
      obtain rfl : itn l k = a := by injection ha
      obtain rfl : itn l (k + 1) = b := by injection hbk
      have hn := itn_next h hb k
      refine ⟨List.mem_append.2 (Or.inl hn.1), fun q hq => ?_⟩
      rcases List.mem_append.1 hq with g | g
      · exact hn.2 q g
      · rw [List.mem_singleton.1 g]; exact h2 k hk
    · intro k a h0 ha
      have hk : k < period l := by
        by_cases g : k < period l
        · exact g
        · rw [List.getElem?_eq_none (by omega)] at ha; cases ha
      rw [hull_at h hk] at ha
      obtain rfl : itn l k = a := by injection ha
      rw [hlow]
      exact p4 k h0 hk
/-- Inside, as the program finds it. -/
theorem inside_more {l : List Pt} {p : Pt} (hb : ∀ q ∈ l, okP q = true) (hp : okP p = true) : decide (hull (l ++ [p]) = hull l) = inB p (hull l) := by
  by_cases h : l = []
  · subst h
    have e : hull ([] ++ [p]) ≠ hull [] := by
      intro e
      have := congrArg List.length e
      rw [hull_len (by simp)] at this
      have h1 := (period_spec (l := [] ++ [p]) (by simp) (by intro q hq; rw [List.mem_singleton.1 hq]; exact hp)).1
      rw [hull_nil, List.length_nil] at this
      omega
    rw [decide_eq_false e, hull_nil]
    rfl
  · rw [Bool.eq_iff_iff, decide_eq_true_eq]
    exact hull_more h hb hp
end Go.Proofs.Ytnakacflaaelnaa.GeoP
