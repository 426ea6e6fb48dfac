/-
  Tempo maps: their errors, the moments of ticks, the tick of a moment. Nothing of the program. Condition: none.
-/
import Derived.Test.YtlepcahangkmiaaPairs
namespace Go.Proofs.Ytlepcahangkmiaa.TemP
open PairW

def okT (p : Pt) : Bool := decide (0 ≤ p.1) && decide (p.1 ≤ 8192) && decide (1 ≤ p.2) && decide (p.2 ≤ 4194304)
theorem okT_iff (p : Pt) : okT p = true ↔ (0 ≤ p.1 ∧ p.1 ≤ 8192) ∧ 1 ≤ p.2 ∧ p.2 ≤ 4194304 := by
  unfold okT
  simp only [Bool.and_eq_true, decide_eq_true_eq]
  omega
def Ok (l : List Pt) : Prop := ∀ p ∈ l, okT p = true
theorem ok_at {l : List Pt} (h : Ok l) {k : Nat} (hk : k < l.length) : (0 ≤ (at' l k).1 ∧ (at' l k).1 ≤ 8192) ∧ 1 ≤ (at' l k).2 ∧ (at' l k).2 ≤ 4194304 := (okT_iff _).1 (h _ (at_mem hk))
theorem all_ok {l : List Pt} : l.all okT = true ↔ Ok l := List.all_eq_true
theorem ok_upto {l : List Pt} (h : ∀ i, i < l.length → okT (at' l i) = true) : Ok l := by
  intro q hq
  obtain ⟨i, hi, e⟩ := List.mem_iff_getElem.1 hq
  have := h i hi
  unfold at' at this
  rw [List.getD_eq_getElem?_getD, List.getElem?_eq_getElem hi, Option.getD_some, e] at this
  exact this
/-! ### Errors -/
def ordB (l : List Pt) : Bool := decide ((at' l 0).1 = 0) && (List.range (l.length - 1)).all fun i => decide ((at' l i).1 < (at' l (i + 1)).1)
theorem ord_iff (l : List Pt) : ordB l = true ↔ (at' l 0).1 = 0 ∧ ∀ i, i + 1 < l.length → (at' l i).1 < (at' l (i + 1)).1 := by
  unfold ordB
  rw [Bool.and_eq_true, decide_eq_true_eq, List.all_eq_true]
  simp only [List.mem_range, decide_eq_true_eq]
  exact ⟨fun h => ⟨h.1, fun i hi => h.2 i (by omega)⟩, fun h => ⟨h.1, fun i hi => h.2 i (by omega)⟩⟩
def chkE (l : List Pt) : Int := if l.length = 0 then 4 else if 64 < l.length then 3 else if l.all okT = true then (if ordB l = true then 0 else 5) else 1
theorem chk_empty {l : List Pt} (h : l.length = 0) : chkE l = 4 := if_pos h
theorem chk_many {l : List Pt} (h : 64 < l.length) : chkE l = 3 := by unfold chkE; rw [if_neg (by omega), if_pos h]
theorem chk_bad {l : List Pt} {i : Nat} (h0 : l.length ≠ 0) (h : l.length ≤ 64) (hi : i < l.length) (hb : okT (at' l i) = false) : chkE l = 1 := by
  unfold chkE
  rw [if_neg h0, if_neg (by omega), if_neg]
  intro h2
  have := all_ok.1 h2 _ (at_mem hi)
  rw [hb] at this
  cases this
theorem chk_order {l : List Pt} (h0 : l.length ≠ 0) (h : l.length ≤ 64) (hb : Ok l) (ht : ordB l = false) : chkE l = 5 := by
  unfold chkE
  rw [if_neg h0, if_neg (by omega), if_pos (all_ok.2 hb), ht]
  rfl
theorem chk_first {l : List Pt} (h0 : l.length ≠ 0) (h : l.length ≤ 64) (hb : Ok l) (ht : (at' l 0).1 ≠ 0) : chkE l = 5 := by
  refine chk_order h0 h hb ?_
  cases e : ordB l
  · rfl
  · exact absurd ((ord_iff l).1 e).1 ht
theorem chk_back {l : List Pt} (h0 : l.length ≠ 0) (h : l.length ≤ 64) (hb : Ok l) {i : Nat} (hi : i + 1 < l.length) (ht : (at' l (i + 1)).1 ≤ (at' l i).1) : chkE l = 5 := by
  refine chk_order h0 h hb ?_
  cases e : ordB l
  · rfl
  · have := ((ord_iff l).1 e).2 i hi
    omega
/-- A tempo map. -/
structure Map (l : List Pt) : Prop where
  n0 : 0 < l.length
  n1 : l.length ≤ 64
  ok : Ok l
  first : (at' l 0).1 = 0
  asc : ∀ i, i + 1 < l.length → (at' l i).1 < (at' l (i + 1)).1
theorem chk_map {l : List Pt} : chkE l = 0 ↔ Map l := by
  constructor
  · intro h
    unfold chkE at h
    split at h
    · cases h
    · split at h
      · cases h
      · split at h
        · split at h
          · rename_i h0 h1 h2 h3
            have := (ord_iff l).1 h3
            exact ⟨by omega, by omega, all_ok.1 h2, this.1, this.2⟩
          · cases h
        · cases h
  · intro h
    have := h.n0
    have := h.n1
    unfold chkE
    rw [if_neg (by omega), if_neg (by omega), if_pos (all_ok.2 h.ok), if_pos ((ord_iff l).2 ⟨h.first, h.asc⟩)]
theorem asc_lt {l : List Pt} (h : Map l) : ∀ {j i : Nat}, i < j → j < l.length → (at' l i).1 < (at' l j).1
  | 0, i, h1, _ => absurd h1 (Nat.not_lt_zero _)
  | j + 1, i, h1, h2 => by
    have := h.asc j h2
    rcases Nat.lt_or_ge i j with x | x
    · have := asc_lt h x (by omega)
      omega
    · obtain rfl : i = j := by omega
      exact this
/-! ### Moments -/
/-- The moment of the tempo k. -/
def mo (l : List Pt) : Nat → Int
  | 0 => 0
  | k + 1 => mo l k + ((at' l (k + 1)).1 - (at' l k).1) * (at' l k).2
/-- The moment of a tick, reckoned from the tempo k. -/
def dl (l : List Pt) (k : Nat) (t : Int) : Int := mo l k + (t - (at' l k).1) * (at' l k).2
theorem mo_succ (l : List Pt) (k : Nat) : mo l (k + 1) = dl l k (at' l (k + 1)).1 := rfl
theorem dl_self (l : List Pt) (k : Nat) : dl l k (at' l k).1 = mo l k := by unfold dl; rw [Int.sub_self, Int.zero_mul, Int.add_zero]
theorem dl_succ (l : List Pt) (k : Nat) (t : Int) : dl l k (t + 1) = dl l k t + (at' l k).2 := by
  unfold dl
  rw [show t + 1 - (at' l k).1 = t - (at' l k).1 + 1 by omega, Int.add_mul, Int.one_mul]
  omega
theorem dl_le {l : List Pt} (h : Map l) {k : Nat} (hk : k < l.length) {t u : Int} (h1 : t ≤ u) : dl l k t ≤ dl l k u := by
  have := ok_at h.ok hk
  have : (t - (at' l k).1) * (at' l k).2 ≤ (u - (at' l k).1) * (at' l k).2 := Int.mul_le_mul_of_nonneg_right (by omega) (by omega)
  unfold dl
  omega
theorem mul_bd {a b m : Int} (ha : 0 ≤ a) (h1 : 1 ≤ b) (h2 : b ≤ m) : a ≤ a * b ∧ a * b ≤ m * a := by
  have e1 : a * 1 ≤ a * b := Int.mul_le_mul_of_nonneg_left h1 ha
  have e2 : a * b ≤ a * m := Int.mul_le_mul_of_nonneg_left h2 ha
  rw [Int.mul_comm a m] at e2
  omega
theorem mo_bound {l : List Pt} (h : Map l) : ∀ k, k < l.length → (at' l k).1 ≤ mo l k ∧ mo l k ≤ 4194304 * (at' l k).1
  | 0, _ => by
    have := h.first
    show (at' l 0).1 ≤ 0 ∧ 0 ≤ 4194304 * (at' l 0).1
    omega
  | k + 1, hk => by
    have ih := mo_bound h k (by omega)
    have ho := ok_at h.ok (k := k) (by omega)
    have ha := h.asc k hk
    have := mul_bd (a := (at' l (k + 1)).1 - (at' l k).1) (by omega) ho.2.1 ho.2.2
    show (at' l (k + 1)).1 ≤ mo l k + _ ∧ mo l k + _ ≤ _
    omega
theorem dl_bound {l : List Pt} (h : Map l) {k : Nat} (hk : k < l.length) {t : Int} (h1 : (at' l k).1 ≤ t) : t ≤ dl l k t ∧ dl l k t ≤ 4194304 * t := by
  have := mo_bound h k hk
  have ho := ok_at h.ok hk
  have := mul_bd (a := t - (at' l k).1) (by omega) ho.2.1 ho.2.2
  unfold dl
  omega
theorem mo_lt {l : List Pt} (h : Map l) {k : Nat} (hk : k + 1 < l.length) : mo l k < mo l (k + 1) := by
  have ho := ok_at h.ok (k := k) (by omega)
  have ha := h.asc k hk
  have := mul_bd (a := (at' l (k + 1)).1 - (at' l k).1) (by omega) ho.2.1 ho.2.2
  show _ < mo l k + _
  omega
theorem mo_mono {l : List Pt} (h : Map l) : ∀ {j i : Nat}, i < j → j < l.length → mo l i < mo l j
  | 0, i, h1, _ => absurd h1 (Nat.not_lt_zero _)
  | j + 1, i, h1, h2 => by
    have := mo_lt h h2
    rcases Nat.lt_or_ge i j with x | x
    · have := mo_mono h x (by omega)
      omega
    · obtain rfl : i = j := by omega
      exact this
/-- The tempo k is that of the tick t. -/
structure IsP (l : List Pt) (t : Int) (k : Nat) : Prop where
  hk : k < l.length
  lo : (at' l k).1 ≤ t
  hi : k + 1 < l.length → t < (at' l (k + 1)).1
/-- The last one of the first ones that is not after a tick. -/
def lst (l : List Pt) (t : Int) : Nat → Nat
  | 0 => 0
  | k + 1 => if (at' l k).1 ≤ t then k else lst l t k
theorem lst_is {l : List Pt} (h : Map l) {t : Int} (h0 : 0 ≤ t) : ∀ n, 0 < n → n ≤ l.length → lst l t n < n ∧ (at' l (lst l t n)).1 ≤ t ∧ (lst l t n + 1 < n → t < (at' l (lst l t n + 1)).1)
  | 0, h1, _ => absurd h1 (Nat.lt_irrefl _)
  | n + 1, _, h2 => by
    unfold lst
    by_cases g : (at' l n).1 ≤ t
    · rw [if_pos g]
      exact ⟨Nat.lt_succ_self _, g, fun x => by omega⟩
    · rw [if_neg g]
      rcases Nat.eq_zero_or_pos n with e | e
      · subst e
        have := h.first
        omega
      · obtain ⟨a, b, c⟩ := lst_is h h0 n e (by omega)
        refine ⟨by omega, b, fun x => ?_⟩
        by_cases y : lst l t n + 1 < n
        · exact c y
        · rw [show lst l t n + 1 = n by omega]
          omega
theorem isP_lst {l : List Pt} (h : Map l) {t : Int} (h0 : 0 ≤ t) : IsP l t (lst l t l.length) := by
  obtain ⟨a, b, c⟩ := lst_is h h0 l.length h.n0 (Nat.le_refl _)
  exact ⟨a, b, c⟩
theorem isP_uniq {l : List Pt} (h : Map l) {t : Int} {j k : Nat} (hj : IsP l t j) (hk : IsP l t k) : j = k := by
  rcases Nat.lt_trichotomy j k with x | x | x
  · have h1 := hj.hi (by have := hk.hk; omega)
    have h2 := hk.lo
    rcases Nat.lt_or_ge (j + 1) k with y | y
    · have := asc_lt h y hk.hk
      omega
    · obtain rfl : j + 1 = k := by omega
      omega
  · exact x
  · have h1 := hk.hi (by have := hj.hk; omega)
    have h2 := hj.lo
    rcases Nat.lt_or_ge (k + 1) j with y | y
    · have := asc_lt h y hj.hk
      omega
    · obtain rfl : k + 1 = j := by omega
      omega
theorem isP_zero {l : List Pt} {t : Int} {k : Nat} (h : Map l) (p : IsP l t k) : 0 ≤ t := by
  have := ok_at h.ok p.hk
  have := p.lo
  omega
def mV (l : List Pt) (t : Int) : Int := dl l (lst l t l.length) t
def ofV (l : List Pt) (t : Int) : Int := (at' l (lst l t l.length)).2
theorem mV_is {l : List Pt} {t : Int} {k : Nat} (h : Map l) (p : IsP l t k) : mV l t = dl l k t := by
  unfold mV
  rw [isP_uniq h (isP_lst h (isP_zero h p)) p]
theorem ofV_is {l : List Pt} {t : Int} {k : Nat} (h : Map l) (p : IsP l t k) : ofV l t = (at' l k).2 := by
  unfold ofV
  rw [isP_uniq h (isP_lst h (isP_zero h p)) p]
theorem mV_to {l : List Pt} {t : Int} {k : Nat} (h : Map l) (hk : k < l.length) (h1 : (at' l k).1 ≤ t) (h2 : k + 1 < l.length → t ≤ (at' l (k + 1)).1) : mV l t = dl l k t := by
  by_cases g : k + 1 < l.length ∧ t = (at' l (k + 1)).1
  · rw [mV_is h (k := k + 1) ⟨g.1, by omega, fun x => by have := h.asc (k + 1) x; omega⟩, g.2, dl_self, mo_succ]
  · exact mV_is h ⟨hk, h1, fun x => by have := h2 x; have : t ≠ (at' l (k + 1)).1 := fun e => g ⟨x, e⟩; omega⟩
theorem mV_zero {l : List Pt} (h : Map l) : mV l 0 = 0 := by
  have e := h.first
  have := mV_is (t := 0) h (k := 0) ⟨h.n0, by omega, fun x => by have := h.asc 0 x; omega⟩
  rw [this, show dl l 0 0 = dl l 0 (at' l 0).1 by rw [e], dl_self]
  rfl
theorem mV_step {l : List Pt} (h : Map l) {t : Int} (h0 : 0 ≤ t) : mV l (t + 1) = mV l t + ofV l t := by
  have p := isP_lst h h0
  rw [mV_to h p.hk (by have := p.lo; omega) (fun x => by have := p.hi x; omega), dl_succ]
  rfl
theorem ofV_bound {l : List Pt} (h : Map l) {t : Int} (h0 : 0 ≤ t) : 1 ≤ ofV l t ∧ ofV l t ≤ 4194304 := (ok_at h.ok (isP_lst h h0).hk).2
theorem mV_more {l : List Pt} (h : Map l) {t : Int} (h0 : 0 ≤ t) : ∀ d : Nat, mV l t + d ≤ mV l (t + d) ∧ mV l (t + d) ≤ mV l t + 4194304 * (d : Int)
  | 0 => by simp
  | d + 1 => by
    have ih := mV_more h h0 d
    have hs := mV_step h (t := t + d) (by omega)
    have := ofV_bound h (t := t + d) (by omega)
    rw [show t + ((d + 1 : Nat) : Int) = t + d + 1 by omega]
    omega
theorem mV_lt {l : List Pt} (h : Map l) {t u : Int} (h0 : 0 ≤ t) (h1 : t < u) : mV l t < mV l u := by
  have := (mV_more h h0 (u - t).toNat).1
  rw [show t + ((u - t).toNat : Int) = u by omega] at this
  omega
theorem mV_le {l : List Pt} (h : Map l) {t u : Int} (h0 : 0 ≤ t) (h1 : t ≤ u) : mV l t ≤ mV l u := by
  rcases Int.lt_or_eq_of_le h1 with x | x
  · exact Int.le_of_lt (mV_lt h h0 x)
  · rw [x]; exact Int.le_refl _
theorem mV_bound {l : List Pt} (h : Map l) {t : Int} (h0 : 0 ≤ t) : t ≤ mV l t ∧ mV l t ≤ 4194304 * t := by
  have := mV_more h (t := 0) (Int.le_refl _) t.toNat
  rw [mV_zero h, show (0 : Int) + (t.toNat : Int) = t by omega] at this
  omega
/-! ### The tick of a moment -/
structure IsT (l : List Pt) (m t : Int) : Prop where
  t0 : 0 ≤ t
  t1 : t ≤ 8192
  lo : mV l t ≤ m
  hi : t < 8192 → m < mV l (t + 1)
theorem isT_uniq {l : List Pt} (h : Map l) {m t u : Int} (a : IsT l m t) (b : IsT l m u) : t = u := by
  have a1 := a.t0
  have a2 := a.t1
  have a3 := a.lo
  have b1 := b.t0
  have b2 := b.t1
  have b3 := b.lo
  rcases Int.lt_trichotomy t u with x | x | x
  · have := a.hi (by omega)
    have := mV_le h (t := t + 1) (u := u) (by omega) (by omega)
    omega
  · exact x
  · have := b.hi (by omega)
    have := mV_le h (t := u + 1) (u := t) (by omega) (by omega)
    omega
def tkN (l : List Pt) (m : Int) : Nat → Nat
  | 0 => 0
  | k + 1 => if mV l ((k : Int) + 1) ≤ m then k + 1 else tkN l m k
theorem tkN_is {l : List Pt} (h : Map l) {m : Int} (h0 : 0 ≤ m) : ∀ n, tkN l m n ≤ n ∧ mV l (tkN l m n : Nat) ≤ m ∧ (tkN l m n < n → m < mV l ((tkN l m n : Nat) + 1))
  | 0 => ⟨Nat.le_refl _, by show mV l 0 ≤ m; rw [mV_zero h]; exact h0, fun x => absurd x (Nat.lt_irrefl _)⟩
  | n + 1 => by
    unfold tkN
    by_cases g : mV l ((n : Int) + 1) ≤ m
    · rw [if_pos g]
      exact ⟨Nat.le_refl _, g, fun x => absurd x (Nat.lt_irrefl _)⟩
    · rw [if_neg g]
      obtain ⟨a, b, c⟩ := tkN_is h h0 n
      refine ⟨by omega, b, fun x => ?_⟩
      rcases Nat.lt_or_ge (tkN l m n) n with y | y
      · exact c y
      · rw [show tkN l m n = n by omega]
        omega
def tV (l : List Pt) (m : Int) (n : Nat) : Int := (tkN l m n : Nat)
theorem tV_is {l : List Pt} (h : Map l) {m : Int} (h0 : 0 ≤ m) {n : Nat} (hn : n = 8192) : IsT l m (tV l m n) := by
  obtain ⟨a, b, c⟩ := tkN_is h h0 n
  unfold tV
  exact ⟨by omega, by omega, b, fun x => c (by omega)⟩
/-- The tick of a moment, reckoned from the tempo k. -/
theorem isT_piece {l : List Pt} (h : Map l) {m : Int} {k : Nat} (hk : k < l.length) (h1 : mo l k ≤ m) (h2 : k + 1 < l.length → m < mo l (k + 1)) (h3 : m ≤ mV l 8192) : IsT l m ((at' l k).1 + (m - mo l k) / (at' l k).2) := by
  have ho := ok_at h.ok hk
  obtain ⟨d, hd⟩ : ∃ d, (m - mo l k) / (at' l k).2 = d := ⟨_, rfl⟩
  have q1 : d * (at' l k).2 ≤ m - mo l k := by rw [← hd]; exact Int.ediv_mul_le _ (by omega)
  have q2 : m - mo l k < (d + 1) * (at' l k).2 := by rw [← hd]; exact Int.lt_ediv_add_one_mul_self _ (by omega)
  have q0 : 0 ≤ d := by rw [← hd]; exact Int.ediv_nonneg (by omega) (by omega)
  rw [hd]
  have e1 : dl l k ((at' l k).1 + d) = mo l k + d * (at' l k).2 := by unfold dl; rw [show (at' l k).1 + d - (at' l k).1 = d by omega]
  have e2 : dl l k ((at' l k).1 + d + 1) = mo l k + (d + 1) * (at' l k).2 := by unfold dl; rw [show (at' l k).1 + d + 1 - (at' l k).1 = d + 1 by omega]
  have hin : k + 1 < l.length → (at' l k).1 + d < (at' l (k + 1)).1 := fun x => by
    rcases Int.lt_or_le ((at' l k).1 + d) (at' l (k + 1)).1 with y | y
    · exact y
    · have := dl_le h hk y
      have := h2 x
      rw [mo_succ] at this
      omega
  have hin2 : k + 1 < l.length → (at' l k).1 + d + 1 ≤ (at' l (k + 1)).1 := fun x => by have := hin x; omega
  have m1 := mV_to (t := (at' l k).1 + d) h hk (by omega) (fun x => by have := hin x; omega)
  have m2 := mV_to (t := (at' l k).1 + d + 1) h hk (by omega) hin2
  refine ⟨by omega, ?_, by omega, fun _ => by omega⟩
  rcases Int.lt_or_le 8192 ((at' l k).1 + d) with y | y
  · have := mV_lt h (t := 8192) (by omega) y
    omega
  · exact y
theorem isT_self {l : List Pt} (h : Map l) {t : Int} (h0 : 0 ≤ t) (h1 : t ≤ 8192) : IsT l (mV l t) t := ⟨h0, h1, Int.le_refl _, fun _ => mV_lt h h0 (by omega)⟩
theorem isT_part {l : List Pt} {t p : Int} (h0 : 0 ≤ t) (h1 : t ≤ 8192) (p0 : 0 ≤ p) (p1 : p < mV l (t + 1) - mV l t) : IsT l (mV l t + p) t := ⟨h0, h1, by omega, fun _ => by omega⟩
/-! ### The functions' answers -/
def whE (l : List Pt) (t : Int) : Int := if chkE l = 0 then (if 0 ≤ t ∧ t ≤ 8192 then 0 else 1) else chkE l
def whV (l : List Pt) (t : Int) : Int := if whE l t = 0 then mV l t else 0
theorem wh_bad {l : List Pt} (t : Int) (h : chkE l ≠ 0) : whE l t = chkE l ∧ whV l t = 0 := by
  have e : whE l t = chkE l := if_neg h
  exact ⟨e, by unfold whV; rw [if_neg (by rw [e]; exact h)]⟩
theorem wh_no {l : List Pt} {t : Int} (h : chkE l = 0) (hi : ¬ (0 ≤ t ∧ t ≤ 8192)) : whE l t = 1 ∧ whV l t = 0 := by
  have e : whE l t = 1 := by unfold whE; rw [if_pos h, if_neg hi]
  exact ⟨e, by unfold whV; rw [if_neg (by rw [e]; decide)]⟩
theorem wh_ok {l : List Pt} {t : Int} (h : chkE l = 0) (hi : 0 ≤ t ∧ t ≤ 8192) : whE l t = 0 ∧ whV l t = mV l t := by
  have e : whE l t = 0 := by unfold whE; rw [if_pos h, if_pos hi]
  exact ⟨e, by unfold whV; rw [if_pos e]⟩
def tkE (l : List Pt) (m : Int) : Int := if chkE l = 0 then (if 0 ≤ m ∧ m ≤ mV l 8192 then 0 else 1) else chkE l
def tkV (l : List Pt) (m : Int) (n : Nat) : Int := if tkE l m = 0 then tV l m n else 0
theorem tk_bad {l : List Pt} (m : Int) (n : Nat) (h : chkE l ≠ 0) : tkE l m = chkE l ∧ tkV l m n = 0 := by
  have e : tkE l m = chkE l := if_neg h
  exact ⟨e, by unfold tkV; rw [if_neg (by rw [e]; exact h)]⟩
theorem tk_no {l : List Pt} {m : Int} (n : Nat) (h : chkE l = 0) (hi : ¬ (0 ≤ m ∧ m ≤ mV l 8192)) : tkE l m = 1 ∧ tkV l m n = 0 := by
  have e : tkE l m = 1 := by unfold tkE; rw [if_pos h, if_neg hi]
  exact ⟨e, by unfold tkV; rw [if_neg (by rw [e]; decide)]⟩
theorem tk_ok {l : List Pt} {m t : Int} {n : Nat} (hn : n = 8192) (h : chkE l = 0) (hi : 0 ≤ m ∧ m ≤ mV l 8192) (ht : IsT l m t) : tkE l m = 0 ∧ tkV l m n = t := by
  have e : tkE l m = 0 := by unfold tkE; rw [if_pos h, if_pos hi]
  exact ⟨e, by unfold tkV; rw [if_pos e]; exact isT_uniq (chk_map.1 h) (tV_is (chk_map.1 h) hi.1 hn) ht⟩
end Go.Proofs.Ytlepcahangkmiaa.TemP
