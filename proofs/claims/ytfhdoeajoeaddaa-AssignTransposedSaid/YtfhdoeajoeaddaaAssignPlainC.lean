/-
  The specification's way to the least assignment as plain mathematics: sets of columns as numbers, the least cost of the rows that are left, and row by row the first column with which it is reached. No word of the program. Condition: none.
-/
import Derived.Test.YtfhdoeajoeaddaaAssignPlain
namespace Go.Proofs.Ytfhdoeajoeaddaa.AsgP
/-! ### Sets as numbers -/
def pc (s : Nat) : Nat := if h : s = 0 then 0 else s % 2 + pc (s / 2)
termination_by s
decreasing_by omega
theorem pc_zero : pc 0 = 0 := by rw [pc, dif_pos rfl]
theorem pc_eq (s : Nat) : pc s = s % 2 + pc (s / 2) := by
  by_cases h : s = 0
  · subst h
    rw [show 0 / 2 = 0 from rfl, pc_zero]
  · rw [pc, dif_neg h]
theorem or_add : ∀ (j s : Nat), s.testBit j = false → s ||| 2 ^ j = s + 2 ^ j
  | 0, s, h => by
    have h0 : s % 2 = 0 := by
      rw [Nat.testBit_zero] at h
      have := of_decide_eq_false h
      omega
    have h1 : (s ||| 2 ^ 0) / 2 = s / 2 := by rw [Nat.or_div_two]; show s / 2 ||| 1 / 2 = _; simp
    have h2 : (s ||| 2 ^ 0) % 2 = 1 := Nat.or_mod_two_eq_one.2 (.inr rfl)
    have : (2 : Nat) ^ 0 = 1 := rfl
    omega
  | j + 1, s, h => by
    rw [Nat.testBit_succ] at h
    have h1 : (s ||| 2 ^ (j + 1)) / 2 = s / 2 + 2 ^ j := by
      rw [Nat.or_div_two, Nat.pow_succ, Nat.mul_div_cancel _ (by decide), or_add j _ h]
    have h2 : (s ||| 2 ^ (j + 1)) % 2 = s % 2 := by
      have h3 : (s ||| 2 ^ (j + 1)) % 2 = 1 ↔ _ := Nat.or_mod_two_eq_one
      have h4 : 2 ^ (j + 1) % 2 = 0 := by rw [Nat.pow_succ]; omega
      have h5 : s % 2 = 0 ∨ s % 2 = 1 := by omega
      rcases h5 with h5 | h5
      · have : ¬ (s ||| 2 ^ (j + 1)) % 2 = 1 := fun q => by
          rcases h3.1 q with q | q
          · omega
          · omega
        omega
      · rw [h3.2 (.inl h5), h5]
    have h6 : 2 ^ (j + 1) = 2 * 2 ^ j := by rw [Nat.pow_succ]; omega
    omega
theorem pc_add : ∀ (j s : Nat), s.testBit j = false → pc (s + 2 ^ j) = pc s + 1
  | 0, s, h => by
    have h0 : s % 2 = 0 := by
      rw [Nat.testBit_zero] at h
      have := of_decide_eq_false h
      omega
    have e : (2 : Nat) ^ 0 = 1 := rfl
    rw [pc_eq (s + 2 ^ 0), pc_eq s, e, show (s + 1) / 2 = s / 2 by omega]
    omega
  | j + 1, s, h => by
    rw [Nat.testBit_succ] at h
    have h6 : 2 ^ (j + 1) = 2 * 2 ^ j := by rw [Nat.pow_succ]; omega
    rw [pc_eq (s + 2 ^ (j + 1)), pc_eq s, show (s + 2 ^ (j + 1)) / 2 = s / 2 + 2 ^ j by omega, pc_add j _ h]
    omega
theorem pc_le : ∀ (n s : Nat), s < 2 ^ n → pc s ≤ n
  | 0, s, h => by
    have : s = 0 := by rw [Nat.pow_zero] at h; omega
    subst this
    rw [pc_zero]
    exact Nat.le_refl _
  | n + 1, s, h => by
    rw [Nat.pow_succ] at h
    have := pc_le n (s / 2) (by omega)
    rw [pc_eq]
    omega
theorem pc_full : ∀ n : Nat, pc (2 ^ n - 1) = n
  | 0 => pc_zero
  | n + 1 => by
    have := Nat.two_pow_pos n
    rw [pc_eq, Nat.pow_succ, show (2 ^ n * 2 - 1) / 2 = 2 ^ n - 1 by omega, pc_full n]
    omega
/-- A set that is not full has a free column. -/
theorem free_of : ∀ (n s : Nat), s < 2 ^ n - 1 → ∃ j, j < n ∧ s.testBit j = false
  | 0, s, h => by rw [Nat.pow_zero] at h; omega
  | n + 1, s, h => by
    rw [Nat.pow_succ] at h
    by_cases e : s % 2 = 0
    · refine ⟨0, by omega, ?_⟩
      rw [Nat.testBit_zero]
      exact decide_eq_false (by omega)
    · obtain ⟨j, hj, q⟩ := free_of n (s / 2) (by omega)
      exact ⟨j + 1, by omega, by rw [Nat.testBit_succ]; exact q⟩
theorem put_lt {n s j : Nat} (hs : s < 2 ^ n) (hj : j < n) : s ||| 2 ^ j < 2 ^ n := Nat.or_lt_two_pow hs (Nat.pow_lt_pow_right (by decide) hj)
theorem put_gt {s j : Nat} (h : s.testBit j = false) : s < s ||| 2 ^ j := by
  rw [or_add j s h]
  have := Nat.two_pow_pos j
  omega
theorem put_pc {s j : Nat} (h : s.testBit j = false) : pc (s ||| 2 ^ j) = pc s + 1 := by
  rw [or_add j s h, pc_add j s h]
theorem put_bit (s j i : Nat) : (s ||| 2 ^ j).testBit i = (s.testBit i || decide (j = i)) := by
  rw [Nat.testBit_or, Nat.testBit_two_pow]
theorem and_bit {s j : Nat} : s &&& 2 ^ j = 0 ↔ s.testBit j = false := by
  constructor
  · intro h
    have : (s &&& 2 ^ j).testBit j = false := by rw [h]; exact Nat.zero_testBit j
    rw [Nat.testBit_and, Nat.testBit_two_pow, decide_eq_true rfl, Bool.and_true] at this
    exact this
  · intro h
    refine Nat.eq_of_testBit_eq fun i => ?_
    rw [Nat.testBit_and, Nat.testBit_two_pow, Nat.zero_testBit]
    by_cases e : j = i
    · subst e; rw [h]; rfl
    · rw [decide_eq_false e, Bool.and_false]
/-! ### What the rows that are left cost -/
def cstF (c : Tb) (k : Nat) : List Int → Int
  | [] => 0
  | x :: t => ct c k x.toNat + cstF c (k + 1) t
theorem cstF_append (c : Tb) : ∀ (p q : List Int) (k : Nat), cstF c k (p ++ q) = cstF c k p + cstF c (k + p.length) q
  | [], q, k => by show cstF c k q = 0 + cstF c (k + 0) q; rw [Nat.add_zero]; omega
  | x :: p, q, k => by
    show ct c k x.toNat + cstF c (k + 1) (p ++ q) = ct c k x.toNat + cstF c (k + 1) p + cstF c (k + (p.length + 1)) q
    rw [cstF_append c p q (k + 1), show k + 1 + p.length = k + (p.length + 1) by omega]
    omega
theorem costK_take (c : Tb) (l : List Int) : ∀ k, k ≤ l.length → costK c l k = cstF c 0 (l.take k)
  | 0, _ => rfl
  | k + 1, h => by
    have h' : k < l.length := by omega
    rw [List.take_succ_eq_append_getElem h', cstF_append, ← costK_take c l k (by omega), Nat.zero_add, List.length_take_of_le (by omega)]
    show costK c l k + ct c k (cl l k) = costK c l k + (ct c k (l[k]).toNat + 0)
    have e : cl l k = (l[k]).toNat := by
      unfold cl
      rw [List.getD_eq_getElem?_getD, List.getElem?_eq_getElem h', Option.getD_some]
    rw [e]
    omega
theorem cost_cstF {c : Tb} {l : List Int} (h : l.length = c.length) : cost c l = cstF c 0 l := by
  unfold cost
  rw [costK_take c l c.length (by omega), List.take_of_length_le (by omega)]
/-- Columns for the rows from k on, none of the set s. -/
structure Cp (n s k : Nat) (t : List Int) : Prop where
  len : k + t.length = n
  rng : ∀ x ∈ t, 0 ≤ x ∧ x < (n : Int)
  fr : ∀ x ∈ t, s.testBit x.toNat = false
  nd : t.Nodup
theorem Cp.cons {n s k j : Nat} {t : List Int} (h : Cp n (s ||| 2 ^ j) (k + 1) t) (hj : j < n) (f : s.testBit j = false) : Cp n s k ((j : Int) :: t) := by
  refine ⟨by have := h.len; rw [List.length_cons]; omega, fun x hx => ?_, fun x hx => ?_, List.nodup_cons.2 ⟨fun q => ?_, h.nd⟩⟩
  · rcases List.mem_cons.1 hx with rfl | hx
    · omega
    · exact h.rng x hx
  · rcases List.mem_cons.1 hx with rfl | hx
    · exact f
    · have := h.fr x hx
      rw [put_bit] at this
      exact (Bool.or_eq_false_iff.1 this).1
  · have := h.fr _ q
    rw [put_bit, Int.toNat_natCast, decide_eq_true rfl, Bool.or_true] at this
    exact absurd this (by decide)
theorem Cp.tail {n s k : Nat} {x : Int} {t : List Int} (h : Cp n s k (x :: t)) : x.toNat < n ∧ s.testBit x.toNat = false ∧ Cp n (s ||| 2 ^ x.toNat) (k + 1) t := by
  have hx := h.rng x (List.mem_cons_self ..)
  refine ⟨by omega, h.fr x (List.mem_cons_self ..), by have := h.len; rw [List.length_cons] at this; omega, fun y hy => h.rng y (List.mem_cons_of_mem _ hy), fun y hy => ?_, (List.nodup_cons.1 h.nd).2⟩
  rw [put_bit, h.fr y (List.mem_cons_of_mem _ hy), Bool.false_or]
  refine decide_eq_false fun e => (List.nodup_cons.1 h.nd).1 ?_
  have hy' := h.rng y (List.mem_cons_of_mem _ hy)
  have : x = y := by omega
  rw [this]
  exact hy
/-- x is the least cost of the rows from k on with columns that s has not. -/
structure Rs (c : Tb) (k s : Nat) (x : Int) : Prop where
  ex : ∃ t, Cp c.length s k t ∧ cstF c k t = x
  le : ∀ t, Cp c.length s k t → x ≤ cstF c k t
theorem Rs.last (c : Tb) (s : Nat) : Rs c c.length s 0 := by
  refine ⟨⟨[], ⟨rfl, fun _ h => absurd h List.not_mem_nil, fun _ h => absurd h List.not_mem_nil, List.nodup_nil⟩, rfl⟩, fun t h => ?_⟩
  have : t = [] := List.eq_nil_of_length_eq_zero (by have := h.len; omega)
  subst this
  exact Int.le_refl _
theorem Rs.step {c : Tb} {k s : Nat} {x : Int} {f : Nat → Int} (hk : k < c.length) (h : ∀ j, j < c.length → s.testBit j = false → Rs c (k + 1) (s ||| 2 ^ j) (f j)) (e : ∃ j, j < c.length ∧ s.testBit j = false ∧ x = ct c k j + f j) (m : ∀ j, j < c.length → s.testBit j = false → x ≤ ct c k j + f j) : Rs c k s x := by
  obtain ⟨j, hj, q, e⟩ := e
  refine ⟨?_, fun t ht => ?_⟩
  · obtain ⟨t, ht, et⟩ := (h j hj q).ex
    refine ⟨(j : Int) :: t, ht.cons hj q, ?_⟩
    show ct c k (Int.toNat (j : Int)) + cstF c (k + 1) t = x
    rw [Int.toNat_natCast, et, e]
  · cases t with
    | nil => have := ht.len; rw [List.length_nil] at this; omega
    | cons y t =>
      obtain ⟨h1, h2, h3⟩ := ht.tail
      have a := m _ h1 h2
      have b := (h _ h1 h2).le t h3
      show x ≤ ct c k y.toNat + cstF c (k + 1) t
      omega
/-- With each free column it costs as much or more. -/
theorem Rs.ge {c : Tb} {k s j : Nat} {x y : Int} (h : Rs c k s x) (hj : j < c.length) (q : s.testBit j = false) (g : Rs c (k + 1) (s ||| 2 ^ j) y) : x ≤ ct c k j + y := by
  obtain ⟨t, ht, et⟩ := g.ex
  have := h.le _ (ht.cons hj q)
  have e : cstF c k ((j : Int) :: t) = ct c k (Int.toNat (j : Int)) + cstF c (k + 1) t := rfl
  rw [e, Int.toNat_natCast] at this
  omega
/-- The costs are bounded, if those of the places are. -/
def Okc (c : Tb) (b : Int) : Prop := ∀ i j, 0 ≤ ct c i j ∧ ct c i j ≤ b
theorem cstF_bound {c : Tb} {b : Int} (h : Okc c b) : ∀ (t : List Int) (k : Nat), 0 ≤ cstF c k t ∧ cstF c k t ≤ t.length * b
  | [], k => by show (0 : Int) ≤ 0 ∧ (0 : Int) ≤ ((0 : Nat) : Int) * b; simp
  | x :: t, k => by
    have a := h k x.toNat
    have d := cstF_bound h t (k + 1)
    show 0 ≤ ct c k x.toNat + cstF c (k + 1) t ∧ ct c k x.toNat + cstF c (k + 1) t ≤ ((t.length + 1 : Nat) : Int) * b
    rw [Int.natCast_succ, Int.add_mul, Int.one_mul]
    omega
theorem Rs.bound {c : Tb} {b : Int} (h : Okc c b) {k s : Nat} {x : Int} (r : Rs c k s x) : 0 ≤ x ∧ x ≤ c.length * b := by
  obtain ⟨t, ht, rfl⟩ := r.ex
  have a := cstF_bound h t k
  have l := ht.len
  have hb : 0 ≤ b := Int.le_trans (h 0 0).1 (h 0 0).2
  have : (t.length : Int) * b ≤ (c.length : Int) * b := Int.mul_le_mul_of_nonneg_right (by omega) hb
  omega
/-! ### The least of several, -1 if there is none -/
def mnn (f : Nat → Int) (used : Nat → Bool) : Nat → Int
  | 0 => -1
  | j + 1 => if used j then mnn f used j else if mnn f used j < 0 ∨ f j < mnn f used j then f j else mnn f used j
theorem mnn_spec {f : Nat → Int} {used : Nat → Bool} : ∀ {n : Nat}, (∀ j, j < n → used j = false → 0 ≤ f j) → ((mnn f used n = -1 ∧ ∀ j, j < n → used j = true) ∨ (∃ j, j < n ∧ used j = false ∧ mnn f used n = f j) ∧ ∀ j, j < n → used j = false → mnn f used n ≤ f j)
  | 0, _ => .inl ⟨rfl, fun j q => absurd q (Nat.not_lt_zero _)⟩
  | n + 1, h => by
    have e : mnn f used (n + 1) = if used n then mnn f used n else if mnn f used n < 0 ∨ f n < mnn f used n then f n else mnn f used n := rfl
    have ih := mnn_spec (n := n) fun j q => h j (by omega)
    have hn := h n (by omega)
    cases hu : used n with
    | true =>
      rw [e, hu, if_pos rfl]
      rcases ih with ⟨a, b⟩ | ⟨⟨j, a, b, d⟩, g⟩
      · refine .inl ⟨a, fun j q => ?_⟩
        by_cases w : j = n
        · rw [w]; exact hu
        · exact b j (by omega)
      · refine .inr ⟨⟨j, by omega, b, d⟩, fun i q r => ?_⟩
        by_cases w : i = n
        · rw [w, hu] at r; exact absurd r (by decide)
        · exact g i (by omega) r
    | false =>
      have hn := hn hu
      rw [e, hu, if_neg (by decide)]
      rcases ih with ⟨a, b⟩ | ⟨⟨j, a, b, d⟩, g⟩
      · rw [if_pos (.inl (by omega))]
        refine .inr ⟨⟨n, by omega, hu, rfl⟩, fun i q r => ?_⟩
        by_cases w : i = n
        · rw [w]; exact Int.le_refl _
        · have := b i (by omega)
          rw [r] at this
          exact absurd this (by decide)
      · have hj := h j (by omega) b
        by_cases w : f n < mnn f used n
        · rw [if_pos (.inr w)]
          refine .inr ⟨⟨n, by omega, hu, rfl⟩, fun i q r => ?_⟩
          by_cases w2 : i = n
          · rw [w2]; exact Int.le_refl _
          · have := g i (by omega) r
            omega
        · rw [if_neg (by omega)]
          refine .inr ⟨⟨j, by omega, b, d⟩, fun i q r => ?_⟩
          by_cases w2 : i = n
          · rw [w2]; omega
          · exact g i (by omega) r
/-! ### The table of the least costs, and the list that it gives -/
structure Hs (c : Tb) (cur : Nat) (O : List Int) : Prop where
  len : O.length = 2 ^ c.length
  rs : ∀ s, cur ≤ s → s < 2 ^ c.length → Rs c (pc s) s (O.getD s 0)
theorem Hs.start {c : Tb} {O : List Int} (l : O.length = 2 ^ c.length) (z : O.getD (2 ^ c.length - 1) 0 = 0) : Hs c (2 ^ c.length - 1) O := by
  refine ⟨l, fun s a b => ?_⟩
  have : s = 2 ^ c.length - 1 := by omega
  subst this
  rw [z, pc_full]
  exact Rs.last c _
def fJ (c : Tb) (O : List Int) (s j : Nat) : Int := ct c (pc s) j + O.getD (s ||| 2 ^ j) 0
theorem Hs.more {c : Tb} {O : List Int} {s : Nat} {b : Int} (hb : Okc c b) (h : Hs c (s + 1) O) (hs : s < 2 ^ c.length - 1) : Hs c s (O.set s (mnn (fJ c O s) s.testBit c.length)) := by
  have hp := Nat.two_pow_pos c.length
  refine ⟨by rw [List.length_set, h.len], fun t a d => ?_⟩
  by_cases e : t = s
  · subst e
    have hl : t < O.length := by rw [h.len]; omega
    rw [List.getD_eq_getElem?_getD, List.getElem?_set_self hl, Option.getD_some]
    have hr : ∀ j, j < c.length → t.testBit j = false → Rs c (pc t + 1) (t ||| 2 ^ j) (O.getD (t ||| 2 ^ j) 0) := fun j hj q => by
      rw [← put_pc q]
      exact h.rs _ (put_gt q) (put_lt d hj)
    obtain ⟨j0, hj0, q0⟩ := free_of _ _ hs
    have hk : pc t < c.length := by
      have := pc_le _ _ (put_lt d hj0)
      rw [put_pc q0] at this
      omega
    rcases mnn_spec (f := fJ c O t) (used := t.testBit) (n := c.length) (fun j hj q => by
      have a := (hr j hj q).bound hb
      have b := hb (pc t) j
      unfold fJ
      omega) with ⟨_, w⟩ | ⟨⟨j, w1, w2, w3⟩, w4⟩
    · have := w j0 hj0
      rw [q0] at this
      exact absurd this (by decide)
    · exact Rs.step hk hr ⟨j, w1, w2, w3⟩ w4
  · rw [List.getD_eq_getElem?_getD, List.getElem?_set_ne (fun q => e q.symm), ← List.getD_eq_getElem?_getD]
    exact h.rs t (by omega) d
/-- The rows before have the first columns with which the least cost is reached. -/
structure Gr (c : Tb) (O p : List Int) (s : Nat) : Prop where
  len : p.length ≤ c.length
  slt : s < 2 ^ c.length
  bits : ∀ j, s.testBit j = true ↔ (j : Int) ∈ p
  rng : ∀ x ∈ p, 0 ≤ x ∧ x < (c.length : Int)
  nd : p.Nodup
  pcl : pc s = p.length
  sum : cstF c 0 p + O.getD s 0 = O.getD 0 0
  lex : ∀ l, IsA c.length l → cost c l = O.getD 0 0 → Lx p.length p l
theorem Gr.start (c : Tb) (O : List Int) : Gr c O [] 0 := by
  refine ⟨Nat.zero_le _, Nat.two_pow_pos _, fun j => ?_, fun _ h => absurd h List.not_mem_nil, List.nodup_nil, pc_zero, ?_, fun _ _ _ _ hi => absurd hi (Nat.not_lt_zero _)⟩
  · rw [Nat.zero_testBit]
    exact ⟨fun q => absurd q (by decide), fun q => absurd q List.not_mem_nil⟩
  · show 0 + _ = _
    omega
/-- Whether a column is taken for the next row. -/
def Tk (c : Tb) (O p : List Int) (s j : Nat) : Prop := s.testBit j = false ∧ ct c p.length j + O.getD (s ||| 2 ^ j) 0 = O.getD s 0
theorem Gr.some {c : Tb} {O p : List Int} {s : Nat} (h : Hs c 0 O) (g : Gr c O p s) (hp : p.length < c.length) : ∃ j, j < c.length ∧ Tk c O p s j := by
  have hr := h.rs s (Nat.zero_le _) g.slt
  obtain ⟨t, ht, et⟩ := hr.ex
  cases t with
  | nil => have := ht.len; rw [g.pcl, List.length_nil] at this; omega
  | cons x t =>
    obtain ⟨h1, h2, h3⟩ := ht.tail
    refine ⟨x.toNat, h1, h2, ?_⟩
    have hn := h.rs _ (Nat.zero_le _) (put_lt g.slt h1)
    rw [put_pc h2] at hn
    have a := hn.le t h3
    have b := hr.ge h1 h2 hn
    have e : cstF c (pc s) (x :: t) = ct c (pc s) x.toNat + cstF c (pc s + 1) t := rfl
    rw [← g.pcl]
    omega
theorem Gr.next {c : Tb} {O p : List Int} {s j : Nat} (h : Hs c 0 O) (g : Gr c O p s) (hp : p.length < c.length) (hj : j < c.length) (t : Tk c O p s j) (first : ∀ i, i < j → ¬ Tk c O p s i) : Gr c O (p ++ [(j : Int)]) (s ||| 2 ^ j) := by
  have hnp : (j : Int) ∉ p := fun q => by
    have := (g.bits j).2 q
    rw [t.1] at this
    exact absurd this (by decide)
  refine ⟨by rw [List.length_append]; exact hp, put_lt g.slt hj, fun i => ?_, fun x hx => ?_, ?_, by rw [put_pc t.1, g.pcl, List.length_append]; rfl, ?_, fun l hl hc => ?_⟩
  · rw [put_bit, Bool.or_eq_true, g.bits i, List.mem_append, List.mem_singleton, decide_eq_true_iff]
    constructor
    · rintro (q | q)
      · exact .inl q
      · exact .inr (by rw [q])
    · rintro (q | q)
      · exact .inl q
      · exact .inr (by omega)
  · rcases List.mem_append.1 hx with q | q
    · exact g.rng x q
    · rw [List.mem_singleton] at q
      omega
  · refine List.nodup_append.2 ⟨g.nd, List.nodup_cons.2 ⟨List.not_mem_nil, List.nodup_nil⟩, fun a ha b hb e => hnp ?_⟩
    rw [List.mem_singleton] at hb
    rw [← hb, ← e]
    exact ha
  · have := g.sum
    have := t.2
    have e : cstF c (0 + p.length) [(j : Int)] = ct c (0 + p.length) (Int.toNat (j : Int)) + 0 := rfl
    rw [cstF_append, e, Int.toNat_natCast, Nat.zero_add]
    omega
  · intro i hi eq
    rw [List.length_append] at hi
    have hi : i < p.length + 1 := hi
    have getl : ∀ k, k < p.length → (p ++ [(j : Int)]).getD k 0 = p.getD k 0 := fun k q => by
      rw [List.getD_eq_getElem?_getD, List.getD_eq_getElem?_getD, List.getElem?_append_left q]
    by_cases d : i < p.length
    · rw [getl i d]
      exact g.lex l hl hc i d fun k q => by
        rw [← getl k (by omega)]
        exact eq k q
    · have ei : i = p.length := by omega
      subst ei
      have e1 : (p ++ [(j : Int)]).getD p.length 0 = j := by
        rw [List.getD_eq_getElem?_getD, List.getElem?_append_right (Nat.le_refl _), Nat.sub_self]
        rfl
      rw [e1]
      have hlen := hl.len
      have hil : p.length < l.length := by omega
      have etk : l.take p.length = p := by
        refine List.ext_getElem (by rw [List.length_take]; omega) fun k q1 q2 => ?_
        have := eq k q2
        rw [getl k q2, List.getD_eq_getElem?_getD, List.getD_eq_getElem?_getD, List.getElem?_eq_getElem q2, List.getElem?_eq_getElem (by omega : k < l.length), Option.getD_some, Option.getD_some] at this
        rw [List.getElem_take]
        exact this.symm
      have espl : l = p ++ l[p.length] :: l.drop (p.length + 1) := by
        have := List.take_append_drop p.length l
        rw [List.drop_eq_getElem_cons hil, etk] at this
        exact this.symm
      have eg : l.getD p.length 0 = l[p.length] := by
        rw [List.getD_eq_getElem?_getD, List.getElem?_eq_getElem hil, Option.getD_some]
      rw [eg]
      generalize l[p.length] = y at espl
      generalize l.drop (p.length + 1) = r at espl
      have hnd := hl.nd
      have hrg := hl.rng
      rw [cost_cstF hlen] at hc
      rw [espl] at hnd hrg hlen hc
      rw [List.length_append] at hlen
      have hcp : Cp c.length s p.length (y :: r) := by
        refine ⟨hlen, fun x hx => hrg x (List.mem_append_right _ hx), fun x hx => ?_, (List.nodup_append.1 hnd).2.1⟩
        have hx0 := hrg x (List.mem_append_right _ hx)
        cases hb : s.testBit x.toNat with
        | false => rfl
        | true =>
          have := (g.bits _).1 hb
          rw [Int.toNat_of_nonneg hx0.1] at this
          exact absurd rfl ((List.nodup_append.1 hnd).2.2 x this x hx)
      obtain ⟨h1, h2, h3⟩ := hcp.tail
      have hr := h.rs s (Nat.zero_le _) g.slt
      have hn := h.rs _ (Nat.zero_le _) (put_lt g.slt h1)
      rw [put_pc h2, g.pcl] at hn
      rw [g.pcl] at hr
      have a := hn.le r h3
      have b := hr.ge h1 h2 hn
      have es : cstF c 0 (p ++ y :: r) = cstF c 0 p + (ct c p.length y.toNat + cstF c (p.length + 1) r) := by
        rw [cstF_append, Nat.zero_add]
        rfl
      have := g.sum
      have tk : Tk c O p s y.toNat := ⟨h2, by omega⟩
      have hy := (hrg y (List.mem_append_right _ (List.mem_cons_self ..))).1
      refine Classical.byContradiction fun q => first y.toNat (by omega) tk
/-- What the specification's way gives. -/
theorem Gr.best {c : Tb} {O p : List Int} {s : Nat} (h : Hs c 0 O) (g : Gr c O p s) (hp : p.length = c.length) : Bst c p (O.getD 0 0) := by
  have hr := h.rs s (Nat.zero_le _) g.slt
  rw [g.pcl, hp] at hr
  have z : O.getD s 0 = 0 := by
    obtain ⟨t, ht, et⟩ := hr.ex
    have : t = [] := List.eq_nil_of_length_eq_zero (by have := ht.len; omega)
    subst this
    exact et.symm
  have hs := g.sum
  refine ⟨⟨hp, g.rng, g.nd⟩, by rw [cost_cstF hp]; omega, fun l hl => ?_, fun l hl e => hp ▸ g.lex l hl e⟩
  have h0 := h.rs 0 (Nat.zero_le _) (Nat.two_pow_pos _)
  rw [pc_zero] at h0
  rw [cost_cstF hl.len]
  exact h0.le l ⟨by have := hl.len; omega, hl.rng, fun x _ => Nat.zero_testBit _, hl.nd⟩
end Go.Proofs.Ytfhdoeajoeaddaa.AsgP
