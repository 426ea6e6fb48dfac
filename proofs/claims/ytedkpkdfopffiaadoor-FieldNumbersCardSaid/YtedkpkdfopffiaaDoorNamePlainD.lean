/-
  Names that end with decimal numerals: their validity and their order. Nothing of the program. Condition: none.
-/
import Derived.Lib.ItoaNum
import Derived.Test.YtedkpkdfopffiaaDoorNamePlain
namespace Go.Proofs.YtedkpkdfopffiaaDoor.NamP
open Go.Lib (decDigits)
def valD : Bs → Nat
  | [] => 0
  | c :: l => (c.toNat - 48) * 10 ^ l.length + valD l
def Digs (l : Bs) : Prop := ∀ c ∈ l, digB c = true
theorem Digs.tail {c : UInt8} {l : Bs} (h : Digs (c :: l)) : Digs l := fun x hx => h x (List.mem_cons_of_mem _ hx)
theorem Digs.head {c : UInt8} {l : Bs} (h : Digs (c :: l)) : 48 ≤ c.toNat ∧ c.toNat ≤ 57 := (digB_iff c).1 (h c (List.mem_cons_self ..))
theorem Digs.bare {l : Bs} (h : Digs l) : Digs (bare l) := fun c hc => h c ((List.dropWhile_sublist ..).mem hc)
theorem val_snoc : ∀ (l : Bs) (c : UInt8), valD (l ++ [c]) = 10 * valD l + (c.toNat - 48)
  | [], c => by simp [valD]
  | x :: l, c => by
    show (x.toNat - 48) * 10 ^ (l ++ [c]).length + valD (l ++ [c]) = 10 * ((x.toNat - 48) * 10 ^ l.length + valD l) + (c.toNat - 48)
    rw [val_snoc l c, List.length_append, List.length_singleton, Nat.pow_succ]
    grind
theorem val_lt : ∀ {l : Bs}, Digs l → valD l < 10 ^ l.length
  | [], _ => by simp [valD]
  | x :: l, h => by
    have h1 := val_lt h.tail
    have h2 := h.head
    show (x.toNat - 48) * 10 ^ l.length + valD l < 10 ^ (l.length + 1)
    rw [Nat.pow_succ]
    have : (x.toNat - 48) * 10 ^ l.length ≤ 9 * 10 ^ l.length := Nat.mul_le_mul_right _ (by omega)
    omega
theorem val_bare : ∀ {l : Bs}, Digs l → valD (bare l) = valD l
  | [], _ => rfl
  | x :: l, h => by
    unfold bare
    rw [List.dropWhile_cons]
    by_cases e : x.toNat = 48
    · rw [if_pos (by simpa using e)]
      have := val_bare h.tail
      unfold bare at this
      rw [this]
      show _ = (x.toNat - 48) * 10 ^ l.length + valD l
      rw [e]
      simp
    · rw [if_neg (by simpa using e)]
theorem bare_low : ∀ {l : Bs}, Digs l → bare l = [] ∨ 10 ^ ((bare l).length - 1) ≤ valD (bare l)
  | [], _ => .inl rfl
  | x :: l, h => by
    unfold bare
    rw [List.dropWhile_cons]
    by_cases e : x.toNat = 48
    · rw [if_pos (by simpa using e)]
      exact bare_low h.tail
    · rw [if_neg (by simpa using e)]
      right
      have h2 := h.head
      show 10 ^ (l.length + 1 - 1) ≤ (x.toNat - 48) * 10 ^ l.length + valD l
      have : 1 * 10 ^ l.length ≤ (x.toNat - 48) * 10 ^ l.length := Nat.mul_le_mul_right _ (by omega)
      rw [Nat.add_sub_cancel]
      omega
theorem cmp_val : ∀ {p q : Bs}, p.length = q.length → Digs p → Digs q → cmpN (nums p) (nums q) = if valD p < valD q then -1 else if valD q < valD p then 1 else 0
  | [], [], _, _, _ => by simp [valD, nums, cmpN]
  | [], _ :: _, h, _, _ => by simp at h
  | _ :: _, [], h, _, _ => by simp at h
  | x :: p, y :: q, h, hp, hq => by
    have hl : p.length = q.length := by simpa using h
    have ih := cmp_val hl hp.tail hq.tail
    have h1 := val_lt hp.tail
    have h2 := val_lt hq.tail
    have h3 := hp.head
    have h4 := hq.head
    rw [hl] at h1
    show cmpN (x.toNat :: nums p) (y.toNat :: nums q) = if (x.toNat - 48) * 10 ^ p.length + valD p < (y.toNat - 48) * 10 ^ q.length + valD q then -1 else if (y.toNat - 48) * 10 ^ q.length + valD q < (x.toNat - 48) * 10 ^ p.length + valD p then 1 else 0
    rw [cmpN, hl]
    by_cases c1 : x.toNat < y.toNat
    · rw [if_pos c1]
      have : (x.toNat - 48 + 1) * 10 ^ q.length ≤ (y.toNat - 48) * 10 ^ q.length := Nat.mul_le_mul_right _ (by omega)
      rw [Nat.add_mul, Nat.one_mul] at this
      rw [if_pos (by omega)]
    · rw [if_neg c1]
      by_cases c2 : y.toNat < x.toNat
      · rw [if_pos c2]
        have : (y.toNat - 48 + 1) * 10 ^ q.length ≤ (x.toNat - 48) * 10 ^ q.length := Nat.mul_le_mul_right _ (by omega)
        rw [Nat.add_mul, Nat.one_mul] at this
        rw [if_neg (by omega), if_pos (by omega)]
      · rw [if_neg c2, ih]
        have e : x.toNat = y.toNat := by omega
        rw [e]
        by_cases c3 : valD p < valD q
        · rw [if_pos c3, if_pos (by omega)]
        · rw [if_neg c3]
          by_cases c4 : valD q < valD p
          · rw [if_pos c4, if_neg (by omega), if_pos (by omega)]
          · rw [if_neg c4, if_neg (by omega), if_neg (by omega)]
theorem bare_ord {x y : Bs} (hx : Digs x) (hy : Digs y) (h : (bare x).length < (bare y).length) : valD x < valD y := by
  have h1 := val_lt hx.bare
  rw [val_bare hx] at h1
  rcases bare_low hy with e | h2
  · rw [e] at h; simp at h
  · rw [val_bare hy] at h2
    have : 10 ^ (bare x).length ≤ 10 ^ ((bare y).length - 1) := Nat.pow_le_pow_right (by omega) (by omega)
    omega
/-- Rows of digits are compared by their values, and then by their lengths. -/
theorem numC_val {x y : Bs} (hx : Digs x) (hy : Digs y) : numC x y = if valD x < valD y then -1 else if valD y < valD x then 1 else if x.length < y.length then -1 else if y.length < x.length then 1 else 0 := by
  unfold numC
  by_cases h1 : (bare x).length < (bare y).length
  · rw [if_pos h1, if_pos (bare_ord hx hy h1)]
  · rw [if_neg h1]
    by_cases h2 : (bare y).length < (bare x).length
    · have := bare_ord hy hx h2
      rw [if_pos h2, if_neg (by omega), if_pos this]
    · rw [if_neg h2]
      have e := cmp_val (p := bare x) (q := bare y) (by omega) hx.bare hy.bare
      rw [val_bare hx, val_bare hy] at e
      rw [e]
      by_cases c1 : valD x < valD y
      · rw [if_pos c1, if_pos c1, if_pos (by decide)]
      · rw [if_neg c1, if_neg c1]
        by_cases c2 : valD y < valD x
        · rw [if_pos c2, if_pos c2, if_pos (by decide)]
        · rw [if_neg c2, if_neg c2, if_neg (by simp)]

/-! ### Decimal numerals -/
theorem dig_of {k : Nat} (h : k < 10) : (UInt8.ofNat (48 + k)).toNat = 48 + k := by
  rw [UInt8.toNat_ofNat']
  omega
theorem dec_val : ∀ (u : Nat), Digs (decDigits u) ∧ valD (decDigits u) = u ∧ decDigits u ≠ [] := by
  intro u
  induction u using Nat.strongRecOn with
  | ind u ih =>
    rw [decDigits]
    by_cases h : u < 10
    · rw [dif_pos h]
      refine ⟨fun c hc => ?_, ?_, by simp⟩
      · obtain rfl : c = UInt8.ofNat (48 + u) := by simpa using hc
        rw [digB_iff, dig_of h]
        omega
      · show ((UInt8.ofNat (48 + u)).toNat - 48) * 10 ^ 0 + 0 = u
        rw [dig_of h]
        omega
    · rw [dif_neg h]
      obtain ⟨h1, h2, _⟩ := ih (u / 10) (by omega)
      have hm : u % 10 < 10 := by omega
      refine ⟨fun c hc => ?_, ?_, by simp⟩
      · rcases List.mem_append.1 hc with hc | hc
        · exact h1 c hc
        · obtain rfl : c = UInt8.ofNat (48 + u % 10) := by simpa using hc
          rw [digB_iff, dig_of hm]
          omega
      · rw [val_snoc, h2, dig_of hm]
        omega
theorem dec_len : ∀ (k u : Nat), u < 10 ^ (k + 1) → (decDigits u).length ≤ k + 1
  | 0, u, h => by rw [decDigits, dif_pos (by simpa using h)]; simp
  | k + 1, u, h => by
    rw [decDigits]
    by_cases c : u < 10
    · rw [dif_pos c]; simp
    · rw [dif_neg c, List.length_append, List.length_singleton]
      have := dec_len k (u / 10) (by rw [Nat.pow_succ] at h; omega)
      omega
theorem dec_inj {a b : Nat} (h : decDigits a = decDigits b) : a = b := by rw [← (dec_val a).2.1, h, (dec_val b).2.1]

/-! ### Names with numerals -/
theorem vld_of {l : Bs} (h1 : 1 ≤ l.length) (h2 : l.length ≤ 24) (h3 : letB (atB l 0) = true)
    (h : ∀ i, 1 ≤ i → i < l.length → digB (atB l i) = true ∨ letB (atB l i) = true ∨ ((atB l i).toNat = 45 ∧ i + 1 < l.length ∧ (atB l (i + 1)).toNat ≠ 45)) : vldB l = true := by
  refine (vldB_iff l).2 ⟨h1, h2, h3, fun i hi hl => ?_⟩
  unfold okAt
  rcases h i hi hl with c | c | ⟨c, d, e⟩
  · have := (digB_iff _).1 c
    rw [c, decide_eq_false (show ¬ (atB l i).toNat = 45 by omega)]
    simp
  · have := (letB_iff _).1 c
    rw [c, decide_eq_false (show ¬ (atB l i).toNat = 45 by omega)]
    simp
  · rw [decide_eq_true c, decide_eq_false (show ¬ i + 1 = l.length by omega), decide_eq_false e]
    simp
theorem at_mem {l : Bs} {i : Nat} (h : i < l.length) : atB l i ∈ l := by
  unfold atB
  rw [List.getD_eq_getElem?_getD, List.getElem?_eq_getElem h]
  exact List.getElem_mem h
theorem at_succ (c : UInt8) (l : Bs) (i : Nat) : atB (c :: l) (i + 1) = atB l i := rfl
theorem at_left {l m : Bs} {i : Nat} (h : i < l.length) : atB (l ++ m) i = atB l i := by
  unfold atB
  rw [List.getD_eq_getElem?_getD, List.getD_eq_getElem?_getD, List.getElem?_append_left h]
theorem at_right (l m : Bs) (i : Nat) : atB (l ++ m) (l.length + i) = atB m i := by
  unfold atB
  rw [List.getD_eq_getElem?_getD, List.getD_eq_getElem?_getD, List.getElem?_append_right (by omega), Nat.add_sub_cancel_left]
theorem vld_num {d : Bs} (h : Digs d) (hl : d.length ≤ 23) : vldB (110 :: d) = true := by
  refine vld_of (by simp) (by simp; omega) (show letB 110 = true by decide) fun i hi hlt => .inl ?_
  obtain ⟨j, rfl⟩ : ∃ j, i = j + 1 := ⟨i - 1, by omega⟩
  rw [at_succ]
  exact h _ (at_mem (by simpa using hlt))
theorem vld_dash {d : Bs} (h : Digs d) (hl : d.length ≤ 21) : vldB (110 :: d ++ [45, 49]) = true := by
  refine vld_of (by simp) (by simp; omega) (show letB 110 = true by decide) fun i hi hlt => ?_
  obtain ⟨j, rfl⟩ : ∃ j, i = j + 1 := ⟨i - 1, by omega⟩
  show digB (atB (d ++ [45, 49]) j) = true ∨ _
  rcases Nat.lt_trichotomy j d.length with c | c | c
  · left
    rw [at_left c]
    exact h _ (at_mem c)
  · right; right
    subst c
    show (atB (d ++ [45, 49]) (d.length + 0)).toNat = 45 ∧ _ ∧ (atB (d ++ [45, 49]) (d.length + 1)).toNat ≠ 45
    rw [at_right, at_right]
    exact ⟨rfl, by simp, by decide⟩
  · left
    have : j = d.length + 1 := by simp at hlt; omega
    rw [this, at_right]
    decide
theorem vld_a {d : Bs} (h : Digs d) (hl : d.length ≤ 21) : vldB (110 :: d ++ [97]) = true := by
  refine vld_of (by simp) (by simp; omega) (show letB 110 = true by decide) fun i hi hlt => ?_
  obtain ⟨j, rfl⟩ : ∃ j, i = j + 1 := ⟨i - 1, by omega⟩
  show digB (atB (d ++ [97]) j) = true ∨ letB (atB (d ++ [97]) j) = true ∨ _
  by_cases c : j < d.length
  · left
    rw [at_left c]
    exact h _ (at_mem c)
  · right; left
    have : j = d.length + 0 := by simp at hlt; omega
    rw [this, at_right]
    decide
theorem ordL_cons (x y : UInt8) (a b : Bs) : ordL (x :: a) (y :: b) = if digB x = true then (if digB y = true then (if numC (runD (x :: a)) (runD (y :: b)) ≠ 0 then numC (runD (x :: a)) (runD (y :: b)) else ordL (restD (x :: a)) (restD (y :: b))) else -1)
    else if digB y = true then 1 else if x.toNat < y.toNat then -1 else if y.toNat < x.toNat then 1 else ordL a b := by
  rw [ordL]
  split
  · rfl
  · rfl
theorem run_all {d m : Bs} (h : Digs d) (hm : ∀ c t, m = c :: t → digB c = false) : runD (d ++ m) = d ∧ restD (d ++ m) = m := by
  induction d with
  | nil =>
    cases m with
    | nil => exact ⟨rfl, rfl⟩
    | cons c t =>
      unfold runD restD
      rw [List.nil_append, List.takeWhile_cons, List.dropWhile_cons, if_neg (by rw [hm c t rfl]; simp), if_neg (by rw [hm c t rfl]; simp)]
      exact ⟨rfl, rfl⟩
  | cons x d ih =>
    obtain ⟨h1, h2⟩ := ih h.tail
    have hx := h x (List.mem_cons_self ..)
    unfold runD restD at *
    rw [List.cons_append, List.takeWhile_cons, List.dropWhile_cons, if_pos hx, if_pos hx, h1, h2]
    exact ⟨rfl, rfl⟩
theorem ord_nums {d e m n : Bs} (hd : Digs d) (he : Digs e) (h1 : d ≠ []) (h2 : e ≠ []) (hm : ∀ c t, m = c :: t → digB c = false) (hn : ∀ c t, n = c :: t → digB c = false) :
    ordL (110 :: d ++ m) (110 :: e ++ n) = if numC d e ≠ 0 then numC d e else ordL m n := by
  rw [List.cons_append, List.cons_append, ordL_cons, if_neg (by decide), if_neg (by decide), if_neg (by decide), if_neg (by decide)]
  obtain ⟨r1, s1⟩ := run_all hd hm
  obtain ⟨r2, s2⟩ := run_all he hn
  match d, e, h1, h2 with
  | x :: d, y :: e, _, _ =>
    rw [List.cons_append, List.cons_append, ordL_cons, if_pos (hd x (List.mem_cons_self ..)), if_pos (he y (List.mem_cons_self ..)), ← List.cons_append, ← List.cons_append, r1, r2, s1, s2]
theorem numC_self {d : Bs} (h : Digs d) : numC d d = 0 := by rw [numC_val h h]; simp
/-- Names with numerals are ordered by the numbers, then by the numerals' lengths. -/
theorem less_nums {d e : Bs} (hd : Digs d) (he : Digs e) (h1 : d ≠ []) (h2 : e ≠ []) (l1 : d.length ≤ 23) (l2 : e.length ≤ 23) :
    lessB (110 :: d) (110 :: e) = decide (valD d < valD e ∨ valD d = valD e ∧ d.length < e.length) := by
  have ho := ord_nums (m := []) (n := []) hd he h1 h2 (fun _ _ h => by cases h) (fun _ _ h => by cases h)
  rw [List.append_nil, List.append_nil, show ordL [] [] = 0 by rw [ordL]] at ho
  unfold lessB
  rw [vld_num hd l1, vld_num he l2, ho, numC_val hd he, Bool.true_and, Bool.true_and, decide_eq_decide]
  split <;> split <;> (try split) <;> (try split) <;> simp_all <;> omega
theorem less_dash {d : Bs} (hd : Digs d) (h1 : d ≠ []) (l1 : d.length ≤ 21) : lessB (110 :: d) (110 :: d ++ [45, 49]) = true := by
  have ho := ord_nums (m := []) (n := [45, 49]) hd hd h1 h1 (fun _ _ h => by cases h) (fun c t h => by injection h with h _; rw [← h]; decide)
  rw [List.append_nil, numC_self hd, if_neg (by simp), show ordL [] [45, 49] = -1 by rw [ordL]] at ho
  unfold lessB
  rw [vld_num hd (by omega), vld_dash hd l1, ho]
  rfl
theorem less_da {d : Bs} (hd : Digs d) (h1 : d ≠ []) (l1 : d.length ≤ 21) : lessB (110 :: d ++ [45, 49]) (110 :: d ++ [97]) = true := by
  have ho := ord_nums (m := [45, 49]) (n := [97]) hd hd h1 h1 (fun c t h => by injection h with h _; rw [← h]; decide) (fun c t h => by injection h with h _; rw [← h]; decide)
  rw [numC_self hd, if_neg (by simp), ordL_cons, if_neg (by decide), if_neg (by decide), if_pos (by decide)] at ho
  unfold lessB
  rw [vld_dash hd l1, vld_a hd l1, ho]
  rfl
theorem digs_zeros (k : Nat) {d : Bs} (h : Digs d) : Digs (List.replicate k 48 ++ d) := fun c hc => by
  rcases List.mem_append.1 hc with hc | hc
  · rw [List.eq_of_mem_replicate hc]; decide
  · exact h c hc
theorem val_zeros (k : Nat) (d : Bs) : valD (List.replicate k 48 ++ d) = valD d := by
  induction k with
  | zero => rfl
  | succ k ih =>
    rw [List.replicate_succ, List.cons_append]
    show ((48 : UInt8).toNat - 48) * _ + valD (List.replicate k 48 ++ d) = _
    rw [ih]
    simp
end Go.Proofs.YtedkpkdfopffiaaDoor.NamP
