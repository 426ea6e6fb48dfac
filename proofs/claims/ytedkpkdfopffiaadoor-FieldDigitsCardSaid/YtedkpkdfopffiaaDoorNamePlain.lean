/-
  Plain facts of package ident: names, their pieces and their order, with no word of the program. Condition: none.
-/
namespace Go.Proofs.YtedkpkdfopffiaaDoor.NamP
/-! ### Lists of numbers, compared from the first one on -/
def cmpN : List Nat → List Nat → Int
  | [], [] => 0
  | [], _ :: _ => -1
  | _ :: _, [] => 1
  | x :: a, y :: b => if x < y then -1 else if y < x then 1 else cmpN a b
theorem cmpN_swap : ∀ a b, cmpN b a = -cmpN a b
  | [], [] => rfl
  | [], _ :: _ => rfl
  | _ :: _, [] => rfl
  | x :: a, y :: b => by
    unfold cmpN
    by_cases h : x < y
    · rw [if_pos h, if_neg (by omega), if_pos h]; rfl
    · rw [if_neg h]
      by_cases k : y < x
      · rw [if_pos k, if_neg h, if_pos k]
      · rw [if_neg k, if_neg k, if_neg h, cmpN_swap a b]
theorem cmpN_zero : ∀ {a b}, cmpN a b = 0 ↔ a = b
  | [], [] => by simp [cmpN]
  | [], _ :: _ => by simp [cmpN]
  | _ :: _, [] => by simp [cmpN]
  | x :: a, y :: b => by
    unfold cmpN
    by_cases h : x < y
    · rw [if_pos h]; constructor
      · intro k; omega
      · intro k; injection k; omega
    · rw [if_neg h]
      by_cases k : y < x
      · rw [if_pos k]; constructor
        · intro k; omega
        · intro k; injection k; omega
      · rw [if_neg k, cmpN_zero]
        have : x = y := by omega
        subst this
        simp
theorem cmpN_self (a : List Nat) : cmpN a a = 0 := cmpN_zero.2 rfl
theorem cmpN_three : ∀ a b, cmpN a b = -1 ∨ cmpN a b = 0 ∨ cmpN a b = 1
  | [], [] => .inr (.inl rfl)
  | [], _ :: _ => .inl rfl
  | _ :: _, [] => .inr (.inr rfl)
  | x :: a, y :: b => by
    unfold cmpN
    split
    · exact .inl rfl
    · split
      · exact .inr (.inr rfl)
      · exact cmpN_three a b
theorem cmpN_trans : ∀ {a b c}, cmpN a b < 0 → cmpN b c < 0 → cmpN a c < 0
  | [], [], _, h, _ => by simp [cmpN] at h
  | _ :: _, [], _, h, _ => by simp [cmpN] at h
  | _, _ :: _, [], _, h => by simp [cmpN] at h
  | [], _ :: _, _ :: _, _, _ => by simp [cmpN]
  | x :: a, y :: b, z :: c, h, k => by
    unfold cmpN at h k ⊢
    by_cases h1 : x < y
    · by_cases k1 : y < z
      · rw [if_pos (by omega)]; omega
      · rw [if_neg k1] at k
        by_cases k2 : z < y
        · rw [if_pos k2] at k; omega
        · rw [if_pos (by omega)]; omega
    · rw [if_neg h1] at h
      by_cases h2 : y < x
      · rw [if_pos h2] at h; omega
      · rw [if_neg h2] at h
        by_cases k1 : y < z
        · rw [if_pos (by omega)]; omega
        · rw [if_neg k1] at k
          by_cases k2 : z < y
          · rw [if_pos k2] at k; omega
          · rw [if_neg k2] at k
            rw [if_neg (by omega), if_neg (by omega)]
            exact cmpN_trans h k
theorem cmpN_pre : ∀ (p a b : List Nat), cmpN (p ++ a) (p ++ b) = cmpN a b
  | [], _, _ => rfl
  | x :: p, a, b => by
    show cmpN (x :: (p ++ a)) (x :: (p ++ b)) = _
    rw [cmpN, if_neg (Nat.lt_irrefl _), if_neg (Nat.lt_irrefl _), cmpN_pre p]
theorem cmpN_first : ∀ {p q : List Nat} (a b : List Nat), p.length = q.length → p ≠ q → cmpN (p ++ a) (q ++ b) = cmpN p q
  | [], [], _, _, _, h => absurd rfl h
  | [], _ :: _, _, _, h, _ => by simp at h
  | _ :: _, [], _, _, h, _ => by simp at h
  | x :: p, y :: q, a, b, h, hne => by
    show cmpN (x :: (p ++ a)) (y :: (q ++ b)) = cmpN (x :: p) (y :: q)
    unfold cmpN
    split
    · rfl
    · split
      · rfl
      · have : x = y := by omega
        subst this
        exact cmpN_first a b (by simpa using h) (fun e => hne (by rw [e]))

/-! ### Bytes of names -/
abbrev Bs := List UInt8
def letB (c : UInt8) : Bool := decide (97 ≤ c.toNat) && decide (c.toNat ≤ 122)
def digB (c : UInt8) : Bool := decide (48 ≤ c.toNat) && decide (c.toNat ≤ 57)
theorem letB_iff (c : UInt8) : letB c = true ↔ 97 ≤ c.toNat ∧ c.toNat ≤ 122 := by unfold letB; rw [Bool.and_eq_true, decide_eq_true_eq, decide_eq_true_eq]
theorem digB_iff (c : UInt8) : digB c = true ↔ 48 ≤ c.toNat ∧ c.toNat ≤ 57 := by unfold digB; rw [Bool.and_eq_true, decide_eq_true_eq, decide_eq_true_eq]
def atB (l : Bs) (i : Nat) : UInt8 := l.getD i 0
/-- What stands at a place behind the first one may stand there. -/
def okAt (l : Bs) (i : Nat) : Bool := (letB (atB l i) || digB (atB l i) || decide ((atB l i).toNat = 45)) && !(decide ((atB l i).toNat = 45) && (decide (i + 1 = l.length) || decide ((atB l (i + 1)).toNat = 45)))
def vldB (l : Bs) : Bool := decide (1 ≤ l.length) && decide (l.length ≤ 24) && letB (atB l 0) && (List.range l.length).all fun i => decide (i = 0) || okAt l i
theorem vldB_iff (l : Bs) : vldB l = true ↔ 1 ≤ l.length ∧ l.length ≤ 24 ∧ letB (atB l 0) = true ∧ ∀ i, 1 ≤ i → i < l.length → okAt l i = true := by
  unfold vldB
  rw [Bool.and_eq_true, Bool.and_eq_true, Bool.and_eq_true, decide_eq_true_eq, decide_eq_true_eq, List.all_eq_true]
  constructor
  · rintro ⟨⟨⟨h1, h2⟩, h3⟩, h4⟩
    refine ⟨h1, h2, h3, fun i hi hl => ?_⟩
    have := h4 i (List.mem_range.2 hl)
    rw [Bool.or_eq_true, decide_eq_true_eq] at this
    rcases this with k | k
    · omega
    · exact k
  · rintro ⟨h1, h2, h3, h4⟩
    refine ⟨⟨⟨h1, h2⟩, h3⟩, fun i hi => ?_⟩
    rw [Bool.or_eq_true, decide_eq_true_eq]
    by_cases k : i = 0
    · exact .inl k
    · exact .inr (h4 i (by omega) (List.mem_range.1 hi))

/-! ### Rows of digits -/
def bare (l : Bs) : Bs := l.dropWhile fun c => decide (c.toNat = 48)
def nums (l : Bs) : List Nat := l.map UInt8.toNat
theorem nums_inj : ∀ {a b : Bs}, nums a = nums b → a = b
  | [], [], _ => rfl
  | [], _ :: _, h => by simp [nums] at h
  | _ :: _, [], h => by simp [nums] at h
  | x :: a, y :: b, h => by
    simp only [nums, List.map_cons, List.cons.injEq] at h
    rw [UInt8.toNat_inj.1 h.1, nums_inj h.2]
theorem nums_len (l : Bs) : (nums l).length = l.length := List.length_map ..
/-- The comparison of two rows of digits. -/
def numC (x y : Bs) : Int :=
  if (bare x).length < (bare y).length then -1 else if (bare y).length < (bare x).length then 1
  else if cmpN (nums (bare x)) (nums (bare y)) ≠ 0 then cmpN (nums (bare x)) (nums (bare y))
  else if x.length < y.length then -1 else if y.length < x.length then 1 else 0
/-- How a row of digits is written for the order. -/
def encD (m : Bs) : List Nat := (bare m).length :: (nums (bare m) ++ [m.length])
theorem numC_enc (x y : Bs) (a b : List Nat) : cmpN (encD x ++ a) (encD y ++ b) = if numC x y ≠ 0 then numC x y else cmpN a b := by
  unfold encD numC
  by_cases h1 : (bare x).length < (bare y).length
  · rw [if_pos h1, if_pos (by omega)]
    show cmpN (_ :: _) (_ :: _) = _
    rw [cmpN, if_pos h1]
  · rw [if_neg h1]
    by_cases h2 : (bare y).length < (bare x).length
    · rw [if_pos h2, if_pos (by omega)]
      show cmpN (_ :: _) (_ :: _) = _
      rw [cmpN, if_neg h1, if_pos h2]
    · rw [if_neg h2]
      show cmpN (_ :: ((nums (bare x) ++ [x.length]) ++ a)) (_ :: ((nums (bare y) ++ [y.length]) ++ b)) = _
      rw [cmpN, if_neg h1, if_neg h2, List.append_assoc, List.append_assoc]
      have hl : (nums (bare x)).length = (nums (bare y)).length := by rw [nums_len, nums_len]; omega
      by_cases h3 : cmpN (nums (bare x)) (nums (bare y)) ≠ 0
      · rw [if_pos h3, if_pos h3, cmpN_first _ _ hl (fun e => h3 (cmpN_zero.2 e))]
      · rw [if_neg h3]
        have e : nums (bare x) = nums (bare y) := cmpN_zero.1 (Classical.not_not.1 h3)
        rw [e, cmpN_pre]
        show cmpN (x.length :: a) (y.length :: b) = _
        rw [cmpN]
        by_cases h4 : x.length < y.length
        · rw [if_pos h4, if_pos h4, if_pos (by omega)]
        · rw [if_neg h4, if_neg h4]
          by_cases h5 : y.length < x.length
          · rw [if_pos h5, if_pos h5, if_pos (by omega)]
          · rw [if_neg h5, if_neg h5, if_neg (by omega)]

/-! ### The order -/
def runD (l : Bs) : Bs := l.takeWhile digB
def restD (l : Bs) : Bs := l.dropWhile digB
theorem restD_len {x : UInt8} {l : Bs} (h : digB x = true) : (restD (x :: l)).length < (x :: l).length := by
  unfold restD
  rw [List.dropWhile_cons, if_pos h]
  have := (List.dropWhile_sublist (p := digB) (l := l)).length_le
  simp only [List.length_cons]
  omega
theorem run_rest (l : Bs) : runD l ++ restD l = l := List.takeWhile_append_dropWhile
def ordL (a b : Bs) : Int :=
  match a, b with
  | [], [] => 0
  | [], _ :: _ => -1
  | _ :: _, [] => 1
  | x :: a', y :: b' =>
    if hx : digB x = true then
      if digB y = true then
        if numC (runD (x :: a')) (runD (y :: b')) ≠ 0 then numC (runD (x :: a')) (runD (y :: b')) else
          have := restD_len (l := a') hx
          ordL (restD (x :: a')) (restD (y :: b'))
      else -1
    else if digB y = true then 1 else if x.toNat < y.toNat then -1 else if y.toNat < x.toNat then 1 else ordL a' b'
  termination_by a.length
def enc (a : Bs) : List Nat :=
  match a with
  | [] => []
  | x :: a' => if hx : digB x = true then
      have := restD_len (l := a') hx
      encD (runD (x :: a')) ++ enc (restD (x :: a')) else x.toNat :: enc a'
  termination_by a.length
theorem bare_len (l : Bs) : (bare l).length ≤ l.length := (List.dropWhile_sublist ..).length_le
theorem run_len (l : Bs) : (runD l).length ≤ l.length := (List.takeWhile_sublist ..).length_le
theorem rest_len (l : Bs) : (restD l).length ≤ l.length := (List.dropWhile_sublist ..).length_le
/-- No byte that stands in a name, but for digits, is less than 45. -/
def highB (l : Bs) : Prop := ∀ c ∈ l, digB c = false → 45 ≤ c.toNat
theorem highB.tail {x : UInt8} {l : Bs} (h : highB (x :: l)) : highB l := fun c hc => h c (List.mem_cons_of_mem _ hc)
theorem highB.rest {l : Bs} (h : highB l) : highB (restD l) := fun c hc => h c ((List.dropWhile_sublist ..).mem hc)
theorem ord_enc : ∀ (a b : Bs), a.length ≤ 40 → b.length ≤ 40 → highB a → highB b → ordL a b = cmpN (enc a) (enc b)
  | [], [], _, _, _, _ => by rw [ordL, enc]; rfl
  | [], y :: b', _, _, _, _ => by
    rw [ordL, enc, enc]
    split
    · rfl
    · rfl
  | x :: a', [], _, _, _, _ => by
    rw [ordL, enc, enc]
    split
    · rfl
    · rfl
  | x :: a', y :: b', ha, hb, ka, kb => by
    rw [ordL, enc, enc]
    by_cases hx : digB x = true
    · rw [dif_pos hx, dif_pos hx]
      have hl1 := bare_len (runD (x :: a'))
      have hl2 := run_len (x :: a')
      by_cases hy : digB y = true
      · rw [if_pos hy, dif_pos hy, numC_enc]
        have l1 := restD_len (l := a') hx
        have l2 := restD_len (l := b') hy
        rw [ord_enc (restD (x :: a')) (restD (y :: b')) (by omega) (by omega) ka.rest kb.rest]
      · rw [if_neg hy, dif_neg hy]
        have := kb y (List.mem_cons_self ..) (Bool.of_not_eq_true hy)
        unfold encD
        show -1 = cmpN (_ :: _) (_ :: _)
        rw [cmpN, if_pos (by omega)]
    · rw [dif_neg hx, dif_neg hx]
      have kx := ka x (List.mem_cons_self ..) (Bool.of_not_eq_true hx)
      by_cases hy : digB y = true
      · rw [if_pos hy, dif_pos hy]
        have hl1 := bare_len (runD (y :: b'))
        have hl2 := run_len (y :: b')
        unfold encD
        show 1 = cmpN (_ :: _) (_ :: _)
        rw [cmpN, if_neg (by omega), if_pos (by omega)]
      · rw [if_neg hy, dif_neg hy, cmpN, ord_enc a' b' (by simp at ha; omega) (by simp at hb; omega) ka.tail kb.tail]
  termination_by a => a.length
theorem dw_zero : ∀ (l : Bs), l = List.replicate (l.length - (bare l).length) 48 ++ bare l
  | [] => rfl
  | x :: l => by
    unfold bare
    rw [List.dropWhile_cons]
    by_cases h : x.toNat = 48
    · rw [if_pos (decide_eq_true h)]
      have := dw_zero l
      have hb := bare_len l
      unfold bare at this hb
      have e : x = 48 := UInt8.toNat_inj.1 h
      subst e
      rw [show (48 :: l).length - (List.dropWhile (fun c : UInt8 => decide (c.toNat = 48)) l).length = (l.length - (List.dropWhile (fun c : UInt8 => decide (c.toNat = 48)) l).length) + 1 by simp only [List.length_cons]; omega, List.replicate_succ]
      exact congrArg (48 :: ·) this
    · rw [if_neg (by simpa using h)]
      simp
theorem bare_run {m n : Bs} (h1 : bare m = bare n) (h2 : m.length = n.length) : m = n := by
  rw [dw_zero m, dw_zero n, h1, h2]
theorem append_parts {α : Type} : ∀ {p q a b : List α}, p.length = q.length → p ++ a = q ++ b → p = q ∧ a = b
  | [], [], _, _, _, h => ⟨rfl, h⟩
  | [], _ :: _, _, _, h, _ => by simp at h
  | _ :: _, [], _, _, h, _ => by simp at h
  | x :: p, y :: q, a, b, h, e => by
    simp only [List.cons_append, List.cons.injEq] at e
    obtain ⟨k1, k2⟩ := append_parts (by simpa using h) e.2
    exact ⟨by rw [e.1, k1], k2⟩
theorem enc_inj : ∀ (a b : Bs), a.length ≤ 40 → b.length ≤ 40 → highB a → highB b → enc a = enc b → a = b
  | [], [], _, _, _, _, _ => rfl
  | [], y :: b', _, _, _, _, h => by
    rw [enc, enc] at h
    split at h
    · simp [encD] at h
    · simp at h
  | x :: a', [], _, _, _, _, h => by
    rw [enc, enc] at h
    split at h
    · simp [encD] at h
    · simp at h
  | x :: a', y :: b', ha, hb, ka, kb, h => by
    have hA := run_rest (x :: a')
    have hB := run_rest (y :: b')
    rw [enc, enc] at h
    by_cases hx : digB x = true
    · rw [dif_pos hx] at h
      have hl1 := bare_len (runD (x :: a'))
      have hl2 := run_len (x :: a')
      by_cases hy : digB y = true
      · rw [dif_pos hy] at h
        have l1 := restD_len (l := a') hx
        have l2 := restD_len (l := b') hy
        unfold encD at h
        simp only [List.cons_append, List.cons.injEq, List.append_assoc] at h
        obtain ⟨k1, k2⟩ := h
        obtain ⟨k3, k4⟩ := append_parts (by rw [nums_len, nums_len]; exact k1) k2
        simp only [List.nil_append, List.cons.injEq] at k4
        have e1 := bare_run (nums_inj k3) k4.1
        have e2 := enc_inj _ _ (by omega) (by omega) ka.rest kb.rest k4.2
        rw [← hA, ← hB, e1, e2]
      · rw [dif_neg hy] at h
        have := kb y (List.mem_cons_self ..) (Bool.of_not_eq_true hy)
        unfold encD at h
        simp only [List.cons_append, List.cons.injEq] at h
        omega
    · rw [dif_neg hx] at h
      have kx := ka x (List.mem_cons_self ..) (Bool.of_not_eq_true hx)
      by_cases hy : digB y = true
      · rw [dif_pos hy] at h
        have hl1 := bare_len (runD (y :: b'))
        have hl2 := run_len (y :: b')
        unfold encD at h
        simp only [List.cons_append, List.cons.injEq] at h
        omega
      · rw [dif_neg hy] at h
        simp only [List.cons.injEq] at h
        rw [UInt8.toNat_inj.1 h.1, enc_inj a' b' (by simp at ha; omega) (by simp at hb; omega) ka.tail kb.tail h.2]
  termination_by a => a.length
/-- A name's bytes are high, and it is short. -/
theorem vld_high {l : Bs} (h : vldB l = true) : highB l ∧ l.length ≤ 40 := by
  obtain ⟨h1, h2, h3, h4⟩ := (vldB_iff l).1 h
  refine ⟨fun c hc hd => ?_, by omega⟩
  obtain ⟨i, hi, e⟩ := List.mem_iff_getElem.1 hc
  have ea : atB l i = c := by unfold atB; rw [List.getD_eq_getElem?_getD, List.getElem?_eq_getElem hi, Option.getD_some, e]
  by_cases k : i = 0
  · subst k
    rw [ea, letB_iff] at h3
    omega
  · have := h4 i (by omega) hi
    unfold okAt at this
    rw [Bool.and_eq_true, Bool.or_eq_true, Bool.or_eq_true, decide_eq_true_eq, ea, hd] at this
    rcases this.1 with (k | k) | k
    · rw [letB_iff] at k; omega
    · cases k
    · omega
/-- Whether a name comes before another one. -/
def lessB (a b : Bs) : Bool := vldB a && vldB b && decide (ordL a b < 0)
theorem less_enc {a b : Bs} (ha : vldB a = true) (hb : vldB b = true) : lessB a b = decide (cmpN (enc a) (enc b) < 0) := by
  unfold lessB
  rw [ha, hb, ord_enc a b (vld_high ha).2 (vld_high hb).2 (vld_high ha).1 (vld_high hb).1]
  rfl
theorem less_no {a b : Bs} (h : vldB a = false ∨ vldB b = false) : lessB a b = false := by
  unfold lessB
  rcases h with h | h <;> rw [h] <;> simp
theorem less_vld {a b : Bs} (h : lessB a b = true) : vldB a = true ∧ vldB b = true := by
  unfold lessB at h
  rw [Bool.and_eq_true, Bool.and_eq_true] at h
  exact h.1
theorem less_total {a b : Bs} (ha : vldB a = true) (hb : vldB b = true) (h : a ≠ b) : lessB b a = !lessB a b := by
  rw [less_enc ha hb, less_enc hb ha, cmpN_swap (enc a) (enc b)]
  have h0 : cmpN (enc a) (enc b) ≠ 0 := fun e => h (enc_inj a b (vld_high ha).2 (vld_high hb).2 (vld_high ha).1 (vld_high hb).1 (cmpN_zero.1 e))
  rcases cmpN_three (enc a) (enc b) with e | e | e
  · rw [e]; rfl
  · exact absurd e h0
  · rw [e]; rfl
theorem less_irrefl (a : Bs) : lessB a a = false := by
  by_cases ha : vldB a = true
  · rw [less_enc ha ha, cmpN_self]; rfl
  · exact less_no (.inl (Bool.of_not_eq_true ha))
theorem less_trans {a b c : Bs} (h : lessB a b = true) (k : lessB b c = true) : lessB a c = true := by
  obtain ⟨ha, hb⟩ := less_vld h
  obtain ⟨_, hc⟩ := less_vld k
  rw [less_enc ha hb, decide_eq_true_eq] at h
  rw [less_enc hb hc, decide_eq_true_eq] at k
  rw [less_enc ha hc, decide_eq_true_eq]
  exact cmpN_trans h k
theorem less_asymm {a b : Bs} (h : lessB a b = true) : lessB b a = false := by
  refine Bool.of_not_eq_true fun k => ?_
  have := less_trans h k
  rw [less_irrefl] at this
  cases this
end Go.Proofs.YtedkpkdfopffiaaDoor.NamP
