/-
  Plain facts of package wire: integers, texts and lists as bytes, written and read. No word of the program. Condition: none.
-/
namespace Go.Proofs.Ytbplglndcagglaa.WirP
abbrev Bs := List UInt8
def byteN (u : Nat) : UInt8 := UInt8.ofNat u
theorem byte_of {u : Nat} (h : u < 256) : (byteN u).toNat = u := by
  unfold byteN
  rw [UInt8.toNat_ofNat']
  exact Nat.mod_eq_of_lt h
/-- The unsigned number by which an integer is encoded. -/
def codeN (n : Int) : Nat := if n < 0 then 2 * (-(n + 1)).toNat + 1 else 2 * n.toNat
def valI (u : Nat) : Int := if u % 2 = 1 then -((u / 2 : Nat) : Int) - 1 else ((u / 2 : Nat) : Int)
theorem val_code (n : Int) : valI (codeN n) = n := by
  unfold valI codeN
  by_cases h : n < 0
  · rw [if_pos h, if_pos (by omega)]; omega
  · rw [if_neg h, if_neg (by omega)]; omega
theorem code_val (u : Nat) : codeN (valI u) = u := by
  unfold valI codeN
  by_cases h : u % 2 = 1
  · rw [if_pos h, if_pos (by omega)]; omega
  · rw [if_neg h, if_neg (by omega)]; omega
theorem code_lt {n : Int} (h : -9223372036854775808 ≤ n ∧ n ≤ 9223372036854775807) : codeN n < 18446744073709551616 := by
  unfold codeN
  by_cases c : n < 0
  · rw [if_pos c]; omega
  · rw [if_neg c]; omega
theorem val_in {u : Nat} (h : u < 18446744073709551616) : -9223372036854775808 ≤ valI u ∧ valI u ≤ 9223372036854775807 := by
  unfold valI
  by_cases c : u % 2 = 1
  · rw [if_pos c]; omega
  · rw [if_neg c]; omega
/-- The groups of seven bits of an unsigned number. -/
def varB (u : Nat) : Bs := if h : u < 128 then [byteN u] else byteN (u % 128 + 128) :: varB (u / 128)
  termination_by u
  decreasing_by omega
theorem var_small {u : Nat} (h : u < 128) : varB u = [byteN u] := by rw [varB, dif_pos h]
theorem var_big {u : Nat} (h : ¬ u < 128) : varB u = byteN (u % 128 + 128) :: varB (u / 128) := by rw [varB, dif_neg h]
theorem var_ne (u : Nat) : varB u ≠ [] := by
  by_cases h : u < 128
  · rw [var_small h]; simp
  · rw [var_big h]; simp
theorem var_len : ∀ (k u : Nat), u < 128 ^ (k + 1) → (varB u).length ≤ k + 1 := by
  intro k
  induction k with
  | zero => intro u h; rw [var_small (by omega)]; simp
  | succ k ih =>
    intro u h
    by_cases c : u < 128
    · rw [var_small c]; simp
    · rw [var_big c, List.length_cons]
      have : u / 128 < 128 ^ (k + 1) := by
        rw [Nat.pow_succ] at h
        exact Nat.div_lt_of_lt_mul (by rw [Nat.mul_comm]; exact h)
      have := ih (u / 128) this
      omega
theorem var_mono : ∀ (k u v : Nat), v < k → u ≤ v → (varB u).length ≤ (varB v).length := by
  intro k
  induction k with
  | zero => intro u v h; omega
  | succ k ih =>
    intro u v h huv
    by_cases c : u < 128
    · rw [var_small c]
      have := List.length_pos_iff.2 (var_ne v)
      show 1 ≤ _
      omega
    · rw [var_big c, var_big (show ¬ v < 128 by omega), List.length_cons, List.length_cons]
      have := ih (u / 128) (v / 128) (by omega) (by omega)
      omega
theorem var_one {u : Nat} : (varB u).length = 1 ↔ u < 128 := by
  by_cases c : u < 128
  · rw [var_small c]; simp [c]
  · rw [var_big c, List.length_cons]
    have := List.length_pos_iff.2 (var_ne (u / 128))
    exact ⟨fun h => by omega, fun h => absurd h c⟩
/-- The number that groups say, and how many bytes it has; none if no byte is the last one. -/
def readU : Bs → Option (Nat × Nat)
  | [] => none
  | c :: r => if c.toNat < 128 then some (c.toNat, 1) else (readU r).map fun p => (c.toNat % 128 + 128 * p.1, p.2 + 1)
theorem read_var : ∀ (k u : Nat), u < k → ∀ r, readU (varB u ++ r) = some (u, (varB u).length) := by
  intro k
  induction k with
  | zero => intro u h; omega
  | succ k ih =>
    intro u h r
    by_cases c : u < 128
    · rw [var_small c]
      show (if (byteN u).toNat < 128 then _ else _) = _
      rw [byte_of (by omega), if_pos c]
      rfl
    · rw [var_big c]
      show (if (byteN (u % 128 + 128)).toNat < 128 then _ else (readU (varB (u / 128) ++ r)).map _) = _
      rw [byte_of (by omega), if_neg (by omega), ih (u / 128) (by omega) r]
      show some ((u % 128 + 128) % 128 + 128 * (u / 128), (varB (u / 128)).length + 1) = _
      rw [show (u % 128 + 128) % 128 + 128 * (u / 128) = u by omega]
      rfl
theorem read_pos : ∀ {b : Bs} {u k : Nat}, readU b = some (u, k) → 1 ≤ k ∧ k ≤ b.length
  | [], _, _, h => by cases h
  | c :: r, u, k, h => by
    have h : (if c.toNat < 128 then some (c.toNat, 1) else (readU r).map fun p => (c.toNat % 128 + 128 * p.1, p.2 + 1)) = some (u, k) := h
    by_cases d : c.toNat < 128
    · rw [if_pos d] at h
      injection h with h
      injection h with _ h
      simp
      omega
    · rw [if_neg d] at h
      cases e : readU r with
      | none => rw [e] at h; cases h
      | some p =>
        rw [e] at h
        injection h with h
        injection h with _ h
        have := read_pos (b := r) (u := p.1) (k := p.2) e
        simp
        omega
/-- A number whose last byte is not nought, unless it is the only one, is written in one way. -/
theorem read_once : ∀ {b : Bs} {u k : Nat}, readU b = some (u, k) → (k = 1 ∨ ∃ h : k - 1 < b.length, b[k - 1].toNat ≠ 0) → varB u = b.take k ∧ (2 ≤ k → 128 ≤ u)
  | [], _, _, h, _ => by cases h
  | c :: r, u, k, h, hz => by
    have h : (if c.toNat < 128 then some (c.toNat, 1) else (readU r).map fun p => (c.toNat % 128 + 128 * p.1, p.2 + 1)) = some (u, k) := h
    by_cases d : c.toNat < 128
    · rw [if_pos d] at h
      injection h with h
      injection h with h1 h2
      subst h1
      subst h2
      refine ⟨?_, fun h => by omega⟩
      rw [var_small d]
      show [byteN c.toNat] = [c]
      rw [show byteN c.toNat = c from UInt8.toNat_inj.1 (byte_of (by omega))]
    · rw [if_neg d] at h
      cases e : readU r with
      | none => rw [e] at h; cases h
      | some p =>
        obtain ⟨v, m⟩ := p
        rw [e] at h
        injection h with h
        injection h with h1 h2
        have h1 : c.toNat % 128 + 128 * v = u := h1
        have h2 : m + 1 = k := h2
        have hp := read_pos e
        have hc : c.toNat < 256 := c.toNat_lt
        have hz' : m = 1 ∨ ∃ h : m - 1 < r.length, r[m - 1].toNat ≠ 0 := by
          rcases hz with hz | ⟨hl, hz⟩
          · omega
          · by_cases q : m = 1
            · exact .inl q
            · refine .inr ⟨by omega, ?_⟩
              have e2 : k - 1 = (m - 1) + 1 := by omega
              simp only [e2, List.getElem_cons_succ] at hz
              exact hz
        obtain ⟨ih1, ih2⟩ := read_once e hz'
        have hv : 1 ≤ v := by
          by_cases q : 2 ≤ m
          · have := ih2 q; omega
          · have hm1 : m = 1 := by omega
            subst hm1
            rcases hz with hz | ⟨hl, hz⟩
            · omega
            · have e2 : k - 1 = 1 := by omega
              simp only [e2] at hz
              cases r with
              | nil => simp at hp
              | cons y s =>
                have hz : y.toNat ≠ 0 := hz
                have e : (if y.toNat < 128 then some (y.toNat, 1) else (readU s).map fun p => (y.toNat % 128 + 128 * p.1, p.2 + 1)) = some (v, 1) := e
                by_cases w : y.toNat < 128
                · rw [if_pos w] at e
                  injection e with e
                  injection e with e _
                  omega
                · rw [if_neg w] at e
                  cases e3 : readU s with
                  | none => rw [e3] at e; cases e
                  | some q =>
                    rw [e3] at e
                    injection e with e
                    injection e with _ e
                    have := (read_pos (b := s) (u := q.1) (k := q.2) e3).1
                    have e : q.2 + 1 = 1 := e
                    omega
        refine ⟨?_, fun _ => by omega⟩
        rw [var_big (show ¬ u < 128 by omega), show u % 128 = c.toNat % 128 by omega, show u / 128 = v by omega, ih1, ← h2, List.take_succ_cons]
        rw [show byteN (c.toNat % 128 + 128) = c from UInt8.toNat_inj.1 (by rw [byte_of (by omega)]; omega)]
theorem read_cut : ∀ (k u : Nat), u < k → ∀ c, c < (varB u).length → readU ((varB u).take c) = none := by
  intro k
  induction k with
  | zero => intro u h; omega
  | succ k ih =>
    intro u h c hc
    cases c with
    | zero => rfl
    | succ c =>
      by_cases d : u < 128
      · rw [var_small d] at hc
        simp at hc
      · rw [var_big d] at hc ⊢
        rw [List.length_cons] at hc
        rw [List.take_succ_cons]
        show (if (byteN (u % 128 + 128)).toNat < 128 then _ else (readU ((varB (u / 128)).take c)).map _) = _
        rw [byte_of (by omega), if_neg (by omega), ih (u / 128) (by omega) c (by omega)]
        rfl
/-- How great a number of ten bytes is. -/
theorem read_bound : ∀ (j : Nat) {b : Bs} {u k : Nat}, readU b = some (u, k) → k ≤ j → u < 128 ^ j
  | 0, b, u, k, h, hk => by have := (read_pos h).1; omega
  | j + 1, [], _, _, h, _ => by cases h
  | j + 1, c :: r, u, k, h, hk => by
    have h : (if c.toNat < 128 then some (c.toNat, 1) else (readU r).map fun p => (c.toNat % 128 + 128 * p.1, p.2 + 1)) = some (u, k) := h
    have hp : 0 < 128 ^ j := Nat.pow_pos (by decide)
    rw [Nat.pow_succ]
    by_cases d : c.toNat < 128
    · rw [if_pos d] at h
      injection h with h
      injection h with h _
      omega
    · rw [if_neg d] at h
      cases e : readU r with
      | none => rw [e] at h; cases h
      | some p =>
        rw [e] at h
        injection h with h
        injection h with h1 h2
        have h1 : c.toNat % 128 + 128 * p.1 = u := h1
        have h2 : p.2 + 1 = k := h2
        have := read_bound j (b := r) (u := p.1) (k := p.2) e (by omega)
        omega
/-! ### Integers -/
def encI (n : Int) : Bs := varB (codeN n)
/-- The last byte of a number that has k bytes. -/
def lastB (b : Bs) (k : Nat) : Nat := (b.getD (k - 1) 0).toNat
/-- The error of reading an integer. -/
def takeE (b : Bs) : Int := match readU b with
  | none => 13
  | some (_, k) => if 10 < k ∨ (k = 10 ∧ 1 < lastB b 10) then 12 else if 1 < k ∧ lastB b k = 0 then 2 else 0
def takeV (b : Bs) : Int := if takeE b = 0 then (match readU b with
  | none => 0
  | some (u, _) => valI u) else 0
def takeK (b : Bs) : Nat := if takeE b = 0 then (match readU b with
  | none => 0
  | some (_, k) => k) else 0
theorem enc_len (n : Int) : 1 ≤ (encI n).length := List.length_pos_iff.2 (var_ne _)
theorem enc_ten {n : Int} (h : -9223372036854775808 ≤ n ∧ n ≤ 9223372036854775807) : (encI n).length ≤ 10 := var_len 9 _ (Nat.lt_of_lt_of_le (code_lt h) (by decide))
theorem var_last : ∀ (k u : Nat), u < k → (varB u).length = 1 ∨ lastB (varB u) (varB u).length ≠ 0 := by
  intro k
  induction k with
  | zero => intro u h; omega
  | succ k ih =>
    intro u h
    by_cases c : u < 128
    · exact .inl (var_one.2 c)
    · refine .inr ?_
      rw [var_big c]
      unfold lastB
      have hp := List.length_pos_iff.2 (var_ne (u / 128))
      rw [List.length_cons, Nat.add_sub_cancel, show (varB (u / 128)).length = ((varB (u / 128)).length - 1) + 1 by omega, List.getD_cons_succ]
      rcases ih (u / 128) (by omega) with h1 | h1
      · have h2 := var_one.1 h1
        rw [var_small h2]
        show (byteN (u / 128)).toNat ≠ 0
        rw [byte_of (by omega)]
        omega
      · exact h1
theorem last_app {a r : Bs} {k : Nat} (h : 1 ≤ k) (hk : k ≤ a.length) : lastB (a ++ r) k = lastB a k := by
  unfold lastB
  rw [List.getD_eq_getElem?_getD, List.getD_eq_getElem?_getD, List.getElem?_append_left (by omega)]
/-- A number of ten bytes below 2^64 ends with nought or one. -/
theorem ten_last : ∀ (j u : Nat), (varB u).length = j + 1 → u < 2 * 128 ^ j → lastB (varB u) (j + 1) ≤ 1
  | 0, u, h, hu => by
    have h1 := var_one.1 h
    rw [var_small h1]
    show (byteN u).toNat ≤ 1
    rw [byte_of (by omega)]
    omega
  | j + 1, u, h, hu => by
    have c : ¬ u < 128 := fun c => by rw [var_one.2 c] at h; omega
    rw [var_big c] at h ⊢
    have h : (varB (u / 128)).length = j + 1 := by rw [List.length_cons] at h; omega
    have hu2 : u / 128 < 2 * 128 ^ j := by
      rw [Nat.pow_succ, ← Nat.mul_assoc] at hu
      exact Nat.div_lt_of_lt_mul (by rw [Nat.mul_comm]; exact hu)
    have := ten_last j (u / 128) h hu2
    unfold lastB at this ⊢
    rw [show j + 1 + 1 - 1 = (j + 1 - 1) + 1 by omega, List.getD_cons_succ]
    exact this
/-- What is written is read back, with any bytes after it. -/
theorem take_enc {n : Int} (h : -9223372036854775808 ≤ n ∧ n ≤ 9223372036854775807) (r : Bs) : takeE (encI n ++ r) = 0 ∧ takeV (encI n ++ r) = n ∧ takeK (encI n ++ r) = (encI n).length := by
  have hr : readU (encI n ++ r) = some (codeN n, (encI n).length) := read_var (codeN n + 1) _ (Nat.lt_succ_self _) r
  have h1 := enc_len n
  have h2 := enc_ten h
  have he : takeE (encI n ++ r) = 0 := by
    unfold takeE
    rw [hr]
    show (if _ then _ else if _ then _ else _) = _
    rw [if_neg, if_neg]
    · rintro ⟨k1, k2⟩
      rw [last_app h1 (Nat.le_refl _)] at k2
      rcases var_last (codeN n + 1) (codeN n) (Nat.lt_succ_self _) with k | k
      · have k : (encI n).length = 1 := k
        omega
      · exact k k2
    · rintro (k | ⟨k1, k2⟩)
      · omega
      · rw [last_app (by omega) (by omega)] at k2
        have := ten_last 9 (codeN n) k1 (Nat.lt_of_lt_of_le (code_lt h) (by decide))
        have : lastB (encI n) 10 ≤ 1 := this
        omega
  refine ⟨he, ?_, ?_⟩
  · unfold takeV
    rw [if_pos he, hr]
    exact val_code n
  · unfold takeK
    rw [if_pos he, hr]
theorem take_cut (n : Int) {c : Nat} (h : c < (encI n).length) : takeE ((encI n).take c) = 13 ∧ takeV ((encI n).take c) = 0 ∧ takeK ((encI n).take c) = 0 := by
  have hr : readU ((encI n).take c) = none := read_cut (codeN n + 1) _ (Nat.lt_succ_self _) c h
  have he : takeE ((encI n).take c) = 13 := by unfold takeE; rw [hr]
  exact ⟨he, by unfold takeV; rw [he, if_neg (by decide)], by unfold takeK; rw [he, if_neg (by decide)]⟩
theorem take_bad {b : Bs} (h : takeE b ≠ 0) : takeV b = 0 ∧ takeK b = 0 := ⟨by unfold takeV; rw [if_neg h], by unfold takeK; rw [if_neg h]⟩
theorem read_top : ∀ {b : Bs} {u k : Nat}, readU b = some (u, k) → u < (lastB b k + 1) * 128 ^ (k - 1)
  | [], _, _, h => by cases h
  | c :: r, u, k, h => by
    have h : (if c.toNat < 128 then some (c.toNat, 1) else (readU r).map fun p => (c.toNat % 128 + 128 * p.1, p.2 + 1)) = some (u, k) := h
    by_cases d : c.toNat < 128
    · rw [if_pos d] at h
      injection h with h
      injection h with h1 h2
      subst h1
      subst h2
      show c.toNat < (c.toNat + 1) * 128 ^ 0
      omega
    · rw [if_neg d] at h
      cases e : readU r with
      | none => rw [e] at h; cases h
      | some p =>
        rw [e] at h
        injection h with h
        injection h with h1 h2
        have h1 : c.toNat % 128 + 128 * p.1 = u := h1
        have h2 : p.2 + 1 = k := h2
        have ih := read_top (b := r) (u := p.1) (k := p.2) e
        have hp := (read_pos (b := r) (u := p.1) (k := p.2) e).1
        have hl : lastB (c :: r) k = lastB r p.2 := by
          unfold lastB
          rw [show k - 1 = (p.2 - 1) + 1 by omega, List.getD_cons_succ]
        rw [hl, show k - 1 = (p.2 - 1) + 1 by omega, Nat.pow_succ, ← Nat.mul_assoc]
        generalize (lastB r p.2 + 1) * 128 ^ (p.2 - 1) = X at ih ⊢
        omega
/-- What is read without an error was written so. -/
theorem take_once {b : Bs} (h : takeE b = 0) : encI (takeV b) = b.take (takeK b) ∧ 1 ≤ takeK b ∧ takeK b ≤ b.length ∧ takeK b ≤ 10 ∧ -9223372036854775808 ≤ takeV b ∧ takeV b ≤ 9223372036854775807 := by
  cases hr : readU b with
  | none => unfold takeE at h; rw [hr] at h; cases h
  | some p =>
    obtain ⟨u, k⟩ := p
    have hv : takeV b = valI u := by unfold takeV; rw [if_pos h, hr]
    have hk : takeK b = k := by unfold takeK; rw [if_pos h, hr]
    have hp := read_pos hr
    unfold takeE at h
    rw [hr] at h
    have h : (if 10 < k ∨ (k = 10 ∧ 1 < lastB b 10) then (12 : Int) else if 1 < k ∧ lastB b k = 0 then 2 else 0) = 0 := h
    by_cases c : 10 < k ∨ (k = 10 ∧ 1 < lastB b 10)
    · rw [if_pos c] at h; cases h
    · rw [if_neg c] at h
      by_cases d : 1 < k ∧ lastB b k = 0
      · rw [if_pos d] at h; cases h
      · have hlast : ∀ (hl : k - 1 < b.length), lastB b k = b[k - 1].toNat := fun hl => by
          unfold lastB
          rw [List.getD_eq_getElem?_getD, List.getElem?_eq_getElem hl]
          rfl
        have ho := read_once hr (by
          by_cases q : k = 1
          · exact .inl q
          · exact .inr ⟨by omega, fun e => d ⟨by omega, by rw [hlast (by omega)]; exact e⟩⟩)
        have hu : u < 18446744073709551616 := by
          by_cases q : k ≤ 9
          · exact Nat.lt_of_lt_of_le (read_bound 9 hr q) (by decide)
          · have k10 : k = 10 := by omega
            have hl : lastB b 10 ≤ 1 := by omega
            have ht := read_top hr
            subst k10
            have : (lastB b 10 + 1) * 128 ^ (10 - 1) ≤ 2 * 128 ^ 9 := Nat.mul_le_mul_right _ (by omega)
            exact Nat.lt_of_lt_of_le ht (Nat.le_trans this (by decide))
        have := val_in hu
        rw [hv, hk]
        refine ⟨?_, hp.1, hp.2, by omega, this.1, this.2⟩
        unfold encI
        rw [code_val]
        exact ho.1
theorem enc_one {n : Int} : (encI n).length = 1 ↔ -64 ≤ n ∧ n ≤ 63 := by
  unfold encI
  rw [var_one]
  unfold codeN
  by_cases h : n < 0
  · rw [if_pos h]; omega
  · rw [if_neg h]; omega
theorem enc_mono {n m : Int} (h : (0 ≤ n ∧ n ≤ m) ∨ (n < 0 ∧ m ≤ n)) : (encI n).length ≤ (encI m).length := by
  refine var_mono (codeN m + 1) _ _ (Nat.lt_succ_self _) ?_
  unfold codeN
  rcases h with ⟨h1, h2⟩ | ⟨h1, h2⟩
  · rw [if_neg (by omega), if_neg (by omega)]; omega
  · rw [if_pos h1, if_pos (by omega)]; omega
/-! ### Texts -/
def encT (s : Bs) : Bs := encI (s.length : Int) ++ s
/-- The error of a length at the beginning of b. -/
def sizeE (b : Bs) (most : Int) : Int := if takeE b ≠ 0 then takeE b else if takeV b < 0 then 2 else if most < takeV b then 3 else 0
def textE (b : Bs) (most : Int) : Int := if sizeE b most ≠ 0 then sizeE b most else if ((b.length : Int) - takeK b) < takeV b then 13 else 0
def textV (b : Bs) (most : Int) : Bs := if textE b most = 0 then (b.drop (takeK b)).take (takeV b).toNat else []
def textK (b : Bs) (most : Int) : Nat := if textE b most = 0 then takeK b + (takeV b).toNat else 0
theorem len_in {s : Bs} (h : s.length ≤ 9223372036854775807) : -9223372036854775808 ≤ (s.length : Int) ∧ (s.length : Int) ≤ 9223372036854775807 := by omega
theorem text_bad {b : Bs} {most : Int} (h : textE b most ≠ 0) : textV b most = [] ∧ textK b most = 0 := ⟨by unfold textV; rw [if_neg h], by unfold textK; rw [if_neg h]⟩
theorem size_enc {n : Nat} (hn : n ≤ 9223372036854775807) (r : Bs) {most : Int} (hm : (n : Int) ≤ most) : sizeE (encI (n : Int) ++ r) most = 0 := by
  obtain ⟨h1, h2, _⟩ := take_enc (n := (n : Int)) (by omega) r
  unfold sizeE
  rw [h1, if_neg (by decide), h2, if_neg (by omega), if_neg (by omega)]
theorem text_enc {s : Bs} (hs : s.length ≤ 9223372036854775807) (r : Bs) {most : Int} (hm : (s.length : Int) ≤ most) : textE (encT s ++ r) most = 0 ∧ textV (encT s ++ r) most = s ∧ textK (encT s ++ r) most = (encT s).length := by
  unfold encT
  rw [List.append_assoc]
  obtain ⟨h1, h2, h3⟩ := take_enc (n := (s.length : Int)) (by omega) (s ++ r)
  have hz := size_enc hs (s ++ r) hm
  have he : textE (encI (s.length : Int) ++ (s ++ r)) most = 0 := by
    unfold textE
    rw [hz, if_neg (by decide), h2, h3, if_neg]
    rw [List.length_append, List.length_append]
    omega
  refine ⟨he, ?_, ?_⟩
  · unfold textV
    rw [if_pos he, h2, h3, List.drop_left, Int.toNat_natCast, List.take_left]
  · unfold textK
    rw [if_pos he, h2, h3, Int.toNat_natCast, List.length_append]
theorem take_app_cut {a r : Bs} {c : Nat} (_ : c < (a ++ r).length) : (c < a.length ∧ (a ++ r).take c = a.take c) ∨ (a.length ≤ c ∧ (a ++ r).take c = a ++ r.take (c - a.length)) := by
  by_cases k : c < a.length
  · exact .inl ⟨k, by rw [List.take_append_of_le_length (by omega)]⟩
  · refine .inr ⟨by omega, ?_⟩
    rw [List.take_append, List.take_of_length_le (by omega)]
theorem text_cut {s : Bs} (hs : s.length ≤ 9223372036854775807) {c : Nat} (h : c < (encT s).length) {most : Int} (hm : (s.length : Int) ≤ most) : textE ((encT s).take c) most = 13 ∧ textV ((encT s).take c) most = [] ∧ textK ((encT s).take c) most = 0 := by
  have he : textE ((encT s).take c) most = 13 := by
    unfold encT at h ⊢
    rcases take_app_cut h with ⟨h1, h2⟩ | ⟨h1, h2⟩
    · rw [h2]
      unfold textE sizeE
      rw [(take_cut _ h1).1]
      rfl
    · rw [h2]
      obtain ⟨k1, k2, k3⟩ := take_enc (n := (s.length : Int)) (by omega) (s.take (c - (encI (s.length : Int)).length))
      unfold textE
      rw [size_enc hs _ hm, if_neg (by decide), k2, k3, if_pos]
      rw [List.length_append] at h
      rw [List.length_append, List.length_take]
      omega
  have := text_bad (b := (encT s).take c) (most := most) (by rw [he]; decide)
  exact ⟨he, this.1, this.2⟩
theorem size_ok {b : Bs} {most : Int} (h : sizeE b most = 0) : takeE b = 0 ∧ 0 ≤ takeV b ∧ takeV b ≤ most := by
  unfold sizeE at h
  by_cases c : takeE b = 0
  · rw [if_neg (by simpa using c)] at h
    by_cases d : takeV b < 0
    · rw [if_pos d] at h; cases h
    · rw [if_neg d] at h
      by_cases e : most < takeV b
      · rw [if_pos e] at h; cases h
      · exact ⟨c, by omega, by omega⟩
  · rw [if_pos c] at h; exact absurd h c
theorem text_once {b : Bs} {most : Int} (h : textE b most = 0) : encT (textV b most) = b.take (textK b most) ∧ 1 ≤ textK b most ∧ textK b most ≤ b.length ∧ ((textV b most).length : Int) ≤ most := by
  have hv : textV b most = (b.drop (takeK b)).take (takeV b).toNat := by unfold textV; rw [if_pos h]
  have hk : textK b most = takeK b + (takeV b).toNat := by unfold textK; rw [if_pos h]
  unfold textE at h
  by_cases c : sizeE b most = 0
  · rw [if_neg (by simpa using c)] at h
    obtain ⟨h1, h2, h3⟩ := size_ok c
    obtain ⟨o1, o2, o3, o4, o5, o6⟩ := take_once h1
    by_cases d : ((b.length : Int) - takeK b) < takeV b
    · rw [if_pos d] at h; cases h
    · have hl : (textV b most).length = (takeV b).toNat := by rw [hv, List.length_take, List.length_drop]; omega
      refine ⟨?_, by omega, by omega, by omega⟩
      unfold encT
      rw [hl, Int.toNat_of_nonneg h2, o1, hk, hv, List.take_add]
  · rw [if_pos c] at h; exact absurd h c
/-! ### Lists -/
def encs : List Int → Bs
  | [] => []
  | x :: r => encI x ++ encs r
def encL (l : List Int) : Bs := encI (l.length : Int) ++ encs l
/-- n integers at the beginning of b: the error, the integers, and the number of their bytes. -/
def readL : Nat → Bs → Int × List Int × Nat
  | 0, _ => (0, [], 0)
  | n + 1, b => if takeE b ≠ 0 then (takeE b, [], 0) else
      let p := readL n (b.drop (takeK b))
      if p.1 ≠ 0 then (p.1, [], 0) else (0, takeV b :: p.2.1, takeK b + p.2.2)
def listE (b : Bs) (most : Int) : Int := if sizeE b most ≠ 0 then sizeE b most else (readL (takeV b).toNat (b.drop (takeK b))).1
def listV (b : Bs) (most : Int) : List Int := if listE b most = 0 then (readL (takeV b).toNat (b.drop (takeK b))).2.1 else []
def listK (b : Bs) (most : Int) : Nat := if listE b most = 0 then takeK b + (readL (takeV b).toNat (b.drop (takeK b))).2.2 else 0
def In64 (l : List Int) : Prop := ∀ x ∈ l, -9223372036854775808 ≤ x ∧ x ≤ 9223372036854775807
theorem read_encs : ∀ (l : List Int), In64 l → ∀ r, readL l.length (encs l ++ r) = (0, l, (encs l).length)
  | [], _, r => rfl
  | x :: l, h, r => by
    obtain ⟨h1, h2, h3⟩ := take_enc (h x (List.mem_cons_self ..)) (encs l ++ r)
    have ih := read_encs l (fun y hy => h y (List.mem_cons_of_mem _ hy)) r
    show readL (l.length + 1) ((encI x ++ encs l) ++ r) = (0, x :: l, (encI x ++ encs l).length)
    rw [List.append_assoc]
    unfold readL
    rw [h1, if_neg (by decide), h2, h3, List.drop_left, ih]
    show (if (0 : Int) ≠ 0 then _ else _ : Int × List Int × Nat) = _
    rw [if_neg (by decide), List.length_append]
theorem list_bad {b : Bs} {most : Int} (h : listE b most ≠ 0) : listV b most = [] ∧ listK b most = 0 := ⟨by unfold listV; rw [if_neg h], by unfold listK; rw [if_neg h]⟩
theorem list_enc {l : List Int} (hl : l.length ≤ 9223372036854775807) (h : In64 l) (r : Bs) {most : Int} (hm : (l.length : Int) ≤ most) : listE (encL l ++ r) most = 0 ∧ listV (encL l ++ r) most = l ∧ listK (encL l ++ r) most = (encL l).length := by
  unfold encL
  rw [List.append_assoc]
  obtain ⟨h1, h2, h3⟩ := take_enc (n := (l.length : Int)) (by omega) (encs l ++ r)
  have hz := size_enc hl (encs l ++ r) hm
  have hr : readL (takeV (encI (l.length : Int) ++ (encs l ++ r))).toNat ((encI (l.length : Int) ++ (encs l ++ r)).drop (takeK (encI (l.length : Int) ++ (encs l ++ r)))) = (0, l, (encs l).length) := by
    rw [h2, h3, List.drop_left, Int.toNat_natCast]
    exact read_encs l h r
  have he : listE (encI (l.length : Int) ++ (encs l ++ r)) most = 0 := by
    unfold listE
    rw [hz, if_neg (by decide), hr]
  refine ⟨he, ?_, ?_⟩
  · unfold listV
    rw [if_pos he, hr]
  · unfold listK
    rw [if_pos he, hr, h3, List.length_append]
theorem read_cuts : ∀ (l : List Int), In64 l → ∀ c, c < (encs l).length → (readL l.length ((encs l).take c)).1 = 13
  | [], _, c, h => by simp [encs] at h
  | x :: l, hx, c, h => by
    show (readL (l.length + 1) ((encI x ++ encs l).take c)).1 = 13
    have h : c < (encI x ++ encs l).length := h
    unfold readL
    rcases take_app_cut h with ⟨h1, h2⟩ | ⟨h1, h2⟩
    · rw [h2, (take_cut _ h1).1, if_pos (by decide)]
    · rw [h2]
      obtain ⟨k1, k2, k3⟩ := take_enc (hx x (List.mem_cons_self ..)) ((encs l).take (c - (encI x).length))
      rw [List.length_append] at h
      have ih := read_cuts l (fun y hy => hx y (List.mem_cons_of_mem _ hy)) (c - (encI x).length) (by omega)
      rw [k1, if_neg (by decide), k3, List.drop_left]
      show (if (readL l.length ((encs l).take (c - (encI x).length))).1 ≠ 0 then _ else _ : Int × List Int × Nat).1 = 13
      rw [if_pos (by rw [ih]; decide)]
      exact ih
theorem list_cut {l : List Int} (hl : l.length ≤ 9223372036854775807) (hx : In64 l) {c : Nat} (h : c < (encL l).length) {most : Int} (hm : (l.length : Int) ≤ most) : listE ((encL l).take c) most = 13 ∧ listV ((encL l).take c) most = [] ∧ listK ((encL l).take c) most = 0 := by
  have he : listE ((encL l).take c) most = 13 := by
    unfold encL at h ⊢
    rcases take_app_cut h with ⟨h1, h2⟩ | ⟨h1, h2⟩
    · rw [h2]
      unfold listE sizeE
      rw [(take_cut _ h1).1]
      rfl
    · rw [h2]
      obtain ⟨k1, k2, k3⟩ := take_enc (n := (l.length : Int)) (by omega) ((encs l).take (c - (encI (l.length : Int)).length))
      unfold listE
      rw [size_enc hl _ hm, if_neg (by decide), k2, k3, List.drop_left, Int.toNat_natCast]
      rw [List.length_append] at h
      exact read_cuts l hx _ (by omega)
  have := list_bad (b := (encL l).take c) (most := most) (by rw [he]; decide)
  exact ⟨he, this.1, this.2⟩
theorem reads_once : ∀ (n : Nat) {b : Bs}, (readL n b).1 = 0 → encs (readL n b).2.1 = b.take (readL n b).2.2 ∧ (readL n b).2.1.length = n ∧ (readL n b).2.2 ≤ b.length ∧ In64 (readL n b).2.1
  | 0, b, _ => ⟨rfl, rfl, Nat.zero_le _, fun x h => by cases h⟩
  | n + 1, b, h => by
    unfold readL at h ⊢
    by_cases c : takeE b = 0
    · rw [if_neg (by simpa using c)] at h ⊢
      obtain ⟨o1, o2, o3, o4, o5, o6⟩ := take_once c
      have ih := reads_once n (b := b.drop (takeK b))
      generalize readL n (b.drop (takeK b)) = p at h ih ⊢
      by_cases d : p.1 = 0
      · obtain ⟨i1, i2, i3, i4⟩ := ih d
        show encs (if p.1 ≠ 0 then (p.1, [], 0) else (0, takeV b :: p.2.1, takeK b + p.2.2) : Int × List Int × Nat).2.1 = _ ∧ _
        rw [if_neg (by simpa using d)]
        rw [List.length_drop] at i3
        refine ⟨?_, by show p.2.1.length + 1 = n + 1; rw [i2], by show takeK b + p.2.2 ≤ _; omega, ?_⟩
        · show encI (takeV b) ++ encs p.2.1 = b.take (takeK b + p.2.2)
          rw [o1, i1, List.take_add]
        · intro x hx
          rcases List.mem_cons.1 hx with rfl | hx
          · exact ⟨o5, o6⟩
          · exact i4 x hx
      · have h : (if p.1 ≠ 0 then (p.1, [], 0) else (0, takeV b :: p.2.1, takeK b + p.2.2) : Int × List Int × Nat).1 = 0 := h
        rw [if_pos d] at h
        exact absurd h d
    · rw [if_pos c] at h
      exact absurd h c
theorem list_once {b : Bs} {most : Int} (h : listE b most = 0) : encL (listV b most) = b.take (listK b most) ∧ 1 ≤ listK b most ∧ listK b most ≤ b.length ∧ ((listV b most).length : Int) ≤ most ∧ In64 (listV b most) := by
  have hv : listV b most = (readL (takeV b).toNat (b.drop (takeK b))).2.1 := by unfold listV; rw [if_pos h]
  have hk : listK b most = takeK b + (readL (takeV b).toNat (b.drop (takeK b))).2.2 := by unfold listK; rw [if_pos h]
  unfold listE at h
  by_cases c : sizeE b most = 0
  · rw [if_neg (by simpa using c)] at h
    obtain ⟨h1, h2, h3⟩ := size_ok c
    obtain ⟨o1, o2, o3, o4, o5, o6⟩ := take_once h1
    obtain ⟨i1, i2, i3, i4⟩ := reads_once _ h
    rw [List.length_drop] at i3
    refine ⟨?_, by omega, by omega, by rw [hv, i2]; omega, by rw [hv]; exact i4⟩
    unfold encL
    rw [hv, i2, Int.toNat_of_nonneg h2, o1, hk, i1, List.take_add]
  · rw [if_pos c] at h; exact absurd h c
end Go.Proofs.Ytbplglndcagglaa.WirP
