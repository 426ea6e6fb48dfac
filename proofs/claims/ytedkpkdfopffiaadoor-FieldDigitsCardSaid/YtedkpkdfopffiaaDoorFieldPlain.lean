/-
  Lines of fields, texts of lines, decimal forms: as lists of bytes. Nothing of the program. Condition: none.
-/
import Derived.Test.YtedkpkdfopffiaaDoorNamePlainD
namespace Go.Proofs.YtedkpkdfopffiaaDoor.FldP
open NamP
open Go.Lib (decDigits itoa)

/-! ### A field as it is written -/
def quotedB (s : Bs) : Bool := decide (s = []) || decide (s.head? = some 39) || s.any fun c => decide (c = 32)
/-- Each ' doubled. -/
def dbl : Bs → Bs
  | [] => []
  | c :: r => if c = 39 then 39 :: 39 :: dbl r else c :: dbl r
def writtenB (s : Bs) : Bs := if quotedB s then 39 :: dbl s ++ [39] else s
def joinB : List Bs → Bs
  | [] => []
  | [x] => writtenB x
  | x :: y :: r => writtenB x ++ 32 :: joinB (y :: r)
theorem written_ne (s : Bs) : writtenB s ≠ [] := by
  unfold writtenB
  by_cases h : quotedB s = true
  · rw [if_pos h]; simp
  · rw [if_neg h]
    intro e
    subst e
    exact h rfl
theorem join_ne : ∀ {x : Bs} {r : List Bs}, joinB (x :: r) ≠ []
  | x, [] => written_ne x
  | x, y :: r => by
    show writtenB x ++ 32 :: joinB (y :: r) ≠ []
    simp
theorem join_snoc : ∀ (l : List Bs) (x : Bs), joinB (l ++ [x]) = if l = [] then writtenB x else joinB l ++ 32 :: writtenB x
  | [], x => rfl
  | [y], x => rfl
  | y :: z :: r, x => by
    have := join_snoc (z :: r) x
    rw [if_neg (by simp)] at this ⊢
    show writtenB y ++ 32 :: joinB (z :: r ++ [x]) = writtenB y ++ 32 :: joinB (z :: r) ++ 32 :: writtenB x
    rw [this]
    simp
/-! ### A line is cut -/
/-- What is read behind the first ' of a written field, and what is left of the line. -/
def undbl : Bs → Option (Bs × Bs)
  | [] => none
  | [c] => if c = 39 then some ([], []) else none
  | c :: d :: r => if c = 39 then (if d = 39 then (undbl r).map (fun p => (39 :: p.1, p.2)) else some ([], d :: r)) else (undbl (d :: r)).map (fun p => (c :: p.1, p.2))
theorem undbl_q (d : UInt8) (r : Bs) : undbl (39 :: d :: r) = if d = 39 then (undbl r).map (fun p => (39 :: p.1, p.2)) else some ([], d :: r) := by rw [undbl, if_pos rfl]
theorem undbl_c {c : UInt8} (h : c ≠ 39) (r : Bs) : undbl (c :: r) = (undbl r).map (fun p => (c :: p.1, p.2)) := by
  cases r with
  | nil =>
    show (if c = 39 then some ([], []) else none) = _
    rw [if_neg h]; rfl
  | cons d r => rw [undbl, if_neg h]
def takeB : Bs → Option (Bs × Bs)
  | [] => none
  | c :: r => if c = 39 then undbl r else if c = 32 then none else some ((c :: r).takeWhile (fun c => decide (c ≠ 32)), (c :: r).dropWhile (fun c => decide (c ≠ 32)))
theorem undbl_dbl : ∀ (s r : Bs), r.head? ≠ some 39 → undbl (dbl s ++ 39 :: r) = some (s, r)
  | [], r, h => by
    show undbl (39 :: r) = _
    cases r with
    | nil => rfl
    | cons d r' => rw [undbl_q, if_neg (fun e => h (by rw [e]; rfl))]
  | c :: s, r, h => by
    have ih := undbl_dbl s r h
    unfold dbl
    by_cases e : c = 39
    · rw [if_pos e, e]
      show undbl (39 :: 39 :: (dbl s ++ 39 :: r)) = _
      rw [undbl_q, if_pos rfl, ih]
      rfl
    · rw [if_neg e]
      show undbl (c :: (dbl s ++ 39 :: r)) = _
      rw [undbl_c e, ih]
      rfl
theorem take_written (s r : Bs) (h : r = [] ∨ r.head? = some 32) : takeB (writtenB s ++ r) = some (s, r) := by
  unfold writtenB
  by_cases hq : quotedB s = true
  · rw [if_pos hq]
    have e : takeB (39 :: (dbl s ++ [39] ++ r)) = undbl (dbl s ++ [39] ++ r) := rfl
    show takeB (39 :: (dbl s ++ [39] ++ r)) = _
    rw [e, List.append_assoc]
    refine undbl_dbl s r ?_
    rcases h with rfl | h
    · simp
    · rw [h]; decide
  · rw [if_neg hq]
    unfold quotedB at hq
    simp only [Bool.or_eq_true, decide_eq_true_eq, not_or, List.any_eq_true, not_exists, not_and] at hq
    obtain ⟨⟨h1, h2⟩, h3⟩ := hq
    match s, h1, h2, h3 with
    | c :: s, _, h2, h3 =>
      have hc : c ≠ 39 := fun e => h2 (by rw [e]; rfl)
      have hs : c ≠ 32 := fun e => h3 c (List.mem_cons_self ..) e
      have hall : ∀ d ∈ c :: s, decide (d ≠ 32) = true := fun d hd => decide_eq_true fun e => h3 d hd e
      show (if c = 39 then _ else if c = 32 then _ else some ((c :: s ++ r).takeWhile _, (c :: s ++ r).dropWhile _)) = _
      rw [if_neg hc, if_neg hs, List.takeWhile_append_of_pos hall, List.dropWhile_append_of_pos hall]
      rcases h with rfl | h
      · simp
      · cases r with
        | nil => cases h
        | cons d r =>
          have hd : d = 32 := by simpa using h
          subst hd
          simp
theorem undbl_len : ∀ (n : Nat) {s x r : Bs}, s.length ≤ n → undbl s = some (x, r) → r.length < s.length
  | _, [], _, _, _, h => by cases h
  | 0, _ :: _, _, _, hn, _ => by simp at hn
  | n + 1, c :: s, x, r, hn, h => by
    by_cases e : c = 39
    · subst e
      cases s with
      | nil =>
        rw [undbl, if_pos rfl] at h
        injection h with h
        injection h with _ h
        rw [← h]; simp
      | cons d s =>
        rw [undbl_q] at h
        by_cases e2 : d = 39
        · rw [if_pos e2, Option.map_eq_some_iff] at h
          obtain ⟨p, h1, h2⟩ := h
          injection h2 with _ h2
          have := undbl_len n (r := p.2) (x := p.1) (by simp at hn ⊢; omega) h1
          rw [← h2]
          simp
          omega
        · rw [if_neg e2] at h
          injection h with h
          injection h with _ h
          rw [← h]; simp
    · rw [undbl_c e, Option.map_eq_some_iff] at h
      obtain ⟨p, h1, h2⟩ := h
      injection h2 with _ h2
      have := undbl_len n (r := p.2) (x := p.1) (by simp at hn ⊢; omega) h1
      rw [← h2]
      simp
      omega
theorem take_len {s x r : Bs} (h : takeB s = some (x, r)) : r.length < s.length := by
  cases s with
  | nil => cases h
  | cons c s =>
    change (if c = 39 then undbl s else if c = 32 then none else some ((c :: s).takeWhile _, (c :: s).dropWhile _)) = _ at h
    by_cases e : c = 39
    · rw [if_pos e] at h
      have := undbl_len _ (Nat.le_refl _) h
      simp
      omega
    · rw [if_neg e] at h
      by_cases e2 : c = 32
      · rw [if_pos e2] at h; cases h
      · rw [if_neg e2] at h
        injection h with h
        injection h with h1 h2
        rw [← h2, List.dropWhile_cons, if_pos (decide_eq_true e2)]
        have := (List.dropWhile_sublist (p := fun c => decide (c ≠ (32 : UInt8))) (l := s)).length_le
        rw [List.length_cons]
        omega
/-- The fields of a line, as they are cut. -/
def cutB (s : Bs) : Option (List Bs) :=
  if hs : s = [] then some [] else
  match h : takeB s with
  | none => none
  | some (x, r) =>
    have : r.tail.length < s.length := by have := take_len h; rw [List.length_tail]; omega
    (cutB r.tail).map (x :: ·)
  termination_by s.length
  decreasing_by exact this
theorem cut_nil : cutB [] = some [] := by rw [cutB]; simp
theorem cut_step {s x r : Bs} (hs : s ≠ []) (h : takeB s = some (x, r)) : cutB s = (cutB r.tail).map (x :: ·) := by
  rw [cutB, dif_neg hs]
  split
  · rename_i h2; rw [h] at h2; cases h2
  · rename_i x2 r2 h2
    rw [h] at h2
    injection h2 with h2
    injection h2 with e1 e2
    rw [e1, e2]
theorem cut_none {s : Bs} (hs : s ≠ []) (h : takeB s = none) : cutB s = none := by
  rw [cutB, dif_neg hs]
  split
  · rfl
  · rename_i x2 r2 h2
    rw [h] at h2
    cases h2
/-- What is joined is cut again into the same fields. -/
theorem cut_join : ∀ (l : List Bs), cutB (joinB l) = some l
  | [] => cut_nil
  | [x] => by
    have h := take_written x [] (.inl rfl)
    rw [List.append_nil] at h
    show cutB (writtenB x) = _
    rw [cut_step (written_ne x) h]
    show (cutB []).map _ = _
    rw [cut_nil]
    rfl
  | x :: y :: r => by
    have h := take_written x (32 :: joinB (y :: r)) (.inr rfl)
    show cutB (writtenB x ++ 32 :: joinB (y :: r)) = _
    rw [cut_step (by simp) h]
    show (cutB (joinB (y :: r))).map _ = _
    rw [cut_join (y :: r)]
    rfl

/-! ### Errors -/
def okB (s : Bs) : Bool := s.all fun c => decide (32 ≤ c.toNat) && decide (c.toNat ≤ 126)
/-- The first error among fields. -/
def fieldsE : List Bs → Int
  | [] => 0
  | x :: r => if 256 < x.length then 3 else if okB x then fieldsE r else 2
def joinE (l : List Bs) : Int := if fieldsE l ≠ 0 then fieldsE l else if 1024 < (joinB l).length then 3 else 0
def joinV (l : List Bs) : Bs := if joinE l = 0 then joinB l else []
def splitR (s : Bs) : Option (List Bs) := match cutB s with
  | none => none
  | some l => if joinE l = 0 ∧ joinB l = s then some l else none
def splitE (s : Bs) : Int := if 1024 < s.length then 3 else if (splitR s).isSome then 0 else 2
def splitV (s : Bs) : List Bs := if splitE s = 0 then (splitR s).getD [] else []
theorem split_ok {s : Bs} (h : splitE s = 0) : joinE (splitV s) = 0 ∧ joinB (splitV s) = s := by
  have hv : splitV s = (splitR s).getD [] := by unfold splitV; rw [if_pos h]
  unfold splitE at h
  by_cases h1 : 1024 < s.length
  · rw [if_pos h1] at h; cases h
  · rw [if_neg h1] at h
    by_cases h2 : (splitR s).isSome = true
    · obtain ⟨l, hl⟩ := Option.isSome_iff_exists.1 h2
      rw [hl] at hv
      rw [hv]
      unfold splitR at hl
      split at hl
      · cases hl
      · rename_i l2 _
        by_cases h3 : joinE l2 = 0 ∧ joinB l2 = s
        · rw [if_pos h3] at hl
          injection hl with hl
          rw [← hl]
          exact h3
        · rw [if_neg h3] at hl; cases hl
    · rw [if_neg h2] at h; cases h
theorem split_join {l : List Bs} (h : joinE l = 0) : splitE (joinB l) = 0 ∧ splitV (joinB l) = l := by
  have h1 : ¬ 1024 < (joinB l).length := fun c => by
    unfold joinE at h
    by_cases h2 : fieldsE l ≠ 0
    · rw [if_pos h2] at h; exact h2 h
    · rw [if_neg h2, if_pos c] at h; cases h
  have hr : splitR (joinB l) = some l := by
    unfold splitR
    rw [cut_join]
    show (if _ then _ else _) = _
    rw [if_pos ⟨h, rfl⟩]
  have he : splitE (joinB l) = 0 := by
    unfold splitE
    rw [if_neg h1, hr]
    rfl
  exact ⟨he, by unfold splitV; rw [if_pos he, hr]; rfl⟩

/-! ### Decimal forms -/
def numD (s : Bs) : Bs := if s.head? = some 45 then s.tail else s
def numberE (s : Bs) : Int :=
  if numD s = [] ∨ ((numD s).head? = some 48 ∧ (1 < (numD s).length ∨ s.head? = some 45)) then 2
  else if (numD s).all digB then (if 2 ^ 50 < valD (numD s) then 1 else 0) else 2
def numberV (s : Bs) : Int := if numberE s = 0 then (if s.head? = some 45 then -(valD (numD s) : Int) else valD (numD s)) else 0
theorem digs_all {d : Bs} (h : d.all digB = true) : Digs d := fun c hc => List.all_eq_true.1 h c hc
theorem dec_of : ∀ (n : Nat) {d : Bs}, d.length = n + 1 → Digs d → (d.head? = some 48 → d.length = 1) → decDigits (valD d) = d := by
  intro n
  induction n with
  | zero =>
    intro d hl hd _
    match d, hl with
    | [c], _ =>
      have hc := hd.head
      have hv : valD [c] = c.toNat - 48 := by show (c.toNat - 48) * 10 ^ 0 + 0 = _; omega
      rw [hv, decDigits, dif_pos (by omega), show 48 + (c.toNat - 48) = c.toNat by omega, UInt8.ofNat_toNat]
  | succ n ih =>
    intro d hl hd h0
    obtain ⟨e, c, rfl⟩ : ∃ e c, d = e ++ [c] := by
      rcases List.eq_nil_or_concat d with h | ⟨m, t, h⟩
      · rw [h] at hl; simp at hl
      · exact ⟨m, t, by rw [h, List.concat_eq_append]⟩
    have hel : e.length = n + 1 := by simpa using hl
    have hee : Digs e := fun x hx => hd x (List.mem_append_left _ hx)
    have hc := (digB_iff c).1 (hd c (by simp))
    have hne : e.head? ≠ some 48 := fun h => by
      have := h0 (by rw [List.head?_append, h]; rfl)
      rw [hl] at this
      omega
    have ihe := ih hel hee (fun h => absurd h hne)
    have hpos : 1 ≤ valD e := by
      match e, hel, hne with
      | x :: e, _, hne =>
        have hx := hee.head
        have : x.toNat ≠ 48 := fun k => hne (by rw [List.head?_cons, show x = 48 from UInt8.toNat_inj.1 k])
        show 1 ≤ (x.toNat - 48) * 10 ^ e.length + valD e
        have : 1 * 1 ≤ (x.toNat - 48) * 10 ^ e.length := Nat.mul_le_mul (by omega) (Nat.one_le_pow _ _ (by omega))
        omega
    rw [val_snoc, decDigits, dif_neg (by omega), show (10 * valD e + (c.toNat - 48)) / 10 = valD e by omega, show (10 * valD e + (c.toNat - 48)) % 10 = c.toNat - 48 by omega, ihe, show 48 + (c.toNat - 48) = c.toNat by omega, UInt8.ofNat_toNat]
theorem dec_head (u : Nat) : (decDigits u).head? = some 48 → (decDigits u).length = 1 ∧ u = 0 := by
  induction u using Nat.strongRecOn with
  | ind u ih =>
    intro h
    rw [decDigits] at h ⊢
    by_cases c : u < 10
    · rw [dif_pos c] at h ⊢
      refine ⟨rfl, ?_⟩
      have : UInt8.ofNat (48 + u) = 48 := by simpa using h
      have := congrArg UInt8.toNat this
      rw [dig_of c] at this
      have e : (48 : UInt8).toNat = 48 := rfl
      omega
    · rw [dif_neg c] at h
      have hh : (decDigits (u / 10)).head? = some 48 := by
        match hu : decDigits (u / 10), (dec_val (u / 10)).2.2 with
        | x :: r, _ => rw [hu] at h; exact h
      have := (ih (u / 10) (by omega) hh).2
      omega
/-- The decimal form of a number. -/
theorem itoa_num (n : Int) : numD (itoa n) = decDigits n.natAbs ∧ ((itoa n).head? = some 45 ↔ n < 0) := by
  unfold itoa numD
  have hd : ∀ u : Nat, (decDigits u).head? ≠ some 45 := fun u h => by
    obtain ⟨h1, _, h3⟩ := dec_val u
    match hu : decDigits u, h3 with
    | x :: r, _ =>
      rw [hu] at h h1
      have := h1.head
      have e : x = 45 := by simpa using h
      rw [e] at this
      exact absurd this (by decide)
  by_cases h : n < 0
  · rw [if_pos h]
    exact ⟨by rw [if_pos (by rfl)]; rfl, ⟨fun _ => h, fun _ => rfl⟩⟩
  · rw [if_neg h, if_neg (hd _)]
    exact ⟨by rw [show n.toNat = n.natAbs by omega], ⟨fun k => absurd k (hd _), fun k => absurd k h⟩⟩
theorem number_itoa (n : Int) : numberE (itoa n) = (if -(2 ^ 50) ≤ n ∧ n ≤ 2 ^ 50 then 0 else 1) ∧ numberV (itoa n) = if -(2 ^ 50) ≤ n ∧ n ≤ 2 ^ 50 then n else 0 := by
  obtain ⟨h1, h2⟩ := itoa_num n
  obtain ⟨g1, g2, g3⟩ := dec_val n.natAbs
  have hE : numberE (itoa n) = (if -(2 ^ 50) ≤ n ∧ n ≤ 2 ^ 50 then 0 else 1) := by
    unfold numberE
    rw [h1, g2, if_neg, if_pos (List.all_eq_true.2 g1)]
    · by_cases c : -(2 ^ 50) ≤ n ∧ n ≤ 2 ^ 50
      · rw [if_pos c, if_neg (by omega)]
      · rw [if_neg c, if_pos (by omega)]
    · rintro (k | ⟨k, k2⟩)
      · exact g3 k
      · obtain ⟨e1, e2⟩ := dec_head _ k
        rcases k2 with k2 | k2
        · omega
        · have := h2.1 k2
          omega
  refine ⟨hE, ?_⟩
  unfold numberV
  rw [hE, h1, g2]
  by_cases c : -(2 ^ 50) ≤ n ∧ n ≤ 2 ^ 50
  · rw [if_pos c, if_pos rfl, if_pos c]
    by_cases d : n < 0
    · rw [if_pos (h2.2 d)]; omega
    · rw [if_neg (fun k => d (h2.1 k))]; omega
  · rw [if_neg c, if_neg (by omega), if_neg c]
theorem itoa_number {s : Bs} (h : numberE s = 0) : itoa (numberV s) = s := by
  have hv : numberV s = if s.head? = some 45 then -(valD (numD s) : Int) else valD (numD s) := by unfold numberV; rw [if_pos h]
  unfold numberE at h
  by_cases c : numD s = [] ∨ ((numD s).head? = some 48 ∧ (1 < (numD s).length ∨ s.head? = some 45))
  · rw [if_pos c] at h; cases h
  · rw [if_neg c] at h
    simp only [not_or, not_and] at c
    obtain ⟨c1, c2⟩ := c
    by_cases d : (numD s).all digB = true
    · have hd := digs_all d
      obtain ⟨k, hk⟩ : ∃ k, (numD s).length = k + 1 := ⟨(numD s).length - 1, by have := List.length_pos_iff.2 c1; omega⟩
      have hdec := dec_of k hk hd (fun e => by have := (c2 e).1; omega)
      rw [hv]
      unfold itoa
      by_cases e : s.head? = some 45
      · rw [if_pos e]
        have hs : s = 45 :: numD s := by
          unfold numD
          rw [if_pos e]
          match s, e with
          | x :: r, e => rw [List.head?_cons] at e; injection e with e; rw [e]; rfl
        have hp : 0 < valD (numD s) := by
          rcases Nat.eq_zero_or_pos (valD (numD s)) with z | z
          · exfalso
            rw [z, show decDigits 0 = [48] by rw [decDigits]; rfl] at hdec
            exact (c2 (by rw [← hdec]; rfl)).2 e
          · exact z
        rw [if_pos (by omega), show (-(valD (numD s) : Int)).natAbs = valD (numD s) by omega, hdec]
        exact hs.symm
      · rw [if_neg e, if_neg (by omega), Int.toNat_natCast, hdec]
        unfold numD
        rw [if_neg e]
    · rw [if_neg d] at h; cases h

/-! ### Texts -/
/-- The lines of a text that ends with a line feed. -/
def segs (acc : Bs) : Bs → List Bs
  | [] => []
  | c :: r => if c = 10 then acc.reverse :: segs [] r else segs (c :: acc) r
def ends (t : Bs) : Prop := t = [] ∨ t.getLast? = some 10
theorem segs_append : ∀ (s t acc : Bs), s ≠ [] → s.getLast? = some 10 → segs acc (s ++ t) = segs acc s ++ segs [] t
  | [], _, _, h, _ => absurd rfl h
  | [c], t, acc, _, h => by
    have : c = 10 := by simpa using h
    rw [this]
    show (if (10 : UInt8) = 10 then _ else _) = (if (10 : UInt8) = 10 then _ else _) ++ _
    rw [if_pos rfl, if_pos rfl]
    rfl
  | c :: d :: r, t, acc, _, h => by
    have h' : (d :: r).getLast? = some 10 := by rw [List.getLast?_cons_cons] at h; exact h
    show (if c = 10 then acc.reverse :: segs [] (d :: r ++ t) else segs (c :: acc) (d :: r ++ t)) = (if c = 10 then acc.reverse :: segs [] (d :: r) else segs (c :: acc) (d :: r)) ++ _
    rw [segs_append (d :: r) t [] (by simp) h', segs_append (d :: r) t (c :: acc) (by simp) h']
    split <;> rfl
theorem segs_ends {s : Bs} (h : ends s) (t : Bs) : segs [] (s ++ t) = segs [] s ++ segs [] t := by
  rcases h with rfl | h
  · rfl
  · by_cases e : s = []
    · rw [e]; rfl
    · exact segs_append s t [] e h
def passed (l : Bs) : Bool := decide (l = []) || decide (l.head? = some 37)
def linesOf (t : Bs) : List Bs := (segs [] t).filter fun l => !passed l
def firstE : List Bs → Int
  | [] => 0
  | l :: r => if splitE l ≠ 0 then splitE l else firstE r
def linesE (t : Bs) : Int := if t ≠ [] ∧ t.getLast? ≠ some 10 then 2 else firstE (linesOf t)
def linesV (t : Bs) : List (List Bs) := if linesE t = 0 then (linesOf t).map splitV else []
theorem first_append : ∀ (a b : List Bs), firstE (a ++ b) = if firstE a ≠ 0 then firstE a else firstE b
  | [], b => by
    show firstE b = if (0 : Int) ≠ 0 then 0 else firstE b
    rw [if_neg (by simp)]
  | l :: a, b => by
    show (if splitE l ≠ 0 then splitE l else firstE (a ++ b)) = if (if splitE l ≠ 0 then splitE l else firstE a) ≠ 0 then (if splitE l ≠ 0 then splitE l else firstE a) else firstE b
    rw [first_append a b]
    by_cases c : splitE l ≠ 0
    · rw [if_pos c, if_pos c, if_pos c]
    · rw [if_neg c, if_neg c]
theorem lines_ends {t : Bs} (h : linesE t = 0) : ends t := by
  unfold linesE at h
  by_cases c : t ≠ [] ∧ t.getLast? ≠ some 10
  · rw [if_pos c] at h; cases h
  · by_cases e : t = []
    · exact .inl e
    · exact .inr (Classical.byContradiction fun k => c ⟨e, k⟩)
theorem lines_first {t : Bs} (h : linesE t = 0) : firstE (linesOf t) = 0 := by
  unfold linesE at h
  by_cases c : t ≠ [] ∧ t.getLast? ≠ some 10
  · rw [if_pos c] at h; cases h
  · rw [if_neg c] at h; exact h
theorem ends_append {s t : Bs} (hs : ends s) (ht : ends t) : ¬ (s ++ t ≠ [] ∧ (s ++ t).getLast? ≠ some 10) := by
  rintro ⟨h1, h2⟩
  rcases ht with rfl | ht
  · rw [List.append_nil] at h1 h2
    rcases hs with rfl | hs
    · exact h1 rfl
    · exact h2 hs
  · exact h2 (by rw [List.getLast?_append, ht]; rfl)
/-- The lines of two texts are those of both. -/
theorem lines_append {s t : Bs} (hs : linesE s = 0) (ht : linesE t = 0) : linesE (s ++ t) = 0 ∧ linesV (s ++ t) = linesV s ++ linesV t := by
  have ho : linesOf (s ++ t) = linesOf s ++ linesOf t := by
    unfold linesOf
    rw [segs_ends (lines_ends hs), List.filter_append]
  have he : linesE (s ++ t) = 0 := by
    unfold linesE
    rw [if_neg (ends_append (lines_ends hs) (lines_ends ht)), ho, first_append, lines_first hs, if_neg (by simp), lines_first ht]
  refine ⟨he, ?_⟩
  unfold linesV
  rw [if_pos he, if_pos hs, if_pos ht, ho, List.map_append]
end Go.Proofs.YtedkpkdfopffiaaDoor.FldP
