/-
  Plain facts of package span: lists of spans, their sets, normal forms, with no word of the program. Condition: none.
-/
namespace Go.Proofs.Ytggceakihapgiaa.SpaP
abbrev Sp := Int × Int
/-- Whether a span of a list contains a number. -/
def hasB (l : List Sp) (x : Int) : Bool := l.any fun s => decide (s.1 ≤ x) && decide (x < s.2)
theorem has_iff (l : List Sp) (x : Int) : hasB l x = true ↔ ∃ s ∈ l, s.1 ≤ x ∧ x < s.2 := by
  unfold hasB
  simp [List.any_eq_true]
theorem has_nil (x : Int) : hasB [] x = false := rfl
theorem has_cons (s : Sp) (l : List Sp) (x : Int) : hasB (s :: l) x = (decide (s.1 ≤ x) && decide (x < s.2) || hasB l x) := rfl
theorem has_append (l m : List Sp) (x : Int) : hasB (l ++ m) x = (hasB l x || hasB m x) := by unfold hasB; rw [List.any_append]
/-- A normal form all of whose numbers are greater than b. -/
def NormFrom (b : Int) : List Sp → Prop
  | [] => True
  | s :: r => b < s.1 ∧ s.1 < s.2 ∧ NormFrom s.2 r
theorem NormFrom.weaken {b c : Int} (h : c ≤ b) : ∀ {l : List Sp}, NormFrom b l → NormFrom c l
  | [], _ => trivial
  | _ :: _, hl => ⟨by have := hl.1; omega, hl.2.1, hl.2.2⟩
theorem NormFrom.above {b : Int} : ∀ {l : List Sp}, NormFrom b l → ∀ {x : Int}, hasB l x = true → b < x
  | [], _, x, h => by cases h
  | s :: r, hl, x, h => by
    rw [has_cons, Bool.or_eq_true, Bool.and_eq_true, decide_eq_true_eq, decide_eq_true_eq] at h
    rcases h with h | h
    · have := hl.1; omega
    · have := NormFrom.above hl.2.2 h
      have := hl.1; have := hl.2.1; omega
/-- Every set has one normal form. -/
theorem norm_unique : ∀ {l m : List Sp} {b : Int}, NormFrom b l → NormFrom b m → (∀ x, hasB l x = hasB m x) → l = m
  | [], [], _, _, _, _ => rfl
  | [], t :: q, _, _, hm, h => by
    have := h t.1
    rw [has_nil, has_cons] at this
    have := hm.2.1
    simp_all
  | s :: r, [], _, hl, _, h => by
    have := h s.1
    rw [has_nil, has_cons] at this
    have := hl.2.1
    simp_all
  | s :: r, t :: q, b, hl, hm, h => by
    have ms : hasB (s :: r) s.1 = true := by rw [has_cons]; have := hl.2.1; simp [this]
    have mt : hasB (t :: q) t.1 = true := by rw [has_cons]; have := hm.2.1; simp [this]
    have least : ∀ (u : Sp) (r : List Sp) (b x : Int), NormFrom b (u :: r) → hasB (u :: r) x = true → u.1 ≤ x := by
      intro u r b x hu hx
      rw [has_cons, Bool.or_eq_true, Bool.and_eq_true, decide_eq_true_eq, decide_eq_true_eq] at hx
      rcases hx with hx | hx
      · exact hx.1
      · have := hu.2.2.above hx; have := hu.2.1; omega
    have e1 : s.1 = t.1 := by
      have a1 := least t q b s.1 hm (by rw [← h]; exact ms)
      have a2 := least s r b t.1 hl (by rw [h]; exact mt)
      omega
    have gap : ∀ (u : Sp) (r : List Sp) (b : Int), NormFrom b (u :: r) → hasB (u :: r) u.2 = false := by
      intro u r b hu
      refine Bool.of_not_eq_true fun hx => ?_
      rw [has_cons, Bool.or_eq_true, Bool.and_eq_true, decide_eq_true_eq, decide_eq_true_eq] at hx
      rcases hx with hx | hx
      · omega
      · have := hu.2.2.above hx; omega
    have inn : ∀ (u : Sp) (r : List Sp) (x : Int), u.1 ≤ x → x < u.2 → hasB (u :: r) x = true := by
      intro u r x h1 h2
      rw [has_cons]
      simp [h1, h2]
    have e2 : s.2 = t.2 := by
      have g1 := gap s r b hl
      have g2 := gap t q b hm
      have := hl.2.1
      have := hm.2.1
      rcases Int.lt_trichotomy s.2 t.2 with c | c | c
      · have := inn t q s.2 (by omega) c
        rw [← h, g1] at this
        cases this
      · exact c
      · have := inn s r t.2 (by omega) c
        rw [h, g2] at this
        cases this
    have e : s = t := Prod.ext e1 e2
    subst e
    congr 1
    refine norm_unique hl.2.2 hm.2.2 fun x => ?_
    have hx := h x
    rw [has_cons, has_cons] at hx
    by_cases c : s.1 ≤ x ∧ x < s.2
    · have n1 : hasB r x = false := Bool.of_not_eq_true fun k => by have := hl.2.2.above k; omega
      have n2 : hasB q x = false := Bool.of_not_eq_true fun k => by have := hm.2.2.above k; omega
      rw [n1, n2]
    · have : (decide (s.1 ≤ x) && decide (x < s.2)) = false := by
        rw [Bool.and_eq_false_iff, decide_eq_false_iff_not, decide_eq_false_iff_not]; omega
      rw [this, Bool.false_or, Bool.false_or] at hx
      exact hx

/-! ### Ascending lists of ends -/
def AscFrom (b : Int) : List Int → Prop
  | [] => True
  | x :: r => b < x ∧ AscFrom x r
theorem AscFrom.above {b : Int} : ∀ {l : List Int}, AscFrom b l → ∀ {x : Int}, x ∈ l → b < x
  | [], _, x, h => by cases h
  | y :: r, hl, x, h => by
    rcases List.mem_cons.1 h with rfl | h
    · exact hl.1
    · have := AscFrom.above hl.2 h; have := hl.1; omega
theorem asc_lt : ∀ {l : List Int} {b : Int}, AscFrom b l → ∀ {i j : Nat}, i < j → j < l.length → l.getD i 0 < l.getD j 0
  | [], _, _, _, _, _, h => by simp at h
  | y :: r, b, hl, 0, j + 1, _, h => by
    have hj : j < r.length := by simpa using h
    have := hl.2.above (x := r.getD j 0) (by rw [List.getD_eq_getElem?_getD, List.getElem?_eq_getElem hj]; exact List.getElem_mem _)
    simpa using this
  | y :: r, b, hl, i + 1, j + 1, hij, h => by
    have := asc_lt hl.2 (i := i) (j := j) (by omega) (by simpa using h)
    simpa using this
/-- One more number in an ascending list, unless it has it. -/
def insL (x : Int) : List Int → List Int
  | [] => [x]
  | y :: r => if x < y then x :: y :: r else if x = y then y :: r else y :: insL x r
theorem insL_mem (x z : Int) : ∀ l : List Int, z ∈ insL x l ↔ z = x ∨ z ∈ l
  | [] => by simp [insL]
  | y :: r => by
    unfold insL
    split
    · simp
    · split
      · rename_i h1 h2
        subst h2
        simp
      · rw [List.mem_cons, insL_mem x z r, List.mem_cons]
        constructor
        · rintro (h | h | h)
          · exact .inr (.inl h)
          · exact .inl h
          · exact .inr (.inr h)
        · rintro (h | h | h)
          · exact .inr (.inl h)
          · exact .inl h
          · exact .inr (.inr h)
theorem insL_asc (x : Int) : ∀ {l : List Int} {b : Int}, b < x → AscFrom b l → AscFrom b (insL x l)
  | [], b, h, _ => ⟨h, trivial⟩
  | y :: r, b, h, hl => by
    unfold insL
    split
    · exact ⟨h, by assumption, hl.2⟩
    · split
      · exact hl
      · exact ⟨hl.1, insL_asc x (by omega) hl.2⟩
/-- The place of a number in an ascending list, as it is found from the end. -/
theorem insL_at (x : Int) : ∀ (l : List Int) (b : Int) (k : Nat), AscFrom b l → k ≤ l.length → (∀ j, j < k → l.getD j 0 < x) → (∀ j, k ≤ j → j < l.length → x ≤ l.getD j 0) →
    insL x l = if k < l.length ∧ l.getD k 0 = x then l else l.take k ++ x :: l.drop k
  | [], _, k, _, hk, _, _ => by
    have : k = 0 := by simpa using hk
    subst this
    simp [insL]
  | y :: r, b, 0, hl, _, _, h2 => by
    have := h2 0 (Nat.le_refl _) (by simp)
    simp at this
    unfold insL
    by_cases e : x = y
    · subst e
      rw [if_neg (by omega), if_pos rfl, if_pos (by simp)]
    · rw [if_pos (by omega), if_neg (by simp; intro h; exact absurd h.symm e)]
      rfl
  | y :: r, b, k + 1, hl, hk, h1, h2 => by
    have a := h1 0 (by omega)
    simp at a
    unfold insL
    rw [if_neg (by omega), if_neg (by omega), insL_at x r y k hl.2 (by simpa using hk) (fun j hj => by simpa using h1 (j + 1) (by omega)) (fun j hj hj2 => by simpa using h2 (j + 1) (by omega) (by simp; omega))]
    simp only [List.length_cons, List.getD_cons_succ, Nat.add_lt_add_iff_right, List.take_succ_cons, List.drop_succ_cons]
    split <;> rfl
/-- All ends of the spans of a list, put into an ascending list. -/
def endsTo (p : List Int) : List Sp → List Int
  | [] => p
  | s :: l => endsTo (insL s.2 (insL s.1 p)) l
theorem endsTo_append (p : List Int) : ∀ (l m : List Sp), endsTo p (l ++ m) = endsTo (endsTo p l) m
  | [], _ => rfl
  | _ :: l, m => endsTo_append _ l m
theorem endsTo_mem (z : Int) : ∀ (l : List Sp) (p : List Int), z ∈ endsTo p l ↔ z ∈ p ∨ ∃ s ∈ l, z = s.1 ∨ z = s.2
  | [], p => by simp [endsTo]
  | s :: l, p => by
    unfold endsTo
    rw [endsTo_mem z l, insL_mem, insL_mem]
    constructor
    · rintro ((h | h | h) | ⟨t, ht, h⟩)
      · exact .inr ⟨s, List.mem_cons_self .., .inr h⟩
      · exact .inr ⟨s, List.mem_cons_self .., .inl h⟩
      · exact .inl h
      · exact .inr ⟨t, List.mem_cons_of_mem _ ht, h⟩
    · rintro (h | ⟨t, ht, h⟩)
      · exact .inl (.inr (.inr h))
      · rcases List.mem_cons.1 ht with rfl | ht
        · rcases h with h | h
          · exact .inl (.inr (.inl h))
          · exact .inl (.inl h)
        · exact .inr ⟨t, ht, h⟩
theorem endsTo_asc {b : Int} : ∀ {l : List Sp} {p : List Int}, AscFrom b p → (∀ s ∈ l, b < s.1 ∧ b < s.2) → AscFrom b (endsTo p l)
  | [], _, hp, _ => hp
  | s :: l, p, hp, hl => by
    have := hl s (List.mem_cons_self ..)
    show AscFrom b (endsTo (insL s.2 (insL s.1 p)) l)
    exact endsTo_asc (insL_asc _ this.2 (insL_asc _ this.1 hp)) fun t ht => hl t (List.mem_cons_of_mem _ ht)
theorem insL_len (x : Int) : ∀ l : List Int, (insL x l).length ≤ l.length + 1
  | [] => by simp [insL]
  | y :: r => by
    unfold insL
    have := insL_len x r
    split
    · simp
    · split
      · simp
      · simp; omega
theorem endsTo_len : ∀ (l : List Sp) (p : List Int), (endsTo p l).length ≤ p.length + 2 * l.length
  | [], _ => by simp [endsTo]
  | s :: l, p => by
    unfold endsTo
    have h1 := endsTo_len l (insL s.2 (insL s.1 p))
    have h2 := insL_len s.2 (insL s.1 p)
    have h3 := insL_len s.1 p
    simp only [List.length_cons]
    omega

/-! ### The walk over the ends -/
/-- One step: the numbers from x to y - 1 belong to the result. -/
def addSp (out : List Sp) (x y : Int) : List Sp :=
  match out.getLast? with
  | some s => if s.2 = x then out.dropLast ++ [(s.1, y)] else out ++ [(x, y)]
  | none => out ++ [(x, y)]
def scan (f : Int → Bool) : List Sp → List Int → List Sp
  | out, x :: y :: r => scan f (if f x = true then addSp out x y else out) (y :: r)
  | out, _ => out
/-- A normal form whose numbers are below t. -/
def NormTo (b t : Int) (l : List Sp) : Prop := NormFrom b l ∧ ∀ s ∈ l, s.2 ≤ t
theorem normFrom_append {b x y : Int} : ∀ {l : List Sp}, NormFrom b l → b < x → x < y → (∀ s ∈ l, s.2 < x) → NormFrom b (l ++ [(x, y)])
  | [], _, h1, h2, _ => ⟨h1, h2, trivial⟩
  | s :: _, hl, _, h2, h3 => ⟨hl.1, hl.2.1, normFrom_append hl.2.2 (h3 s (List.mem_cons_self ..)) h2 fun t ht => h3 t (List.mem_cons_of_mem _ ht)⟩
theorem normFrom_last {b y : Int} {s : Sp} : ∀ {l : List Sp}, NormFrom b (l ++ [s]) → s.1 < y → NormFrom b (l ++ [(s.1, y)])
  | [], hl, h => ⟨hl.1, h, trivial⟩
  | _ :: _, hl, h => ⟨hl.1, hl.2.1, normFrom_last hl.2.2 h⟩
theorem normFrom_ends {b : Int} : ∀ {l : List Sp} {s : Sp}, NormFrom b (l ++ [s]) → ∀ t ∈ l, t.2 < s.1
  | [], _, _, t, ht => by cases ht
  | u :: l, s, hl, t, ht => by
    rcases List.mem_cons.1 ht with rfl | ht
    · have : ∀ {c : Int} {m : List Sp}, NormFrom c (m ++ [s]) → c < s.1 := by
        intro c m
        induction m generalizing c with
        | nil => exact fun h => h.1
        | cons v m ih => intro h; have := ih h.2.2; have := h.1; have := h.2.1; omega
      exact this hl.2.2
    · exact normFrom_ends hl.2.2 t ht
theorem normFrom_mid {b : Int} : ∀ {l : List Sp} {s : Sp}, NormFrom b (l ++ [s]) → s.1 < s.2
  | [], _, hl => hl.2.1
  | _ :: _, _, hl => normFrom_mid hl.2.2
theorem getLast_split {out : List Sp} {s : Sp} (h : out.getLast? = some s) : out = out.dropLast ++ [s] := by
  obtain ⟨ys, rfl⟩ := List.getLast?_eq_some_iff.1 h
  simp
theorem addSp_norm {b x y : Int} {out : List Sp} (h : NormTo b x out) (hb : b < x) (hxy : x < y) : NormTo b y (addSp out x y) := by
  unfold addSp
  cases hl : out.getLast? with
  | none =>
    have : out = [] := by simpa using hl
    subst this
    exact ⟨⟨hb, hxy, trivial⟩, by simp⟩
  | some s =>
    have e := getLast_split hl
    simp only
    have hs := h.2 s (by rw [e]; simp)
    by_cases c : s.2 = x
    · rw [if_pos c]
      have hn := h.1
      rw [e] at hn
      have m := normFrom_mid hn
      refine ⟨normFrom_last hn (by omega), fun t ht => ?_⟩
      rcases List.mem_append.1 ht with k | k
      · have := normFrom_ends hn t k; omega
      · rw [List.mem_singleton.1 k]; exact Int.le_refl _
    · rw [if_neg c]
      refine ⟨normFrom_append h.1 hb hxy fun t ht => ?_, fun t ht => ?_⟩
      · rw [e] at ht
        have hn := h.1
        rw [e] at hn
        have m := normFrom_mid hn
        rcases List.mem_append.1 ht with k | k
        · have := normFrom_ends hn t k; omega
        · rw [List.mem_singleton.1 k]; omega
      · rcases List.mem_append.1 ht with k | k
        · have := h.2 t k; omega
        · rw [List.mem_singleton.1 k]; exact Int.le_refl _
theorem addSp_has {b x y z : Int} {out : List Sp} (h : NormTo b x out) (hxy : x < y) : hasB (addSp out x y) z = (hasB out z || (decide (x ≤ z) && decide (z < y))) := by
  unfold addSp
  cases hl : out.getLast? with
  | none =>
    have : out = [] := by simpa using hl
    subst this
    simp [hasB]
  | some s =>
    have e := getLast_split hl
    simp only
    by_cases c : s.2 = x
    · rw [if_pos c]
      have hn := h.1
      rw [e] at hn
      have m := normFrom_mid hn
      have e2 : hasB out z = (hasB out.dropLast z || hasB [s] z) := by rw [← has_append, ← e]
      rw [e2, has_append, Bool.or_assoc]
      congr 1
      simp only [hasB, List.any_cons, List.any_nil, Bool.or_false]
      rw [Bool.eq_iff_iff]
      simp
      omega
    · rw [if_neg c, has_append]
      simp [hasB]
/-- What the walk over the ends makes: a normal form of the numbers that f says. -/
theorem scan_spec (f : Int → Bool) (b : Int) : ∀ (p : List Int) (x : Int) (out : List Sp), AscFrom x p → b < x → NormTo b x out →
    ∃ t, NormTo b t (scan f out (x :: p)) ∧ (∀ z, hasB (scan f out (x :: p)) z = (hasB out z || decide (∃ i, i < p.length ∧ f ((x :: p).getD i 0) = true ∧ (x :: p).getD i 0 ≤ z ∧ z < p.getD i 0)))
  | [], x, out, _, _, h => ⟨x, h, fun z => by simp [scan]⟩
  | y :: r, x, out, hp, hb, h => by
    have hxy := hp.1
    have hn : NormTo b y (if f x = true then addSp out x y else out) := by
      split
      · exact addSp_norm h hb hxy
      · exact ⟨h.1, fun s hs => by have := h.2 s hs; omega⟩
    obtain ⟨t, ht, hz⟩ := scan_spec f b r y _ hp.2 (by omega) hn
    refine ⟨t, ht, fun z => ?_⟩
    show hasB (scan f _ (y :: r)) z = _
    rw [hz z]
    have e : hasB (if f x = true then addSp out x y else out) z = (hasB out z || (f x && (decide (x ≤ z) && decide (z < y)))) := by
      cases hf : f x with
      | true => rw [if_pos rfl, addSp_has h hxy, Bool.true_and]
      | false => rw [if_neg (by simp), Bool.false_and, Bool.or_false]
    rw [e, Bool.or_assoc]
    congr 1
    rw [Bool.eq_iff_iff, Bool.or_eq_true, Bool.and_eq_true, Bool.and_eq_true, decide_eq_true_eq, decide_eq_true_eq, decide_eq_true_eq, decide_eq_true_eq]
    constructor
    · rintro (⟨h1, h2, h3⟩ | ⟨i, h1, h2, h3, h4⟩)
      · exact ⟨0, by simp, by simpa using h1, by simpa using h2, by simpa using h3⟩
      · exact ⟨i + 1, by simpa using h1, by simpa using h2, by simpa using h3, by simpa using h4⟩
    · rintro ⟨i, h1, h2, h3, h4⟩
      cases i with
      | zero => exact .inl ⟨by simpa using h2, by simpa using h3, by simpa using h4⟩
      | succ i => exact .inr ⟨i, by simpa using h1, by simpa using h2, by simpa using h3, by simpa using h4⟩
/-! ### Sets -/
def opB (op : Int) (p q : Bool) : Bool := if op = 0 then p || q else if op = 1 then p && q else p && !q
theorem opB_no (op : Int) : opB op false false = false := by unfold opB; split <;> (try split) <;> rfl
def okS (s : Sp) : Bool := decide (0 ≤ s.1) && decide (s.1 ≤ s.2) && decide (s.2 ≤ 65536)
theorem okS_iff (s : Sp) : okS s = true ↔ 0 ≤ s.1 ∧ s.1 ≤ s.2 ∧ s.2 ≤ 65536 := by
  unfold okS
  rw [Bool.and_eq_true, Bool.and_eq_true, decide_eq_true_eq, decide_eq_true_eq, decide_eq_true_eq, and_assoc]
/-- The normal form of an operation's result. -/
def setsL (a b : List Sp) (op : Int) : List Sp := scan (fun x => opB op (hasB a x) (hasB b x)) [] (endsTo [] (a ++ b))
theorem asc_between {z : Int} : ∀ {r : List Int} {x : Int}, AscFrom x r → x ≤ z → (∃ y ∈ r, z < y) → ∃ i, i < r.length ∧ (x :: r).getD i 0 ≤ z ∧ z < r.getD i 0
  | [], _, _, _, ⟨y, hy, _⟩ => by cases hy
  | y :: r, x, h, hx, ⟨t, ht, hz⟩ => by
    by_cases c : z < y
    · exact ⟨0, by simp, by simpa using hx, by simpa using c⟩
    · have ht2 : t ∈ r := by
        rcases List.mem_cons.1 ht with e | e
        · subst e; omega
        · exact e
      obtain ⟨i, h1, h2, h3⟩ := asc_between h.2 (show y ≤ z by omega) ⟨t, ht2, hz⟩
      exact ⟨i + 1, by simpa using h1, by simpa using h2, by simpa using h3⟩
/-- No end lies between neighbours. -/
theorem asc_gap : ∀ {r : List Int} {x t : Int} {i : Nat}, AscFrom x r → t ∈ x :: r → i < r.length → t ≤ (x :: r).getD i 0 ∨ r.getD i 0 ≤ t
  | [], _, _, _, _, _, h => by simp at h
  | y :: r, x, t, 0, h, ht, _ => by
    rcases List.mem_cons.1 ht with e | e
    · left; simp [e]
    · right
      rcases List.mem_cons.1 e with e | e
      · simp [e]
      · have := h.2.above e; simp; omega
  | y :: r, x, t, i + 1, h, ht, hi => by
    rcases List.mem_cons.1 ht with e | e
    · left
      have : x < ((y :: r).getD i 0) := h.above (x := (y :: r).getD i 0) (by
        rw [List.getD_eq_getElem?_getD, List.getElem?_eq_getElem (by simp at hi; simp; omega)]
        exact List.getElem_mem _)
      simp only [List.getD_cons_succ]
      omega
    · have := asc_gap h.2 e (by simpa using hi)
      simpa using this
theorem has_const {l : List Sp} {r : List Int} {x z : Int} {i : Nat} (h : AscFrom x r) (hl : ∀ s ∈ l, s.1 ∈ x :: r ∧ s.2 ∈ x :: r) (hi : i < r.length) (h1 : (x :: r).getD i 0 ≤ z) (h2 : z < r.getD i 0) : hasB l z = hasB l ((x :: r).getD i 0) := by
  rw [Bool.eq_iff_iff, has_iff, has_iff]
  have hlt : (x :: r).getD i 0 < r.getD i 0 := by omega
  constructor
  · rintro ⟨s, hs, a1, a2⟩
    have g1 := asc_gap h (hl s hs).1 hi
    have g2 := asc_gap h (hl s hs).2 hi
    exact ⟨s, hs, by omega, by omega⟩
  · rintro ⟨s, hs, a1, a2⟩
    have g1 := asc_gap h (hl s hs).1 hi
    have g2 := asc_gap h (hl s hs).2 hi
    exact ⟨s, hs, by omega, by omega⟩
theorem scan_le (f : Int → Bool) (t : Int) : ∀ (p : List Int) (out : List Sp), (∀ s ∈ out, s.2 ≤ t) → (∀ x ∈ p, x ≤ t) → ∀ s ∈ scan f out p, s.2 ≤ t
  | [], out, h, _ => h
  | [_], out, h, _ => h
  | x :: y :: r, out, h, hp => by
    refine scan_le f t (y :: r) _ ?_ fun z hz => hp z (List.mem_cons_of_mem _ hz)
    have hy := hp y (by simp)
    split
    · unfold addSp
      cases hl : out.getLast? with
      | none =>
        intro s hs
        rcases List.mem_append.1 hs with k | k
        · exact h s k
        · rw [List.mem_singleton.1 k]; exact hy
      | some u =>
        simp only
        have e := getLast_split hl
        split
        · intro s hs
          rcases List.mem_append.1 hs with k | k
          · exact h s (by rw [e]; exact List.mem_append.2 (.inl k))
          · rw [List.mem_singleton.1 k]; exact hy
        · intro s hs
          rcases List.mem_append.1 hs with k | k
          · exact h s k
          · rw [List.mem_singleton.1 k]; exact hy
    · exact h
/-- The normal form of an operation: its numbers, its bounds. -/
theorem sets_spec {a b : List Sp} (op : Int) (ha : ∀ s ∈ a, okS s = true) (hb : ∀ s ∈ b, okS s = true) :
    NormFrom (-1) (setsL a b op) ∧ (∀ z, hasB (setsL a b op) z = opB op (hasB a z) (hasB b z)) ∧ ∀ s ∈ setsL a b op, s.2 ≤ 65536 := by
  have hab : ∀ s ∈ a ++ b, 0 ≤ s.1 ∧ s.1 ≤ s.2 ∧ s.2 ≤ 65536 := fun s hs => by
    rcases List.mem_append.1 hs with k | k
    · exact (okS_iff s).1 (ha s k)
    · exact (okS_iff s).1 (hb s k)
  have hasc : AscFrom (-1) (endsTo [] (a ++ b)) := endsTo_asc trivial fun s hs => by have := hab s hs; omega
  have hmem : ∀ s ∈ a ++ b, s.1 ∈ endsTo [] (a ++ b) ∧ s.2 ∈ endsTo [] (a ++ b) := fun s hs => ⟨(endsTo_mem _ _ _).2 (.inr ⟨s, hs, .inl rfl⟩), (endsTo_mem _ _ _).2 (.inr ⟨s, hs, .inr rfl⟩)⟩
  have hle : ∀ x ∈ endsTo [] (a ++ b), x ≤ 65536 := fun x hx => by
    rcases (endsTo_mem _ _ _).1 hx with k | ⟨s, hs, k⟩
    · cases k
    · have := hab s hs; omega
  have h3 := scan_le (fun x => opB op (hasB a x) (hasB b x)) 65536 (endsTo [] (a ++ b)) [] (by simp) hle
  unfold setsL
  revert hasc hmem h3
  generalize endsTo [] (a ++ b) = p
  intro hasc hmem h3
  cases p with
  | nil =>
    refine ⟨trivial, fun z => ?_, h3⟩
    have e : ∀ l : List Sp, (∀ s ∈ l, s ∈ a ++ b) → hasB l z = false := fun l hl => Bool.of_not_eq_true fun k => by
      obtain ⟨s, hs, _⟩ := (has_iff l z).1 k
      have := (hmem s (hl s hs)).1
      cases this
    rw [e a (fun s hs => List.mem_append.2 (.inl hs)), e b (fun s hs => List.mem_append.2 (.inr hs)), opB_no]
    rfl
  | cons x r =>
    obtain ⟨t, ht, hz⟩ := scan_spec (fun x => opB op (hasB a x) (hasB b x)) (-1) r x [] hasc.2 hasc.1 ⟨trivial, by simp⟩
    refine ⟨ht.1, fun z => ?_, h3⟩
    rw [hz z, has_nil, Bool.false_or, Bool.eq_iff_iff, decide_eq_true_eq]
    have ca := fun i hi h1 h2 => has_const (l := a) (z := z) (i := i) hasc.2 (fun s hs => hmem s (List.mem_append.2 (.inl hs))) hi h1 h2
    have cb := fun i hi h1 h2 => has_const (l := b) (z := z) (i := i) hasc.2 (fun s hs => hmem s (List.mem_append.2 (.inr hs))) hi h1 h2
    constructor
    · rintro ⟨i, hi, hf, h1, h2⟩
      rw [ca i hi h1 h2, cb i hi h1 h2]
      exact hf
    · intro hf
      have hin : ∃ s ∈ a ++ b, s.1 ≤ z ∧ z < s.2 := by
        cases pa : hasB a z with
        | true =>
          obtain ⟨s, hs, k⟩ := (has_iff a z).1 pa
          exact ⟨s, List.mem_append.2 (.inl hs), k⟩
        | false =>
          cases pb : hasB b z with
          | true =>
            obtain ⟨s, hs, k⟩ := (has_iff b z).1 pb
            exact ⟨s, List.mem_append.2 (.inr hs), k⟩
          | false => rw [pa, pb, opB_no] at hf; cases hf
      obtain ⟨s, hs, k1, k2⟩ := hin
      have m := hmem s hs
      have hx : x ≤ z := by
        rcases List.mem_cons.1 m.1 with e | e
        · omega
        · have := hasc.2.above e; omega
      have hy : ∃ y ∈ r, z < y := by
        rcases List.mem_cons.1 m.2 with e | e
        · omega
        · exact ⟨s.2, e, k2⟩
      obtain ⟨i, hi, h1, h2⟩ := asc_between hasc.2 hx hy
      refine ⟨i, hi, ?_, h1, h2⟩
      rw [← ca i hi h1 h2, ← cb i hi h1 h2]
      exact hf
/-- Whatever has these properties is that normal form. -/
theorem sets_unique {a b m : List Sp} {op : Int} (ha : ∀ s ∈ a, okS s = true) (hb : ∀ s ∈ b, okS s = true) (hm : NormFrom (-1) m) (hz : ∀ z, hasB m z = opB op (hasB a z) (hasB b z)) : m = setsL a b op := by
  obtain ⟨h1, h2, _⟩ := sets_spec op ha hb
  exact norm_unique hm h1 fun x => by rw [hz, h2]
theorem sets_ok {a b : List Sp} {op : Int} (ha : ∀ s ∈ a, okS s = true) (hb : ∀ s ∈ b, okS s = true) : ∀ s ∈ setsL a b op, okS s = true ∧ s.1 < s.2 := by
  obtain ⟨h1, _, h3⟩ := sets_spec op ha hb
  have key : ∀ (l : List Sp) (c : Int), -1 ≤ c → NormFrom c l → ∀ s ∈ l, 0 ≤ s.1 ∧ s.1 < s.2 := by
    intro l
    induction l with
    | nil => intro c _ _ s hs; cases hs
    | cons u l ih =>
      intro c hc hl s hs
      have := hl.1
      have := hl.2.1
      rcases List.mem_cons.1 hs with rfl | k
      · omega
      · exact ih u.2 (by omega) hl.2.2 s k
  intro s hs
  have k := key _ _ (Int.le_refl _) h1 s hs
  have := h3 s hs
  exact ⟨(okS_iff s).2 (by omega), k.2⟩

/-! ### Numbers -/
def sumL (l : List Sp) : Int := l.foldl (fun n s => n + s.2 - s.1) 0
theorem sumL_go : ∀ (l : List Sp) (n : Int), l.foldl (fun n s => n + s.2 - s.1) n = n + sumL l
  | [], n => by simp [sumL]
  | s :: l, n => by
    unfold sumL
    rw [List.foldl_cons, List.foldl_cons, sumL_go l, sumL_go l (0 + s.2 - s.1)]
    omega
theorem sumL_cons (s : Sp) (l : List Sp) : sumL (s :: l) = s.2 - s.1 + sumL l := by
  show (s :: l).foldl _ 0 = _
  rw [List.foldl_cons, sumL_go]
  omega
/-- How many numbers f says yes of. -/
def cnt (f : Int → Bool) (n : Nat) : Int := ((List.range n).countP fun (i : Nat) => f (i : Int) : Nat)
theorem cnt_succ (f : Int → Bool) (n : Nat) : cnt f (n + 1) = cnt f n + if f n = true then 1 else 0 := by
  unfold cnt
  rw [List.range_succ, List.countP_append, List.countP_singleton]
  split <;> simp
theorem cnt_add {f g h : Int → Bool} (hs : ∀ z, f z = (g z || h z)) (hd : ∀ z, g z = true → h z = false) : ∀ n, cnt f n = cnt g n + cnt h n
  | 0 => rfl
  | n + 1 => by
    rw [cnt_succ, cnt_succ, cnt_succ, cnt_add hs hd n, hs n]
    cases hg : g (n : Int) with
    | true => rw [hd _ hg]; simp; omega
    | false => cases hh : h (n : Int) <;> simp <;> omega
theorem cnt_iv {a b : Int} (h0 : 0 ≤ a) (hab : a ≤ b) : ∀ n : Nat, cnt (fun z => decide (a ≤ z) && decide (z < b)) n = if (n : Int) ≤ a then 0 else if (n : Int) ≤ b then n - a else b - a
  | 0 => by
    rw [if_pos (by simpa using h0)]
    rfl
  | n + 1 => by
    rw [cnt_succ, cnt_iv h0 hab n]
    have hp : (decide (a ≤ (n : Int)) && decide ((n : Int) < b)) = true ↔ a ≤ n ∧ (n : Int) < b := by rw [Bool.and_eq_true, decide_eq_true_eq, decide_eq_true_eq]
    by_cases c : a ≤ n ∧ (n : Int) < b
    · rw [if_pos (hp.2 c)]
      split <;> split <;> (try split) <;> (try split) <;> omega
    · rw [if_neg (mt hp.1 c)]
      split <;> split <;> (try split) <;> (try split) <;> omega
theorem sum_cnt {N : Nat} : ∀ {l : List Sp} {b : Int}, -1 ≤ b → NormFrom b l → (∀ s ∈ l, s.2 ≤ N) → sumL l = cnt (hasB l) N
  | [], _, _, _, _ => by
    have : ∀ n, cnt (hasB []) n = 0 := by
      intro n
      induction n with
      | zero => rfl
      | succ n ih => rw [cnt_succ, ih, has_nil]; rfl
    rw [this]
    rfl
  | s :: l, b, hb, hl, hN => by
    have h1 := hl.1
    have h2 := hl.2.1
    have hs := hN s (List.mem_cons_self ..)
    rw [sumL_cons, sum_cnt (by omega) hl.2.2 (fun t ht => hN t (List.mem_cons_of_mem _ ht)),
      cnt_add (f := hasB (s :: l)) (g := fun z => decide (s.1 ≤ z) && decide (z < s.2)) (h := hasB l) (fun z => has_cons s l z) (fun z hz => by
        rw [Bool.and_eq_true, decide_eq_true_eq, decide_eq_true_eq] at hz
        exact Bool.of_not_eq_true fun k => by have := hl.2.2.above k; omega),
      cnt_iv (by omega) (by omega)]
    split
    · omega
    · split <;> omega
end Go.Proofs.Ytggceakihapgiaa.SpaP
