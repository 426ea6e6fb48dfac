/-
  The mathematics of the program's own way through package span: the walk over the sorted ends, and the search for a free span. Nothing of the program's code. Condition: none.
-/
import Derived.Test.YtggceakihapgiaaSpanE
import Derived.Test.YtggceakihapgiaaSpanPlainB
namespace Go.Proofs.Ytggceakihapgiaa.SpaW
open PairW SpaP

/-- All ends of a list of spans, in its order. -/
def endsF (l : List Sp) : List Int := l.flatMap fun s => [s.1, s.2]
theorem endsF_nil : endsF [] = [] := rfl
theorem endsF_snoc (l : List Sp) (s : Sp) : endsF (l ++ [s]) = endsF l ++ [s.1, s.2] := by unfold endsF; rw [List.flatMap_append]; simp
theorem endsF_len (l : List Sp) : (endsF l).length = l.length * 2 := by
  induction l with
  | nil => rfl
  | cons a l ih => show ([_, _] ++ endsF l).length = _; rw [List.length_append, ih]; simp; omega
theorem endsF_mem {l : List Sp} {z : Int} : z ∈ endsF l ↔ ∃ s ∈ l, z = s.1 ∨ z = s.2 := by
  unfold endsF
  rw [List.mem_flatMap]
  constructor
  · rintro ⟨s, hs, h⟩
    simp at h
    exact ⟨s, hs, h⟩
  · rintro ⟨s, hs, h⟩
    exact ⟨s, hs, by simpa using h⟩
/-- All ends, ascending. -/
def endsS (l : List Sp) : List Int := (endsF l).mergeSort fun x y => decide (x ≤ y)
theorem endsS_len (l : List Sp) : (endsS l).length = l.length * 2 := by unfold endsS; rw [List.length_mergeSort, endsF_len]
theorem endsS_mem {l : List Sp} {z : Int} : z ∈ endsS l ↔ ∃ s ∈ l, z = s.1 ∨ z = s.2 := by
  unfold endsS
  rw [List.mem_mergeSort, endsF_mem]
theorem endsS_pw (l : List Sp) : (endsS l).Pairwise (· ≤ ·) := by
  unfold endsS
  have := List.pairwise_mergeSort (le := fun x y : Int => decide (x ≤ y)) (by intro a b c; simp; omega) (by intro a b; simp; omega) (endsF l)
  exact this.imp (by intro a b h; simpa using h)
/-- The list, the begin of the last span, and whether it is open. -/
abbrev WSt := List Sp × Int × Bool
def stepW (f : Int → Bool) (st : WSt) (x : Int) : WSt := if f x = st.2.2 then st else if st.2.2 = true then (st.1 ++ [(st.2.1, x)], x, false) else (st.1, x, true)
def walkW (f : Int → Bool) (p : List Int) : WSt := p.foldl (stepW f) ([], 0, false)
structure WInv (f : Int → Bool) (last : Int) (st : WSt) : Prop where
  norm : NormFrom (-1) st.1
  below : ∀ s ∈ st.1, s.2 ≤ last ∧ f s.2 = false
  within : st.2.2 = f last
  open' : st.2.2 = true → -1 < st.2.1 ∧ st.2.1 ≤ last ∧ f st.2.1 = true ∧ ∀ s ∈ st.1, s.2 < st.2.1
  has : ∀ z, z < last → f z = (hasB st.1 z || (st.2.2 && decide (st.2.1 ≤ z)))
theorem has_below {l : List Sp} {t z : Int} (h : ∀ s ∈ l, s.2 ≤ t) (hz : t ≤ z) : hasB l z = false := Bool.of_not_eq_true fun k => by
  obtain ⟨s, hs, k1, k2⟩ := (has_iff l z).1 k
  have := h s hs
  omega
theorem WInv.step {f : Int → Bool} {last x : Int} {st : WSt} (h : WInv f last st) (hx : last ≤ x) (hf : ∀ z, last ≤ z → z < x → f z = f last) (hx0 : -1 < x) : WInv f x (stepW f st x) := by
  obtain ⟨out, fr, wi⟩ := st
  have h1 := h.norm
  have h2 := h.below
  have h3 := h.within
  have h4 := h.open'
  have h5 := h.has
  simp only at h1 h2 h3 h4 h5
  have nb : ∀ z, last ≤ z → hasB out z = false := fun z hz => has_below (fun s hs => (h2 s hs).1) hz
  unfold stepW
  simp only
  by_cases c : f x = wi
  · rw [if_pos c]
    refine ⟨h1, fun s hs => ⟨by have := (h2 s hs).1; omega, (h2 s hs).2⟩, c.symm, fun hw => ?_, fun z hz => ?_⟩
    · obtain ⟨a1, a2, a3, a4⟩ := h4 hw
      exact ⟨a1, by simp only; omega, a3, a4⟩
    · simp only
      by_cases k : z < last
      · exact h5 z k
      · rw [hf z (by omega) hz, nb z (by omega), ← h3]
        cases wi with
        | false => rfl
        | true =>
          obtain ⟨a1, a2, _, _⟩ := h4 rfl
          simp only [Bool.true_and, Bool.false_or]
          rw [decide_eq_true (by omega)]
  · rw [if_neg c]
    cases wi with
    | true =>
      have fx : f x = false := by revert c; cases f x <;> simp
      obtain ⟨a1, a2, a3, a4⟩ := h4 rfl
      have hlt : fr < x := by
        rcases Int.lt_or_eq_of_le (Int.le_trans a2 hx) with k | k
        · exact k
        · rw [k, fx] at a3; cases a3
      simp only [if_true]
      refine ⟨normFrom_append h1 a1 hlt a4, fun s hs => ?_, fx.symm, fun hw => (by cases hw), fun z hz => ?_⟩
      · rcases List.mem_append.1 hs with k | k
        · exact ⟨by have := (h2 s k).1; omega, (h2 s k).2⟩
        · rw [List.mem_singleton.1 k]; exact ⟨Int.le_refl _, fx⟩
      · simp only
        rw [has_append, Bool.false_and, Bool.or_false]
        have e1 : hasB [(fr, x)] z = decide (fr ≤ z) := by
          rw [Bool.eq_iff_iff, has_iff, decide_eq_true_eq]
          exact ⟨fun ⟨s, hs, k⟩ => by rw [List.mem_singleton.1 hs] at k; exact k.1, fun k => ⟨_, List.mem_singleton.2 rfl, k, hz⟩⟩
        rw [e1]
        by_cases k : z < last
        · rw [h5 z k, Bool.true_and]
        · rw [hf z (by omega) hz, ← h3, decide_eq_true (by omega), Bool.or_true]
    | false =>
      have fx : f x = true := by revert c; cases f x <;> simp
      rw [if_neg (by simp)]
      refine ⟨h1, fun s hs => ⟨by have := (h2 s hs).1; first | omega | (simp only; omega), (h2 s hs).2⟩, fx.symm, fun _ => ⟨hx0, Int.le_refl _, fx, fun s hs => ?_⟩, fun z hz => ?_⟩
      · have k1 := h2 s hs
        simp only
        rcases Int.lt_or_eq_of_le (Int.le_trans k1.1 hx) with k | k
        · exact k
        · rw [k, fx] at k1; cases k1.2
      · simp only
        rw [decide_eq_false (by omega), Bool.and_false, Bool.or_false]
        by_cases k : z < last
        · rw [h5 z k, Bool.false_and, Bool.or_false]
        · rw [hf z (by omega) hz, ← h3, nb z (by omega)]
theorem has_gap {l : List Sp} {last x z : Int} (hs : ∀ s ∈ l, (s.1 ≤ last ∨ x ≤ s.1) ∧ (s.2 ≤ last ∨ x ≤ s.2)) (h1 : last ≤ z) (h2 : z < x) : hasB l z = hasB l last := by
  rw [Bool.eq_iff_iff, has_iff, has_iff]
  constructor
  · rintro ⟨s, k, a1, a2⟩
    have := hs s k
    exact ⟨s, k, by omega, by omega⟩
  · rintro ⟨s, k, a1, a2⟩
    have := hs s k
    exact ⟨s, k, by omega, by omega⟩
theorem walk_inv {a b : List Sp} {op : Int} : ∀ {p : List Int} {last : Int} {st : WSt}, (last :: p).Pairwise (· ≤ ·) → (∀ x ∈ p, -1 < x) →
    (∀ s ∈ a ++ b, (s.1 ≤ last ∨ s.1 ∈ p) ∧ (s.2 ≤ last ∨ s.2 ∈ p)) → WInv (fun x => opB op (hasB a x) (hasB b x)) last st →
    ∃ e, WInv (fun x => opB op (hasB a x) (hasB b x)) e (p.foldl (stepW fun x => opB op (hasB a x) (hasB b x)) st) ∧ ∀ s ∈ a ++ b, s.2 ≤ e
  | [], last, st, _, _, hs, h => ⟨last, h, fun s k => by
      rcases (hs s k).2 with k | k
      · exact k
      · cases k⟩
  | x :: r, last, st, hp, h0, hs, h => by
    obtain ⟨q1, q2⟩ := List.pairwise_cons.1 hp
    obtain ⟨q3, _⟩ := List.pairwise_cons.1 q2
    have hlx := q1 x (List.mem_cons_self ..)
    have hx0 := h0 x (List.mem_cons_self ..)
    have gap : ∀ s ∈ a ++ b, (s.1 ≤ last ∨ x ≤ s.1) ∧ (s.2 ≤ last ∨ x ≤ s.2) := fun s k => by
      have hle : ∀ t, t ∈ x :: r → x ≤ t := fun t ht => by
        rcases List.mem_cons.1 ht with rfl | ht
        · exact Int.le_refl _
        · exact q3 t ht
      exact ⟨(hs s k).1.imp id (hle _), (hs s k).2.imp id (hle _)⟩
    have h' := h.step (x := x) hlx (fun z k1 k2 => by
      show opB op (hasB a z) (hasB b z) = opB op (hasB a last) (hasB b last)
      rw [has_gap (l := a) (fun s k => gap s (List.mem_append.2 (.inl k))) k1 k2, has_gap (l := b) (fun s k => gap s (List.mem_append.2 (.inr k))) k1 k2]) hx0
    refine walk_inv (p := r) q2 (fun y hy => h0 y (List.mem_cons_of_mem _ hy)) (fun s k => ?_) h'
    have up : ∀ t, (t ≤ last ∨ t ∈ x :: r) → (t ≤ x ∨ t ∈ r) := fun t ht => by
      rcases ht with k | k
      · exact .inl (by omega)
      · rcases List.mem_cons.1 k with rfl | k
        · exact .inl (Int.le_refl _)
        · exact .inr k
    exact ⟨up _ (hs s k).1, up _ (hs s k).2⟩
/-- What the walk over the sorted ends makes: the normal form. -/
theorem walk_sets {a b : List Sp} (op : Int) (ha : ∀ s ∈ a, okS s = true) (hb : ∀ s ∈ b, okS s = true) : (walkW (fun x => opB op (hasB a x) (hasB b x)) (endsS (a ++ b))).1 = setsL a b op := by
  have hab : ∀ s ∈ a ++ b, 0 ≤ s.1 ∧ s.1 ≤ s.2 ∧ s.2 ≤ 65536 := fun s hs => by
    rcases List.mem_append.1 hs with k | k
    · exact (okS_iff s).1 (ha s k)
    · exact (okS_iff s).1 (hb s k)
  have lo : ∀ l : List Sp, (∀ s ∈ l, s ∈ a ++ b) → ∀ z, z < 0 → hasB l z = false := fun l hl z hz => Bool.of_not_eq_true fun k => by
    obtain ⟨s, hs, k1, k2⟩ := (has_iff l z).1 k
    have := hab s (hl s hs)
    omega
  have f0 : ∀ z, z < 0 → opB op (hasB a z) (hasB b z) = false := fun z hz => by
    rw [lo a (fun s hs => List.mem_append.2 (.inl hs)) z hz, lo b (fun s hs => List.mem_append.2 (.inr hs)) z hz, opB_no]
  have hpos : ∀ x ∈ endsS (a ++ b), -1 < x := fun x hx => by
    obtain ⟨s, hs, k⟩ := endsS_mem.1 hx
    have := hab s hs
    omega
  obtain ⟨e, he, hle⟩ := walk_inv (a := a) (b := b) (op := op) (p := endsS (a ++ b)) (last := -1) (st := ([], 0, false))
    (List.pairwise_cons.2 ⟨fun x hx => by have := hpos x hx; omega, endsS_pw _⟩) hpos
    (fun s hs => ⟨.inr (endsS_mem.2 ⟨s, hs, .inl rfl⟩), .inr (endsS_mem.2 ⟨s, hs, .inr rfl⟩)⟩)
    ⟨trivial, fun s hs => (by cases hs), (f0 (-1) (by omega)).symm, fun h => (by cases h), fun z hz => f0 z (by omega)⟩
  have fin : ∀ z, e ≤ z → opB op (hasB a z) (hasB b z) = false := fun z hz => by
    rw [has_below (l := a) (fun s hs => hle s (List.mem_append.2 (.inl hs))) hz, has_below (l := b) (fun s hs => hle s (List.mem_append.2 (.inr hs))) hz, opB_no]
  unfold walkW
  generalize List.foldl (stepW fun x => opB op (hasB a x) (hasB b x)) ([], 0, false) (endsS (a ++ b)) = st at he
  have hw := he.within
  rw [fin e (Int.le_refl _)] at hw
  refine sets_unique ha hb he.norm fun z => ?_
  by_cases k : z < e
  · have := he.has z k
    rw [hw, Bool.false_and, Bool.or_false] at this
    exact this.symm
  · rw [fin z (by omega), has_below (fun s hs => (he.below s hs).1) (by omega)]
theorem walk_take (f : Int → Bool) {p : List Int} {k : Nat} (h : k < p.length) : walkW f (p.take (k + 1)) = stepW f (walkW f (p.take k)) (p.getD k 0) := by
  unfold walkW
  rw [List.take_succ_eq_append_getElem h, List.foldl_append]
  show stepW f _ p[k] = _
  rw [List.getD_eq_getElem?_getD, List.getElem?_eq_getElem h]
  rfl
theorem stepW_len (f : Int → Bool) (st : WSt) (x : Int) : (stepW f st x).1.length ≤ st.1.length + 1 := by
  unfold stepW
  split
  · omega
  · split
    · simp
    · simp
theorem walk_len (f : Int → Bool) (p : List Int) : ∀ k, k ≤ p.length → (walkW f (p.take k)).1.length ≤ k
  | 0, _ => by simp [walkW]
  | k + 1, h => by
    rw [walk_take f (by omega)]
    have h1 := stepW_len f (walkW f (p.take k)) (p.getD k 0)
    have h2 := walk_len f p k (by omega)
    omega

/-! ### The search for a free span -/
theorem norm_gap {m : List Sp} {b : Int} (h : NormFrom b m) {s : Sp} (hs : s ∈ m) : hasB m s.2 = false := by
  refine Bool.of_not_eq_true fun k => ?_
  obtain ⟨u, hu, k1, k2⟩ := (has_iff m s.2).1 k
  have h1 := norm_each h s hs
  have h2 := norm_each h u hu
  rcases norm_apart h s hs u hu with rfl | k3 | k3 <;> omega
theorem has_one (p q z : Int) : hasB [(p, q)] z = true ↔ p ≤ z ∧ z < q := by
  rw [has_iff]
  exact ⟨fun ⟨s, hs, h⟩ => by rw [List.mem_singleton.1 hs] at h; exact h, fun h => ⟨(p, q), List.mem_singleton.2 rfl, h⟩⟩
theorem but_iff (p q : Bool) : opB 2 p q = true ↔ p = true ∧ q = false := by rw [opB_but, Bool.and_eq_true, Bool.not_eq_true']
theorem ok_one {p q : Int} (h0 : 0 ≤ p) (h1 : p ≤ q) (h2 : q ≤ 65536) : ∀ s ∈ [((p, q) : Sp)], okS s = true := fun s hs => by rw [List.mem_singleton.1 hs]; exact (okS_iff _).2 ⟨h0, h1, h2⟩
theorem in_one {m : List Sp} {b c d : Int} (h : NormFrom b m) (hcd : c < d) (hz : ∀ z, c ≤ z → z < d → hasB m z = true) : ∃ s ∈ m, s.1 ≤ c ∧ d ≤ s.2 := by
  obtain ⟨s, hs, k1, k2⟩ := (has_iff _ _).1 (hz c (Int.le_refl _) hcd)
  refine ⟨s, hs, k1, Int.not_lt.1 fun k => ?_⟩
  have g := norm_gap h hs
  rw [hz s.2 (by omega) k] at g
  cases g
theorem first_least {n x : Int} : ∀ {m : List Sp} {b : Int}, NormFrom b m → firstFit n m = some x → (∃ s ∈ m, s.1 = x ∧ n ≤ s.2 - s.1) ∧ ∀ t ∈ m, n ≤ t.2 - t.1 → x ≤ t.1
  | [], _, _, h => by cases h
  | s :: r, b, hm, h => by
    unfold firstFit at h
    by_cases c : n ≤ s.2 - s.1
    · rw [if_pos c] at h
      injection h with h
      refine ⟨⟨s, List.mem_cons_self .., h, c⟩, fun t ht k => ?_⟩
      rcases List.mem_cons.1 ht with e | ht
      · rw [e, h]; exact Int.le_refl _
      · have := norm_each hm.2.2 t ht
        have := hm.2.1
        omega
    · rw [if_neg c] at h
      obtain ⟨⟨u, hu, k⟩, hk⟩ := first_least hm.2.2 h
      refine ⟨⟨u, List.mem_cons_of_mem _ hu, k⟩, fun t ht k => ?_⟩
      rcases List.mem_cons.1 ht with e | ht
      · rw [e] at k; exact absurd k c
      · exact hk t ht k
theorem fit_some {n : Int} : ∀ {m : List Sp} {s : Sp}, s ∈ m → n ≤ s.2 - s.1 → firstFit n m ≠ none
  | [], _, h, _ => by cases h
  | t :: r, s, h, k => by
    unfold firstFit
    by_cases c : n ≤ t.2 - t.1
    · rw [if_pos c]; simp
    · rw [if_neg c]
      rcases List.mem_cons.1 h with rfl | h
      · exact absurd k c
      · exact fit_some h k
/-- The program's way: the first place behind the spans met so far at which n numbers fit before the next one. -/
def freeW (n : Int) : Int → List Sp → Int
  | c, [] => c
  | c, s :: r => if c + n ≤ s.1 then c else freeW n s.2 r
theorem freeW_spec {n : Int} (hn : 1 ≤ n) (all : List Sp) : ∀ {r : List Sp} {c : Int}, (∀ s ∈ all, s.2 ≤ c ∨ s ∈ r) → (∀ s ∈ r, s ∈ all) → NormFrom (c - 1) r → (∀ x, 0 ≤ x → x < c → ∃ z, x ≤ z ∧ z < x + n ∧ hasB all z = true) → 0 ≤ c →
    0 ≤ freeW n c r ∧ (∀ z, freeW n c r ≤ z → z < freeW n c r + n → hasB all z = false) ∧ (∀ x, 0 ≤ x → x < freeW n c r → ∃ z, x ≤ z ∧ z < x + n ∧ hasB all z = true)
  | [], c, h1, _, _, h3, h0 => by
    refine ⟨h0, fun z k1 k2 => Bool.of_not_eq_true fun k => ?_, h3⟩
    obtain ⟨s, hs, k3, k4⟩ := (has_iff _ _).1 k
    rcases h1 s hs with k | k
    · have k1 : c ≤ z := k1
      omega
    · cases k
  | s :: r, c, h1, h2, hr, h3, h0 => by
    unfold freeW
    have hs1 := hr.1
    have hs2 := hr.2.1
    by_cases k : c + n ≤ s.1
    · rw [if_pos k]
      refine ⟨h0, fun z k1 k2 => Bool.of_not_eq_true fun k3 => ?_, h3⟩
      obtain ⟨t, ht, k4, k5⟩ := (has_iff _ _).1 k3
      rcases h1 t ht with k6 | k6
      · omega
      · rcases List.mem_cons.1 k6 with rfl | k6
        · omega
        · have := norm_each hr.2.2 t k6; omega
    · rw [if_neg k]
      refine freeW_spec hn all (fun t ht => ?_) (fun t ht => h2 t (List.mem_cons_of_mem _ ht)) (hr.2.2.weaken (by omega)) (fun x k1 k2 => ?_) (by omega)
      · rcases h1 t ht with k6 | k6
        · exact .inl (by omega)
        · rcases List.mem_cons.1 k6 with rfl | k6
          · exact .inl (Int.le_refl _)
          · exact .inr k6
      · by_cases k3 : x < c
        · exact h3 x k1 k3
        · by_cases k4 : x ≤ s.1
          · exact ⟨s.1, k4, by omega, (has_iff _ _).2 ⟨s, h2 s (List.mem_cons_self ..), Int.le_refl _, hs2⟩⟩
          · exact ⟨x, Int.le_refl _, by omega, (has_iff _ _).2 ⟨s, h2 s (List.mem_cons_self ..), by omega, k2⟩⟩
theorem freeW_bd {n : Int} : ∀ {r : List Sp} {c : Int}, c ≤ 65536 → (∀ s ∈ r, s.2 ≤ 65536) → freeW n c r ≤ 65536
  | [], c, h, _ => h
  | s :: r, c, h, hr => by
    unfold freeW
    split
    · exact h
    · exact freeW_bd (hr s (List.mem_cons_self ..)) fun t ht => hr t (List.mem_cons_of_mem _ ht)
theorem free_first {l : List Sp} {n most : Int} (hl : ∀ s ∈ l, okS s = true) (ha : askOk n most = true) :
    firstFit n (setsL [(0, most)] l 2) = if most < freeW n 0 (setsL l [] 0) + n then none else some (freeW n 0 (setsL l [] 0)) := by
  obtain ⟨a1, a2⟩ := (askOk_iff n most).1 ha
  have hm := ok_one (Int.le_refl 0) a2.1 a2.2
  obtain ⟨s1, s2, s3⟩ := sets_spec 2 hm hl
  obtain ⟨n1, n2, n3⟩ := sets_spec 0 hl ok_nil
  have hz : ∀ z, hasB (setsL l [] 0) z = hasB l z := fun z => by rw [n2, opB_or, has_nil, Bool.or_false]
  obtain ⟨f0, f1, f2⟩ := freeW_spec a1.1 (setsL l [] 0) (r := setsL l [] 0) (c := 0) (fun s hs => .inr hs) (fun s hs => hs) (n1.weaken (by omega)) (fun x k1 k2 => by omega) (Int.le_refl _)
  generalize freeW n 0 (setsL l [] 0) = x at f0 f1 f2 ⊢
  have early : ∀ y, firstFit n (setsL [(0, most)] l 2) = some y → 0 ≤ y ∧ y + n ≤ most ∧ x ≤ y := fun y hy => by
    obtain ⟨⟨s, hs, hx, hn⟩, _⟩ := first_least s1 hy
    have es := norm_each s1 s hs
    have inS : ∀ z, s.1 ≤ z → z < s.2 → (0 ≤ z ∧ z < most) ∧ hasB l z = false := fun z k1 k2 => by
      have : hasB (setsL [(0, most)] l 2) z = true := (has_iff _ _).2 ⟨s, hs, k1, k2⟩
      rw [s2, but_iff, has_one] at this
      exact this
    have h0 := inS s.1 (Int.le_refl _) es.2
    have h1 := inS (s.2 - 1) (by omega) (by omega)
    refine ⟨by omega, by omega, Int.not_lt.1 fun k => ?_⟩
    obtain ⟨z, k1, k2, k3⟩ := f2 y (by omega) k
    rw [hz, (inS z (by omega) (by omega)).2] at k3
    cases k3
  by_cases c : most < x + n
  · rw [if_pos c]
    cases hf : firstFit n (setsL [(0, most)] l 2) with
    | none => rfl
    | some y => have := early y hf; omega
  · rw [if_neg c]
    obtain ⟨u, hu, k3, k4⟩ := in_one s1 (c := x) (d := x + n) (by omega) fun z k1 k2 => by
      rw [s2, but_iff, has_one]
      exact ⟨⟨by omega, by omega⟩, by rw [← hz]; exact f1 z k1 k2⟩
    cases hf : firstFit n (setsL [(0, most)] l 2) with
    | none => exact absurd hf (fit_some hu (by omega))
    | some y =>
      have e := (early y hf).2.2
      have := (first_least s1 hf).2 u hu (by omega)
      have : y = x := by omega
      rw [this]
theorem freeW_step {n c : Int} {l : List Sp} {k : Nat} (h : k < l.length) : freeW n c (l.drop k) = if c + n ≤ (at' l k).1 then c else freeW n (at' l k).2 (l.drop (k + 1)) := by
  rw [List.drop_eq_getElem_cons h]
  have e : at' l k = l[k] := by unfold at'; rw [List.getD_eq_getElem?_getD, List.getElem?_eq_getElem h]; rfl
  rw [e]
  rfl
theorem free_late {l : List Sp} {n most : Int} {X : Int} (h : chkE l = 0) (ha : askOk n most = true) (hX : freeW n 0 (setsL l [] 0) = X) (hm : most < X + n) : freeE l n most = 6 ∧ freeV l n most = (0, 0) :=
  free_c h ha (by rw [free_first ((chkE_zero l).1 h).2 ha, hX, if_pos hm])
theorem free_fits {l : List Sp} {n most : Int} {X : Int} (h : chkE l = 0) (ha : askOk n most = true) (hX : freeW n 0 (setsL l [] 0) = X) (hm : ¬ most < X + n) : freeE l n most = 0 ∧ freeV l n most = (X, X + n) :=
  free_d h ha (by rw [free_first ((chkE_zero l).1 h).2 ha, hX, if_neg hm])
theorem norm_e {l : List Sp} (h : chkE l = 0) : setE l [] 0 = 0 ∧ setV l [] 0 = setsL l [] 0 := by
  obtain ⟨h1, h2⟩ := (chkE_zero l).1 h
  have := sets_len h2
  exact set_ok h rfl (by omega)
theorem norm_bad {l : List Sp} {e : Int} (h : chkE l = e) (h0 : e ≠ 0) : setE l [] 0 = e ∧ setV l [] 0 = [] := set_a h h0
end Go.Proofs.Ytggceakihapgiaa.SpaW
