/-
  More mathematics of spans: a normal form has no more spans than a list of its set, is its own normal form, and the laws of sums and of orders. Nothing of the program.
-/
import Derived.Test.YtggceakihapgiaaSpanPlain
namespace Go.Proofs.Ytggceakihapgiaa.SpaP

theorem asc_len : ∀ {l m : List Int}, l.Pairwise (· < ·) → (∀ x ∈ l, x ∈ m) → l.length ≤ m.length
  | [], _, _, _ => Nat.zero_le _
  | x :: r, m, h, hm => by
    have hx : x ∈ m := hm x (List.mem_cons_self ..)
    obtain ⟨h1, h2⟩ := List.pairwise_cons.1 h
    have := asc_len (l := r) (m := m.erase x) h2 (fun y hy => (List.mem_erase_of_ne (by have := h1 y hy; omega)).2 (hm y (List.mem_cons_of_mem _ hy)))
    rw [List.length_erase_of_mem hx] at this
    have h0 := List.length_pos_of_mem hx
    rw [List.length_cons]
    omega
theorem norm_each : ∀ {l : List Sp} {b : Int}, NormFrom b l → ∀ t ∈ l, b < t.1 ∧ t.1 < t.2
  | [], _, _, t, ht => by cases ht
  | s :: r, b, h, t, ht => by
    have h1 := h.1
    have h2 := h.2.1
    rcases List.mem_cons.1 ht with rfl | k
    · exact ⟨h1, h2⟩
    · have := norm_each h.2.2 t k
      exact ⟨by omega, this.2⟩
theorem norm_asc : ∀ {l : List Sp} {b : Int}, NormFrom b l → (l.map (·.1)).Pairwise (· < ·)
  | [], _, _ => List.Pairwise.nil
  | s :: r, b, h => by
    rw [List.map_cons]
    refine List.pairwise_cons.2 ⟨fun x hx => ?_, norm_asc h.2.2⟩
    obtain ⟨t, ht, rfl⟩ := List.mem_map.1 hx
    have := norm_each h.2.2 t ht
    have := h.2.1
    omega
theorem norm_apart : ∀ {l : List Sp} {b : Int}, NormFrom b l → ∀ s ∈ l, ∀ t ∈ l, s = t ∨ s.2 < t.1 ∨ t.2 < s.1
  | [], _, _, s, hs, _, _ => by cases hs
  | u :: r, b, h, s, hs, t, ht => by
    rcases List.mem_cons.1 hs with e1 | k1
    · rcases List.mem_cons.1 ht with e2 | k2
      · exact .inl (e1.trans e2.symm)
      · exact .inr (.inl (by rw [e1]; exact (norm_each h.2.2 t k2).1))
    · rcases List.mem_cons.1 ht with e2 | k2
      · exact .inr (.inr (by rw [e2]; exact (norm_each h.2.2 s k1).1))
      · exact norm_apart h.2.2 s k1 t k2
theorem norm_len {m a : List Sp} (hm : NormFrom (-1) m) (hz : ∀ z, hasB m z = hasB a z) : m.length ≤ a.length := by
  have := asc_len (l := m.map (·.1)) (m := a.map (·.1)) (norm_asc hm) (fun x hx => by
    obtain ⟨s, hs, rfl⟩ := List.mem_map.1 hx
    have hse := norm_each hm s hs
    have h1 : hasB a s.1 = true := by rw [← hz]; exact (has_iff m s.1).2 ⟨s, hs, Int.le_refl _, hse.2⟩
    obtain ⟨t, ht, h2, h3⟩ := (has_iff a s.1).1 h1
    rcases Int.lt_or_eq_of_le h2 with h4 | h4
    · exfalso
      have h5 : hasB m (s.1 - 1) = true := by rw [hz]; exact (has_iff a (s.1 - 1)).2 ⟨t, ht, by omega, by omega⟩
      obtain ⟨u, hu, h6, h7⟩ := (has_iff m (s.1 - 1)).1 h5
      rcases norm_apart hm s hs u hu with rfl | h8 | h8 <;> omega
    · exact List.mem_map.2 ⟨t, ht, h4⟩)
  simpa using this
theorem or_self (p : Bool) : opB 0 p (hasB [] 0) = p := by cases p <;> rfl
theorem opB_or (p q : Bool) : opB 0 p q = (p || q) := rfl
theorem opB_and (p q : Bool) : opB 1 p q = (p && q) := rfl
theorem opB_but (p q : Bool) : opB 2 p q = (p && !q) := rfl
theorem ok_nil : ∀ s ∈ ([] : List Sp), okS s = true := fun s hs => by cases hs
theorem sets_len {a : List Sp} (ha : ∀ s ∈ a, okS s = true) : (setsL a [] 0).length ≤ a.length := by
  obtain ⟨h1, h2, _⟩ := sets_spec 0 ha ok_nil
  exact norm_len h1 (fun z => by rw [h2, opB_or, has_nil, Bool.or_false])
theorem ok_of_norm {m : List Sp} (h1 : NormFrom (-1) m) (h2 : ∀ s ∈ m, s.2 ≤ 65536) : ∀ s ∈ m, okS s = true := fun s hs => by
  have := norm_each h1 s hs
  exact (okS_iff s).2 ⟨by omega, by omega, h2 s hs⟩
theorem sets_self {m : List Sp} (h1 : NormFrom (-1) m) (h2 : ∀ s ∈ m, s.2 ≤ 65536) : setsL m [] 0 = m :=
  (sets_unique (ok_of_norm h1 h2) ok_nil h1 (fun z => by rw [opB_or, has_nil, Bool.or_false])).symm
theorem sum_sets {a b : List Sp} {op : Int} (ha : ∀ s ∈ a, okS s = true) (hb : ∀ s ∈ b, okS s = true) : sumL (setsL a b op) = cnt (fun z => opB op (hasB a z) (hasB b z)) 65536 := by
  obtain ⟨h1, h2, h3⟩ := sets_spec op ha hb
  rw [sum_cnt (N := 65536) (by omega) h1 h3]
  exact congrArg (fun f => cnt f 65536) (funext h2)
theorem sum_first {a b : List Sp} (ha : ∀ s ∈ a, okS s = true) (hb : ∀ s ∈ b, okS s = true) : sumL (setsL a [] 0) = sumL (setsL a b 1) + sumL (setsL a b 2) := by
  rw [sum_sets ha ok_nil, sum_sets ha hb, sum_sets ha hb]
  refine cnt_add (fun z => ?_) (fun z => ?_) _
  · rw [opB_or, opB_and, opB_but, has_nil]
    cases hasB a z <;> cases hasB b z <;> rfl
  · rw [opB_and, opB_but]
    cases hasB a z <;> cases hasB b z <;> simp
theorem sum_union {a b : List Sp} (ha : ∀ s ∈ a, okS s = true) (hb : ∀ s ∈ b, okS s = true) : sumL (setsL a b 0) = sumL (setsL b [] 0) + sumL (setsL a b 2) := by
  rw [sum_sets ha hb, sum_sets hb ok_nil, sum_sets ha hb]
  refine cnt_add (fun z => ?_) (fun z => ?_) _
  · rw [opB_or, opB_or, opB_but, has_nil]
    cases hasB a z <;> cases hasB b z <;> rfl
  · rw [opB_or, opB_but, has_nil]
    cases hasB a z <;> cases hasB b z <;> simp
theorem sets_comm {a b : List Sp} {op : Int} (hop : op = 0 ∨ op = 1) (ha : ∀ s ∈ a, okS s = true) (hb : ∀ s ∈ b, okS s = true) : setsL a b op = setsL b a op := by
  obtain ⟨h1, h2, _⟩ := sets_spec op ha hb
  refine sets_unique hb ha h1 (fun z => ?_)
  rw [h2]
  rcases hop with rfl | rfl
  · rw [opB_or, opB_or, Bool.or_comm]
  · rw [opB_and, opB_and, Bool.and_comm]
theorem sets_rest {a b : List Sp} (ha : ∀ s ∈ a, okS s = true) (hb : ∀ s ∈ b, okS s = true) : setsL a (setsL a b 2) 2 = setsL a b 1 := by
  obtain ⟨h1, h2, h3⟩ := sets_spec 2 ha hb
  obtain ⟨k1, k2, _⟩ := sets_spec 1 ha hb
  refine (sets_unique ha (ok_of_norm h1 h3) k1 (fun z => ?_)).symm
  rw [k2, h2, opB_and, opB_but, opB_but]
  cases hasB a z <;> cases hasB b z <;> rfl
end Go.Proofs.Ytggceakihapgiaa.SpaP
