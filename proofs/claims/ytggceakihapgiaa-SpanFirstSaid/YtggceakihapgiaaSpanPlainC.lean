/-
  What Free's span has: the law of the first free span, as mathematics. Nothing of the program's code.
-/
import Derived.Test.YtggceakihapgiaaSpanL4
namespace Go.Proofs.Ytggceakihapgiaa.SpaW
open PairW SpaP

theorem inj_len (rel : Sp → Sp → Prop) : ∀ {m l : List Sp}, m.Pairwise (· ≠ ·) → (∀ s ∈ m, ∃ t ∈ l, rel s t) → (∀ s ∈ m, ∀ u ∈ m, ∀ t, rel s t → rel u t → s = u) → m.length ≤ l.length
  | [], _, _, _, _ => Nat.zero_le _
  | s :: r, l, hd, h, hi => by
    obtain ⟨d1, d2⟩ := List.pairwise_cons.1 hd
    obtain ⟨t, ht, hr⟩ := h s (List.mem_cons_self ..)
    have := inj_len rel (m := r) (l := l.erase t) d2 (fun u hu => by
      obtain ⟨v, hv, k⟩ := h u (List.mem_cons_of_mem _ hu)
      refine ⟨v, (List.mem_erase_of_ne fun e => ?_).2 hv, k⟩
      exact d1 u hu (hi s (List.mem_cons_self ..) u (List.mem_cons_of_mem _ hu) t hr (e ▸ k))) (fun a ha b hb => hi a (List.mem_cons_of_mem _ ha) b (List.mem_cons_of_mem _ hb))
    rw [List.length_erase_of_mem ht] at this
    have h0 := List.length_pos_of_mem ht
    rw [List.length_cons]
    omega
theorem norm_ne {l : List Sp} {b : Int} (h : NormFrom b l) : l.Pairwise (· ≠ ·) :=
  (List.pairwise_map.1 (norm_asc h)).imp fun {a b} k e => by rw [e] at k; omega
theorem both_iff (p q : Bool) : opB 1 p q = true ↔ p = true ∧ q = true := by rw [opB_and, Bool.and_eq_true]
theorem common_len {l : List Sp} {p q : Int} (hl : ∀ s ∈ l, okS s = true) (hp : ∀ s ∈ [((p, q) : Sp)], okS s = true) : (setsL l [(p, q)] 1).length ≤ l.length := by
  obtain ⟨h1, h2, _⟩ := sets_spec 1 hl hp
  have key : ∀ s ∈ setsL l [(p, q)] 1, ∀ u ∈ setsL l [(p, q)] 1, ∀ t ∈ l, s.2 < u.1 → t.1 ≤ s.1 → u.1 < t.2 → False := by
    intro s hs u hu t ht k1 k2 k3
    have es := norm_each h1 s hs
    have eu := norm_each h1 u hu
    have g := norm_gap h1 hs
    have ms : hasB (setsL l [(p, q)] 1) s.1 = true := (has_iff _ _).2 ⟨s, hs, Int.le_refl _, es.2⟩
    have mu : hasB (setsL l [(p, q)] 1) u.1 = true := (has_iff _ _).2 ⟨u, hu, Int.le_refl _, eu.2⟩
    rw [h2, both_iff, has_one] at ms mu
    rw [h2] at g
    have : opB 1 (hasB l s.2) (hasB [(p, q)] s.2) = true := (both_iff _ _).2 ⟨(has_iff _ _).2 ⟨t, ht, by omega, by omega⟩, (has_one ..).2 ⟨by omega, by omega⟩⟩
    rw [g] at this
    cases this
  refine inj_len (fun s t => t ∈ l ∧ t.1 ≤ s.1 ∧ s.1 < t.2) (norm_ne h1) (fun s hs => ?_) (fun s hs u hu t k1 k2 => ?_)
  · have es := norm_each h1 s hs
    have ms : hasB (setsL l [(p, q)] 1) s.1 = true := (has_iff _ _).2 ⟨s, hs, Int.le_refl _, es.2⟩
    rw [h2, both_iff] at ms
    obtain ⟨t, ht, k⟩ := (has_iff _ _).1 ms.1
    exact ⟨t, ht, ht, k⟩
  · rcases norm_apart h1 s hs u hu with k | k | k
    · exact k
    · exact (key s hs u hu t k1.1 k k1.2.1 k2.2.2).elim
    · exact (key u hu s hs t k1.1 k k2.2.1 k1.2.2).elim
theorem norm_empty {m : List Sp} {b : Int} (h : NormFrom b m) (hz : ∀ z, hasB m z = false) : m = [] := by
  cases m with
  | nil => rfl
  | cons s r =>
    have e := norm_each h s (List.mem_cons_self ..)
    have : hasB (s :: r) s.1 = true := (has_iff _ _).2 ⟨s, List.mem_cons_self .., Int.le_refl _, e.2⟩
    rw [hz] at this
    cases this
/-- The law of the first free span. -/
theorem first_free {l : List Sp} {n most : Int} (h : freeE l n most = 0) : ∃ x, freeV l n most = (x, x + n) ∧ (1 ≤ n ∧ n ≤ 65536) ∧ (0 ≤ most ∧ most ≤ 65536) ∧ 0 ≤ x ∧ x + n ≤ most ∧
    (setE l [(x, x + n)] 1 = 0 ∧ setV l [(x, x + n)] 1 = []) ∧ ∀ b, 0 ≤ b → b < x → ∃ v, (setE l [(b, b + n)] 1 = 0 ∧ setV l [(b, b + n)] 1 = v) ∧ 0 < v.length := by
  have hc : chkE l = 0 := Classical.byContradiction fun k => by
    have := (free_a (n := n) (most := most) rfl k).1
    rw [h] at this
    exact k this.symm
  cases ha : askOk n most with
  | false => rw [(free_b hc ha).1] at h; cases h
  | true =>
    obtain ⟨a1, a2⟩ := (askOk_iff n most).1 ha
    obtain ⟨hlen, hl⟩ := (chkE_zero l).1 hc
    have hm := ok_one (Int.le_refl 0) a2.1 a2.2
    obtain ⟨s1, s2, s3⟩ := sets_spec 2 hm hl
    cases hf : firstFit n (setsL [(0, most)] l 2) with
    | none => rw [(free_c hc ha hf).1] at h; cases h
    | some x =>
      obtain ⟨⟨s, hs, hx, hn⟩, hleast⟩ := first_least s1 hf
      have es := norm_each s1 s hs
      have inS : ∀ z, s.1 ≤ z → z < s.2 → (0 ≤ z ∧ z < most) ∧ hasB l z = false := fun z k1 k2 => by
        have : hasB (setsL [(0, most)] l 2) z = true := (has_iff _ _).2 ⟨s, hs, k1, k2⟩
        rw [s2, but_iff, has_one] at this
        exact this
      have hx0 := inS s.1 (Int.le_refl _) es.2
      have hx1 := inS (s.2 - 1) (by omega) (by omega)
      have fits : ∀ {p : Int}, 0 ≤ p → p + n ≤ 65536 → chkE [(p, p + n)] = 0 := fun h0 h1 => (chkE_zero _).2 ⟨by simp, ok_one h0 (by omega) h1⟩
      refine ⟨x, (free_d hc ha hf).2, a1, a2, by omega, by omega, ?_, fun b hb hbx => ?_⟩
      · have hp := ok_one (p := x) (q := x + n) (by omega) (by omega) (by omega)
        obtain ⟨c1, c2, _⟩ := sets_spec 1 hl hp
        have e : setsL l [(x, x + n)] 1 = [] := norm_empty c1 fun z => by
          rw [c2]
          refine Bool.of_not_eq_true fun k => ?_
          rw [both_iff, has_one] at k
          have := (inS z (by omega) (by omega)).2
          rw [k.1] at this
          cases this
        obtain ⟨k1, k2⟩ := set_fits (op := 1) hc (fits (p := x) (by omega) (by omega)) (by rw [e]; simp)
        exact ⟨k1, by rw [k2, e]⟩
      · have hp := ok_one (p := b) (q := b + n) hb (by omega) (by omega)
        obtain ⟨c1, c2, _⟩ := sets_spec 1 hl hp
        obtain ⟨k1, k2⟩ := set_fits (op := 1) hc (fits (p := b) hb (by omega)) (Nat.le_trans (common_len hl hp) hlen)
        refine ⟨_, ⟨k1, k2⟩, ?_⟩
        refine Nat.pos_of_ne_zero fun k => ?_
        have e := List.eq_nil_of_length_eq_zero k
        have free : ∀ z, b ≤ z → z < b + n → hasB (setsL [(0, most)] l 2) z = true := fun z k3 k4 => by
          rw [s2, but_iff, has_one]
          refine ⟨⟨by omega, by omega⟩, Bool.of_not_eq_true fun k5 => ?_⟩
          have : hasB (setsL l [(b, b + n)] 1) z = true := by rw [c2, both_iff, has_one]; exact ⟨k5, k3, k4⟩
          rw [e] at this
          cases this
        obtain ⟨u, hu, k3, k4⟩ := in_one s1 (show b < b + n by omega) free
        have := hleast u hu (by omega)
        omega
end Go.Proofs.Ytggceakihapgiaa.SpaW
