/-
  Plain facts of package graph: orders. No word of the program. Condition: none.
-/
import Derived.Test.YtkdfmjhhdfiiiaaGraphPlainC
namespace Go.Proofs.Ytkdfmjhhdfiiiaa.GraP
open PairW
def inL (out : List Nat) (a : Nat) : Bool := decide (a ∈ out)
/-- Which nodes a list has, node by node. -/
def dn (n : Nat) (out : List Nat) : List Bool := (List.range n).map (inL out)
theorem dn_len (n : Nat) (out : List Nat) : (dn n out).length = n := by unfold dn; rw [List.length_map, List.length_range]
theorem dn_at {n : Nat} {out : List Nat} {a : Nat} (h : a < n) : (dn n out)[a]? = some (inL out a) := by unfold dn; rw [List.getElem?_map, List.getElem?_range h]; rfl
theorem dn_nil (n : Nat) : List.replicate n false = dn n [] := by
  refine List.ext_getElem (by rw [dn_len, List.length_replicate]) fun i h1 h2 => ?_
  rw [List.getElem_replicate]
  simp [dn, inL]
theorem dn_set {n : Nat} {out : List Nat} {c : Nat} : (dn n out).set c true = dn n (out ++ [c]) := by
  refine List.ext_getElem (by rw [List.length_set, dn_len, dn_len]) fun i h1 h2 => ?_
  rw [List.getElem_set]
  simp only [dn, List.getElem_map, List.getElem_range, inL, List.mem_append, List.mem_singleton]
  by_cases e : c = i
  · rw [if_pos e, decide_eq_true (.inr e.symm)]
  · rw [if_neg e]
    exact decide_eq_decide.2 ⟨.inl, fun h => h.resolve_right fun k => e k.symm⟩
/-- An arc does not hinder a node. -/
def fr (out : List Nat) (a : Nat) (p : Ar) : Bool := decide (p.2 ≠ (a : Int)) || inL out p.1.toNat
def frk (l : List Ar) (out : List Nat) (a i : Nat) : Bool := !inL out a && (l.take i).all (fr out a)
def free (l : List Ar) (out : List Nat) (a : Nat) : Bool := frk l out a l.length
theorem frk_zero (l : List Ar) (out : List Nat) (a : Nat) : frk l out a 0 = !inL out a := by unfold frk; simp
theorem frk_succ {l : List Ar} {out : List Nat} {a i : Nat} (h : i < l.length) : frk l out a (i + 1) = (frk l out a i && fr out a (at' l i)) := by
  unfold frk
  rw [take_at h, List.all_append, Bool.and_assoc]
  simp
theorem free_iff {n : Nat} {l : List Ar} (G : Fit n l) {out : List Nat} {a : Nat} : free l out a = true ↔ a ∉ out ∧ ∀ x : Nat, ar l x a = true → x ∈ out := by
  unfold free frk
  rw [List.take_length, Bool.and_eq_true, List.all_eq_true]
  unfold inL fr
  simp only [Bool.not_eq_true', decide_eq_false_iff_not]
  refine and_congr Iff.rfl ⟨fun h x hx => ?_, fun h p hp => ?_⟩
  · have := h _ (ar_iff.1 hx)
    unfold inL at this
    simpa using this
  · obtain ⟨u, v, rfl, _, _⟩ := G.nats hp
    unfold inL
    by_cases e : v = a
    · subst e
      simp [h u (ar_iff.2 hp)]
    · simp
      exact .inl (by omega)
def nxt (n : Nat) (l : List Ar) (out : List Nat) : Option Nat := (List.range n).find? (free l out)
def ordF (n : Nat) (l : List Ar) : Nat → List Nat → Option (List Nat)
  | 0, out => some out
  | k + 1, out => match nxt n l out with
    | none => none
    | some a => ordF n l k (out ++ [a])
def ordO (n : Nat) (l : List Ar) : Option (List Nat) := ordF n l n []
theorem nxt_some {n : Nat} {l : List Ar} {out : List Nat} {c : Nat} : nxt n l out = some c ↔ c < n ∧ free l out c = true ∧ ∀ j, j < c → free l out j = false := find_range
theorem nxt_none {n : Nat} {l : List Ar} {out : List Nat} : nxt n l out = none ↔ ∀ j, j < n → free l out j = false := by
  unfold nxt
  rw [List.find?_eq_none]
  exact ⟨fun h j hj => by simpa using h j (List.mem_range.2 hj), fun h j hj => by rw [h j (List.mem_range.1 hj)]; simp⟩
theorem ordF_step {n : Nat} {l : List Ar} {k c : Nat} {out : List Nat} (h : nxt n l out = some c) : ordF n l (k + 1) out = ordF n l k (out ++ [c]) := by
  show (match nxt n l out with | none => none | some a => ordF n l k (out ++ [a])) = _
  rw [h]
theorem ordF_stop {n : Nat} {l : List Ar} {k : Nat} {out : List Nat} (h : nxt n l out = none) : ordF n l (k + 1) out = none := by
  show (match nxt n l out with | none => none | some a => ordF n l k (out ++ [a])) = _
  rw [h]
/-- What is in the list stands there once, behind all from which arcs lead to it. -/
structure OrdOk (n : Nat) (l : List Ar) (out : List Nat) : Prop where
  nd : out.Nodup
  lt : ∀ x ∈ out, x < n
  bf : ∀ i c : Nat, out[i]? = some c → ∀ x : Nat, ar l x c = true → ∃ j : Nat, j < i ∧ out[j]? = some x
theorem ord_nil (n : Nat) (l : List Ar) : OrdOk n l [] := ⟨List.nodup_nil, fun _ h => (by cases h), fun i c h => (by simp at h)⟩
theorem ord_more {n : Nat} {l : List Ar} (G : Fit n l) {out : List Nat} {c : Nat} (h : OrdOk n l out) (hc : c < n) (hf : free l out c = true) : OrdOk n l (out ++ [c]) := by
  obtain ⟨h1, h2⟩ := (free_iff G).1 hf
  refine ⟨?_, fun x hx => ?_, fun i d hd x hx => ?_⟩
  · rw [List.nodup_append]
    exact ⟨h.nd, by simp, fun a ha b hb => by rw [List.mem_singleton] at hb; subst hb; exact fun e => h1 (e ▸ ha)⟩
  · rcases List.mem_append.1 hx with h3 | h3
    · exact h.lt x h3
    · rw [List.mem_singleton] at h3
      omega
  · rcases Nat.lt_or_ge i out.length with k | k
    · rw [List.getElem?_append_left k] at hd
      obtain ⟨j, h3, h4⟩ := h.bf i d hd x hx
      exact ⟨j, h3, by rw [List.getElem?_append_left (by omega)]; exact h4⟩
    · have hi : i < (out ++ [c]).length := (List.getElem?_eq_some_iff.1 hd).1
      rw [List.length_append] at hi
      have hi : i < out.length + 1 := hi
      obtain rfl : i = out.length := by omega
      rw [List.getElem?_append_right (Nat.le_refl _), Nat.sub_self] at hd
      have hd : some c = some d := hd
      injection hd with hd
      subst hd
      obtain ⟨j, h3, h4⟩ := List.mem_iff_getElem.1 (h2 x hx)
      exact ⟨j, h3, by rw [List.getElem?_append_left h3, List.getElem?_eq_getElem h3, h4]⟩
/-- An order has all nodes. -/
theorem ordF_some {n : Nat} {l : List Ar} (G : Fit n l) {L : List Nat} : ∀ {k : Nat} {out : List Nat}, OrdOk n l out → ordF n l k out = some L → OrdOk n l L ∧ L.length = out.length + k
  | 0, out, h, e => by
    have e : some out = some L := e
    injection e with e
    subst e
    exact ⟨h, rfl⟩
  | k + 1, out, h, e => by
    cases hc : nxt n l out with
    | none => rw [ordF_stop hc] at e; cases e
    | some c =>
      rw [ordF_step hc] at e
      obtain ⟨h1, h2, _⟩ := nxt_some.1 hc
      obtain ⟨h3, h4⟩ := ordF_some G (ord_more G h h1 h2) e
      refine ⟨h3, ?_⟩
      rw [h4, List.length_append]
      show out.length + 1 + k = _
      omega
theorem ordF_none {n : Nat} {l : List Ar} (G : Fit n l) : ∀ {k : Nat} {out : List Nat}, OrdOk n l out → out.length + k = n → ordF n l k out = none → ∃ o, OrdOk n l o ∧ o.length < n ∧ nxt n l o = none
  | 0, out, _, _, e => by cases e
  | k + 1, out, h, hk, e => by
    cases hc : nxt n l out with
    | none => exact ⟨out, h, by omega, hc⟩
    | some c =>
      rw [ordF_step hc] at e
      obtain ⟨h1, h2, _⟩ := nxt_some.1 hc
      exact ordF_none G (ord_more G h h1 h2) (by rw [List.length_append]; show out.length + 1 + k = n; omega) e
theorem ord_some {n : Nat} {l : List Ar} (G : Fit n l) {L : List Nat} (h : ordO n l = some L) : OrdOk n l L ∧ L.length = n := by
  obtain ⟨h1, h2⟩ := ordF_some G (ord_nil n l) h
  exact ⟨h1, by rw [h2]; simp⟩
/-- If there is no order, some arc leads to a node from which a path leads back. -/
theorem ord_none {n : Nat} {l : List Ar} (G : Fit n l) (h : ordO n l = none) : ∃ x y, ar l x y = true ∧ rch n l y x = true := by
  obtain ⟨o, ho, hlen, hn⟩ := ordF_none G (ord_nil n l) (by simp) h
  have hno := nxt_none.1 hn
  have hpred : ∀ a, a < n → a ∉ o → ∃ x, x < n ∧ x ∉ o ∧ ar l x a = true := fun a ha hao => by
    have h1 := hno a ha
    have h2 : ¬ (a ∉ o ∧ ∀ x : Nat, ar l x a = true → x ∈ o) := fun h => by rw [(free_iff G).2 h] at h1; cases h1
    rcases Classical.em (∃ x, x < n ∧ x ∉ o ∧ ar l x a = true) with h3 | h3
    · exact h3
    · refine absurd ⟨hao, fun x hx => ?_⟩ h2
      rcases Classical.em (x ∈ o) with h4 | h4
      · exact h4
      · exact absurd ⟨x, (G.ar hx).1, h4, hx⟩ h3
  have hst : ∃ a, a < n ∧ a ∉ o := by
    rcases Classical.em (∃ a, a < n ∧ a ∉ o) with h3 | h3
    · exact h3
    · have h4 : ∀ a, a < n → a ∈ o := fun a ha => by
        rcases Classical.em (a ∈ o) with h5 | h5
        · exact h5
        · exact absurd ⟨a, ha, h5⟩ h3
      have h5 : n ≤ o.length := by
        refine inj_le (n := o.length) (m := n) (fun a => o.idxOf a) (fun i hi => List.idxOf_lt_length_of_mem (h4 i hi)) fun i j hij hj e => ?_
        have e1 : o[o.idxOf i]'(List.idxOf_lt_length_of_mem (h4 i (by omega))) = i := List.getElem_idxOf _
        have e2 : o[o.idxOf j]'(List.idxOf_lt_length_of_mem (h4 j hj)) = j := List.getElem_idxOf _
        have e : o.idxOf i = o.idxOf j := e
        simp only [e] at e1
        omega
      omega
  obtain ⟨a0, ha0, hao0⟩ := hst
  have hnext : ∀ s : { a // a < n ∧ a ∉ o }, ∃ t : { a // a < n ∧ a ∉ o }, ar l t.1 s.1 = true := fun s => by
    obtain ⟨x, h1, h2, h3⟩ := hpred s.1 s.2.1 s.2.2
    exact ⟨⟨x, h1, h2⟩, h3⟩
  have hf : ∃ F : { a // a < n ∧ a ∉ o } → { a // a < n ∧ a ∉ o }, ∀ s, ar l (F s).1 s.1 = true := ⟨fun s => (hnext s).choose, fun s => (hnext s).choose_spec⟩
  obtain ⟨F, hF⟩ := hf
  let S : Nat → { a // a < n ∧ a ∉ o } := fun i => Nat.rec ⟨a0, ha0, hao0⟩ (fun _ s => F s) i
  have hS : ∀ i, ar l (S (i + 1)).1 (S i).1 = true := fun i => hF (S i)
  have hwk : ∀ d i, wk n l d (S (i + d)).1 (S i).1 = true := fun d => by
    induction d with
    | zero => exact fun i => wk_zero.2 rfl
    | succ d ih =>
      intro i
      refine wk_succ.2 ⟨(S (i + d)).1, (S (i + d)).2.1, ?_, ih i⟩
      exact hS (i + d)
  have hrep : ∃ i j, i < j ∧ (S i).1 = (S j).1 := by
    rcases Classical.em (∃ i j, i < j ∧ (S i).1 = (S j).1) with h3 | h3
    · exact h3
    · have := inj_le (n := n) (m := n + 1) (fun i => (S i).1) (fun i _ => (S i).2.1) fun i j hij _ e => h3 ⟨i, j, hij, e⟩
      omega
  obtain ⟨i, j, hij, e⟩ := hrep
  refine ⟨(S (i + 1)).1, (S i).1, hS i, ?_⟩
  have h1 := hwk (j - (i + 1)) (i + 1)
  rw [show i + 1 + (j - (i + 1)) = j by omega, ← e] at h1
  exact (rch_iff G (S i).2.1).2 ⟨_, h1⟩
end Go.Proofs.Ytkdfmjhhdfiiiaa.GraP
