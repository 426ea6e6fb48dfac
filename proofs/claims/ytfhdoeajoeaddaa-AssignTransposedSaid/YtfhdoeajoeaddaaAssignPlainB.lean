/-
  What follows for tables that are turned over, grown in a row or a column, or made of a table of permitted places. No word of the program. Condition: none.
-/
import Derived.Test.YtfhdoeajoeaddaaAssignPlain
namespace Go.Proofs.Ytfhdoeajoeaddaa.AsgP
open MchP (rel_le map_nodup PM Mx)
/-! ### A number added to a row or a column -/
structure Gro (c d : Tb) (p : Nat) (b : Int) (col : Bool) : Prop where
  len : d.length = c.length
  at' : p < c.length
  val : ∀ i, i < c.length → ∀ j, j < c.length → ct d i j = ct c i j + if (if col then j else i) = p then b else 0
theorem Gro.cost {c d : Tb} {p : Nat} {b : Int} {col : Bool} (g : Gro c d p b col) {l : List Int} (h : IsA c.length l) : cost d l = cost c l + b := by
  unfold AsgP.cost costK
  rw [g.len]
  rw [su_congr (g := fun i => ct c i (cl l i) + if (if col then cl l i else i) = p then b else 0) fun i hi => g.val i hi _ (h.lt hi), su_add]
  have : su (fun i => if (if col then cl l i else i) = p then b else 0) c.length = b := by
    cases col with
    | false => exact (su_one p b _).trans (if_pos g.at')
    | true => exact ((h.sum fun j => if j = p then b else 0).trans (su_one p b _)).trans (if_pos g.at')
  rw [this]
theorem Gro.best {c d : Tb} {p : Nat} {b : Int} {col : Bool} (g : Gro c d p b col) {k : List Int} {m : Int} (h : Bst c k m) : Bst d k (m + b) := by
  have hk := g.cost h.asg
  refine ⟨g.len ▸ h.asg, by rw [hk, h.eq], fun l hl => ?_, fun l hl e => ?_⟩
  · have hl' : IsA c.length l := g.len ▸ hl
    have := h.le l hl'
    rw [g.cost hl']
    omega
  · have hl' : IsA c.length l := g.len ▸ hl
    rw [g.len]
    refine h.lex l hl' ?_
    rw [g.cost hl'] at e
    omega
/-! ### Rows and columns exchanged -/
structure Tr (c d : Tb) : Prop where
  len : d.length = c.length
  val : ∀ i, i < c.length → ∀ j, j < c.length → ct d i j = ct c j i
theorem Tr.symm {c d : Tb} (t : Tr c d) : Tr d c := ⟨t.len.symm, fun i hi j hj => (t.val j (t.len ▸ hj) i (t.len ▸ hi)).symm⟩
/-- The row of each column. -/
theorem IsA.back {n : Nat} {l : List Int} (h : IsA n l) : ∃ k, IsA n k ∧ ∀ i, i < n → cl k (cl l i) = i := by
  let f : Nat → Nat := fun j => if q : j < n then Classical.choose (h.onto q) else 0
  have hf : ∀ j, j < n → f j < n ∧ cl l (f j) = j := fun j q => by
    have e : f j = Classical.choose (h.onto q) := dif_pos q
    rw [e]
    exact Classical.choose_spec (h.onto q)
  have hg : ∀ j, j < n → ((List.range n).map fun j => (f j : Int)).getD j 0 = (f j : Int) := fun j q => by
    rw [List.getD_eq_getElem?_getD, List.getElem?_map, List.getElem?_range q]
    rfl
  refine ⟨(List.range n).map fun j => (f j : Int), ⟨by rw [List.length_map, List.length_range], fun x hx => ?_, map_nodup List.nodup_range fun a ha b hb e => ?_⟩, fun i hi => ?_⟩
  · obtain ⟨j, hj, rfl⟩ := List.mem_map.1 hx
    have := (hf j (List.mem_range.1 hj)).1
    omega
  · have e' : f a = f b := by omega
    rw [← (hf a (List.mem_range.1 ha)).2, ← (hf b (List.mem_range.1 hb)).2, e']
  · unfold cl at *
    have hc := h.lt hi
    unfold cl at hc
    rw [hg _ hc, Int.toNat_natCast]
    exact h.inj (hf _ hc).1 hi (hf _ hc).2
theorem Tr.cost {c d : Tb} (t : Tr c d) {l : List Int} (h : IsA c.length l) : ∃ k, IsA d.length k ∧ cost d k = cost c l := by
  obtain ⟨k, hk, e⟩ := h.back
  refine ⟨k, t.len ▸ hk, ?_⟩
  unfold AsgP.cost costK
  rw [t.len, ← h.sum fun j => ct d j (cl k j)]
  refine su_congr fun i hi => ?_
  rw [e i hi]
  exact t.val _ (h.lt hi) _ hi
theorem Tr.le {c d : Tb} (t : Tr c d) {k l : List Int} {m n : Int} (h : Bst c k m) (g : Bst d l n) : n ≤ m := by
  obtain ⟨q, hq, e⟩ := t.cost h.asg
  have := g.le q hq
  have := h.eq
  omega
theorem Tr.best {c d : Tb} (t : Tr c d) {k l : List Int} {m n : Int} (h : Bst c k m) (g : Bst d l n) : n = m :=
  Int.le_antisymm (t.le h g) (t.symm.le g h)
/-! ### Permitted places -/
/-- Edges that may be enlarged until each row has one. -/
theorem PM.fill {n : Nat} : ∀ (t : Nat) {E : List (Nat × Nat)}, PM (fun i j => i < n ∧ j < n) E → n - E.length = t → ∃ F, PM (fun i j => i < n ∧ j < n) F ∧ F.length = n ∧ ∀ a ∈ E, a ∈ F
  | 0, E, h, e => by
    have : E.length ≤ (List.range n).length := rel_le (fun a b => a.1 = b) E (List.range n) h.nd (fun a ha => ⟨a.1, List.mem_range.2 (h.ok a ha).1, rfl⟩) fun a ha b hb x q r => h.row a ha b hb (q.trans r.symm)
    rw [List.length_range] at this
    exact ⟨E, h, by omega, fun _ q => q⟩
  | t + 1, E, h, e => by
    have free : ∀ f : Nat × Nat → Nat, ∃ i, i < n ∧ ∀ a ∈ E, f a ≠ i := fun f => by
      refine Classical.byContradiction fun hne => ?_
      have : (List.range n).length ≤ E.length := rel_le (fun i a => f a = i) (List.range n) E List.nodup_range (fun i hi => by
        refine Classical.byContradiction fun hno => hne ⟨i, List.mem_range.1 hi, fun a ha q => hno ⟨a, ha, q⟩⟩) fun a _ b _ x q r => q.symm.trans r
      rw [List.length_range] at this
      omega
    obtain ⟨i, hi, ni⟩ := free Prod.fst
    obtain ⟨j, hj, nj⟩ := free Prod.snd
    have h2 : PM (fun i j => i < n ∧ j < n) ((i, j) :: E) := by
      refine ⟨List.nodup_cons.2 ⟨fun q => ni _ q rfl, h.nd⟩, fun a ha b hb q => ?_, fun a ha b hb q => ?_, fun a ha => ?_⟩
      · rcases List.mem_cons.1 ha with rfl | ha' <;> rcases List.mem_cons.1 hb with rfl | hb'
        · rfl
        · exact absurd q.symm (ni b hb')
        · exact absurd q (ni a ha')
        · exact h.row a ha' b hb' q
      · rcases List.mem_cons.1 ha with rfl | ha' <;> rcases List.mem_cons.1 hb with rfl | hb'
        · rfl
        · exact absurd q.symm (nj b hb')
        · exact absurd q (nj a ha')
        · exact h.col a ha' b hb' q
      · rcases List.mem_cons.1 ha with rfl | ha'
        · exact ⟨hi, hj⟩
        · exact h.ok a ha'
    obtain ⟨F, hF, eF, sF⟩ := PM.fill t h2 (by rw [List.length_cons]; omega)
    exact ⟨F, hF, eF, fun a ha => sF a (List.mem_cons_of_mem _ ha)⟩
/-- An edge for each row is an assignment. -/
theorem PM.asg {n : Nat} {F : List (Nat × Nat)} (h : PM (fun i j => i < n ∧ j < n) F) (e : F.length = n) : ∃ l, IsA n l ∧ ∀ a ∈ F, cl l a.1 = a.2 := by
  have all : ∀ i, i < n → ∃ j, (i, j) ∈ F := fun i hi => by
    refine Classical.byContradiction fun hne => ?_
    have : F.length ≤ ((List.range n).erase i).length := rel_le (fun a b => a.1 = b) F _ h.nd (fun a ha => ⟨a.1, (List.mem_erase_of_ne (by rintro rfl; exact hne ⟨a.2, ha⟩)).2 (List.mem_range.2 (h.ok a ha).1), rfl⟩) fun a ha b hb x q r => h.row a ha b hb (q.trans r.symm)
    rw [List.length_erase_of_mem (List.mem_range.2 hi), List.length_range] at this
    omega
  let f : Nat → Nat := fun i => if q : i < n then Classical.choose (all i q) else 0
  have hf : ∀ i, i < n → (i, f i) ∈ F := fun i q => by
    have e : f i = Classical.choose (all i q) := dif_pos q
    rw [e]
    exact Classical.choose_spec (all i q)
  have hg : ∀ j, j < n → ((List.range n).map fun j => (f j : Int)).getD j 0 = (f j : Int) := fun j q => by
    rw [List.getD_eq_getElem?_getD, List.getElem?_map, List.getElem?_range q]
    rfl
  refine ⟨(List.range n).map fun j => (f j : Int), ⟨by rw [List.length_map, List.length_range], fun x hx => ?_, map_nodup List.nodup_range fun a ha b hb e => ?_⟩, fun a ha => ?_⟩
  · obtain ⟨j, hj, rfl⟩ := List.mem_map.1 hx
    have := (h.ok _ (hf j (List.mem_range.1 hj))).2
    have : f j < n := this
    omega
  · have e' : f a = f b := by omega
    have := h.col _ (hf a (List.mem_range.1 ha)) _ (hf b (List.mem_range.1 hb)) e'
    exact congrArg Prod.fst this
  · have hi := (h.ok a ha).1
    unfold cl
    rw [hg _ hi, Int.toNat_natCast]
    exact congrArg Prod.snd (h.row _ (hf _ hi) a ha rfl)
/-- The table that costs 0 where it is permitted, and else 1. -/
structure Zo (P : Nat → Nat → Prop) (c : Tb) : Prop where
  dom : ∀ i j, P i j → i < c.length ∧ j < c.length
  zero : ∀ i j, P i j → ct c i j = 0
  one : ∀ i, i < c.length → ∀ j, j < c.length → ¬ P i j → ct c i j = 1
/-- How many rows have a permitted place. -/
theorem Zo.split {P : Nat → Nat → Prop} {c : Tb} (z : Zo P c) {l : List Int} (h : IsA c.length l) : ∃ E, PM P E ∧ cost c l = c.length - E.length ∧ ∀ i, i < c.length → P i (cl l i) → (i, cl l i) ∈ E := by
  let p : Nat → Bool := fun i => @decide (P i (cl l i)) (Classical.propDecidable _)
  have hp : ∀ i, p i = true ↔ P i (cl l i) := fun i => @decide_eq_true_iff _ (Classical.propDecidable _)
  have count : ∀ k, k ≤ c.length → costK c l k = k - (((List.range k).filter p).length : Int) := by
    intro k
    induction k with
    | zero => intro _; rfl
    | succ k ih =>
      intro hk
      have e0 : costK c l (k + 1) = costK c l k + ct c k (cl l k) := rfl
      rw [e0, ih (by omega), List.range_succ, List.filter_append, List.length_append]
      by_cases q : P k (cl l k)
      · have : List.filter p [k] = [k] := by rw [List.filter_cons, if_pos ((hp k).2 q)]; rfl
        rw [z.zero _ _ q, this]
        simp only [List.length_cons, List.length_nil]
        omega
      · have : List.filter p [k] = [] := by rw [List.filter_cons, if_neg fun r => q ((hp k).1 r)]; rfl
        rw [z.one k (by omega) _ (h.lt (by omega)) q, this]
        simp only [List.length_nil]
        omega
  refine ⟨((List.range c.length).filter p).map fun i => (i, cl l i), ⟨map_nodup (List.nodup_range.sublist List.filter_sublist) fun a _ b _ e => congrArg Prod.fst e, ?_, ?_, ?_⟩, ?_, fun i hi q => ?_⟩
  · intro a ha b hb e
    obtain ⟨i, hi, rfl⟩ := List.mem_map.1 ha
    obtain ⟨j, hj, rfl⟩ := List.mem_map.1 hb
    have e : i = j := e
    rw [e]
  · intro a ha b hb e
    obtain ⟨i, hi, rfl⟩ := List.mem_map.1 ha
    obtain ⟨j, hj, rfl⟩ := List.mem_map.1 hb
    have e : i = j := h.inj (List.mem_range.1 (List.mem_filter.1 hi).1) (List.mem_range.1 (List.mem_filter.1 hj).1) e
    rw [e]
  · intro a ha
    obtain ⟨i, hi, rfl⟩ := List.mem_map.1 ha
    exact (hp i).1 (List.mem_filter.1 hi).2
  · rw [List.length_map]
    exact count c.length (Nat.le_refl _)
  · exact List.mem_map.2 ⟨i, List.mem_filter.2 ⟨List.mem_range.2 hi, (hp i).2 q⟩, rfl⟩
/-- With costs of 0 and 1 the rows less the least cost are the greatest matching. -/
theorem Zo.best {P : Nat → Nat → Prop} {c : Tb} (z : Zo P c) {k : List Int} {m : Int} {s : Nat} (h : Bst c k m) (g : Mx P s) : m = c.length - s := by
  obtain ⟨E, hE, e1, _⟩ := z.split h.asg
  have h1 := g.2 E hE
  have h2 := h.eq
  obtain ⟨⟨F, hF, eF⟩, _⟩ := g
  have hF2 : PM (fun i j => i < c.length ∧ j < c.length) F := hF.mono fun a ha => z.dom _ _ (hF.ok a ha)
  obtain ⟨G, hG, eG, sG⟩ := PM.fill _ hF2 rfl
  obtain ⟨l, hl, cG⟩ := PM.asg hG eG
  obtain ⟨D, hD, e2, mD⟩ := z.split hl
  have h3 : F.length ≤ D.length := rel_le Eq F D hF.nd (fun a ha => ⟨a, by
    have e := cG a (sG a ha)
    have := mD a.1 (z.dom _ _ (hF.ok a ha)).1 (by rw [e]; exact hF.ok a ha)
    rw [e] at this
    exact this, rfl⟩) fun _ _ _ _ _ q r => q.trans r.symm
  have h4 := h.le l hl
  omega
end Go.Proofs.Ytfhdoeajoeaddaa.AsgP
