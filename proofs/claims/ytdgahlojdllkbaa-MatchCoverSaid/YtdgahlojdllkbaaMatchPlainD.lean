/-
  What is reached from the rows without a column: a cover as great as the matching. No word of the program. Condition: none.
-/
import Derived.Test.YtdgahlojdllkbaaMatchPlainC
namespace Go.Proofs.Ytdgahlojdllkbaa.MchP
theorem set_true {s : List Bool} {c d : Nat} (h : s[d]? = some true) : (s.set c true)[d]? = some true := by
  rw [List.getElem?_set]
  split
  · rename_i e
    subst e
    rw [if_pos (List.getElem?_eq_some_iff.1 h).1]
  · exact h
/-- The visit of row i, from column c on. -/
inductive Vi (l : List (List Bool)) (m : List Int) (W : Nat) : List Bool → List Bool → Nat → Nat → List Bool → List Bool → Prop
  | done {rs cs : List Bool} {i c : Nat} : W ≤ c → Vi l m W rs cs i c rs cs
  | skip {rs cs rs' cs' : List Bool} {i c : Nat} : c < W → (at2 l i c = false ∨ cs[c]? = some true) → Vi l m W rs cs i (c + 1) rs' cs' → Vi l m W rs cs i c rs' cs'
  | go {rs cs rs1 cs1 rs' cs' : List Bool} {i c r : Nat} : c < W → at2 l i c = true → cs[c]? = some false → m[r]? = some (c : Int) → Vi l m W (rs.set r true) (cs.set c true) r 0 rs1 cs1 → Vi l m W rs1 cs1 i (c + 1) rs' cs' → Vi l m W rs cs i c rs' cs'
section
variable {l : List (List Bool)} {m : List Int} {W i c : Nat} {rs cs rs' cs' : List Bool}
theorem Vi.grow (h : Vi l m W rs cs i c rs' cs') : rs'.length = rs.length ∧ cs'.length = cs.length ∧ (∀ r : Nat, rs[r]? = some true → rs'[r]? = some true) ∧ ∀ d : Nat, cs[d]? = some true → cs'[d]? = some true := by
  induction h with
  | done _ => exact ⟨rfl, rfl, fun _ h => h, fun _ h => h⟩
  | skip _ _ _ ih => exact ih
  | go _ _ _ _ _ _ ih1 ih2 =>
    obtain ⟨a1, a2, a3, a4⟩ := ih1
    obtain ⟨b1, b2, b3, b4⟩ := ih2
    rw [List.length_set] at a1 a2
    exact ⟨b1.trans a1, b2.trans a2, fun r h => b3 r (a3 r (set_true h)), fun d h => b4 d (a4 d (set_true h))⟩
theorem Vi.shut (h : Vi l m W rs cs i c rs' cs') (hm : m.length = rs.length) : (∀ d, c ≤ d → d < W → at2 l i d = true → cs'[d]? = some true) ∧
    (∀ d : Nat, cs'[d]? = some true → cs[d]? ≠ some true → ∃ r : Nat, m[r]? = some (d : Int) ∧ rs'[r]? = some true) ∧
    ∀ r : Nat, rs'[r]? = some true → rs[r]? ≠ some true → ∀ d, d < W → at2 l r d = true → cs'[d]? = some true := by
  induction h with
  | done hc => exact ⟨fun d h1 h2 => by omega, fun d h1 h2 => absurd h1 h2, fun r h1 h2 => absurd h1 h2⟩
  | @skip rs cs rs' cs' i c hc h1 hv ih =>
    obtain ⟨a1, a2, a3⟩ := ih hm
    refine ⟨fun d hd hw hp => ?_, a2, a3⟩
    by_cases e : d = c
    · subst e
      rcases h1 with h1 | h1
      · rw [h1] at hp; cases hp
      · exact hv.grow.2.2.2 d h1
    · exact a1 d (by omega) hw hp
  | @go rs cs rs1 cs1 rs' cs' i c r hc h1 h2 h3 hv1 hv2 ih1 ih2 =>
    obtain ⟨a1, a2, a3⟩ := ih1 (by rw [List.length_set]; exact hm)
    have hg1 := hv1.grow
    have hg2 := hv2.grow
    rw [List.length_set] at hg1
    obtain ⟨b1, b2, b3⟩ := ih2 (by rw [hg1.1]; exact hm)
    have hrl : r < rs.length := by rw [← hm]; exact (List.getElem?_eq_some_iff.1 h3).1
    have hr1 : rs1[r]? = some true := hg1.2.2.1 r (by rw [List.getElem?_set, if_pos rfl, if_pos hrl])
    have hcl : (cs.set c true)[c]? = some true := by rw [List.getElem?_set, if_pos rfl, if_pos (List.getElem?_eq_some_iff.1 h2).1]
    refine ⟨fun d hd hw hp => ?_, fun d hd hn => ?_, fun q hq hn d hw hp => ?_⟩
    · by_cases e : d = c
      · subst e
        exact hg2.2.2.2 d (hg1.2.2.2 d hcl)
      · exact b1 d (by omega) hw hp
    · by_cases e1 : cs1[d]? = some true
      · by_cases e : d = c
        · subst e
          exact ⟨r, h3, hg2.2.2.1 r hr1⟩
        · obtain ⟨q, k1, k2⟩ := a2 d e1 (by rw [List.getElem?_set, if_neg (fun e2 => e e2.symm)]; exact hn)
          exact ⟨q, k1, hg2.2.2.1 q k2⟩
      · exact b2 d hd e1
    · by_cases e1 : rs1[q]? = some true
      · by_cases e : q = r
        · subst e
          exact hg2.2.2.2 d (a1 d (Nat.zero_le _) hw hp)
        · exact hg2.2.2.2 d (a3 q e1 (by rw [List.getElem?_set, if_neg (fun e2 => e e2.symm)]; exact hn) d hw hp)
      · exact b3 q hq e1 d hw hp
end
/-- What is reached from the first j rows. -/
structure Rc (l : List (List Bool)) (m : List Int) (R W j : Nat) (rs cs : List Bool) : Prop where
  lr : rs.length = R
  lc : cs.length = W
  from_ : ∀ i : Nat, i < j → m[i]? = some (-1) → rs[i]? = some true
  shut : ∀ r : Nat, rs[r]? = some true → ∀ d, d < W → at2 l r d = true → cs[d]? = some true
  back : ∀ d : Nat, cs[d]? = some true → ∃ r : Nat, m[r]? = some (d : Int) ∧ rs[r]? = some true
theorem rc_zero (l : List (List Bool)) (m : List Int) (R W : Nat) : Rc l m R W 0 (List.replicate R false) (List.replicate W false) := by
  have hn : ∀ n d : Nat, (List.replicate n false)[d]? ≠ some true := fun n d e => by
    rw [List.getElem?_replicate] at e
    split at e
    · injection e with e; cases e
    · cases e
  exact ⟨List.length_replicate, List.length_replicate, fun i h => absurd h (Nat.not_lt_zero _), fun r h => absurd h (hn _ _), fun d h => absurd h (hn _ _)⟩
theorem Rc.skip {l : List (List Bool)} {m : List Int} {R W j : Nat} {rs cs : List Bool} (h : Rc l m R W j rs cs) (hj : m[j]? ≠ some (-1)) : Rc l m R W (j + 1) rs cs :=
  ⟨h.lr, h.lc, fun i hi hx => by
    by_cases e : i = j
    · rw [e] at hx; exact absurd hx hj
    · exact h.from_ i (by omega) hx, h.shut, h.back⟩
theorem Rc.more {l : List (List Bool)} {m : List Int} {R W j : Nat} {rs cs rs' cs' : List Bool} (h : Rc l m R W j rs cs) (hm : m.length = R) (hj : j < R) (v : Vi l m W (rs.set j true) cs j 0 rs' cs') : Rc l m R W (j + 1) rs' cs' := by
  have g := v.grow
  rw [List.length_set] at g
  obtain ⟨a1, a2, a3⟩ := v.shut (by rw [List.length_set, h.lr]; exact hm)
  refine ⟨g.1.trans h.lr, g.2.1.trans h.lc, fun i hi hx => ?_, fun r hr d hd hp => ?_, fun d hd => ?_⟩
  · by_cases e : i = j
    · subst e
      exact g.2.2.1 i (by rw [List.getElem?_set, if_pos rfl, if_pos (by rw [h.lr]; exact hj)])
    · exact g.2.2.1 i (set_true (h.from_ i (by omega) hx))
  · by_cases e : (rs.set j true)[r]? = some true
    · by_cases e2 : r = j
      · subst e2
        exact a1 d (Nat.zero_le _) hd hp
      · rw [List.getElem?_set, if_neg (fun q => e2 q.symm)] at e
        exact g.2.2.2 d (h.shut r e d hd hp)
    · exact a3 r hr e d hd hp
  · by_cases e : cs[d]? = some true
    · obtain ⟨r, k1, k2⟩ := h.back d e
      exact ⟨r, k1, g.2.2.1 r (set_true k2)⟩
    · exact a2 d hd e
/-- Where a value is in a list, before k. -/
def plc (s : List Bool) (v : Bool) (k : Nat) : List Nat := (List.range k).filter fun i => s[i]? == some v
theorem plc_mem {s : List Bool} {v : Bool} {k i : Nat} : i ∈ plc s v k ↔ i < k ∧ s[i]? = some v := by
  unfold plc
  rw [List.mem_filter, List.mem_range, beq_iff_eq]
theorem plc_zero (s : List Bool) (v : Bool) : plc s v 0 = [] := rfl
theorem plc_succ (s : List Bool) (v : Bool) (k : Nat) : plc s v (k + 1) = plc s v k ++ if s[k]? = some v then [k] else [] := by
  unfold plc
  rw [List.range_succ, List.filter_append]
  congr 1
  by_cases h : s[k]? = some v
  · rw [if_pos h, List.filter_cons_of_pos (by rw [h]; simp), List.filter_nil]
  · rw [if_neg h, List.filter_cons_of_neg (by simpa using h), List.filter_nil]
theorem plc_len (s : List Bool) (v : Bool) (k : Nat) : (plc s v k).length ≤ k := by
  have := List.length_filter_le (fun i => s[i]? == some v) (List.range k)
  rw [List.length_range] at this
  exact this
theorem plc_once (s : List Bool) (v : Bool) (k : Nat) : (plc s v k).Nodup := List.nodup_range.sublist List.filter_sublist
theorem plc_asc (s : List Bool) (v : Bool) (k : Nat) : (plc s v k).Pairwise (· < ·) := List.pairwise_lt_range.sublist List.filter_sublist
/-- A cover, ascending, as great as n. -/
structure Cov (l : List (List Bool)) (n : Nat) (A B : List Nat) : Prop where
  ra : A.Pairwise (· < ·)
  rb : B.Pairwise (· < ·)
  la : ∀ x, x ∈ A → x < l.length
  lb : ∀ x, x ∈ B → x < wd l
  len : A.length + B.length = n
  cov : ∀ i c, at2 l i c = true → i ∈ A ∨ c ∈ B
theorem Rc.cov {l : List (List Bool)} {m : List Int} {R W : Nat} {rs cs : List Bool} (h : Rc l m R W R rs cs) (hs : Sq l) (hp : IsP l m) (hm : m.length = R) (hR : l.length = R) (hW : wd l = W) : Cov l (sz m) (plc rs false R) (plc cs true W) := by
  subst hR
  subst hW
  refine ⟨plc_asc _ _ _, plc_asc _ _ _, fun x hx => (plc_mem.1 hx).1, fun x hx => (plc_mem.1 hx).1, ?_, fun i c hc => ?_⟩
  · have e1 : ((edg m).filter fun e => rs[e.1]? == some true).length = (plc cs true (wd l)).length := by
      refine Nat.le_antisymm (rel_le (fun e c => e.2 = c) _ _ (hp.pm.filter _).nd (fun e he => ?_) fun a ha b hb c q r => (hp.pm.filter _).col a ha b hb (q.trans r.symm)) (rel_le (fun c e => e.2 = c) _ _ (plc_once _ _ _) (fun c hc => ?_) fun _ _ _ _ _ q r => by rw [← q, ← r])
      · obtain ⟨i, c⟩ := e
        obtain ⟨h1, h2⟩ := List.mem_filter.1 he
        have hat := hp.pm.ok _ h1
        have hcw := at2_col hs hat
        exact ⟨c, plc_mem.2 ⟨hcw, h.shut i (by simpa using h2) c hcw hat⟩, rfl⟩
      · obtain ⟨_, h2⟩ := plc_mem.1 hc
        obtain ⟨r, k1, k2⟩ := h.back c h2
        exact ⟨(r, c), List.mem_filter.2 ⟨hp.mem.2 k1, by simpa using k2⟩, rfl⟩
    have e2 : ((edg m).filter fun e => !(rs[e.1]? == some true)).length = (plc rs false l.length).length := by
      refine Nat.le_antisymm (rel_le (fun e c => e.1 = c) _ _ (hp.pm.filter _).nd (fun e he => ?_) fun a ha b hb c q r => (hp.pm.filter _).row a ha b hb (q.trans r.symm)) (rel_le (fun c e => e.1 = c) _ _ (plc_once _ _ _) (fun i hi => ?_) fun _ _ _ _ _ q r => by rw [← q, ← r])
      · obtain ⟨i, c⟩ := e
        obtain ⟨h1, h2⟩ := List.mem_filter.1 he
        have hil := at2_row (hp.pm.ok _ h1)
        refine ⟨i, plc_mem.2 ⟨hil, ?_⟩, rfl⟩
        have hx : rs[i]? = some (rs[i]'(by rw [h.lr]; exact hil)) := List.getElem?_eq_getElem _
        simp only [hx] at h2 ⊢
        simpa using h2
      · obtain ⟨h1, h2⟩ := plc_mem.1 hi
        have hg : m[i]? = some (m[i]'(by omega)) := List.getElem?_eq_getElem _
        rcases hp.ok i _ hg with e | ⟨c, e, _⟩
        · rw [e] at hg
          rw [h.from_ i h1 hg] at h2
          injection h2 with h2
          cases h2
        · rw [e] at hg
          exact ⟨(i, c), List.mem_filter.2 ⟨hp.mem.2 hg, by rw [h2]; rfl⟩, rfl⟩
    have e3 := List.length_eq_countP_add_countP (l := edg m) (fun e => rs[e.1]? == some true)
    rw [List.countP_eq_length_filter, List.countP_eq_length_filter] at e3
    have e4 : (edg m).filter (fun e => decide ¬(rs[e.1]? == some true) = true) = (edg m).filter fun e => !(rs[e.1]? == some true) := List.filter_congr fun e _ => by cases rs[e.1]? == some true <;> rfl
    rw [e4, e1, e2, edg_len] at e3
    omega
  · have hi := at2_row hc
    have hcw := at2_col hs hc
    have hx : rs[i]? = some (rs[i]'(by rw [h.lr]; exact hi)) := List.getElem?_eq_getElem _
    cases e : rs[i]'(by rw [h.lr]; exact hi) with
    | false => rw [e] at hx; exact .inl (plc_mem.2 ⟨hi, hx⟩)
    | true => rw [e] at hx; exact .inr (plc_mem.2 ⟨hcw, h.shut i hx c hcw hc⟩)
end Go.Proofs.Ytdgahlojdllkbaa.MchP
