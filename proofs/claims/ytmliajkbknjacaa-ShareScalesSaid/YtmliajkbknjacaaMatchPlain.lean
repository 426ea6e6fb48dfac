/-
  The chapter's matchings as plain mathematics: edges without a common row or column, greatest ones, and what proves one to be greatest. No word of the program. Condition: none.
-/
import Derived.Test.YtmliajkbknjacaaPairs
namespace Go.Proofs.Ytmliajkbknjacaa.MchP
theorem rel_le {α β : Type} [DecidableEq β] (R : α → β → Prop) : ∀ (A : List α) (B : List β), A.Nodup → (∀ a ∈ A, ∃ b ∈ B, R a b) → (∀ a ∈ A, ∀ a' ∈ A, ∀ b, R a b → R a' b → a = a') → A.length ≤ B.length
  | [], _, _, _, _ => Nat.zero_le _
  | a :: A, B, hn, hR, hI => by
    obtain ⟨b, hb, hab⟩ := hR a (List.mem_cons_self ..)
    have h1 := rel_le R A (B.erase b) (List.nodup_cons.1 hn).2 (fun a' ha' => by
      obtain ⟨b', hb', hr⟩ := hR a' (List.mem_cons_of_mem _ ha')
      refine ⟨b', ?_, hr⟩
      by_cases e : b' = b
      · subst e
        have := hI a (List.mem_cons_self ..) a' (List.mem_cons_of_mem _ ha') b' hab hr
        subst this
        exact absurd ha' (List.nodup_cons.1 hn).1
      · exact (List.mem_erase_of_ne e).2 hb') (fun x hx y hy => hI x (List.mem_cons_of_mem _ hx) y (List.mem_cons_of_mem _ hy))
    rw [List.length_erase_of_mem hb] at h1
    have := List.length_pos_of_mem hb
    rw [List.length_cons]
    omega
theorem same_len {α : Type} [DecidableEq α] {A B : List α} (ha : A.Nodup) (hb : B.Nodup) (h : ∀ x, x ∈ A ↔ x ∈ B) : A.length = B.length :=
  Nat.le_antisymm (rel_le Eq A B ha (fun a q => ⟨a, (h a).1 q, rfl⟩) (fun _ _ _ _ _ q r => q.trans r.symm)) (rel_le Eq B A hb (fun a q => ⟨a, (h a).2 q, rfl⟩) (fun _ _ _ _ _ q r => q.trans r.symm))
theorem map_nodup {α β : Type} {f : α → β} {A : List α} (ha : A.Nodup) (hf : ∀ a ∈ A, ∀ b ∈ A, f a = f b → a = b) : (A.map f).Nodup := by
  induction A with
  | nil => exact List.nodup_nil
  | cons a A ih =>
    rw [List.map_cons, List.nodup_cons]
    refine ⟨fun h => ?_, ih (List.nodup_cons.1 ha).2 fun x hx y hy => hf x (List.mem_cons_of_mem _ hx) y (List.mem_cons_of_mem _ hy)⟩
    obtain ⟨b, hb, e⟩ := List.mem_map.1 h
    have := hf b (List.mem_cons_of_mem _ hb) a (List.mem_cons_self ..) e
    subst this
    exact (List.nodup_cons.1 ha).1 hb
/-- Edges that share no row and no column, all of them allowed. -/
structure PM (P : Nat → Nat → Prop) (E : List (Nat × Nat)) : Prop where
  nd : E.Nodup
  row : ∀ a ∈ E, ∀ b ∈ E, a.1 = b.1 → a = b
  col : ∀ a ∈ E, ∀ b ∈ E, a.2 = b.2 → a = b
  ok : ∀ a ∈ E, P a.1 a.2
theorem pm_nil (P : Nat → Nat → Prop) : PM P [] := ⟨List.nodup_nil, fun _ h => absurd h List.not_mem_nil, fun _ h => absurd h List.not_mem_nil, fun _ h => absurd h List.not_mem_nil⟩
theorem PM.mono {P Q : Nat → Nat → Prop} {E : List (Nat × Nat)} (h : PM P E) (hq : ∀ a ∈ E, Q a.1 a.2) : PM Q E := ⟨h.nd, h.row, h.col, hq⟩
theorem PM.filter {P : Nat → Nat → Prop} {E : List (Nat × Nat)} (h : PM P E) (f : Nat × Nat → Bool) : PM P (E.filter f) :=
  ⟨h.nd.sublist List.filter_sublist, fun a ha b hb => h.row a (List.mem_filter.1 ha).1 b (List.mem_filter.1 hb).1, fun a ha b hb => h.col a (List.mem_filter.1 ha).1 b (List.mem_filter.1 hb).1, fun a ha => h.ok a (List.mem_filter.1 ha).1⟩
/-- n is the greatest number of such edges. -/
def Mx (P : Nat → Nat → Prop) (n : Nat) : Prop := (∃ E, PM P E ∧ E.length = n) ∧ ∀ E, PM P E → E.length ≤ n
theorem Mx.uniq {P : Nat → Nat → Prop} {n m : Nat} (h : Mx P n) (k : Mx P m) : n = m := by
  obtain ⟨⟨E, hE, rfl⟩, h2⟩ := h
  obtain ⟨⟨F, hF, rfl⟩, k2⟩ := k
  exact Nat.le_antisymm (k2 E hE) (h2 F hF)
theorem Mx.congr {P Q : Nat → Nat → Prop} {n : Nat} (h : Mx P n) (e : ∀ i c, P i c ↔ Q i c) : Mx Q n := by
  obtain rfl : P = Q := funext fun i => funext fun c => propext (e i c)
  exact h
/-- What proves that edges are as many as possible. -/
theorem cert_le {P : Nat → Nat → Prop} {E E' : List (Nat × Nat)} (V S : Nat → Prop) (h' : PM P E') (ha : ∀ i c, V i → P i c → S c) (hb : ∀ c, S c → ∃ r, V r ∧ (r, c) ∈ E) (hc : ∀ i c, P i c → ¬ V i → ∃ c', (i, c') ∈ E) : E'.length ≤ E.length := by
  refine rel_le (fun a b => (¬ V a.1 ∧ b.1 = a.1) ∨ (V a.1 ∧ b.2 = a.2 ∧ V b.1)) E' E h'.nd ?_ ?_
  · intro a ha'
    by_cases hv : V a.1
    · obtain ⟨r, hr, he⟩ := hb a.2 (ha a.1 a.2 hv (h'.ok a ha'))
      exact ⟨_, he, .inr ⟨hv, rfl, hr⟩⟩
    · obtain ⟨c', he⟩ := hc a.1 a.2 (h'.ok a ha') hv
      exact ⟨_, he, .inl ⟨hv, rfl⟩⟩
  · rintro a h1 a' h2 b (⟨v1, e1⟩ | ⟨v1, e1, w1⟩) (⟨v2, e2⟩ | ⟨v2, e2, w2⟩)
    · exact h'.row a h1 a' h2 (by rw [← e1, ← e2])
    · rw [e1] at w2; exact absurd w2 v1
    · rw [e2] at w1; exact absurd w1 v2
    · exact h'.col a h1 a' h2 (by rw [← e1, ← e2])
/-! ### Rows and columns exchanged, one edge more -/
def swp (E : List (Nat × Nat)) : List (Nat × Nat) := E.map fun e => (e.2, e.1)
theorem mem_swp {E : List (Nat × Nat)} {i c : Nat} : (i, c) ∈ swp E ↔ (c, i) ∈ E := by
  unfold swp
  rw [List.mem_map]
  constructor
  · rintro ⟨⟨a, b⟩, h, e⟩
    injection e with e1 e2
    rw [← e1, ← e2]
    exact h
  · exact fun h => ⟨_, h, rfl⟩
theorem PM.swap {P : Nat → Nat → Prop} {E : List (Nat × Nat)} (h : PM P E) : PM (fun c i => P i c) (swp E) := by
  refine ⟨map_nodup h.nd fun a _ b _ e => ?_, ?_, ?_, ?_⟩
  · injection e with e1 e2
    exact Prod.ext e2 e1
  · rintro ⟨a1, a2⟩ ha ⟨b1, b2⟩ hb e
    have := h.col _ (mem_swp.1 ha) _ (mem_swp.1 hb) e
    injection this with e1 e2
    exact Prod.ext e2 e1
  · rintro ⟨a1, a2⟩ ha ⟨b1, b2⟩ hb e
    have := h.row _ (mem_swp.1 ha) _ (mem_swp.1 hb) e
    injection this with e1 e2
    exact Prod.ext e2 e1
  · rintro ⟨a1, a2⟩ ha
    exact h.ok _ (mem_swp.1 ha)
theorem swp_len (E : List (Nat × Nat)) : (swp E).length = E.length := List.length_map ..
theorem Mx.swap {P : Nat → Nat → Prop} {n : Nat} (h : Mx P n) : Mx (fun c i => P i c) n := by
  obtain ⟨⟨E, hE, rfl⟩, h2⟩ := h
  refine ⟨⟨swp E, hE.swap, swp_len E⟩, fun F hF => ?_⟩
  rw [← swp_len F]
  exact h2 _ hF.swap
theorem Mx.one {P : Nat → Nat → Prop} {n k i0 c0 : Nat} (h : Mx P n) (h' : Mx (fun i c => P i c ∨ i = i0 ∧ c = c0) k) : k = n ∨ k = n + 1 := by
  obtain ⟨⟨E, hE, e1⟩, h2⟩ := h
  obtain ⟨⟨F, hF, e2⟩, k2⟩ := h'
  have hge := k2 E (hE.mono fun a ha => .inl (hE.ok a ha))
  have h3 := h2 (F.filter fun e => !(e == (i0, c0))) ⟨hF.nd.sublist List.filter_sublist, fun a ha b hb => hF.row a (List.mem_filter.1 ha).1 b (List.mem_filter.1 hb).1, fun a ha b hb => hF.col a (List.mem_filter.1 ha).1 b (List.mem_filter.1 hb).1, fun a ha => by
    obtain ⟨q1, q2⟩ := List.mem_filter.1 ha
    rcases hF.ok a q1 with q | ⟨q3, q4⟩
    · exact q
    · have e : a = (i0, c0) := Prod.ext q3 q4
      rw [e] at q2
      simp at q2⟩
  have h4 : F.length ≤ (F.filter fun e => !(e == (i0, c0))).length + 1 := by
    have := rel_le Eq F ((i0, c0) :: F.filter fun e => !(e == (i0, c0))) hF.nd (fun a ha => ⟨a, by
      by_cases e : a = (i0, c0)
      · rw [e]; exact List.mem_cons_self ..
      · exact List.mem_cons_of_mem _ (List.mem_filter.2 ⟨ha, by simpa using e⟩), rfl⟩) (fun _ _ _ _ _ q r => q.trans r.symm)
    exact this
  omega
/-! ### Lists of columns -/
def at2 (l : List (List Bool)) (i c : Nat) : Bool := (l.getD i []).getD c false
def wd (l : List (List Bool)) : Nat := (l.headD []).length
def Sq (l : List (List Bool)) : Prop := ∀ r ∈ l, r.length = wd l
theorem at2_of {l : List (List Bool)} {i c : Nat} {r : List Bool} {b : Bool} (h : l[i]? = some r) (h2 : r[c]? = some b) : at2 l i c = b := by
  unfold at2
  rw [List.getD_eq_getElem?_getD, List.getD_eq_getElem?_getD, h, Option.getD_some, h2, Option.getD_some]
theorem at2_lt {l : List (List Bool)} {i c : Nat} (h : at2 l i c = true) : ∃ r, l[i]? = some r ∧ r[c]? = some true := by
  unfold at2 at h
  rw [List.getD_eq_getElem?_getD, List.getD_eq_getElem?_getD] at h
  cases e : l[i]? with
  | none => rw [e] at h; simp at h
  | some r =>
    rw [e, Option.getD_some] at h
    cases e2 : r[c]? with
    | none => rw [e2] at h; simp at h
    | some b =>
      rw [e2, Option.getD_some] at h
      exact ⟨r, rfl, by rw [e2, h]⟩
theorem at2_row {l : List (List Bool)} {i c : Nat} (h : at2 l i c = true) : i < l.length := by
  obtain ⟨r, h1, _⟩ := at2_lt h
  exact (List.getElem?_eq_some_iff.1 h1).1
theorem at2_col {l : List (List Bool)} {i c : Nat} (hs : Sq l) (h : at2 l i c = true) : c < wd l := by
  obtain ⟨r, h1, h2⟩ := at2_lt h
  rw [← hs r (List.mem_of_getElem? h1)]
  exact (List.getElem?_eq_some_iff.1 h2).1
def Pl (l : List (List Bool)) (i c : Nat) : Prop := at2 l i c = true
def sz (m : List Int) : Nat := m.countP (· != -1)
def edg (m : List Int) : List (Nat × Nat) := (m.zipIdx.filter fun p => p.1 != -1).map fun p => (p.2, p.1.toNat)
theorem edg_len (m : List Int) : (edg m).length = sz m := by
  unfold edg sz
  rw [List.length_map, ← List.countP_eq_length_filter]
  have h : m.zipIdx.map Prod.fst = m := by simp
  conv => rhs; rw [← h]
  rw [List.countP_map]
  rfl
theorem mem_edg {m : List Int} {i c : Nat} : (i, c) ∈ edg m ↔ ∃ x, m[i]? = some x ∧ x ≠ -1 ∧ x.toNat = c := by
  unfold edg
  rw [List.mem_map]
  constructor
  · rintro ⟨⟨x, j⟩, h, e⟩
    injection e with e1 e2
    obtain ⟨h1, h2⟩ := List.mem_filter.1 h
    rw [List.mem_zipIdx_iff_getElem?] at h1
    subst e1
    exact ⟨x, h1, bne_iff_ne.1 h2, e2⟩
  · rintro ⟨x, h1, h2, h3⟩
    exact ⟨(x, i), List.mem_filter.2 ⟨List.mem_zipIdx_iff_getElem?.2 h1, bne_iff_ne.2 h2⟩, by rw [h3]⟩
theorem edg_nodup (m : List Int) : (edg m).Nodup := by
  have h1 : (m.zipIdx.map Prod.snd).Nodup := by rw [List.zipIdx_map_snd]; exact List.nodup_range'
  have h2 : ((edg m).map Prod.fst).Nodup := by
    unfold edg
    rw [List.map_map]
    exact h1.sublist (List.filter_sublist.map _)
  exact List.Pairwise.of_map Prod.fst (fun a b h e => h (by rw [e])) h2
/-- A list of columns, each permitted, none twice. -/
structure IsP (l : List (List Bool)) (p : List Int) : Prop where
  ok : ∀ (i : Nat) x, p[i]? = some x → x = -1 ∨ ∃ c : Nat, x = (c : Int) ∧ at2 l i c = true
  one : ∀ (i j c : Nat), p[i]? = some (c : Int) → p[j]? = some (c : Int) → i = j
theorem IsP.mem {l : List (List Bool)} {p : List Int} (h : IsP l p) {i c : Nat} : (i, c) ∈ edg p ↔ p[i]? = some (c : Int) := by
  rw [mem_edg]
  constructor
  · rintro ⟨x, h1, h2, rfl⟩
    rcases h.ok i x h1 with e | ⟨c, rfl, _⟩
    · exact absurd e h2
    · exact h1
  · exact fun h1 => ⟨_, h1, by omega, rfl⟩
theorem IsP.pm {l : List (List Bool)} {p : List Int} (h : IsP l p) : PM (Pl l) (edg p) := by
  refine ⟨edg_nodup p, ?_, ?_, ?_⟩
  · rintro ⟨i, c⟩ ha ⟨j, d⟩ hb rfl
    rw [h.mem] at ha hb
    simp only at ha hb
    rw [ha] at hb
    injection hb with hb
    exact Prod.ext rfl (by simp only; omega)
  · rintro ⟨i, c⟩ ha ⟨j, d⟩ hb rfl
    rw [h.mem] at ha hb
    exact Prod.ext (h.one i j c ha hb) rfl
  · rintro ⟨i, c⟩ ha
    rw [h.mem] at ha
    rcases h.ok i _ ha with e | ⟨d, e, h2⟩
    · omega
    · obtain rfl : c = d := by omega
      exact h2
theorem isP_nil (l : List (List Bool)) : IsP l [] := ⟨fun i x h => by simp at h, fun i j c h => by simp at h⟩
theorem IsP.take {l : List (List Bool)} {p : List Int} (h : IsP l p) (k : Nat) : IsP l (p.take k) := by
  refine ⟨fun i x hx => ?_, fun i j c hi hj => ?_⟩
  · rw [List.getElem?_take] at hx
    split at hx
    · exact h.ok i x hx
    · cases hx
  · rw [List.getElem?_take] at hi hj
    split at hi
    · split at hj
      · exact h.one i j c hi hj
      · cases hj
    · cases hi
theorem IsP.snoc {l : List (List Bool)} {p : List Int} (h : IsP l p) {c : Nat} (h1 : at2 l p.length c = true) (h2 : (c : Int) ∉ p) : IsP l (p ++ [(c : Int)]) := by
  refine ⟨fun i x hx => ?_, fun i j d hi hj => ?_⟩
  · rcases Nat.lt_trichotomy i p.length with e | e | e
    · rw [List.getElem?_append_left e] at hx
      exact h.ok i x hx
    · subst e
      rw [List.getElem?_concat_length] at hx
      injection hx with hx
      exact .inr ⟨c, hx.symm, h1⟩
    · rw [List.getElem?_eq_none (by rw [List.length_append]; show p.length + 1 ≤ i; omega)] at hx
      cases hx
  · have key : ∀ i, (p ++ [(c : Int)])[i]? = some (d : Int) → (i < p.length ∧ p[i]? = some (d : Int)) ∨ (i = p.length ∧ d = c) := fun i hx => by
      rcases Nat.lt_trichotomy i p.length with e | e | e
      · rw [List.getElem?_append_left e] at hx
        exact .inl ⟨e, hx⟩
      · subst e
        rw [List.getElem?_concat_length] at hx
        injection hx with hx
        exact .inr ⟨rfl, by omega⟩
      · rw [List.getElem?_eq_none (by rw [List.length_append]; show p.length + 1 ≤ i; omega)] at hx
        cases hx
    rcases key i hi with ⟨_, a⟩ | ⟨a, rfl⟩
    · rcases key j hj with ⟨_, b⟩ | ⟨b, rfl⟩
      · exact h.one i j d a b
      · exact absurd (List.mem_of_getElem? a) h2
    · rcases key j hj with ⟨_, b⟩ | ⟨b, _⟩
      · exact absurd (List.mem_of_getElem? b) h2
      · rw [a, b]
theorem IsP.snoc' {l : List (List Bool)} {p : List Int} (h : IsP l p) : IsP l (p ++ [-1]) := by
  refine ⟨fun i x hx => ?_, fun i j d hi hj => ?_⟩
  · rcases Nat.lt_trichotomy i p.length with e | e | e
    · rw [List.getElem?_append_left e] at hx
      exact h.ok i x hx
    · subst e
      rw [List.getElem?_concat_length] at hx
      injection hx with hx
      exact .inl hx.symm
    · rw [List.getElem?_eq_none (by rw [List.length_append]; show p.length + 1 ≤ i; omega)] at hx
      cases hx
  · have key : ∀ i, (p ++ [(-1 : Int)])[i]? = some (d : Int) → p[i]? = some (d : Int) := fun i hx => by
      rcases Nat.lt_trichotomy i p.length with e | e | e
      · rw [List.getElem?_append_left e] at hx
        exact hx
      · subst e
        rw [List.getElem?_concat_length] at hx
        injection hx with hx
        omega
      · rw [List.getElem?_eq_none (by rw [List.length_append]; show p.length + 1 ≤ i; omega)] at hx
        cases hx
    exact h.one i j d (key i hi) (key j hj)
/-! ### Beginnings -/
/-- The edges agree with the first columns. -/
def Agr (E : List (Nat × Nat)) (p : List Int) : Prop := ∀ i c : Nat, i < p.length → ((i, c) ∈ E ↔ p[i]? = some (c : Int))
/-- What is left behind a beginning. -/
def Rst (l : List (List Bool)) (p : List Int) (i c : Nat) : Prop := p.length ≤ i ∧ at2 l i c = true ∧ (c : Int) ∉ p
theorem join {l : List (List Bool)} {p : List Int} {E : List (Nat × Nat)} (hp : IsP l p) (h : PM (Rst l p) E) : PM (Pl l) (edg p ++ E) ∧ Agr (edg p ++ E) p := by
  have hlt : ∀ {i c}, (i, c) ∈ edg p → i < p.length := fun q => (List.getElem?_eq_some_iff.1 (hp.mem.1 q)).1
  have hge : ∀ {i c}, (i, c) ∈ E → p.length ≤ i := fun q => (h.ok _ q).1
  constructor
  · refine ⟨List.nodup_append.2 ⟨hp.pm.nd, h.nd, fun a ha b hb e => ?_⟩, ?_, ?_, ?_⟩
    · subst e
      obtain ⟨i, c⟩ := a
      have h1 := hlt ha
      have h2 := hge hb
      omega
    · rintro ⟨i, c⟩ ha ⟨j, d⟩ hb e
      simp only at e
      subst e
      rcases List.mem_append.1 ha with ha | ha <;> rcases List.mem_append.1 hb with hb | hb
      · exact hp.pm.row _ ha _ hb rfl
      · have h1 := hlt ha; have h2 := hge hb; omega
      · have h1 := hlt hb; have h2 := hge ha; omega
      · exact h.row _ ha _ hb rfl
    · rintro ⟨i, c⟩ ha ⟨j, d⟩ hb e
      simp only at e
      subst e
      rcases List.mem_append.1 ha with ha | ha <;> rcases List.mem_append.1 hb with hb | hb
      · exact hp.pm.col _ ha _ hb rfl
      · exact absurd (List.mem_of_getElem? (hp.mem.1 ha)) (h.ok _ hb).2.2
      · exact absurd (List.mem_of_getElem? (hp.mem.1 hb)) (h.ok _ ha).2.2
      · exact h.col _ ha _ hb rfl
    · rintro ⟨i, c⟩ ha
      rcases List.mem_append.1 ha with ha | ha
      · exact hp.pm.ok _ ha
      · exact (h.ok _ ha).2.1
  · intro i c hi
    rw [List.mem_append, hp.mem]
    constructor
    · rintro (q | q)
      · exact q
      · have h2 := hge q; omega
    · exact .inl
theorem split {l : List (List Bool)} {p : List Int} {E : List (Nat × Nat)} (hp : IsP l p) (h : PM (Pl l) E) (ha : Agr E p) : ∃ F, PM (Rst l p) F ∧ E.length = sz p + F.length ∧ ∀ i c, (i, c) ∈ F ↔ (i, c) ∈ E ∧ p.length ≤ i := by
  refine ⟨E.filter fun e => decide (p.length ≤ e.1), (h.filter _).mono fun a q => ?_, ?_, fun i c => ?_⟩
  · obtain ⟨i, c⟩ := a
    obtain ⟨q1, q2⟩ := List.mem_filter.1 q
    have q2 := of_decide_eq_true q2
    refine ⟨q2, h.ok _ q1, fun q3 => ?_⟩
    obtain ⟨j, hj, e⟩ := List.mem_iff_getElem.1 q3
    have q4 := (ha j c hj).2 (by rw [List.getElem?_eq_getElem hj, e])
    have := h.col _ q1 _ q4 rfl
    injection this with e1 e2
    simp only at q2
    omega
  · have h1 : (E.filter fun e => !decide (p.length ≤ e.1)).length = (edg p).length := same_len (h.filter _).nd hp.pm.nd fun e => by
      obtain ⟨i, c⟩ := e
      rw [List.mem_filter, hp.mem]
      constructor
      · rintro ⟨q1, q2⟩
        exact (ha i c (by simpa using q2)).1 q1
      · intro q
        have hi := (List.getElem?_eq_some_iff.1 q).1
        exact ⟨(ha i c hi).2 q, by simpa using hi⟩
    rw [← edg_len p, ← h1]
    have := List.length_eq_countP_add_countP (l := E) (fun e => decide (p.length ≤ e.1))
    rw [List.countP_eq_length_filter, List.countP_eq_length_filter] at this
    simp only [Bool.not_eq_true, Bool.decide_eq_false] at this
    omega
  · rw [List.mem_filter]
    simp
/-- A beginning that some greatest matching has. -/
def Ext (l : List (List Bool)) (p : List Int) : Prop := ∃ E, PM (Pl l) E ∧ (∀ E', PM (Pl l) E' → E'.length ≤ E.length) ∧ Agr E p
theorem ext_iff {l : List (List Bool)} {p : List Int} {n k : Nat} (hp : IsP l p) (hn : Mx (Pl l) n) (hr : Mx (Rst l p) k) : Ext l p ↔ sz p + k = n := by
  constructor
  · rintro ⟨E, h1, h2, h3⟩
    obtain ⟨F, f1, f2, _⟩ := split hp h1 h3
    obtain ⟨⟨E0, e1, e2⟩, hmax⟩ := hn
    obtain ⟨⟨F0, g1, g2⟩, gmax⟩ := hr
    have a1 := h2 E0 e1
    have a2 := hmax E h1
    have a3 := gmax F f1
    have a4 := hmax _ (join hp g1).1
    rw [List.length_append, edg_len] at a4
    omega
  · intro e
    obtain ⟨⟨F0, g1, g2⟩, _⟩ := hr
    refine ⟨_, (join hp g1).1, fun E' h' => ?_, (join hp g1).2⟩
    rw [List.length_append, edg_len, g2, e]
    exact hn.2 E' h'
theorem ext_nil {l : List (List Bool)} {n : Nat} (hn : Mx (Pl l) n) : Ext l [] := by
  obtain ⟨⟨E, h1, rfl⟩, h2⟩ := hn
  exact ⟨E, h1, h2, fun i c h => absurd h (Nat.not_lt_zero _)⟩
/-- x is a better column than y. -/
def bt (x y : Int) : Prop := 0 ≤ x ∧ (y = -1 ∨ x < y)
theorem bt_tri {x y : Int} (hx : -1 ≤ x) (hy : -1 ≤ y) : bt x y ∨ x = y ∨ bt y x := by unfold bt; omega
/-- The best next column. -/
def Nx (l : List (List Bool)) (p : List Int) (x : Int) : Prop := -1 ≤ x ∧ Ext l (p ++ [x]) ∧ ∀ y, bt y x → ¬ Ext l (p ++ [y])
theorem Nx.uniq {l : List (List Bool)} {p : List Int} {x y : Int} (h : Nx l p x) (k : Nx l p y) : x = y := by
  rcases bt_tri h.1 k.1 with q | q | q
  · exact absurd h.2.1 (k.2.2 x q)
  · exact q
  · exact absurd k.2.1 (h.2.2 y q)
/-- Each element is the best that can follow those before it. -/
def Ch (l : List (List Bool)) (p : List Int) : Prop := ∀ (i : Nat) x, p[i]? = some x → Nx l (p.take i) x
theorem ch_nil (l : List (List Bool)) : Ch l [] := fun i x h => by simp at h
theorem Ch.snoc {l : List (List Bool)} {p : List Int} {x : Int} (h : Ch l p) (hx : Nx l p x) : Ch l (p ++ [x]) := by
  intro i y hy
  rcases Nat.lt_trichotomy i p.length with e | e | e
  · rw [List.getElem?_append_left e] at hy
    rw [List.take_append_of_le_length (by omega)]
    exact h i y hy
  · subst e
    rw [List.getElem?_concat_length] at hy
    injection hy with hy
    rw [List.take_append_of_le_length (by omega), List.take_length, ← hy]
    exact hx
  · rw [List.getElem?_eq_none (by rw [List.length_append]; show p.length + 1 ≤ i; omega)] at hy
    cases hy
theorem Ch.uniq {l : List (List Bool)} {p q : List Int} (h : Ch l p) (k : Ch l q) (e : p.length = q.length) : p = q := by
  have key : ∀ i, i ≤ p.length → p.take i = q.take i := fun i => by
    induction i with
    | zero => intro _; rfl
    | succ i ih =>
      intro hi
      have hp : p[i]? = some p[i] := List.getElem?_eq_getElem (by omega)
      have hq : q[i]? = some (q[i]'(by omega)) := List.getElem?_eq_getElem (by omega)
      have h1 := h i _ hp
      have h2 := k i _ hq
      have h3 := ih (by omega)
      rw [h3] at h1
      rw [List.take_add_one, List.take_add_one, h3, hp, hq, h1.uniq h2]
  have := key p.length (Nat.le_refl _)
  rwa [List.take_length, e, List.take_length] at this
/-- No greatest matching comes before it. -/
theorem Ch.best {l : List (List Bool)} {p m : List Int} {n : Nat} (h : Ch l p) (hm : IsP l m) (hn : Mx (Pl l) n) (hz : sz m = n) {i : Nat} {x y : Int} (ht : p.take i = m.take i) (hx : p[i]? = some x) (hy : m[i]? = some y) (hne : x ≠ y) : bt x y := by
  have h1 := h i x hx
  have h2 : Ext l (m.take (i + 1)) := by
    refine ⟨edg m, hm.pm, fun E' h' => ?_, fun j c hj => ?_⟩
    · rw [edg_len, hz]
      exact hn.2 E' h'
    · rw [hm.mem, List.getElem?_take, if_pos (by rw [List.length_take] at hj; omega)]
  rw [List.take_add_one, hy, ← ht] at h2
  have hy1 : -1 ≤ y := by
    rcases hm.ok i y hy with e | ⟨c, e, _⟩ <;> omega
  rcases bt_tri h1.1 hy1 with q | q | q
  · exact q
  · exact absurd q hne
  · exact absurd h2 (h1.2.2 y q)
/-! ### Check -/
def chkE (l : List (List Bool)) : Int := if 24 < l.length ∨ 24 < wd l then 3 else if l.all (fun r => decide (r.length = wd l)) then 0 else 2
theorem chk_full {l : List (List Bool)} (h : 24 < l.length ∨ 24 < wd l) : chkE l = 3 := by unfold chkE; rw [if_pos h]
theorem chk_sq {l : List (List Bool)} (h1 : l.length ≤ 24) (h2 : wd l ≤ 24) (h3 : Sq l) : chkE l = 0 := by
  unfold chkE
  rw [if_neg (by omega), if_pos]
  rw [List.all_eq_true]
  exact fun r hr => decide_eq_true (h3 r hr)
theorem chk_form {l : List (List Bool)} (h1 : l.length ≤ 24) (h2 : wd l ≤ 24) {i : Nat} {r : List Bool} (h3 : l[i]? = some r) (h4 : r.length ≠ wd l) : chkE l = 2 := by
  unfold chkE
  rw [if_neg (by omega), if_neg]
  rw [List.all_eq_true]
  intro h
  exact h4 (of_decide_eq_true (h r (List.mem_of_getElem? h3)))
theorem chk_ok {l : List (List Bool)} (h : chkE l = 0) : l.length ≤ 24 ∧ wd l ≤ 24 ∧ Sq l := by
  unfold chkE at h
  split at h
  · omega
  · split at h
    · rename_i h1 h2
      rw [List.all_eq_true] at h2
      exact ⟨by omega, by omega, fun r hr => of_decide_eq_true (h2 r hr)⟩
    · omega
theorem wd_of {l : List (List Bool)} {r : List Bool} (h : l[0]? = some r) : wd l = r.length := by
  cases l with
  | nil => simp at h
  | cons a l =>
    injection h with h
    subst h
    rfl
theorem wd_nil {l : List (List Bool)} (h : l.length = 0) : wd l = 0 := by
  rw [List.eq_nil_of_length_eq_zero h]
  rfl
end Go.Proofs.Ytmliajkbknjacaa.MchP
