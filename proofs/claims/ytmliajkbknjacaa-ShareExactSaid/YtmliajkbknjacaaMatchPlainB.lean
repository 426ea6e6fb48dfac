/-
  A matching enlarged by paths that are looked for in depth: what one search does, and that a matching whose rows were all tried is as great as it can be. No word of the program. Condition: none.
-/
import Derived.Test.YtmliajkbknjacaaMatchPlain
namespace Go.Proofs.Ytmliajkbknjacaa.MchP
/-- The columns of the rows, the rows of the columns, the columns that were seen. -/
structure St where
  m : List Int
  h : List Int
  s : List Bool
/-- The search from row i, from column c on; rows before fr are not asked. -/
inductive Sc (l : List (List Bool)) (fr W : Nat) : St → Nat → Nat → Bool → St → Prop
  | done {a : St} {i c : Nat} : W ≤ c → Sc l fr W a i c false a
  | skip {a a' : St} {i c : Nat} {b : Bool} : c < W → (at2 l i c = false ∨ a.s[c]? = some true) → Sc l fr W a i (c + 1) b a' → Sc l fr W a i c b a'
  | free {a : St} {i c : Nat} : c < W → at2 l i c = true → a.s[c]? = some false → a.h[c]? = some (-1) → Sc l fr W a i c true ⟨a.m.set i c, a.h.set c i, a.s.set c true⟩
  | fixed {a a' : St} {i c r : Nat} {b : Bool} : c < W → at2 l i c = true → a.s[c]? = some false → a.h[c]? = some (r : Int) → r < fr → Sc l fr W ⟨a.m, a.h, a.s.set c true⟩ i (c + 1) b a' → Sc l fr W a i c b a'
  | deepT {a a1 : St} {i c r : Nat} : c < W → at2 l i c = true → a.s[c]? = some false → a.h[c]? = some (r : Int) → fr ≤ r → Sc l fr W ⟨a.m, a.h, a.s.set c true⟩ r 0 true a1 → Sc l fr W a i c true ⟨a1.m.set i c, a1.h.set c i, a1.s⟩
  | deepF {a a1 a' : St} {i c r : Nat} {b : Bool} : c < W → at2 l i c = true → a.s[c]? = some false → a.h[c]? = some (r : Int) → fr ≤ r → Sc l fr W ⟨a.m, a.h, a.s.set c true⟩ r 0 false a1 → Sc l fr W a1 i (c + 1) b a' → Sc l fr W a i c b a'
section
variable {l : List (List Bool)} {fr W : Nat} {a a' : St} {i c : Nat} {b : Bool}
/-- Columns that were seen stay seen. -/
theorem Sc.seen (h : Sc l fr W a i c b a') : a'.s.length = a.s.length ∧ ∀ d : Nat, a.s[d]? = some true → a'.s[d]? = some true := by
  have st : ∀ (s : List Bool) (c d : Nat), s[d]? = some true → (s.set c true)[d]? = some true := fun s c d q => by
    rw [List.getElem?_set]
    split
    · rename_i e
      subst e
      rw [if_pos (List.getElem?_eq_some_iff.1 q).1]
    · exact q
  induction h with
  | done _ => exact ⟨rfl, fun d h => h⟩
  | skip _ _ _ ih => exact ih
  | free _ _ _ _ => exact ⟨List.length_set, fun d h => st _ _ d h⟩
  | fixed _ _ _ _ _ _ ih => exact ⟨ih.1.trans List.length_set, fun d h => ih.2 d (st _ _ d h)⟩
  | deepT _ _ _ _ _ _ ih => exact ⟨ih.1.trans List.length_set, fun d h => ih.2 d (st _ _ d h)⟩
  | deepF _ _ _ _ _ _ _ ih1 ih2 => exact ⟨(ih2.1.trans ih1.1).trans List.length_set, fun d h => ih2.2 d (ih1.2 d (st _ _ d h))⟩
theorem set_seen {s : List Bool} {c d : Nat} (h : (s.set c true)[d]? = some true) : d = c ∨ s[d]? = some true := by
  rw [List.getElem?_set] at h
  split at h
  · rename_i e
    exact .inl e.symm
  · exact .inr h
theorem set_same {s : List Bool} {c : Nat} {t : Bool} (h : s[c]? = some t) : (s.set c true)[c]? = some true := by
  rw [List.getElem?_set, if_pos rfl, if_pos (List.getElem?_eq_some_iff.1 h).1]
/-- A search that finds nothing changes nothing, and saw all columns that can be come to. -/
theorem Sc.fails (h : Sc l fr W a i c b a') (hb : b = false) : a'.m = a.m ∧ a'.h = a.h ∧ (∀ d, c ≤ d → d < W → at2 l i d = true → a'.s[d]? = some true) ∧
    ∀ d : Nat, a'.s[d]? = some true → a.s[d]? ≠ some true → ∃ r : Nat, a.h[d]? = some (r : Int) ∧ (fr ≤ r → ∀ e, e < W → at2 l r e = true → a'.s[e]? = some true) := by
  induction h with
  | done hc => exact ⟨rfl, rfl, fun d h1 h2 => by omega, fun d h1 h2 => absurd h1 h2⟩
  | @skip a a' i c b hc h1 hs ih =>
    obtain ⟨q1, q2, q3, q4⟩ := ih hb
    refine ⟨q1, q2, fun d hd hw hp => ?_, q4⟩
    by_cases e : d = c
    · rcases h1 with h1 | h1
      · rw [e, h1] at hp; cases hp
      · exact hs.seen.2 d (by rw [e]; exact h1)
    · exact q3 d (by omega) hw hp
  | free => cases hb
  | @fixed a a' i c r b hc h1 h2 h3 h4 hs ih =>
    obtain ⟨q1, q2, q3, q4⟩ := ih hb
    refine ⟨q1, q2, fun d hd hw hp => ?_, fun d hd hn => ?_⟩
    · by_cases e : d = c
      · subst e
        exact hs.seen.2 _ (set_same h2)
      · exact q3 d (by omega) hw hp
    · by_cases e : d = c
      · subst e
        exact ⟨r, h3, fun q => by omega⟩
      · exact q4 d hd fun q => (set_seen q).elim e hn
  | deepT => cases hb
  | @deepF a a1 a' i c r b hc h1 h2 h3 h4 hs1 hs2 ih1 ih2 =>
    obtain ⟨p1, p2, p3, p4⟩ := ih1 rfl
    obtain ⟨q1, q2, q3, q4⟩ := ih2 hb
    refine ⟨q1.trans p1, q2.trans p2, fun d hd hw hp => ?_, fun d hd hn => ?_⟩
    · by_cases e : d = c
      · subst e
        exact hs2.seen.2 _ (hs1.seen.2 _ (set_same h2))
      · exact q3 d (by omega) hw hp
    · by_cases e1 : a1.s[d]? = some true
      · by_cases e : d = c
        · subst e
          exact ⟨r, h3, fun _ e hw hp => hs2.seen.2 _ (p3 e (Nat.zero_le _) hw hp)⟩
        · obtain ⟨r', k1, k2⟩ := p4 d e1 fun q => (set_seen q).elim e hn
          exact ⟨r', k1, fun g e hw hp => hs2.seen.2 _ (k2 g e hw hp)⟩
      · obtain ⟨r', k1, k2⟩ := q4 d hd e1
        rw [p2] at k1
        exact ⟨r', k1, k2⟩
/-- Rows and columns that know each other. -/
structure Con (l : List (List Bool)) (W : Nat) (m h : List Int) : Prop where
  lm : m.length = l.length
  lh : h.length = W
  mv : ∀ (i : Nat) x, m[i]? = some x → x = -1 ∨ ∃ c : Nat, x = (c : Int) ∧ at2 l i c = true
  hv : ∀ (c : Nat) x, h[c]? = some x → x = -1 ∨ ∃ i : Nat, x = (i : Int)
  eq : ∀ i c : Nat, m[i]? = some (c : Int) ↔ h[c]? = some (i : Int)
theorem Con.isP {m h : List Int} (k : Con l W m h) : IsP l m := ⟨k.mv, fun i j c h1 h2 => by
  rw [k.eq] at h1 h2
  rw [h1] at h2
  injection h2 with h2
  omega⟩
/-- A column given up (-1: none). -/
def clr (h : List Int) (x : Int) : List Int := if x = -1 then h else h.set x.toNat (-1)
theorem Con.move {m h : List Int} {x : Int} (k : Con l W m h) (hx : m[i]? = some x) (hc : h[c]? = some (-1)) (hp : at2 l i c = true) : Con l W (m.set i c) (clr (h.set c i) x) := by
  have hcl := (List.getElem?_eq_some_iff.1 hc).1
  have hil := (List.getElem?_eq_some_iff.1 hx).1
  have hcx : ∀ c0 : Nat, x = (c0 : Int) → c0 ≠ c := fun c0 e1 e2 => by
    subst e1
    subst e2
    rw [k.eq, hc] at hx
    injection hx with hx
    omega
  have hcl2 : ∀ d : Nat, (clr (h.set c i) x)[d]? = if x = (d : Int) then (if d < W then some (-1) else none) else if d = c then some (i : Int) else h[d]? := fun d => by
    unfold clr
    rw [← k.lh]
    rcases k.mv i x hx with rfl | ⟨c0, rfl, h0⟩
    · rw [if_pos rfl, if_neg (by omega), List.getElem?_set]
      by_cases e : c = d
      · rw [if_pos e, if_pos e.symm, if_pos hcl]
      · rw [if_neg e, if_neg (Ne.symm e)]
    · rw [if_neg (by omega), Int.toNat_natCast, List.getElem?_set, List.length_set]
      by_cases e : c0 = d
      · have h0l := (List.getElem?_eq_some_iff.1 ((k.eq i c0).1 hx)).1
        rw [if_pos e, if_pos h0l, if_pos (by omega), if_pos (by omega)]
      · rw [if_neg e, if_neg (by omega), List.getElem?_set]
        by_cases e : c = d
        · rw [if_pos e, if_pos e.symm, if_pos hcl]
        · rw [if_neg e, if_neg (Ne.symm e)]
  have hml : ∀ j : Nat, (m.set i (c : Int))[j]? = if j = i then some (c : Int) else m[j]? := fun j => by
    rw [List.getElem?_set]
    by_cases e : i = j
    · rw [if_pos e, if_pos hil, if_pos e.symm]
    · rw [if_neg e, if_neg (Ne.symm e)]
  refine ⟨List.length_set.trans k.lm, ?_, fun j y hy => ?_, fun d y hy => ?_, fun j d => ?_⟩
  · unfold clr
    split
    · exact List.length_set.trans k.lh
    · exact List.length_set.trans (List.length_set.trans k.lh)
  · rw [hml] at hy
    split at hy
    · rename_i e
      injection hy with hy
      exact .inr ⟨c, hy.symm, by rw [e]; exact hp⟩
    · exact k.mv j y hy
  · rw [hcl2] at hy
    split at hy
    · split at hy
      · injection hy with hy
        exact .inl hy.symm
      · cases hy
    · split at hy
      · injection hy with hy
        exact .inr ⟨i, hy.symm⟩
      · exact k.hv d y hy
  · rw [hml, hcl2]
    by_cases e1 : x = (d : Int)
    · have hne := hcx d e1
      rw [if_pos e1]
      constructor
      · intro q
        split at q
        · injection q with q
          omega
        · rename_i e2
          rw [e1, k.eq] at hx
          rw [k.eq, hx] at q
          injection q with q
          omega
      · intro q
        split at q
        · injection q with q
          omega
        · cases q
    · rw [if_neg e1]
      by_cases e2 : d = c
      · subst e2
        rw [if_pos rfl]
        constructor
        · intro q
          split at q
          · rename_i e; rw [e]
          · rw [k.eq, hc] at q
            injection q with q
            omega
        · intro q
          injection q with q
          rw [if_pos (by omega)]
      · rw [if_neg e2]
        by_cases e3 : j = i
        · rw [if_pos e3]
          subst e3
          constructor
          · intro q
            injection q with q
            omega
          · intro q
            rw [← k.eq, hx] at q
            injection q with q
            exact absurd q e1
        · rw [if_neg e3]
          exact k.eq j d
/-- A search that finds a path. -/
theorem Sc.found (h : Sc l fr W a i c b a') (hb : b = true) : ∀ {x : Int}, Con l W a.m a.h → a.m[i]? = some x → (∀ d : Nat, x = (d : Int) → a.s[d]? = some true) →
    Con l W a'.m (clr a'.h x) ∧ (∀ d : Nat, a.s[d]? = some true → a'.h[d]? = a.h[d]?) ∧ (∀ (d r : Nat), a.h[d]? = some (r : Int) → r < fr → a'.h[d]? = some (r : Int)) ∧
    (∀ (r : Nat) y, r ≠ i → a.m[r]? = some y → (∀ d : Nat, y = (d : Int) → a.s[d]? = some true) → a'.m[r]? = some y) ∧ (∀ r : Nat, a'.m[r]? = some (-1) → r ≠ i ∧ a.m[r]? = some (-1)) := by
  induction h with
  | done => cases hb
  | skip _ _ _ ih => exact ih hb
  | @free a i c hc h1 h2 h3 =>
    intro x hk hx hd
    have hil := (List.getElem?_eq_some_iff.1 hx).1
    refine ⟨hk.move hx h3 h1, fun d q => ?_, fun d r q hr => ?_, fun r y hr q _ => ?_, fun r q => ?_⟩
    · show (a.h.set c _)[d]? = _
      rw [List.getElem?_set, if_neg]
      intro e
      rw [← e, h2] at q
      cases q
    · show (a.h.set c _)[d]? = _
      rw [List.getElem?_set, if_neg]
      · exact q
      · intro e
        rw [← e, h3] at q
        injection q with q
        omega
    · show (a.m.set i _)[r]? = _
      rw [List.getElem?_set, if_neg (fun e => hr e.symm)]
      exact q
    · have q : (a.m.set i (c : Int))[r]? = some (-1) := q
      rw [List.getElem?_set] at q
      split at q
      · injection q with q
        omega
      · exact ⟨fun e => by omega, q⟩
  | @fixed a a' i c r b hc h1 h2 h3 h4 hs ih =>
    intro x hk hx hd
    have st : ∀ d : Nat, a.s[d]? = some true → (a.s.set c true)[d]? = some true := fun d q => by
      rw [List.getElem?_set]
      split
      · rename_i e
        subst e
        rw [if_pos (List.getElem?_eq_some_iff.1 q).1]
      · exact q
    obtain ⟨q1, q2, q3, q4, q5⟩ := ih hb hk hx fun d e => st d (hd d e)
    exact ⟨q1, fun d q => q2 d (st d q), q3, fun r' y e1 e2 e3 => q4 r' y e1 e2 fun d e => st d (e3 d e), q5⟩
  | @deepT a a1 i c r hc h1 h2 h3 h4 hs ih =>
    intro x hk hx hd
    have hil := (List.getElem?_eq_some_iff.1 hx).1
    have hcl := (List.getElem?_eq_some_iff.1 h3).1
    have st : ∀ d : Nat, a.s[d]? = some true → (a.s.set c true)[d]? = some true := fun d q => by
      rw [List.getElem?_set]
      split
      · rename_i e
        subst e
        rw [if_pos (List.getElem?_eq_some_iff.1 q).1]
      · exact q
    have hm : a.m[r]? = some (c : Int) := (hk.eq r c).2 h3
    have hir : i ≠ r := fun e => by
      subst e
      rw [hm] at hx
      injection hx with hx
      rw [hd c hx.symm] at h2
      cases h2
    obtain ⟨q1, q2, q3, q4, q5⟩ := ih rfl (x := (c : Int)) hk hm fun d e => by
      obtain rfl : c = d := by omega
      exact set_same h2
    have hx1 : a1.m[i]? = some x := q4 i x hir hx fun d e => st d (hd d e)
    have hcc : (clr a1.h c)[c]? = some (-1) := by
      have := q1.lh
      unfold clr at this ⊢
      rw [if_neg (by omega), Int.toNat_natCast] at this ⊢
      rw [List.length_set] at this
      rw [List.getElem?_set, if_pos rfl, if_pos (by omega)]
    have hmv := q1.move hx1 hcc h1
    have e1 : (clr a1.h c).set c (i : Int) = a1.h.set c i := by
      unfold clr
      rw [if_neg (by omega), Int.toNat_natCast, List.set_set]
    rw [e1] at hmv
    refine ⟨hmv, fun d q => ?_, fun d r' q hr => ?_, fun r' y hr q hy => ?_, fun r' q => ?_⟩
    · show (a1.h.set c _)[d]? = _
      rw [List.getElem?_set, if_neg]
      · exact q2 d (st d q)
      · intro e
        rw [← e, h2] at q
        cases q
    · show (a1.h.set c _)[d]? = _
      rw [List.getElem?_set, if_neg]
      · exact q3 d r' q hr
      · intro e
        rw [← e, h3] at q
        injection q with q
        omega
    · show (a1.m.set i _)[r']? = _
      rw [List.getElem?_set, if_neg (fun e => hr e.symm)]
      refine q4 r' y (fun e => ?_) q fun d e => st d (hy d e)
      subst e
      rw [hm] at q
      injection q with q
      rw [hy c q.symm] at h2
      cases h2
    · have q : (a1.m.set i (c : Int))[r']? = some (-1) := q
      rw [List.getElem?_set] at q
      split at q
      · split at q
        · injection q with q
          omega
        · cases q
      · obtain ⟨k1, k2⟩ := q5 r' q
        exact ⟨fun e => by omega, k2⟩
  | @deepF a a1 a' i c r b hc h1 h2 h3 h4 hs1 hs2 ih1 ih2 =>
    intro x hk hx hd
    obtain ⟨p1, p2, _, _⟩ := hs1.fails rfl
    have st : ∀ d : Nat, a.s[d]? = some true → a1.s[d]? = some true := fun d q => hs1.seen.2 d (by
      show (a.s.set c true)[d]? = _
      rw [List.getElem?_set]
      split
      · rename_i e
        subst e
        rw [if_pos (List.getElem?_eq_some_iff.1 q).1]
      · exact q)
    rw [p1, p2] at ih2
    obtain ⟨q1, q2, q3, q4, q5⟩ := ih2 hb hk hx fun d e => st d (hd d e)
    exact ⟨q1, fun d q => q2 d (st d q), q3, fun r' y e1 e2 e3 => q4 r' y e1 e2 fun d e => st d (e3 d e), q5⟩
/-- Rows and columns from which no path leads on. -/
def Cl (l : List (List Bool)) (fr : Nat) (h : List Int) (V S : Nat → Prop) : Prop :=
  (∀ r c, V r → at2 l r c = true → (∃ q : Nat, h[c]? = some (q : Int) ∧ q < fr) ∨ S c) ∧ ∀ c, S c → ∃ q : Nat, h[c]? = some (q : Int) ∧ fr ≤ q ∧ V q
theorem Sc.closed {V S : Nat → Prop} (h : Sc l fr W a i c b a') : Cl l fr a.h V S → (V i → b = false) ∧ (b = true → ∀ d, S d → a'.h[d]? = a.h[d]?) := by
  induction h with
  | done => exact fun _ => ⟨fun _ => rfl, fun e => by cases e⟩
  | skip _ _ _ ih => exact ih
  | @free a i c hc h1 h2 h3 =>
    intro hk
    have hs : ¬ S c := fun q => by
      obtain ⟨r, k1, _⟩ := hk.2 c q
      rw [h3] at k1
      injection k1 with k1
      omega
    refine ⟨fun hv => ?_, fun _ d hd => ?_⟩
    · rcases hk.1 i c hv h1 with ⟨q, k1, _⟩ | k
      · rw [h3] at k1
        injection k1 with k1
        omega
      · exact absurd k hs
    · show (a.h.set c _)[d]? = _
      rw [List.getElem?_set, if_neg]
      intro e
      exact hs (by rw [e]; exact hd)
  | fixed _ _ _ _ _ _ ih => exact ih
  | @deepT a a1 i c r hc h1 h2 h3 h4 hs ih =>
    intro hk
    obtain ⟨k1, k2⟩ := ih hk
    have hns : ¬ S c := fun q => by
      obtain ⟨r', e1, _, e2⟩ := hk.2 c q
      rw [h3] at e1
      injection e1 with e1
      obtain rfl : r = r' := by omega
      exact absurd (k1 e2) (by simp)
    refine ⟨fun hv => ?_, fun _ d hd => ?_⟩
    · rcases hk.1 i c hv h1 with ⟨q, e1, e2⟩ | e
      · rw [h3] at e1
        injection e1 with e1
        omega
      · exact absurd e hns
    · show (a1.h.set c _)[d]? = _
      rw [List.getElem?_set, if_neg]
      · exact k2 rfl d hd
      · intro e
        exact hns (by rw [e]; exact hd)
  | @deepF a a1 a' i c r b hc h1 h2 h3 h4 hs1 hs2 ih1 ih2 =>
    intro hk
    obtain ⟨_, p2, _, _⟩ := hs1.fails rfl
    rw [p2] at ih2
    exact ih2 hk
end
/-- All rows from fr on, before j, have a column or can not get one. -/
structure Inv (l : List (List Bool)) (fr W j : Nat) (m0 m h : List Int) (V S : Nat → Prop) : Prop where
  con : Con l W m h
  fix : ∀ i, i < fr → m[i]? = m0[i]?
  cl : Cl l fr h V S
  row : ∀ i : Nat, fr ≤ i → i < j → m[i]? = some (-1) → V i
section
variable {l : List (List Bool)} {fr W j : Nat} {m0 m h : List Int} {V S : Nat → Prop}
theorem Inv.start {fr W : Nat} {m h : List Int} (k : Con l W m h) : Inv l fr W fr m m h (fun _ => False) (fun _ => False) :=
  ⟨k, fun _ _ => rfl, ⟨fun _ _ q => q.elim, fun _ q => q.elim⟩, fun i h1 h2 => by omega⟩
theorem Inv.skip (k : Inv l fr W j m0 m h V S) (hj : m[j]? ≠ some (-1)) : Inv l fr W (j + 1) m0 m h V S :=
  ⟨k.con, k.fix, k.cl, fun i h1 h2 h3 => by
    by_cases e : i = j
    · subst e; exact absurd h3 hj
    · exact k.row i h1 (by omega) h3⟩
theorem Inv.found (k : Inv l fr W j m0 m h V S) (hf : fr ≤ j) (hj : m[j]? = some (-1)) {s s' : List Bool} {m' h' : List Int} (hs : Sc l fr W ⟨m, h, s⟩ j 0 true ⟨m', h', s'⟩) : Inv l fr W (j + 1) m0 m' h' V S := by
  obtain ⟨q1, q2, q3, q4, q5⟩ := hs.found rfl (x := -1) k.con hj fun d e => by omega
  have q1 : Con l W m' (clr h' (-1)) := q1
  unfold clr at q1
  rw [if_pos rfl] at q1
  obtain ⟨c1, c2⟩ := hs.closed k.cl
  refine ⟨q1, fun i hi => ?_, ⟨fun r c hv hp => ?_, fun c hc => ?_⟩, fun i h1 h2 h3 => ?_⟩
  · rw [← k.fix i hi]
    cases e : m[i]? with
    | none => rw [List.getElem?_eq_none_iff] at e ⊢; rw [q1.lm, ← k.con.lm]; exact e
    | some x =>
      rcases k.con.mv i x e with rfl | ⟨c, rfl, _⟩
      · exact q4 i (-1) (by omega) e fun d e => by omega
      · exact (q1.eq i c).2 (q3 c i ((k.con.eq i c).1 e) hi)
  · rcases k.cl.1 r c hv hp with ⟨q, e1, e2⟩ | e
    · exact .inl ⟨q, q3 c q e1 e2, e2⟩
    · exact .inr e
  · obtain ⟨q, e1, e2⟩ := k.cl.2 c hc
    exact ⟨q, by rw [← e1]; exact c2 rfl c hc, e2⟩
  · obtain ⟨e1, e2⟩ := q5 i h3
    exact k.row i h1 (by omega) e2
theorem Inv.fails (k : Inv l fr W j m0 m h V S) (hsq : ∀ i c, at2 l i c = true → c < W) {n : Nat} {s' : List Bool} {m' h' : List Int} (hs : Sc l fr W ⟨m, h, List.replicate n false⟩ j 0 false ⟨m', h', s'⟩) :
    ∃ V' S', Inv l fr W (j + 1) m0 m' h' V' S' := by
  obtain ⟨q1, q2, q3, q4⟩ := hs.fails rfl
  have q1 : m' = m := q1
  have q2 : h' = h := q2
  subst q1
  subst q2
  have hn : ∀ d : Nat, (List.replicate n false)[d]? ≠ some true := fun d e => by
    rw [List.getElem?_replicate] at e
    split at e
    · injection e with e; cases e
    · cases e
  refine ⟨fun r => V r ∨ r = j ∨ ∃ c : Nat, s'[c]? = some true ∧ h'[c]? = some (r : Int) ∧ fr ≤ r, fun c => S c ∨ (s'[c]? = some true ∧ ∃ r : Nat, h'[c]? = some (r : Int) ∧ fr ≤ r), k.con, k.fix, ⟨?_, ?_⟩, ?_⟩
  · have key : ∀ c : Nat, s'[c]? = some true → (∃ q : Nat, h'[c]? = some (q : Int) ∧ q < fr) ∨ (S c ∨ (s'[c]? = some true ∧ ∃ r : Nat, h'[c]? = some (r : Int) ∧ fr ≤ r)) := fun c hc => by
      obtain ⟨r, e1, _⟩ := q4 c hc (hn c)
      rcases Nat.lt_or_ge r fr with e | e
      · exact .inl ⟨r, e1, e⟩
      · exact .inr (.inr ⟨hc, r, e1, e⟩)
    rintro r c (hv | rfl | ⟨d, e1, e2, e3⟩) hp
    · rcases k.cl.1 r c hv hp with e | e
      · exact .inl e
      · exact .inr (.inl e)
    · exact key c (q3 c (Nat.zero_le _) (hsq _ c hp) hp)
    · obtain ⟨r', f1, f2⟩ := q4 d e1 (hn d)
      have f1 : h'[d]? = some (r' : Int) := f1
      rw [e2] at f1
      injection f1 with f1
      obtain rfl : r = r' := by omega
      exact key c (f2 e3 c (hsq _ c hp) hp)
  · rintro c (hc | ⟨hc, r, e1, e2⟩)
    · obtain ⟨q, e1, e2, e3⟩ := k.cl.2 c hc
      exact ⟨q, e1, e2, .inl e3⟩
    · exact ⟨r, e1, e2, .inr (.inr ⟨c, hc, e1, e2⟩)⟩
  · intro i h1 h2 h3
    by_cases e : i = j
    · exact .inr (.inl e)
    · exact .inl (k.row i h1 (by omega) h3)
/-- A matching whose rows were all tried is as great as it can be, among those that begin so. -/
theorem Inv.great (k : Inv l fr W l.length m0 m h V S) (hf : fr ≤ l.length) : Mx (Rst l (m.take fr)) (sz m - sz (m.take fr)) ∧ sz (m.take fr) ≤ sz m := by
  have hp := k.con.isP
  have ht := hp.take fr
  have hl : (m.take fr).length = fr := by rw [List.length_take, k.con.lm]; omega
  have hag : Agr (edg m) (m.take fr) := fun i c hi => by
    rw [hp.mem, List.getElem?_take, if_pos (by omega)]
  obtain ⟨F, f1, f2, f3⟩ := split ht hp.pm hag
  rw [edg_len] at f2
  refine ⟨⟨⟨F, f1, by omega⟩, fun E hE => ?_⟩, by omega⟩
  have := cert_le V S hE (E := F) (fun i c hv hr => ?_) (fun c hc => ?_) (fun i c hr hv => ?_)
  · omega
  · obtain ⟨h1, h2, h3⟩ := hr
    rcases k.cl.1 i c hv h2 with ⟨q, e1, e2⟩ | e
    · refine absurd ?_ h3
      rw [← k.con.eq] at e1
      exact List.mem_of_getElem? (i := q) (by rw [List.getElem?_take, if_pos e2]; exact e1)
    · exact e
  · obtain ⟨q, e1, e2, e3⟩ := k.cl.2 c hc
    rw [← k.con.eq, ← hp.mem] at e1
    exact ⟨q, e3, (f3 q c).2 ⟨e1, by omega⟩⟩
  · obtain ⟨h1, h2, _⟩ := hr
    have hi := at2_row h2
    have hil : i < m.length := by rw [k.con.lm]; exact hi
    have hg : m[i]? = some m[i] := List.getElem?_eq_getElem hil
    rcases k.con.mv i _ hg with e | ⟨d, e, _⟩
    · rw [e] at hg
      exact absurd (k.row i (by omega) hi hg) hv
    · rw [e] at hg
      exact ⟨d, (f3 i d).2 ⟨hp.mem.2 hg, h1⟩⟩
end
end Go.Proofs.Ytmliajkbknjacaa.MchP
