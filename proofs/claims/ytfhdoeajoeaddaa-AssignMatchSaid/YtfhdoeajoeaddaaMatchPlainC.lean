/-
  The greatest size, the first of the greatest matchings, and how each column of it is found. No word of the program. Condition: none.
-/
import Derived.Test.YtfhdoeajoeaddaaMatchPlainB
namespace Go.Proofs.Ytfhdoeajoeaddaa.MchP
theorem take_one {α : Type} {l : List α} {k : Nat} {x : α} (h : l[k]? = some x) : l.take (k + 1) = l.take k ++ [x] := by rw [List.take_add_one, h]; rfl
theorem rst_nil (l : List (List Bool)) (i c : Nat) : Rst l [] i c ↔ Pl l i c := by
  unfold Rst Pl
  simp
/-- A greatest matching, and what proves it. -/
def Gt (l : List (List Bool)) (W R : Nat) (m : List Int) : Prop := ∃ m0 h V S, Inv l 0 W R m0 m h V S
theorem Gt.mx {l : List (List Bool)} {W R : Nat} {m : List Int} (h : Gt l W R m) (hR : l.length = R) : Mx (Pl l) (sz m) := by
  obtain ⟨m0, h0, V, S, k⟩ := h
  subst hR
  have := (k.great (Nat.zero_le _)).1
  rw [List.take_zero] at this
  exact this.congr (rst_nil l)
theorem Gt.isP {l : List (List Bool)} {W R : Nat} {m : List Int} (h : Gt l W R m) : IsP l m ∧ m.length = l.length := by
  obtain ⟨m0, h0, V, S, k⟩ := h
  exact ⟨k.con.isP, k.con.lm⟩
theorem ext_perm {l : List (List Bool)} {p : List Int} {c : Nat} (h : Ext l (p ++ [(c : Int)])) : at2 l p.length c = true ∧ (c : Int) ∉ p := by
  obtain ⟨E, h1, _, h3⟩ := h
  have hm := (h3 p.length c (by rw [List.length_append]; exact Nat.lt_succ_self _)).2 (by simp)
  refine ⟨h1.ok _ hm, fun hc => ?_⟩
  obtain ⟨j, hj, e⟩ := List.mem_iff_getElem.1 hc
  have h4 := (h3 j c (by rw [List.length_append]; omega)).2 (by rw [List.getElem?_append_left hj, List.getElem?_eq_getElem hj, e])
  have := h1.col _ hm _ h4 rfl
  injection this with e1 e2
  omega
theorem ext_take {l : List (List Bool)} {m : List Int} {n : Nat} (hm : IsP l m) (hn : Mx (Pl l) n) (hz : sz m = n) (k : Nat) : Ext l (m.take k) := by
  refine ⟨edg m, hm.pm, fun E' h' => ?_, fun j c hj => ?_⟩
  · rw [edg_len, hz]
    exact hn.2 E' h'
  · rw [hm.mem, List.getElem?_take, if_pos (by rw [List.length_take] at hj; omega)]
/-- A column given to a row, and taken from the row that had it. -/
def wth (m : List Int) (i : Nat) (c : Nat) (f : Int) : List Int := (if f = -1 then m else m.set f.toNat (-1)).set i (c : Int)
theorem wth_len (m : List Int) (i c : Nat) (f : Int) : (wth m i c f).length = m.length := by
  unfold wth
  rw [List.length_set]
  split
  · rfl
  · exact List.length_set
theorem wth_get {m : List Int} {i c : Nat} {f : Int} (hi : i < m.length) (hf : f = -1 ∧ (∀ j : Nat, m[j]? ≠ some (c : Int)) ∨ ∃ k : Nat, f = (k : Int) ∧ m[k]? = some (c : Int)) (j : Nat) : (wth m i c f)[j]? = if j = i then some (c : Int) else if f = (j : Int) then some (-1) else m[j]? := by
  unfold wth
  rcases hf with ⟨rfl, _⟩ | ⟨k, rfl, hk⟩
  · rw [if_pos rfl, List.getElem?_set]
    by_cases e : i = j
    · rw [if_pos e, if_pos hi, if_pos e.symm]
    · rw [if_neg e, if_neg (Ne.symm e), if_neg (by omega)]
  · rw [if_neg (by omega), Int.toNat_natCast, List.getElem?_set, List.length_set]
    by_cases e : i = j
    · rw [if_pos e, if_pos hi, if_pos e.symm]
    · rw [if_neg e, if_neg (Ne.symm e), List.getElem?_set]
      by_cases e2 : k = j
      · rw [if_pos e2, if_pos (List.getElem?_eq_some_iff.1 hk).1, if_pos (by omega)]
      · rw [if_neg e2, if_neg (by omega)]
theorem wth_isP {l : List (List Bool)} {m : List Int} {i c : Nat} {f : Int} (h : IsP l m) (hi : i < m.length) (hp : at2 l i c = true) (hf : f = -1 ∧ (∀ j : Nat, m[j]? ≠ some (c : Int)) ∨ ∃ k : Nat, f = (k : Int) ∧ m[k]? = some (c : Int)) : IsP l (wth m i c f) := by
  have hg := wth_get hi hf
  have hno : ∀ j : Nat, f ≠ (j : Int) → m[j]? ≠ some (c : Int) := fun j hj e => by
    rcases hf with ⟨_, q⟩ | ⟨k, rfl, hk⟩
    · exact q j e
    · exact hj (by rw [h.one j k c e hk])
  have key : ∀ j d : Nat, (wth m i c f)[j]? = some (d : Int) → (j = i ∧ d = c) ∨ (j ≠ i ∧ d ≠ c ∧ m[j]? = some (d : Int)) := fun j d hj => by
    rw [hg] at hj
    split at hj
    · rename_i e
      injection hj with hj
      exact .inl ⟨e, by omega⟩
    · split at hj
      · injection hj with hj
        omega
      · rename_i e e2
        refine .inr ⟨e, fun e3 => hno j e2 (by rw [← e3]; exact hj), hj⟩
  refine ⟨fun j x hx => ?_, fun j k d hj hk => ?_⟩
  · rw [hg] at hx
    split at hx
    · rename_i e
      injection hx with hx
      exact .inr ⟨c, hx.symm, by rw [e]; exact hp⟩
    · split at hx
      · injection hx with hx
        exact .inl hx.symm
      · exact h.ok j x hx
  · rcases key j d hj with ⟨a1, a2⟩ | ⟨a1, a2, a3⟩ <;> rcases key k d hk with ⟨b1, b2⟩ | ⟨b1, b2, b3⟩
    · rw [a1, b1]
    · exact absurd a2 b2
    · exact absurd b2 a2
    · exact h.one j k d a3 b3
theorem wth_take {m : List Int} {i c : Nat} {f : Int} (hi : i < m.length) (hf : f = -1 ∧ (∀ j : Nat, m[j]? ≠ some (c : Int)) ∨ ∃ k : Nat, f = (k : Int) ∧ m[k]? = some (c : Int)) (hc : (c : Int) ∉ m.take i) : (wth m i c f).take (i + 1) = m.take i ++ [(c : Int)] := by
  have hg := wth_get hi hf
  rw [take_one (by rw [hg, if_pos rfl])]
  congr 1
  refine List.ext_getElem? fun j => ?_
  rw [List.getElem?_take, List.getElem?_take]
  split
  · rename_i hj
    rw [hg, if_neg (by omega)]
    split
    · rename_i e
      rcases hf with ⟨q, _⟩ | ⟨k, q, hk⟩
      · omega
      · obtain rfl : k = j := by omega
        exact absurd (List.mem_of_getElem? (i := k) (by rw [List.getElem?_take, if_pos hj]; exact hk)) hc
    · rfl
  · rfl
/-- What the program finds out about one column. -/
theorem with_ext {l : List (List Bool)} {W R i n : Nat} {p m0 m h : List Int} {V S : Nat → Prop} (k : Inv l (i + 1) W R m0 m h V S) (hR : l.length = R) (hi : i < R) (h0 : m0.take (i + 1) = p) (hn : Mx (Pl l) n) : (Ext l p ↔ sz m = n) ∧ IsP l m ∧ m.length = R ∧ m.take (i + 1) = p := by
  subst hR
  have ht : m.take (i + 1) = p := by
    rw [← h0]
    refine List.ext_getElem? fun j => ?_
    rw [List.getElem?_take, List.getElem?_take]
    split
    · exact k.fix j (by assumption)
    · rfl
  obtain ⟨h1, h2⟩ := k.great (by omega)
  rw [ht] at h1 h2
  refine ⟨?_, k.con.isP, k.con.lm, ht⟩
  rw [ext_iff (by rw [← ht]; exact k.con.isP.take _) hn h1]
  omega
/-! ### The greatest size and the first matching, as values -/
open Classical in
noncomputable def nu (l : List (List Bool)) : Nat := if h : ∃ n, Mx (Pl l) n then h.choose else 0
theorem nu_of {l : List (List Bool)} {n : Nat} (h : Mx (Pl l) n) : nu l = n := by
  have hx : ∃ n, Mx (Pl l) n := ⟨n, h⟩
  unfold nu
  rw [dif_pos hx]
  exact hx.choose_spec.uniq h
noncomputable def nuV (l : List (List Bool)) : Nat := if chkE l = 0 then nu l else 0
open Classical in
noncomputable def mch (l : List (List Bool)) : List Int := if h : ∃ p, Ch l p ∧ p.length = l.length then h.choose else []
theorem mch_of {l : List (List Bool)} {p : List Int} (h : Ch l p) (hl : p.length = l.length) : mch l = p := by
  have hx : ∃ p, Ch l p ∧ p.length = l.length := ⟨p, h, hl⟩
  unfold mch
  rw [dif_pos hx]
  exact hx.choose_spec.1.uniq h (hx.choose_spec.2.trans hl.symm)
noncomputable def maV (l : List (List Bool)) : List Int := if chkE l = 0 then mch l else []
theorem maV_bad {l : List (List Bool)} (h : chkE l ≠ 0) : maV l = [] ∧ nuV l = 0 := by unfold maV nuV; rw [if_neg h, if_neg h]; exact ⟨rfl, rfl⟩
/-- What the values are. -/
structure Best (l : List (List Bool)) (m : List Int) : Prop where
  isP : IsP l m
  len : m.length = l.length
  mx : Mx (Pl l) (sz m)
  ch : Ch l m
theorem Best.vals {l : List (List Bool)} {m : List Int} (h : Best l m) (hc : chkE l = 0) : nuV l = sz m ∧ maV l = m := by
  unfold nuV maV
  rw [if_pos hc, if_pos hc]
  exact ⟨nu_of h.mx, mch_of h.ch h.len⟩
/-- No column is left: the row gets none. -/
theorem ext_none {l : List (List Bool)} {p : List Int} (h : Ext l p) (hn : ∀ c : Nat, ¬ Ext l (p ++ [(c : Int)])) : Ext l (p ++ [-1]) := by
  obtain ⟨E, h1, h2, h3⟩ := h
  have hlt : ∀ i, i < (p ++ [(-1 : Int)]).length → i < p.length ∨ i = p.length := fun i hi => by
    rw [List.length_append] at hi
    have hi : i < p.length + 1 := hi
    omega
  refine ⟨E, h1, h2, fun i c hi => ?_⟩
  rcases hlt i hi with q | q
  · rw [List.getElem?_append_left q]
    exact h3 i c q
  · subst q
    rw [List.getElem?_concat_length]
    constructor
    · intro hE
      refine absurd ⟨E, h1, h2, fun i' c' hi' => ?_⟩ (hn c)
      rw [List.length_append] at hi'
      have hi' : i' < p.length + 1 := hi'
      by_cases q : i' < p.length
      · rw [List.getElem?_append_left q]
        exact h3 i' c' q
      · obtain rfl : i' = p.length := by omega
        rw [List.getElem?_concat_length]
        constructor
        · intro h4
          have := h1.row _ hE _ h4 rfl
          injection this with _ e
          rw [e]
        · intro h4
          injection h4 with h4
          obtain rfl : c = c' := by omega
          exact hE
    · intro h4
      injection h4 with h4
      omega
/-- The best next column, when the columns before c were tried. -/
def Gq (l : List (List Bool)) (p : List Int) (c : Nat) (got : Int) : Prop := (got = -1 ∧ ∀ d : Nat, d < c → ¬ Ext l (p ++ [(d : Int)])) ∨ ∃ g : Nat, got = (g : Int) ∧ g < c ∧ Ext l (p ++ [(g : Int)]) ∧ ∀ d : Nat, d < g → ¬ Ext l (p ++ [(d : Int)])
theorem gq_zero (l : List (List Bool)) (p : List Int) : Gq l p 0 (-1) := .inl ⟨rfl, fun _ h => absurd h (Nat.not_lt_zero _)⟩
theorem gq_no {l : List (List Bool)} {p : List Int} {c : Nat} (h : ∀ d : Nat, d < c → ¬ Ext l (p ++ [(d : Int)])) (hn : ¬ Ext l (p ++ [(c : Int)])) : ∀ d : Nat, d < c + 1 → ¬ Ext l (p ++ [(d : Int)]) := fun d hd => by
  by_cases e : d = c
  · rw [e]; exact hn
  · exact h d (by omega)
theorem nx_none {l : List (List Bool)} {p : List Int} {W : Nat} (hs : Sq l) (hW : wd l = W) (he : Ext l p) (h : ∀ d : Nat, d < W → ¬ Ext l (p ++ [(d : Int)])) : Nx l p (-1) ∧ Ext l (p ++ [-1]) := by
  have hn : ∀ c : Nat, ¬ Ext l (p ++ [(c : Int)]) := fun c hc => by
    by_cases q : c < W
    · exact h c q hc
    · have := at2_col hs (ext_perm hc).1
      omega
  have hx := ext_none he hn
  refine ⟨⟨by omega, hx, fun y hy h2 => ?_⟩, hx⟩
  obtain ⟨c, rfl⟩ : ∃ c : Nat, y = (c : Int) := ⟨y.toNat, by have := hy.1; omega⟩
  exact hn c h2
theorem nx_some {l : List (List Bool)} {p : List Int} {g : Nat} (he : Ext l (p ++ [(g : Int)])) (h : ∀ d : Nat, d < g → ¬ Ext l (p ++ [(d : Int)])) : Nx l p (g : Int) := by
  refine ⟨by omega, he, fun y hy h2 => ?_⟩
  obtain ⟨y1, y2⟩ := hy
  obtain ⟨c, rfl⟩ : ∃ c : Nat, y = (c : Int) := ⟨y.toNat, by omega⟩
  exact h c (by omega) h2
/-- The columns that a beginning uses. -/
structure Us (l : List (List Bool)) (p u : List Int) : Prop where
  isP : IsP l p
  ext : Ext l p
  ch : Ch l p
  mem : ∀ c : Nat, (c : Int) ∈ u ↔ (c : Int) ∈ p
  len : u.length = sz p
theorem us_nil {l : List (List Bool)} {n : Nat} (hn : Mx (Pl l) n) : Us l [] [] := ⟨isP_nil l, ext_nil hn, ch_nil l, fun _ => Iff.rfl, rfl⟩
theorem sz_snoc (p : List Int) (x : Int) : sz (p ++ [x]) = sz p + if x = -1 then 0 else 1 := by
  unfold sz
  rw [List.countP_append, List.countP_cons, List.countP_nil]
  by_cases e : x = -1
  · rw [if_pos e, if_neg (by simp [e])]
  · rw [if_neg e, if_pos (by simpa using e)]
theorem Us.none {l : List (List Bool)} {p u : List Int} {W : Nat} (h : Us l p u) (hs : Sq l) (hW : wd l = W) (hn : ∀ d : Nat, d < W → ¬ Ext l (p ++ [(d : Int)])) : Us l (p ++ [-1]) u := by
  obtain ⟨h1, h2⟩ := nx_none hs hW h.ext hn
  refine ⟨h.isP.snoc', h2, h.ch.snoc h1, fun c => ?_, ?_⟩
  · rw [h.mem, List.mem_append, List.mem_singleton]
    exact ⟨.inl, fun q => q.elim id fun e => by omega⟩
  · rw [h.len, sz_snoc, if_pos rfl]
    rfl
theorem Us.some {l : List (List Bool)} {p u : List Int} {g : Nat} (h : Us l p u) (he : Ext l (p ++ [(g : Int)])) (hn : ∀ d : Nat, d < g → ¬ Ext l (p ++ [(d : Int)])) : Us l (p ++ [(g : Int)]) (u ++ [(g : Int)]) := by
  obtain ⟨h1, h2⟩ := ext_perm he
  refine ⟨h.isP.snoc h1 h2, he, h.ch.snoc (nx_some he hn), fun c => ?_, ?_⟩
  · rw [List.mem_append, List.mem_append, h.mem]
  · rw [List.length_append, sz_snoc, if_neg (by omega), h.len]
    rfl
theorem Us.small {l : List (List Bool)} {p u : List Int} (h : Us l p u) : u.length ≤ p.length := by
  rw [h.len]
  exact List.countP_le_length
theorem Us.best {l : List (List Bool)} {p u : List Int} {n : Nat} (h : Us l p u) (hl : p.length = l.length) (hn : Mx (Pl l) n) : Best l p := by
  have h0 : Mx (Rst l p) 0 := ⟨⟨[], pm_nil _, rfl⟩, fun E hE => by
    cases E with
    | nil => exact Nat.le_refl _
    | cons a E =>
      have h1 := hE.ok a (List.mem_cons_self ..)
      have h2 := at2_row h1.2.1
      have h3 := h1.1
      omega⟩
  have := (ext_iff h.isP hn h0).1 h.ext
  exact ⟨h.isP, hl, by rw [show sz p = n by omega]; exact hn, h.ch⟩
end Go.Proofs.Ytfhdoeajoeaddaa.MchP
