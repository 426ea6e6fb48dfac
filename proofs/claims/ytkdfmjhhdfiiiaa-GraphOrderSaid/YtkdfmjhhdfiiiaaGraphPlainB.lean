/-
  Plain facts of package graph: what is reached, and distances, found round by round. No word of the program. Condition: none.
-/
import Derived.Test.YtkdfmjhhdfiiiaaGraphPlain
namespace Go.Proofs.Ytkdfmjhhdfiiiaa.GraP
open PairW
theorem at_get {l : List Ar} {i : Nat} (h : i < l.length) : at' l i = l[i] := by
  unfold at'
  rw [List.getD_eq_getElem?_getD, List.getElem?_eq_getElem h]
  rfl
/-- An arc is somewhere. -/
theorem ar_at {l : List Ar} {x y : Nat} (h : ar l x y = true) : ∃ i, i < l.length ∧ at' l i = ((x : Int), (y : Int)) := by
  obtain ⟨i, hi, e⟩ := List.mem_iff_getElem.1 (ar_iff.1 h)
  exact ⟨i, hi, by rw [at_get hi, e]⟩
theorem at_ar {l : List Ar} {i x y : Nat} (hi : i < l.length) (h : at' l i = ((x : Int), (y : Int))) : ar l x y = true := by
  rw [ar_iff, ← h]
  exact at_mem hi
theorem Fit.at {n : Nat} {l : List Ar} (h : Fit n l) {i : Nat} (hi : i < l.length) : ∃ x y : Nat, at' l i = ((x : Int), (y : Int)) ∧ x < n ∧ y < n := h.nats (at_mem hi)
/-- A truth of a list. -/
def Tr (R : List Bool) (b : Nat) : Prop := R[b]? = some true
theorem tr_set {R : List Bool} {y b : Nat} (hy : y < R.length) : Tr (R.set y true) b ↔ b = y ∨ Tr R b := by
  unfold Tr
  rw [List.getElem?_set]
  by_cases c : y = b
  · subst c
    rw [if_pos rfl, if_pos hy]
    exact ⟨fun _ => .inl rfl, fun _ => rfl⟩
  · rw [if_neg c]
    exact ⟨.inr, fun h => h.resolve_left fun e => c e.symm⟩
theorem tr_get {R : List Bool} {b : Nat} (h : b < R.length) : Tr R b ↔ R[b] = true := by
  unfold Tr
  rw [List.getElem?_eq_getElem h]
  exact ⟨fun h => by injection h, fun h => by rw [h]⟩
section
variable {n : Nat} {l : List Ar} {a : Nat}
def ReS (n : Nat) (l : List Ar) (a : Nat) (R : List Bool) : Prop := ∀ b, Tr R b → rch n l a b = true
def ReF (n : Nat) (l : List Ar) (a m : Nat) (R : List Bool) : Prop := ∀ k b, k ≤ m → wk n l k a b = true → Tr R b
def ReU (n : Nat) (l : List Ar) (a m i : Nat) (R : List Bool) : Prop := ∀ j, j < i → ∀ x y : Nat, at' l j = ((x : Int), (y : Int)) → wk n l m a x = true → Tr R y
theorem re_start (ha : a < n) : ReS n l a ((List.replicate n false).set a true) ∧ ReF n l a 0 ((List.replicate n false).set a true) := by
  have hl : a < (List.replicate n false).length := by rw [List.length_replicate]; exact ha
  refine ⟨fun b hb => ?_, fun k b hk hb => ?_⟩
  · rcases (tr_set hl).1 hb with rfl | h
    · exact rch_refl ha
    · unfold Tr at h
      rw [List.getElem?_replicate] at h
      split at h
      · injection h with h; cases h
      · cases h
  · obtain rfl : k = 0 := by omega
    exact (tr_set hl).2 (.inl (wk_zero.1 hb).symm)
theorem re_set {m i : Nat} {R : List Bool} {x y : Nat} (G : Fit n l) (ha : a < n) (hi : i < l.length) (hxy : at' l i = ((x : Int), (y : Int))) (hy : y < R.length) (hx : Tr R x) (h1 : ReS n l a R) (h2 : ReF n l a m R) (h3 : ReU n l a m i R) :
    ReS n l a (R.set y true) ∧ ReF n l a m (R.set y true) ∧ ReU n l a m (i + 1) (R.set y true) := by
  refine ⟨fun b hb => ?_, fun k b hk hb => (tr_set hy).2 (.inr (h2 k b hk hb)), fun j hj u v huv hw => (tr_set hy).2 ?_⟩
  · rcases (tr_set hy).1 hb with rfl | h
    · exact rch_trans G ha (G.ar (at_ar hi hxy)).1 (h1 _ hx) (rch_arc G (at_ar hi hxy))
    · exact h1 _ h
  · by_cases e : j = i
    · subst e
      rw [hxy] at huv
      injection huv with _ e2
      exact .inl (by omega)
    · exact .inr (h3 j (by omega) u v huv hw)
theorem re_skip {m i : Nat} {R : List Bool} {x y : Nat} (hxy : at' l i = ((x : Int), (y : Int))) (hx : ¬ Tr R x) (h2 : ReF n l a m R) (h3 : ReU n l a m i R) : ReU n l a m (i + 1) R := fun j hj u v huv hw => by
  by_cases e : j = i
  · subst e
    rw [hxy] at huv
    injection huv with e1 _
    obtain rfl : x = u := by omega
    exact absurd (h2 m x (Nat.le_refl _) hw) hx
  · exact h3 j (by omega) u v huv hw
theorem re_round {m : Nat} {R : List Bool} (G : Fit n l) (ha : a < n) (h2 : ReF n l a m R) (h3 : ReU n l a m l.length R) : ReF n l a (m + 1) R := fun k b hk hb => by
  by_cases e : k = m + 1
  · subst e
    obtain ⟨c, _, h5, h6⟩ := wk_last G ha hb
    obtain ⟨i, hi, he⟩ := ar_at h6
    exact h3 i hi c b he h5
  · exact h2 k b (by omega) hb
theorem re_end {R : List Bool} (G : Fit n l) (ha : a < n) (hl : R.length = n) (h1 : ReS n l a R) (h2 : ReF n l a n R) : R = rchV n l a := by
  refine List.ext_getElem (by unfold rchV; rw [hl, List.length_map, List.length_range]) fun i hi1 hi2 => ?_
  have e : (rchV n l a)[i] = rch n l a i := by simp [rchV]
  rw [e]
  cases h : rch n l a i with
  | true =>
    obtain ⟨k, hk⟩ := (rch_iff G ha).1 h
    obtain ⟨j, h3, _, h4, _⟩ := wk_short G ha hk
    exact (tr_get hi1).1 (h2 j i (by omega) h4)
  | false =>
    cases h5 : R[i] with
    | false => rfl
    | true =>
      have := h1 i ((tr_get hi1).2 h5)
      rw [h] at this
      cases this
end
/-! ### Distances -/
/-- The distance as a number: -1 if there is no path. -/
def dstI (n : Nat) (l : List Ar) (a b : Nat) : Int := match dst n l a b with | some k => (k : Int) | none => -1
theorem dstI_some {n : Nat} {l : List Ar} {a b k : Nat} : dstI n l a b = (k : Int) ↔ dst n l a b = some k := by
  unfold dstI
  cases h : dst n l a b with
  | none => exact ⟨fun h => by simp only at h; omega, fun h => by cases h⟩
  | some j => exact ⟨fun h => by simp only at h; rw [show j = k by omega], fun h => by injection h with h; rw [h]⟩
theorem dstI_none {n : Nat} {l : List Ar} {a b : Nat} : dstI n l a b < 0 ↔ dst n l a b = none := by
  unfold dstI
  cases h : dst n l a b with
  | none => exact ⟨fun _ => rfl, fun _ => by simp only; omega⟩
  | some j => exact ⟨fun h => by simp only at h; omega, fun h => by cases h⟩
/-- The distances of all nodes from b. -/
def dstV (n : Nat) (l : List Ar) (b : Nat) : List Int := (List.range n).map fun a => dstI n l a b
theorem dstV_len (n : Nat) (l : List Ar) (b : Nat) : (dstV n l b).length = n := by unfold dstV; rw [List.length_map, List.length_range]
theorem dstV_at {n : Nat} {l : List Ar} {b a : Nat} (h : a < n) : (dstV n l b)[a]? = some (dstI n l a b) := by unfold dstV; rw [List.getElem?_map, List.getElem?_range h]; rfl
section
variable {n : Nat} {l : List Ar} {t : Nat}
/-- Each is -1, or the distance. -/
def DiS (n : Nat) (l : List Ar) (t : Nat) (D : List Int) : Prop := ∀ b v, D[b]? = some v → v = -1 ∨ ∃ k : Nat, v = (k : Int) ∧ dst n l b t = some k
def DiF (n : Nat) (l : List Ar) (t m : Nat) (D : List Int) : Prop := ∀ k b : Nat, k ≤ m → dst n l b t = some k → D[b]? = some (k : Int)
def DiU (n : Nat) (l : List Ar) (t m i : Nat) (D : List Int) : Prop := ∀ j, j < i → ∀ x y : Nat, at' l j = ((x : Int), (y : Int)) → dst n l y t = some m → ∃ k : Nat, D[x]? = some (k : Int)
theorem di_start (ht : t < n) : DiS n l t ((List.replicate n (-1)).set t 0) ∧ DiF n l t 0 ((List.replicate n (-1)).set t 0) := by
  refine ⟨fun b v hb => ?_, fun k b hk hb => ?_⟩
  · rw [List.getElem?_set] at hb
    split at hb
    · rename_i e
      subst e
      split at hb
      · injection hb with hb
        exact .inr ⟨0, hb.symm, (dst_zero ht).2 rfl⟩
      · cases hb
    · rw [List.getElem?_replicate] at hb
      split at hb
      · injection hb with hb
        exact .inl hb.symm
      · cases hb
  · obtain rfl : k = 0 := by omega
    have e := wk_zero.1 (dst_some.1 hb).2.1
    subst e
    rw [List.getElem?_set, if_pos rfl, if_pos (by rw [List.length_replicate]; exact ht)]
    rfl
theorem di_set {m i : Nat} {D : List Int} {x y : Nat} {v : Int} (G : Fit n l) (hi : i < l.length) (hxy : at' l i = ((x : Int), (y : Int))) (hy : D[y]? = some (m : Int)) (hx : D[x]? = some v) (hv : v < 0)
    (h1 : DiS n l t D) (h2 : DiF n l t m D) (h3 : DiU n l t m i D) : DiS n l t (D.set x ((m : Int) + 1)) ∧ DiF n l t m (D.set x ((m : Int) + 1)) ∧ DiU n l t m (i + 1) (D.set x ((m : Int) + 1)) := by
  have hxl : x < D.length := (List.getElem?_eq_some_iff.1 hx).1
  have hax := at_ar hi hxy
  have hdy : dst n l y t = some m := by
    rcases h1 y _ hy with h | ⟨k, hk, hd⟩
    · omega
    · rw [hd, show k = m by omega]
  have hno : ∀ j : Nat, j ≤ m → dst n l x t ≠ some j := fun j hj h => by
    have := h2 j x hj h
    rw [hx] at this
    injection this with this
    omega
  have hdx : dst n l x t = some (m + 1) := by
    refine dst_of G (G.ar hax).1 (wk_succ.2 ⟨y, (G.ar hax).2, hax, (dst_some.1 hdy).2.1⟩) fun j hj => Bool.eq_false_iff.2 fun hw => ?_
    obtain ⟨j', h4, h5⟩ := dst_le G (G.ar hax).1 hw
    exact hno j' (by omega) h5
  refine ⟨fun b v' hb => ?_, fun k b hk hb => ?_, fun j hj u v' huv hw => ?_⟩
  · rw [List.getElem?_set] at hb
    split at hb
    · rename_i e
      subst e
      injection hb with hb
      exact .inr ⟨m + 1, by omega, hdx⟩
    · exact h1 b v' hb
  · rw [List.getElem?_set, if_neg (fun e => by subst e; exact hno k hk hb)]
    exact h2 k b hk hb
  · by_cases e : j = i
    · subst e
      rw [hxy] at huv
      injection huv with e1 _
      obtain rfl : x = u := by omega
      exact ⟨m + 1, by rw [List.getElem?_set, if_pos rfl, if_pos hxl]; rfl⟩
    · obtain ⟨k, hk⟩ := h3 j (by omega) u v' huv hw
      rw [List.getElem?_set]
      by_cases e : x = u
      · subst e
        exact ⟨m + 1, by rw [if_pos rfl, if_pos hxl]; rfl⟩
      · exact ⟨k, by rw [if_neg e]; exact hk⟩
theorem di_skip {m i : Nat} {D : List Int} {x y : Nat} {u v : Int} (hxy : at' l i = ((x : Int), (y : Int))) (hy : D[y]? = some u) (hx : D[x]? = some v) (hs : u ≠ (m : Int) ∨ ¬ v < 0)
    (h2 : DiF n l t m D) (h3 : DiU n l t m i D) : DiU n l t m (i + 1) D := fun j hj a b hab hw => by
  by_cases e : j = i
  · subst e
    rw [hxy] at hab
    injection hab with e1 e2
    obtain rfl : x = a := by omega
    obtain rfl : y = b := by omega
    rcases hs with hs | hs
    · have := h2 m y (Nat.le_refl _) hw
      rw [hy] at this
      injection this with this
      exact absurd this hs
    · exact ⟨v.toNat, by rw [hx]; congr 1; omega⟩
  · exact h3 j (by omega) a b hab hw
theorem di_round {m : Nat} {D : List Int} (G : Fit n l) (h1 : DiS n l t D) (h2 : DiF n l t m D) (h3 : DiU n l t m l.length D) : DiF n l t (m + 1) D := fun k b hk hb => by
  by_cases e : k = m + 1
  · subst e
    obtain ⟨c, _, h5, h6⟩ := wk_succ.1 (dst_some.1 hb).2.1
    obtain ⟨i, hi, he⟩ := ar_at h5
    obtain ⟨k, hk⟩ := h3 i hi b c he ((dst_step G hb h5).2 h6)
    rcases h1 b _ hk with h | ⟨j, h7, h8⟩
    · omega
    · rw [hb] at h8
      injection h8 with h8
      rw [hk]
      congr 1
      omega
  · exact h2 k b (by omega) hb
theorem di_end {D : List Int} (hl : D.length = n) (h1 : DiS n l t D) (h2 : DiF n l t n D) : D = dstV n l t := by
  refine List.ext_getElem (by rw [hl, dstV_len]) fun i hi1 hi2 => ?_
  have e : (dstV n l t)[i] = dstI n l i t := by simp [dstV]
  rw [e]
  have hD := List.getElem?_eq_getElem hi1
  cases h : dst n l i t with
  | some k =>
    have := h2 k i (Nat.le_of_lt (dst_some.1 h).1) h
    rw [hD] at this
    injection this with this
    rw [this, dstI_some.2 h]
  | none =>
    rcases h1 i _ hD with e | ⟨k, _, e⟩
    · rw [e]
      unfold dstI
      rw [h]
    · rw [h] at e; cases e
end
end Go.Proofs.Ytkdfmjhhdfiiiaa.GraP
