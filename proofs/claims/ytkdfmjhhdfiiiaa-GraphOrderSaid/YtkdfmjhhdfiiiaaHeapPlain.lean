/-
  Plain facts of heaps in a list of numbers: the library's up and down. No word of the program. Condition: none.
-/
import Derived.Test.YtkdfmjhhdfiiiaaPairs
namespace Go.Proofs.Ytkdfmjhhdfiiiaa.HepP
/-- The k-th number. -/
def hx (H : List Nat) (k : Nat) : Nat := H.getD k 0
theorem hx_get {H : List Nat} {k : Nat} (h : k < H.length) : H[k]? = some (hx H k) := by unfold hx; rw [List.getD_eq_getElem?_getD, List.getElem?_eq_getElem h]; rfl
theorem hx_mem {H : List Nat} {k : Nat} (h : k < H.length) : hx H k ∈ H := List.mem_of_getElem? (hx_get h)
theorem mem_hx {H : List Nat} {x : Nat} (h : x ∈ H) : ∃ k, k < H.length ∧ hx H k = x := by
  obtain ⟨k, hk, e⟩ := List.mem_iff_getElem.1 h
  have := hx_get hk
  rw [List.getElem?_eq_getElem hk, e] at this
  injection this with this
  exact ⟨k, hk, this.symm⟩
/-- Two numbers exchanged. -/
def sw (H : List Nat) (i j : Nat) : List Nat := (H.set i (hx H j)).set j (hx H i)
theorem sw_len (H : List Nat) (i j : Nat) : (sw H i j).length = H.length := by unfold sw; rw [List.length_set, List.length_set]
theorem sw_hx {H : List Nat} {i j k : Nat} (hi : i < H.length) (hj : j < H.length) : hx (sw H i j) k = if k = j then hx H i else if k = i then hx H j else hx H k := by
  by_cases hk : k < H.length
  · have h1 := hx_get (H := sw H i j) (k := k) (by rw [sw_len]; exact hk)
    unfold sw at h1
    rw [List.getElem?_set, List.getElem?_set] at h1
    by_cases e1 : k = j
    · subst e1
      rw [if_pos rfl, if_pos (by rw [List.length_set]; exact hk)] at h1
      injection h1 with h1
      rw [if_pos rfl, h1]
      rfl
    · rw [if_neg (fun e => e1 e.symm)] at h1
      rw [if_neg e1]
      by_cases e2 : k = i
      · subst e2
        rw [if_pos rfl, if_pos hk] at h1
        injection h1 with h1
        rw [if_pos rfl, h1]
        rfl
      · rw [if_neg (fun e => e2 e.symm), hx_get hk] at h1
        injection h1 with h1
        rw [if_neg e2, h1]
        rfl
  · have h0 : ∀ L : List Nat, L.length = H.length → hx L k = 0 := fun L hL => by
      unfold hx
      rw [List.getD_eq_getElem?_getD, List.getElem?_eq_none (by omega)]
      rfl
    rw [h0 _ (sw_len ..), if_neg (by omega), if_neg (by omega), h0 _ rfl]
theorem sw_perm {H : List Nat} {i j : Nat} (hi : i < H.length) (hj : j < H.length) : (sw H i j).Perm H := by
  rw [List.perm_iff_count]
  intro a
  have e1 := hx_get hi
  have e2 := hx_get hj
  rw [List.getElem?_eq_getElem hi] at e1
  rw [List.getElem?_eq_getElem hj] at e2
  injection e1 with e1
  injection e2 with e2
  have c1 : H[i] ∈ H := List.getElem_mem hi
  have c2 : H[j] ∈ H := List.getElem_mem hj
  have k1 : ∀ x, H[i] = x → 0 < H.count x := fun x h => List.count_pos_iff.2 (h ▸ c1)
  have k2 : ∀ x, H[j] = x → 0 < H.count x := fun x h => List.count_pos_iff.2 (h ▸ c2)
  unfold sw
  rw [List.count_set (by rw [List.length_set]; exact hj), List.count_set hi, List.getElem_set]
  by_cases e : i = j
  · subst e
    rw [if_pos rfl]
    have := k1 a
    have := k1 a
    by_cases h : H[i] = a
    · have := k1 a h
      simp [h, ← e1]
      omega
    · simp [h, ← e1]
  · rw [if_neg e]
    by_cases h : H[i] = a
    · have := k1 a h
      by_cases g : H[j] = a
      · simp [h, g, ← e1, ← e2]; omega
      · simp [h, g, ← e1, ← e2]; omega
    · by_cases g : H[j] = a
      · have := k2 a g
        simp [h, g, ← e1, ← e2]
      · simp [h, g, ← e1, ← e2]
/-- The first m numbers are a heap. -/
def Hep (H : List Nat) (m : Nat) : Prop := ∀ k, 0 < k → k < m → hx H ((k - 1) / 2) ≤ hx H k
theorem Hep.min {H : List Nat} {m : Nat} (h : Hep H m) : ∀ k, k < m → hx H 0 ≤ hx H k := fun k => by
  induction k using Nat.strongRecOn with
  | ind k ih =>
    intro hk
    by_cases e : k = 0
    · subst e; exact Nat.le_refl _
    · exact Nat.le_trans (ih ((k - 1) / 2) (by omega) (by omega)) (h k (by omega) hk)
/-- .. but for the one at j, which may be too small. -/
structure Hup (H : List Nat) (m j : Nat) : Prop where
  jm : j < m
  ok : ∀ k, 0 < k → k < m → k ≠ j → hx H ((k - 1) / 2) ≤ hx H k
  ab : 0 < j → ∀ c, 0 < c → c < m → (c - 1) / 2 = j → hx H ((j - 1) / 2) ≤ hx H c
theorem Hup.stop {H : List Nat} {m j : Nat} (h : Hup H m j) (hs : j = 0 ∨ hx H ((j - 1) / 2) ≤ hx H j) : Hep H m := fun k h1 h2 => by
  by_cases e : k = j
  · subst e
    rcases hs with hs | hs
    · omega
    · exact hs
  · exact h.ok k h1 h2 e
theorem Hup.step {H : List Nat} {m j : Nat} (h : Hup H m j) (hm : m ≤ H.length) (h0 : 0 < j) (hs : hx H j < hx H ((j - 1) / 2)) : Hup (sw H ((j - 1) / 2) j) m ((j - 1) / 2) := by
  have hj := h.jm
  have hlt : (j - 1) / 2 < j := by omega
  have e := fun k => sw_hx (H := H) (i := (j - 1) / 2) (j := j) (k := k) (by omega) (by omega)
  refine ⟨by omega, fun k h1 h2 h3 => ?_, fun h1 c h2 h3 h4 => ?_⟩
  · rw [e, e]
    by_cases c1 : k = j
    · subst c1
      rw [if_pos rfl, if_neg (by omega), if_pos rfl]
      omega
    · rw [if_neg c1, if_neg h3]
      by_cases c2 : (k - 1) / 2 = j
      · rw [if_pos c2]
        exact h.ab h0 k h1 h2 c2
      · rw [if_neg c2]
        have := h.ok k h1 h2 c1
        by_cases c3 : (k - 1) / 2 = (j - 1) / 2
        · rw [if_pos c3]
          rw [c3] at this
          omega
        · rw [if_neg c3]
          exact this
  · rw [e, e, if_neg (by omega), if_neg (by omega)]
    have k1 := h.ok ((j - 1) / 2) h1 (by omega) (by omega)
    by_cases c1 : c = j
    · rw [if_pos c1]
      exact k1
    · rw [if_neg c1, if_neg (by omega)]
      have := h.ok c h2 h3 c1
      rw [h4] at this
      omega
/-- .. but for the one at i, which may be too great. -/
structure Hdn (H : List Nat) (m i : Nat) : Prop where
  ok : ∀ k, 0 < k → k < m → (k - 1) / 2 ≠ i → hx H ((k - 1) / 2) ≤ hx H k
  ab : 0 < i → ∀ c, 0 < c → c < m → (c - 1) / 2 = i → hx H ((i - 1) / 2) ≤ hx H c
theorem Hdn.stop {H : List Nat} {m i : Nat} (h : Hdn H m i) (hs : ∀ c, 0 < c → c < m → (c - 1) / 2 = i → hx H i ≤ hx H c) : Hep H m := fun k h1 h2 => by
  by_cases e : (k - 1) / 2 = i
  · rw [e]
    exact hs k h1 h2 e
  · exact h.ok k h1 h2 e
theorem Hdn.step {H : List Nat} {m i j : Nat} (h : Hdn H m i) (hm : m ≤ H.length) (hj0 : 0 < j) (hj : j < m) (hij : (j - 1) / 2 = i) (hmin : ∀ c, 0 < c → c < m → (c - 1) / 2 = i → hx H j ≤ hx H c) (hs : hx H j < hx H i) : Hdn (sw H i j) m j := by
  have e := fun k => sw_hx (H := H) (i := i) (j := j) (k := k) (by omega) (by omega)
  refine ⟨fun k h1 h2 h3 => ?_, fun h1 c h2 h3 h4 => ?_⟩
  · rw [e, e]
    by_cases c1 : k = j
    · rw [if_pos c1, if_neg (by omega), if_pos (by rw [c1]; exact hij)]
      omega
    · rw [if_neg c1, if_neg h3]
      by_cases c2 : (k - 1) / 2 = i
      · rw [if_pos c2, if_neg (by omega)]
        exact hmin k h1 h2 c2
      · rw [if_neg c2]
        have := h.ok k h1 h2 c2
        by_cases c3 : k = i
        · rw [if_pos c3]
          have h5 := h.ab (by omega) j hj0 hj hij
          rw [c3]
          exact h5
        · rw [if_neg c3]
          exact this
  · rw [e, e, hij, if_neg (by omega), if_pos rfl, if_neg (by omega), if_neg (by omega)]
    have := h.ok c h2 h3 (by omega)
    rw [h4] at this
    exact this
theorem hep_push {H : List Nat} (h : Hep H H.length) (x : Nat) : Hup (H ++ [x]) (H.length + 1) H.length := by
  have e : ∀ k, k < H.length → hx (H ++ [x]) k = hx H k := fun k hk => by
    unfold hx
    rw [List.getD_eq_getElem?_getD, List.getD_eq_getElem?_getD, List.getElem?_append_left hk]
  refine ⟨by omega, fun k h1 h2 h3 => ?_, fun h1 c h2 h3 h4 => by omega⟩
  rw [e _ (by omega), e _ (by omega)]
  exact h k h1 (by omega)
/-- The first taken out: the last one in its place. -/
theorem hep_pop {H : List Nat} {m : Nat} (h : Hep H H.length) (hm : H.length = m + 1) : Hdn (sw H 0 m) m 0 := by
  refine ⟨fun k h1 h2 h3 => ?_, fun h1 => by omega⟩
  rw [sw_hx (by omega) (by omega), sw_hx (by omega) (by omega), if_neg (by omega), if_neg h3, if_neg (by omega), if_neg (by omega)]
  exact h k h1 (by omega)
theorem hep_take {H : List Nat} {m : Nat} (h : Hep H m) (hm : m ≤ H.length) : Hep (H.take m) (H.take m).length := by
  have hl : (H.take m).length = m := by rw [List.length_take]; omega
  have e : ∀ k, k < m → hx (H.take m) k = hx H k := fun k hk => by
    unfold hx
    rw [List.getD_eq_getElem?_getD, List.getD_eq_getElem?_getD, List.getElem?_take_of_lt hk]
  rw [hl]
  intro k h1 h2
  rw [e _ (by omega), e _ h2]
  exact h k h1 h2
theorem hep_nil : Hep [] 0 := fun _ _ h => absurd h (Nat.not_lt_zero _)
theorem take_last {H : List Nat} {m : Nat} (hm : H.length = m + 1) : H = H.take m ++ [hx H m] := by
  have h := List.take_succ_eq_append_getElem (l := H) (i := m) (by omega)
  rw [List.take_of_length_le (by omega)] at h
  have e := hx_get (H := H) (k := m) (by omega)
  rw [List.getElem?_eq_getElem (by omega)] at e
  injection e with e
  rw [e] at h
  exact h
end Go.Proofs.Ytkdfmjhhdfiiiaa.HepP
