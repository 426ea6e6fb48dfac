/-
  Plain facts of package graph: orders by counting what is missing. No word of the program. Condition: none.
-/
import Derived.Test.YtkdfmjhhdfiiiaaGraphPlainD
import Derived.Test.YtkdfmjhhdfiiiaaGraphPlainE
namespace Go.Proofs.Ytkdfmjhhdfiiiaa.GraP
open PairW
/-- How many nodes that are not in the list have an arc to a. -/
def cnt (n : Nat) (l : List Ar) (out : List Nat) (a : Nat) : Nat := (List.range n).countP fun x => ar l x a && !inL out x
theorem inL_iff {out : List Nat} {a : Nat} : inL out a = true ↔ a ∈ out := by unfold inL; simp
theorem cnt_zero {n : Nat} {l : List Ar} (G : Fit n l) {out : List Nat} {a : Nat} : cnt n l out a = 0 ↔ ∀ x : Nat, ar l x a = true → x ∈ out := by
  unfold cnt
  rw [List.countP_eq_zero]
  constructor
  · intro h x hx
    have := h x (List.mem_range.2 (G.ar hx).1)
    rw [hx, Bool.true_and, Bool.not_eq_true, Bool.not_eq_false', inL_iff] at this
    exact this
  · intro h x _ hc
    rw [Bool.and_eq_true, Bool.not_eq_true', ← Bool.not_eq_true, inL_iff] at hc
    exact hc.2 (h x hc.1)
theorem free_cnt {n : Nat} {l : List Ar} (G : Fit n l) {out : List Nat} {a : Nat} : free l out a = true ↔ a ∉ out ∧ cnt n l out a = 0 := by rw [free_iff G, cnt_zero G]
theorem countP_one {L : List Nat} (hL : L.Nodup) {c : Nat} (hc : c ∈ L) {p q : Nat → Bool} (h : ∀ x, x ≠ c → p x = q x) (hp : p c = true) (hq : q c = false) : L.countP p = L.countP q + 1 := by
  induction L with
  | nil => cases hc
  | cons x L ih =>
    rw [List.nodup_cons] at hL
    by_cases e : x = c
    · subst e
      rw [List.countP_cons_of_pos hp, List.countP_cons_of_neg (by rw [hq]; simp)]
      congr 1
      exact List.countP_congr fun y hy => by rw [h y (fun e => hL.1 (e ▸ hy))]
    · have := ih hL.2 ((List.mem_cons.1 hc).resolve_left fun k => e k.symm)
      rw [List.countP_cons, List.countP_cons, this, h x e]
      omega
theorem cnt_more {n : Nat} {l : List Ar} {out : List Nat} {a c : Nat} (hc : c < n) (ho : c ∉ out) : cnt n l out a = cnt n l (out ++ [c]) a + (if ar l c a = true then 1 else 0) := by
  unfold cnt
  have hin : ∀ x, x ≠ c → inL (out ++ [c]) x = inL out x := fun x hx => by
    unfold inL
    exact decide_eq_decide.2 (by rw [List.mem_append, List.mem_singleton]; exact ⟨fun h => h.resolve_right hx, .inl⟩)
  by_cases e : ar l c a = true
  · rw [if_pos e]
    refine countP_one List.nodup_range (List.mem_range.2 hc) (fun x hx => by rw [hin x hx]) ?_ ?_
    · rw [e, Bool.true_and, Bool.not_eq_true', ← Bool.not_eq_true, inL_iff]
      exact ho
    · rw [e, Bool.true_and, Bool.not_eq_false', inL_iff]
      exact List.mem_append_right _ (List.mem_singleton.2 rfl)
  · rw [if_neg e, Nat.add_zero]
    refine List.countP_congr fun x _ => ?_
    by_cases h : x = c
    · subst h
      simp [e]
    · rw [hin x h]
/-- How often a node follows. -/
theorem fol_count {n : Nat} {l : List Ar} {x a : Nat} (ha : a < n) : (fol n l x).count a = if ar l x a = true then 1 else 0 := by
  by_cases e : ar l x a = true
  · rw [if_pos e]
    have h1 := List.nodup_iff_count.1 (fol_nodup n l x) a
    have h2 := List.count_pos_iff.2 (fol_mem.2 ⟨ha, e⟩)
    omega
  · rw [if_neg e]
    exact List.count_eq_zero.2 fun h => e (fol_mem.1 h).2
theorem flat_count {n : Nat} {l : List Ar} {a : Nat} (ha : a < n) : ∀ L : List Nat, (L.flatMap (fol n l)).count a = L.countP fun x => ar l x a
  | [] => rfl
  | x :: L => by
    rw [List.flatMap_cons, List.count_append, flat_count ha L, fol_count ha, List.countP_cons]
    omega
/-- The followers of all nodes. -/
def allF (n : Nat) (l : List Ar) : List Nat := (List.range n).flatMap (fol n l)
theorem cnt_nil {n : Nat} {l : List Ar} {a : Nat} (ha : a < n) : (allF n l).count a = cnt n l [] a := by
  unfold allF cnt
  rw [flat_count ha]
  refine List.countP_congr fun x _ => ?_
  simp [inL]
theorem allF_lt {n : Nat} {l : List Ar} {x : Nat} (h : x ∈ allF n l) : x < n := by
  unfold allF at h
  obtain ⟨y, _, hy⟩ := List.mem_flatMap.1 h
  exact (fol_mem.1 hy).1
/-- The counts after the first j of all followers. -/
def Cn (n : Nat) (F : List Nat) (M : List Int) : Prop := M.length = n ∧ ∀ a, a < n → M[a]? = some ((F.count a : Nat) : Int)
theorem cn_start (n : Nat) : Cn n [] (List.replicate n 0) := ⟨List.length_replicate, fun a ha => by rw [List.getElem?_replicate, if_pos ha]; rfl⟩
theorem cn_more {n m : Nat} {F : List Nat} {M : List Int} {b : Int} (h : Cn n F M) (hb : M[m]? = some b) : Cn n (F ++ [m]) (M.set m (b + 1)) := by
  have hm := (List.getElem?_eq_some_iff.1 hb).1
  rw [h.1] at hm
  refine ⟨by rw [List.length_set]; exact h.1, fun a ha => ?_⟩
  rw [List.count_append, List.getElem?_set]
  by_cases e : m = a
  · subst e
    have := h.2 m ha
    rw [hb] at this
    injection this with this
    rw [if_pos rfl, if_pos (by rw [h.1]; exact ha), this, List.count_singleton_self]
    rfl
  · rw [if_neg e, h.2 a ha, List.count_singleton, beq_eq_false_iff_ne.2 (fun k => e k)]
    rfl
/-- Counting, with the first nodes T behind the last one's arcs taken off: what is missing, and what waits. -/
structure Kn (n : Nat) (l : List Ar) (out : List Nat) (c : Nat) (T : List Nat) (M : List Int) (H : List Nat) : Prop where
  ml : M.length = n
  mc : ∀ a, a < n → M[a]? = some (((cnt n l (out ++ [c]) a : Nat) : Int) + (if ar l c a = true ∧ a ∉ T then 1 else 0))
  hn : H.Nodup
  hm : ∀ a, a ∈ H ↔ a < n ∧ a ∉ out ++ [c] ∧ M[a]? = some 0
/-- .. between two nodes. -/
structure Ka (n : Nat) (l : List Ar) (out : List Nat) (M : List Int) (H : List Nat) : Prop where
  ml : M.length = n
  mc : ∀ a, a < n → M[a]? = some ((cnt n l out a : Nat) : Int)
  hn : H.Nodup
  hm : ∀ a, a ∈ H ↔ a < n ∧ free l out a = true
section
variable {n : Nat} {l : List Ar} {out : List Nat} {M : List Int} {H : List Nat}
/-- The least one that waits is next. -/
theorem Ka.next (h : Ka n l out M H) {c : Nat} (hc : c ∈ H) (hmin : ∀ x ∈ H, c ≤ x) : nxt n l out = some c := by
  obtain ⟨h1, h2⟩ := (h.hm c).1 hc
  refine nxt_some.2 ⟨h1, h2, fun j hj => Bool.eq_false_iff.2 fun hf => ?_⟩
  have := hmin j ((h.hm j).2 ⟨by omega, hf⟩)
  omega
theorem Ka.none (h : Ka n l out M []) : nxt n l out = none := nxt_none.2 fun j hj => Bool.eq_false_iff.2 fun hf => by
  have := (h.hm j).2 ⟨hj, hf⟩
  cases this
theorem Ka.take (G : Fit n l) (h : Ka n l out M H) {c : Nat} {H' : List Nat} (hp : H.Perm (c :: H')) : Kn n l out c [] M H' := by
  have hcH : c ∈ H := hp.mem_iff.2 (List.mem_cons_self ..)
  obtain ⟨h1, h2⟩ := (h.hm c).1 hcH
  obtain ⟨h3, h4⟩ := (free_cnt G).1 h2
  have hnd := hp.nodup_iff.1 h.hn
  rw [List.nodup_cons] at hnd
  refine ⟨h.ml, fun a ha => ?_, hnd.2, fun a => ?_⟩
  · rw [h.mc a ha, cnt_more h1 h3]
    by_cases e : ar l c a = true
    · rw [if_pos e, if_pos ⟨e, by simp⟩]; rfl
    · rw [if_neg e, if_neg (fun k => e k.1)]; rfl
  · constructor
    · intro ha
      obtain ⟨k1, k2⟩ := (h.hm a).1 (hp.mem_iff.2 (List.mem_cons_of_mem _ ha))
      obtain ⟨k3, k4⟩ := (free_cnt G).1 k2
      refine ⟨k1, fun k => ?_, by rw [h.mc a k1, k4]; rfl⟩
      rcases List.mem_append.1 k with k | k
      · exact k3 k
      · rw [List.mem_singleton] at k
        subst k
        exact hnd.1 ha
    · rintro ⟨k1, k2, k3⟩
      have k4 : a ∉ out := fun k => k2 (List.mem_append_left _ k)
      have k5 : a ≠ c := fun e => k2 (List.mem_append_right _ (List.mem_singleton.2 e))
      rw [h.mc a k1] at k3
      injection k3 with k3
      have := hp.mem_iff.1 ((h.hm a).2 ⟨k1, (free_cnt G).2 ⟨k4, by omega⟩⟩)
      exact (List.mem_cons.1 this).resolve_left k5
theorem Kn.done (G : Fit n l) {c : Nat} (h : Kn n l out c (fol n l c) M H) : Ka n l (out ++ [c]) M H := by
  have hmc : ∀ a, a < n → M[a]? = some ((cnt n l (out ++ [c]) a : Nat) : Int) := fun a ha => by
    rw [h.mc a ha, if_neg (fun k => k.2 ((fol_fit G).2 k.1)), Int.add_zero]
  refine ⟨h.ml, hmc, h.hn, fun a => ?_⟩
  rw [h.hm, free_cnt G]
  refine and_congr_right fun ha => and_congr_right fun _ => ?_
  rw [hmc a ha]
  constructor
  · intro k
    injection k with k
    omega
  · intro k
    rw [k]
    rfl
/-- A follower's count, one less. -/
theorem Kn.step (G : Fit n l) {c m : Nat} {T : List Nat} (hO : OrdOk n l out) (hf : free l out c = true) (h : Kn n l out c T M H) (hm : ar l c m = true) (hT : m ∉ T) : ∃ b : Int, M[m]? = some (b + 1) ∧ 0 ≤ b ∧ b ≤ n ∧ m ∉ H ∧
    (b ≠ 0 → Kn n l out c (T ++ [m]) (M.set m b) H) ∧ (b = 0 → ∀ H' : List Nat, H'.Perm (m :: H) → Kn n l out c (T ++ [m]) (M.set m b) H') := by
  have hmn := (G.ar hm).2
  obtain ⟨f1, f2⟩ := (free_iff G).1 hf
  have e := h.mc m hmn
  rw [if_pos ⟨hm, hT⟩] at e
  have hle : cnt n l (out ++ [c]) m ≤ n := by
    unfold cnt
    have := List.countP_le_length (p := fun x => ar l x m && !inL (out ++ [c]) x) (l := List.range n)
    rwa [List.length_range] at this
  have hnH : m ∉ H := fun k => by
    obtain ⟨_, _, k3⟩ := (h.hm m).1 k
    rw [e] at k3
    injection k3 with k3
    omega
  have hnO : m ∉ out ++ [c] := fun k => by
    rcases List.mem_append.1 k with k | k
    · obtain ⟨i, hi, q⟩ := List.mem_iff_getElem.1 k
      obtain ⟨j, _, hj⟩ := hO.bf i m (by rw [List.getElem?_eq_getElem hi, q]) c hm
      exact f1 (get_mem hj)
    · rw [List.mem_singleton] at k
      subst k
      exact f1 (f2 _ hm)
  have hml : m < M.length := by rw [h.ml]; exact hmn
  have hset : ∀ b : Int, ∀ a, (M.set m b)[a]? = if a = m then some b else M[a]? := fun b a => by
    rw [List.getElem?_set]
    by_cases q : m = a
    · rw [if_pos q, if_pos q.symm, if_pos (by omega)]
    · rw [if_neg q, if_neg (fun k => q k.symm)]
  have hmc : ∀ a, a < n → (M.set m ((cnt n l (out ++ [c]) m : Nat) : Int))[a]? = some (((cnt n l (out ++ [c]) a : Nat) : Int) + (if ar l c a = true ∧ a ∉ T ++ [m] then 1 else 0)) := fun a ha => by
    rw [hset]
    by_cases q : a = m
    · subst q
      rw [if_pos rfl, if_neg (fun k => k.2 (List.mem_append_right _ (List.mem_singleton.2 rfl)))]
      rw [Int.add_zero]
    · rw [if_neg q, h.mc a ha]
      have hT2 : a ∈ T ++ [m] ↔ a ∈ T := by rw [List.mem_append, List.mem_singleton]; exact ⟨fun k => k.resolve_right q, .inl⟩
      simp only [hT2]
  refine ⟨cnt n l (out ++ [c]) m, e, by omega, by omega, hnH, fun hb => ⟨by rw [List.length_set]; exact h.ml, hmc, h.hn, fun a => ?_⟩, fun hb H' hp => ⟨by rw [List.length_set]; exact h.ml, hmc, ?_, fun a => ?_⟩⟩
  · rw [h.hm]
    refine and_congr_right fun ha => and_congr_right fun _ => ?_
    rw [hset]
    by_cases q : a = m
    · subst q
      rw [if_pos rfl, e]
      constructor
      · intro k
        injection k with k
        omega
      · intro k
        injection k with k
        exact absurd k hb
    · rw [if_neg q]
  · rw [hp.nodup_iff, List.nodup_cons]
    exact ⟨hnH, h.hn⟩
  · rw [hp.mem_iff, List.mem_cons, h.hm, hset]
    by_cases q : a = m
    · subst q
      rw [if_pos rfl, hb]
      exact ⟨fun _ => ⟨hmn, hnO, rfl⟩, fun _ => .inl rfl⟩
    · rw [if_neg q]
      exact ⟨fun k => k.resolve_left q, .inr⟩
/-- The start: what waits has no count. -/
theorem ka_start (G : Fit n l) {H : List Nat} (hM : Cn n (allF n l) M) (hn : H.Nodup) (hm : ∀ a, a ∈ H ↔ a < n ∧ M[a]? = some 0) : Ka n l [] M H := by
  have hmc : ∀ a, a < n → M[a]? = some ((cnt n l [] a : Nat) : Int) := fun a ha => by rw [hM.2 a ha, cnt_nil ha]
  refine ⟨hM.1, hmc, hn, fun a => ?_⟩
  rw [hm, free_cnt G]
  refine and_congr_right fun ha => ?_
  rw [hmc a ha]
  constructor
  · intro k
    injection k with k
    exact ⟨by simp, by omega⟩
  · rintro ⟨_, k⟩
    rw [k]
    rfl
end
end Go.Proofs.Ytkdfmjhhdfiiiaa.GraP
