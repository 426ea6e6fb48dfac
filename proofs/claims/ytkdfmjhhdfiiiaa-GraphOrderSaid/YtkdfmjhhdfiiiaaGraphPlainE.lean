/-
  Plain facts of package graph: followers in order, and a search wave by wave. No word of the program. Condition: none.
-/
import Derived.Test.YtkdfmjhhdfiiiaaGraphPlainC
namespace Go.Proofs.Ytkdfmjhhdfiiiaa.GraP
open PairW
/-! ### Ascending lists -/
theorem asc_ext : ∀ {a b : List Nat}, a.Pairwise (· < ·) → b.Pairwise (· < ·) → (∀ x, x ∈ a ↔ x ∈ b) → a = b
  | [], [], _, _, _ => rfl
  | [], y :: b, _, _, h => absurd ((h y).2 (List.mem_cons_self ..)) (by simp)
  | x :: a, [], _, _, h => absurd ((h x).1 (List.mem_cons_self ..)) (by simp)
  | x :: a, y :: b, ha, hb, h => by
    rw [List.pairwise_cons] at ha hb
    have e : x = y := by
      have h1 := (h x).1 (List.mem_cons_self ..)
      have h2 := (h y).2 (List.mem_cons_self ..)
      rcases List.mem_cons.1 h1 with k | k
      · exact k
      · rcases List.mem_cons.1 h2 with k2 | k2
        · exact k2.symm
        · have := ha.1 y k2
          have := hb.1 x k
          omega
    subst e
    rw [asc_ext ha.2 hb.2 fun z => ?_]
    constructor
    · intro hz
      rcases List.mem_cons.1 ((h z).1 (List.mem_cons_of_mem _ hz)) with k | k
      · have := ha.1 z hz
        omega
      · exact k
    · intro hz
      rcases List.mem_cons.1 ((h z).2 (List.mem_cons_of_mem _ hz)) with k | k
      · have := hb.1 z hz
        omega
      · exact k
/-- The nodes to which arcs lead from a, ascending. -/
def fol (n : Nat) (l : List Ar) (a : Nat) : List Nat := (List.range n).filter (ar l a)
theorem fol_mem {n : Nat} {l : List Ar} {a b : Nat} : b ∈ fol n l a ↔ b < n ∧ ar l a b = true := by unfold fol; rw [List.mem_filter, List.mem_range]
theorem fol_fit {n : Nat} {l : List Ar} (G : Fit n l) {a b : Nat} : b ∈ fol n l a ↔ ar l a b = true := by rw [fol_mem]; exact ⟨fun h => h.2, fun h => ⟨(G.ar h).2, h⟩⟩
theorem fol_asc (n : Nat) (l : List Ar) (a : Nat) : (fol n l a).Pairwise (· < ·) := List.Pairwise.filter _ List.pairwise_lt_range
theorem fol_nodup (n : Nat) (l : List Ar) (a : Nat) : (fol n l a).Nodup := (fol_asc n l a).imp fun h => by omega
theorem fol_len (n : Nat) (l : List Ar) (a : Nat) : (fol n l a).length ≤ n := by
  have := List.length_filter_le (ar l a) (List.range n)
  rwa [List.length_range] at this
theorem fol_same {n : Nat} {l m : List Ar} (h : ∀ p, p ∈ l ↔ p ∈ m) (a : Nat) : fol n l a = fol n m a := by
  refine asc_ext (fol_asc ..) (fol_asc ..) fun x => ?_
  rw [fol_mem, fol_mem, ar_iff, ar_iff, h]
/-! ### Followers by sorted arcs -/
def arLt (p q : Ar) : Prop := p.1 < q.1 ∨ (p.1 = q.1 ∧ p.2 < q.2)
/-- Arcs in order: none is less than an earlier one. -/
def Srt (S : List Ar) : Prop := ∀ i j, i < j → j < S.length → ¬ arLt (at' S j) (at' S i)
theorem take_mem {S : List Ar} {i : Nat} {p : Ar} : p ∈ S.take i ↔ ∃ j, j < i ∧ j < S.length ∧ at' S j = p := by
  rw [List.mem_take_iff_getElem]
  constructor
  · rintro ⟨j, hj, rfl⟩
    exact ⟨j, by omega, by omega, at_get (by omega)⟩
  · rintro ⟨j, h1, h2, rfl⟩
    exact ⟨j, by omega, (at_get h2).symm⟩
/-- An arc that stands there already. -/
theorem fol_again {n : Nat} {S : List Ar} {i : Nat} (hi : i + 1 < S.length) (h : at' S (i + 1) = at' S i) (x : Nat) : fol n (S.take (i + 1 + 1)) x = fol n (S.take (i + 1)) x := by
  refine fol_same (fun p => ?_) x
  rw [take_mem, take_mem]
  constructor
  · rintro ⟨j, h1, h2, rfl⟩
    by_cases e : j = i + 1
    · subst e
      exact ⟨i, by omega, by omega, h.symm⟩
    · exact ⟨j, by omega, h2, rfl⟩
  · rintro ⟨j, h1, h2, rfl⟩
    exact ⟨j, by omega, h2, rfl⟩
theorem fol_other {n : Nat} {S : List Ar} {i u v x : Nat} (hi : i < S.length) (h : at' S i = ((u : Int), (v : Int))) (hx : x ≠ u) : fol n (S.take (i + 1)) x = fol n (S.take i) x := by
  refine asc_ext (fol_asc ..) (fol_asc ..) fun y => ?_
  rw [fol_mem, fol_mem, ar_iff, ar_iff, take_at hi, List.mem_append, List.mem_singleton, h]
  refine and_congr Iff.rfl ⟨fun k => k.resolve_right fun e => hx (by injection e; omega), .inl⟩
theorem fol_more {n : Nat} {S : List Ar} {i u v : Nat} (hS : Srt S) (hi : i < S.length) (h : at' S i = ((u : Int), (v : Int))) (hv : v < n) (hne : i = 0 ∨ at' S i ≠ at' S (i - 1)) : fol n (S.take (i + 1)) u = fol n (S.take i) u ++ [v] := by
  have hlt : ∀ y, y ∈ fol n (S.take i) u → y < v := fun y hy => by
    rw [fol_mem, ar_iff, take_mem] at hy
    obtain ⟨_, j, h1, h2, h3⟩ := hy
    have k1 := hS j i h1 hi
    rw [h3, h] at k1
    have k1 : ¬ ((v : Int) < y) := fun c => k1 (.inr ⟨rfl, c⟩)
    rcases hne with h0 | h0
    · exact absurd h1 (by omega)
    · rcases Nat.lt_or_ge y v with c | c
      · exact c
      · obtain rfl : y = v := by omega
        have hj : j < i - 1 ∨ j = i - 1 := by omega
        rcases hj with hj | hj
        · have k2 := hS j (i - 1) hj (by omega)
          have k3 := hS (i - 1) i (by omega) hi
          rw [h3] at k2
          rw [h] at k3 h0
          obtain ⟨a, b⟩ := at' S (i - 1)
          unfold arLt at k2 k3
          simp only at k2 k3
          exact absurd (Prod.ext (by simp only; omega) (by simp only; omega)) h0
        · rw [hj] at h3
          rw [h, h3] at h0
          exact absurd rfl h0
  refine asc_ext (fol_asc ..) ?_ fun y => ?_
  · rw [List.pairwise_append]
    exact ⟨fol_asc .., List.pairwise_singleton .., fun y hy z hz => by rw [List.mem_singleton] at hz; subst hz; exact hlt y hy⟩
  · rw [List.mem_append, List.mem_singleton, fol_mem, fol_mem, ar_iff, ar_iff, take_at hi, List.mem_append, List.mem_singleton, h]
    constructor
    · rintro ⟨h1, h2 | h2⟩
      · exact .inl ⟨h1, h2⟩
      · injection h2 with _ h2
        exact .inr (by omega)
    · rintro (⟨h1, h2⟩ | rfl)
      · exact ⟨h1, .inl h2⟩
      · exact ⟨hv, .inr rfl⟩
/-! ### The search -/
/-- A search that has found Q, each node by the one before it (K: where that stands), is at the p-th of them and has looked at its followers T. -/
structure Sc (n : Nat) (l : List Ar) (st Q K : List Nat) (B : List Int) (p : Nat) (T : List Nat) : Prop where
  nd : Q.Nodup
  lt : ∀ x ∈ Q, x < n
  kl : K.length = Q.length
  bl : B.length = n
  pre : ∀ i x : Nat, st[i]? = some x → Q[i]? = some x
  stl : st.length ≤ Q.length
  un : ∀ x, x < n → x ∉ Q → B[x]? = some (-1)
  bs : ∀ x ∈ st, B[x]? = some (x : Int)
  bk : ∀ i x : Nat, st.length ≤ i → Q[i]? = some x → ∃ k y : Nat, K[i]? = some k ∧ k < i ∧ Q[k]? = some y ∧ B[x]? = some (y : Int) ∧ ar l y x = true ∧ (k < p ∨ (k = p ∧ x ∈ T))
  mo : ∀ i j x y k m : Nat, st.length ≤ i → i < j → Q[i]? = some x → Q[j]? = some y → K[i]? = some k → K[j]? = some m → k < m ∨ (k = m ∧ x < y)
  sc : ∀ i u v : Nat, Q[i]? = some u → ar l u v = true → (i < p ∨ (i = p ∧ v ∈ T)) → ∃ j : Nat, Q[j]? = some v ∧ (j < st.length ∨ ∃ k : Nat, K[j]? = some k ∧ k ≤ i)
  tp : ∀ u : Nat, Q[p]? = some u → ∀ x ∈ T, ∀ c, c < x → ar l u c = true → c ∈ T
section
variable {n : Nat} {l : List Ar} {st Q K T : List Nat} {B : List Int} {p : Nat}
theorem get_mem {α : Type} {Q : List α} {i : Nat} {x : α} (h : Q[i]? = some x) : x ∈ Q := List.mem_of_getElem? h
theorem get_lt {α : Type} {Q : List α} {i : Nat} {x : α} (h : Q[i]? = some x) : i < Q.length := (List.getElem?_eq_some_iff.1 h).1
theorem get_one (hn : Q.Nodup) {i j x : Nat} (h : Q[i]? = some x) (k : Q[j]? = some x) : i = j := by
  obtain ⟨h1, h2⟩ := List.getElem?_eq_some_iff.1 h
  obtain ⟨h3, h4⟩ := List.getElem?_eq_some_iff.1 k
  exact (List.getElem_inj hn).1 (h2.trans h4.symm)
theorem get_app {α : Type} {Q : List α} {v : α} {i : Nat} {x : α} : (Q ++ [v])[i]? = some x ↔ (Q[i]? = some x) ∨ (i = Q.length ∧ x = v) := by
  rw [List.getElem?_append]
  split
  · rename_i h
    exact ⟨.inl, fun k => k.resolve_right fun e => by omega⟩
  · rename_i h
    rw [List.getElem?_eq_none (l := Q) (by omega)]
    by_cases e : i = Q.length
    · subst e
      simp [eq_comm]
    · rw [List.getElem?_eq_none (by simp; omega)]
      simp [e]
/-- What is not -1 has been found. -/
theorem Sc.found (h : Sc n l st Q K B p T) {x : Nat} {b : Int} (hx : x < n) (hb : B[x]? = some b) (hne : b ≠ -1) : x ∈ Q := by
  rcases Classical.em (x ∈ Q) with c | c
  · exact c
  · have := h.un x hx c
    rw [hb] at this
    injection this with this
    exact absurd this hne
theorem Sc.mark (h : Sc n l st Q K B p T) {x : Nat} (hx : x ∈ Q) : ∃ y : Nat, B[x]? = some (y : Int) := by
  obtain ⟨i, hi, e⟩ := List.mem_iff_getElem.1 hx
  have e : Q[i]? = some x := by rw [List.getElem?_eq_getElem hi, e]
  rcases Nat.lt_or_ge i st.length with c | c
  · have h1 := h.pre i _ (List.getElem?_eq_getElem c)
    rw [e] at h1
    injection h1 with h1
    exact ⟨x, h.bs x (by rw [h1]; exact List.getElem_mem c)⟩
  · obtain ⟨k, y, _, _, _, h1, _⟩ := h.bk i x c e
    exact ⟨y, h1⟩
theorem Sc.new (h : Sc n l st Q K B p T) {x : Nat} (hb : B[x]? = some (-1)) : x ∉ Q := fun hx => by
  obtain ⟨y, hy⟩ := h.mark hx
  rw [hb] at hy
  injection hy with hy
  omega
theorem sc_start (hn : st.Nodup) (hl : ∀ x ∈ st, x < n) (hb : B.length = n) (h1 : ∀ x, x < n → x ∉ st → B[x]? = some (-1)) (h2 : ∀ x ∈ st, B[x]? = some (x : Int)) : Sc n l st st st B 0 [] where
  nd := hn
  lt := hl
  kl := rfl
  bl := hb
  pre i x h := h
  stl := Nat.le_refl _
  un := h1
  bs := h2
  bk i x h k := absurd (get_lt k) (by omega)
  mo i j x y k m h1 h2 h3 _ _ _ := absurd (get_lt h3) (by omega)
  sc i u v _ _ h := by
    rcases h with h | ⟨_, h⟩
    · omega
    · cases h
  tp u h x hx := by cases hx
theorem Sc.skip (h : Sc n l st Q K B p T) {v : Nat} {b : Int} (hv : v < n) (hb : B[v]? = some b) (hne : b ≠ -1) (hT : ∀ u : Nat, Q[p]? = some u → ∀ c, c < v → ar l u c = true → c ∈ T) : Sc n l st Q K B p (T ++ [v]) where
  nd := h.nd
  lt := h.lt
  kl := h.kl
  bl := h.bl
  pre := h.pre
  stl := h.stl
  un := h.un
  bs := h.bs
  bk i x h1 h2 := by
    obtain ⟨k, y, a1, a2, a3, a4, a5, a6⟩ := h.bk i x h1 h2
    exact ⟨k, y, a1, a2, a3, a4, a5, a6.imp id fun ⟨e, k⟩ => ⟨e, List.mem_append_left _ k⟩⟩
  mo := h.mo
  sc i u v' h1 h2 h3 := by
    rcases h3 with h3 | ⟨h3, h4⟩
    · exact h.sc i u v' h1 h2 (.inl h3)
    · rcases List.mem_append.1 h4 with h5 | h5
      · exact h.sc i u v' h1 h2 (.inr ⟨h3, h5⟩)
      · rw [List.mem_singleton] at h5
        subst h5
        obtain ⟨j, hj, e⟩ := List.mem_iff_getElem.1 (h.found hv hb hne)
        have e : Q[j]? = some v' := by rw [List.getElem?_eq_getElem hj, e]
        rcases Nat.lt_or_ge j st.length with c | c
        · exact ⟨j, e, .inl c⟩
        · obtain ⟨k, y, a1, _, _, _, _, a6⟩ := h.bk j v' c e
          exact ⟨j, e, .inr ⟨k, a1, by omega⟩⟩
  tp u h1 x hx c hc ha := by
    rcases List.mem_append.1 hx with h2 | h2
    · exact List.mem_append_left _ (h.tp u h1 x h2 c hc ha)
    · rw [List.mem_singleton] at h2
      subst h2
      exact List.mem_append_left _ (hT u h1 c hc ha)
theorem Sc.add (h : Sc n l st Q K B p T) {u v : Nat} (hp : Q[p]? = some u) (huv : ar l u v = true) (hv : v < n) (hb : B[v]? = some (-1)) (hT : ∀ c, c < v → ar l u c = true → c ∈ T) (hT2 : ∀ x ∈ T, x < v) : Sc n l st (Q ++ [v]) (K ++ [p]) (B.set v (u : Int)) p (T ++ [v]) := by
  have hnew := h.new hb
  have hpl := get_lt hp
  have hvb : v < B.length := by rw [h.bl]; exact hv
  have hset : ∀ x, x ≠ v → (B.set v (u : Int))[x]? = B[x]? := fun x e => by rw [List.getElem?_set, if_neg (fun k => e k.symm)]
  have hsv : (B.set v (u : Int))[v]? = some (u : Int) := by rw [List.getElem?_set, if_pos rfl, if_pos hvb]
  have hst : ∀ x ∈ st, x ∈ Q := fun x hx => by
    obtain ⟨i, hi, e⟩ := List.mem_iff_getElem.1 hx
    exact get_mem (h.pre i x (by rw [List.getElem?_eq_getElem hi, e]))
  refine { nd := ?_, lt := ?_, kl := by rw [List.length_append, List.length_append, h.kl]; rfl, bl := by rw [List.length_set]; exact h.bl, pre := fun i x k => get_app.2 (.inl (h.pre i x k)), stl := by rw [List.length_append]; have := h.stl; omega, un := ?_, bs := ?_, bk := ?_, mo := ?_, sc := ?_, tp := ?_ }
  · rw [List.nodup_append]
    exact ⟨h.nd, by simp, fun a ha b hb => by rw [List.mem_singleton] at hb; subst hb; exact fun e => hnew (e ▸ ha)⟩
  · intro x hx
    rcases List.mem_append.1 hx with h1 | h1
    · exact h.lt x h1
    · rw [List.mem_singleton] at h1
      omega
  · intro x hx hno
    rw [List.mem_append, List.mem_singleton] at hno
    rw [hset x (fun e => hno (.inr e))]
    exact h.un x hx fun k => hno (.inl k)
  · intro x hx
    rw [hset x (fun e => hnew (e ▸ hst x hx))]
    exact h.bs x hx
  · intro i x h1 h2
    rcases get_app.1 h2 with h3 | ⟨rfl, rfl⟩
    · obtain ⟨k, y, a1, a2, a3, a4, a5, a6⟩ := h.bk i x h1 h3
      refine ⟨k, y, get_app.2 (.inl a1), a2, get_app.2 (.inl a3), ?_, a5, a6.imp id fun ⟨e, k⟩ => ⟨e, List.mem_append_left _ k⟩⟩
      rw [hset x (fun e => hnew (e ▸ get_mem h3))]
      exact a4
    · exact ⟨p, u, get_app.2 (.inr ⟨h.kl.symm, rfl⟩), hpl, get_app.2 (.inl hp), hsv, huv, .inr ⟨rfl, List.mem_append_right _ (List.mem_singleton.2 rfl)⟩⟩
  · intro i j x y k m h1 h2 h3 h4 h5 h6
    rcases get_app.1 h4 with h4 | ⟨rfl, rfl⟩
    · have hj := get_lt h4
      rcases get_app.1 h3 with h3 | ⟨rfl, rfl⟩
      · rcases get_app.1 h5 with h5 | ⟨e, _⟩
        · rcases get_app.1 h6 with h6 | ⟨e, _⟩
          · exact h.mo i j x y k m h1 h2 h3 h4 h5 h6
          · rw [h.kl] at e; omega
        · rw [h.kl] at e; omega
      · omega
    · rcases get_app.1 h3 with h3 | ⟨rfl, _⟩
      · have hi := get_lt h3
        obtain ⟨k', y', a1, _, _, _, _, a6⟩ := h.bk i x h1 h3
        rcases get_app.1 h5 with h5 | ⟨e, _⟩
        · rw [a1] at h5
          injection h5 with h5
          subst h5
          rcases get_app.1 h6 with h6 | ⟨_, rfl⟩
          · have := get_lt h6
            rw [h.kl] at this
            omega
          · rcases a6 with a6 | ⟨a6, a7⟩
            · exact .inl a6
            · exact .inr ⟨a6, hT2 x a7⟩
        · rw [h.kl] at e; omega
      · omega
  · intro i a v' h1 h2 h3
    rcases get_app.1 h1 with h1 | ⟨rfl, rfl⟩
    · have old : (i < p ∨ (i = p ∧ v' ∈ T)) → ∃ j, (Q ++ [v])[j]? = some v' ∧ (j < st.length ∨ ∃ k, (K ++ [p])[j]? = some k ∧ k ≤ i) := fun h3 => by
        obtain ⟨j, k1, k2⟩ := h.sc i a v' h1 h2 h3
        exact ⟨j, get_app.2 (.inl k1), k2.imp id fun ⟨k, k3, k4⟩ => ⟨k, get_app.2 (.inl k3), k4⟩⟩
      rcases h3 with h3 | ⟨h3, h4⟩
      · exact old (.inl h3)
      · rcases List.mem_append.1 h4 with h5 | h5
        · exact old (.inr ⟨h3, h5⟩)
        · rw [List.mem_singleton] at h5
          exact ⟨Q.length, get_app.2 (.inr ⟨rfl, h5⟩), .inr ⟨p, get_app.2 (.inr ⟨h.kl.symm, rfl⟩), by omega⟩⟩
    · omega
  · intro a h1 x hx c hc ha
    rcases get_app.1 h1 with h1 | ⟨e, _⟩
    · rw [hp] at h1
      injection h1 with h1
      subst h1
      rcases List.mem_append.1 hx with h2 | h2
      · exact List.mem_append_left _ (h.tp u hp x h2 c hc ha)
      · rw [List.mem_singleton] at h2
        subst h2
        exact List.mem_append_left _ (hT c hc ha)
    · omega
theorem Sc.next (h : Sc n l st Q K B p T) {u : Nat} (hp : Q[p]? = some u) (hT : ∀ v, ar l u v = true → v ∈ T) : Sc n l st Q K B (p + 1) [] where
  nd := h.nd
  lt := h.lt
  kl := h.kl
  bl := h.bl
  pre := h.pre
  stl := h.stl
  un := h.un
  bs := h.bs
  bk i x h1 h2 := by
    obtain ⟨k, y, a1, a2, a3, a4, a5, a6⟩ := h.bk i x h1 h2
    exact ⟨k, y, a1, a2, a3, a4, a5, .inl (by omega)⟩
  mo := h.mo
  sc i a v h1 h2 h3 := by
    rcases h3 with h3 | ⟨_, h3⟩
    · refine h.sc i a v h1 h2 ?_
      by_cases e : i = p
      · subst e
        rw [hp] at h1
        injection h1 with h1
        subst h1
        exact .inr ⟨rfl, hT v h2⟩
      · exact .inl (by omega)
    · cases h3
  tp u h x hx := by cases hx
/-- What is found is reached. -/
theorem Sc.sound (G : Fit n l) (h : Sc n l st Q K B p T) : ∀ (i x : Nat), Q[i]? = some x → ∃ s ∈ st, rch n l s x = true := fun i => by
  induction i using Nat.strongRecOn with
  | ind i ih =>
    intro x hx
    rcases Nat.lt_or_ge i st.length with c | c
    · have h1 := h.pre i _ (List.getElem?_eq_getElem c)
      rw [hx] at h1
      injection h1 with h1
      exact ⟨st[i], List.getElem_mem c, by rw [← h1]; exact rch_refl (h.lt x (get_mem hx))⟩
    · obtain ⟨k, y, _, a2, a3, _, a5, _⟩ := h.bk i x c hx
      obtain ⟨s, hs, hr⟩ := ih k a2 y a3
      have hsn : s < n := by
        obtain ⟨j, hj, e⟩ := List.mem_iff_getElem.1 hs
        exact h.lt s (get_mem (h.pre j s (by rw [List.getElem?_eq_getElem hj, e])))
      exact ⟨s, hs, rch_trans G hsn (G.ar a5).1 hr (rch_arc G a5)⟩
/-- Behind the last one, all that is reached is found. -/
theorem Sc.whole (G : Fit n l) (h : Sc n l st Q K B p []) (hp : Q.length ≤ p) {s x : Nat} (hs : s ∈ st) (hr : rch n l s x = true) : x ∈ Q := by
  have hsq : s ∈ Q := by
    obtain ⟨j, hj, e⟩ := List.mem_iff_getElem.1 hs
    exact get_mem (h.pre j s (by rw [List.getElem?_eq_getElem hj, e]))
  have hgo : ∀ k y, y ∈ Q → wk n l k y x = true → x ∈ Q := fun k => by
    induction k with
    | zero =>
      intro y hy hw
      rw [wk_zero] at hw
      rwa [← hw]
    | succ k ih =>
      intro y hy hw
      obtain ⟨c, _, h1, h2⟩ := wk_succ.1 hw
      obtain ⟨i, hi, e⟩ := List.mem_iff_getElem.1 hy
      obtain ⟨j, h3, _⟩ := h.sc i y c (by rw [List.getElem?_eq_getElem hi, e]) h1 (.inl (by omega))
      exact ih c (get_mem h3) h2
  obtain ⟨k, hk⟩ := (rch_iff G (h.lt s hsq)).1 hr
  exact hgo k s hsq hk
end
/-! ### Paths -/
inductive Dp (K : List Nat) : Nat → Nat → Prop
  | z : Dp K 0 0
  | s {i k d : Nat} : 0 < i → K[i]? = some k → Dp K k d → Dp K i (d + 1)
inductive Up (K : List Nat) (e : Nat) : Nat → Nat → Prop
  | z : Up K e e 0
  | s {i j r : Nat} : 0 < j → K[j]? = some i → Up K e j r → Up K e i (r + 1)
section
variable {n : Nat} {l : List Ar} {Q K T : List Nat} {B : List Int} {p a b : Nat}
theorem Dp.up {i d e r : Nat} (h : Dp K i d) : Up K e i r → Up K e 0 (d + r) := by
  induction h generalizing r with
  | z => intro u; rw [Nat.zero_add]; exact u
  | s h1 h2 _ ih =>
    intro u
    have := ih (.s h1 h2 u)
    rwa [show ∀ d : Nat, d + (r + 1) = d + 1 + r from fun d => by omega] at this
theorem Sc.dp (h : Sc n l [a] Q K B p T) : ∀ i x : Nat, Q[i]? = some x → ∃ d, Dp K i d := fun i => by
  induction i using Nat.strongRecOn with
  | ind i ih =>
    intro x hx
    by_cases c : i = 0
    · subst c; exact ⟨0, .z⟩
    · obtain ⟨k, y, a1, a2, a3, _⟩ := h.bk i x (by simp; omega) hx
      obtain ⟨d, hd⟩ := ih k a2 y a3
      exact ⟨d + 1, .s (by omega) a1 hd⟩
theorem Sc.par (h : Sc n l [a] Q K B p T) {i k x : Nat} (hi : 0 < i) (hx : Q[i]? = some x) (hk : K[i]? = some k) : k < i ∧ ∃ y, Q[k]? = some y ∧ B[x]? = some (y : Int) ∧ ar l y x = true ∧ (k < p ∨ (k = p ∧ x ∈ T)) := by
  obtain ⟨k', y, a1, a2, a3, a4, a5, a6⟩ := h.bk i x (by simp; omega) hx
  rw [hk] at a1
  injection a1 with a1
  subst a1
  exact ⟨a2, y, a3, a4, a5, a6⟩
theorem Sc.at (h : Sc n l [a] Q K B p T) {i k : Nat} (hk : K[i]? = some k) : ∃ x, Q[i]? = some x := by
  have := get_lt hk
  rw [h.kl] at this
  exact ⟨Q[i], List.getElem?_eq_getElem this⟩
/-- Parents stand in the order of their children. -/
theorem Sc.mono (h : Sc n l [a] Q K B p T) {i j k m : Nat} (hi : 0 < i) (hij : i ≤ j) (h1 : K[i]? = some k) (h2 : K[j]? = some m) : k ≤ m := by
  by_cases e : i = j
  · subst e
    rw [h1] at h2
    injection h2 with h2
    omega
  · obtain ⟨x, hx⟩ := h.at h1
    obtain ⟨y, hy⟩ := h.at h2
    rcases h.mo i j x y k m (by simp; omega) (by omega) hx hy h1 h2 with c | c <;> omega
theorem Sc.deep (h : Sc n l [a] Q K B p T) : ∀ {d e i j : Nat}, Dp K i d → Dp K j e → i ≤ j → d ≤ e
  | 0, e, _, _, _, _, _ => Nat.zero_le _
  | d + 1, e, i, j, hd, he, hij => by
    cases hd with
    | s a1 a2 a3 =>
      cases he with
      | z => omega
      | s b1 b2 b3 => exact Nat.succ_le_succ (h.deep a3 b3 (h.mono a1 hij a2 b2))
theorem Sc.walk (G : Fit n l) (h : Sc n l [a] Q K B p T) : ∀ {d i x : Nat}, Dp K i d → Q[i]? = some x → wk n l d a x = true
  | 0, i, x, hd, hx => by
    cases hd
    have := h.pre 0 a rfl
    rw [hx] at this
    injection this with this
    exact wk_zero.2 this.symm
  | d + 1, i, x, hd, hx => by
    cases hd with
    | s a1 a2 a3 =>
      obtain ⟨_, y, b1, _, b3, _⟩ := h.par a1 hx a2
      exact wk_more G (h.walk G a3 b1) b3
theorem Sc.upwalk (G : Fit n l) (h : Sc n l [a] Q K B p T) {e : Nat} (hb : Q[e]? = some b) : ∀ {r i x : Nat}, Up K e i r → Q[i]? = some x → wk n l r x b = true
  | 0, i, x, hd, hx => by
    cases hd
    rw [hb] at hx
    injection hx with hx
    exact wk_zero.2 hx.symm
  | r + 1, i, x, hd, hx => by
    cases hd with
    | s a1 a2 a3 =>
      obtain ⟨y, hy⟩ := h.at a2
      obtain ⟨_, x', b1, _, b3, _⟩ := h.par a1 hy a2
      rw [hx] at b1
      injection b1 with b1
      subst b1
      exact wk_succ.2 ⟨y, h.lt y (get_mem hy), b3, h.upwalk G hb a3 hy⟩
/-- No node found ahead of the path's leads to its end as fast. -/
theorem Sc.ahead (G : Fit n l) (h : Sc n l [a] Q K B p T) {e : Nat} (hb : Q[e]? = some b) : ∀ {r i ic c : Nat}, Up K e i r → ic < i → Q[ic]? = some c → wk n l r c b = true → False
  | 0, i, ic, c, hu, hlt, hc, hw => by
    cases hu
    rw [wk_zero] at hw
    subst hw
    have := get_one h.nd hb hc
    omega
  | r + 1, i, ic, c, hu, hlt, hc, hw => by
    cases hu with
    | s a1 a2 a3 =>
      rename_i j
      obtain ⟨y, hy⟩ := h.at a2
      obtain ⟨_, _, _, _, _, b4⟩ := h.par a1 hy a2
      obtain ⟨c', _, h1, h2⟩ := wk_succ.1 hw
      obtain ⟨ic', h3, h4⟩ := h.sc ic c c' hc h1 (.inl (by omega))
      refine h.ahead G hb a3 (ic := ic') (Nat.lt_of_not_le fun hle => ?_) h3 h2
      rcases h4 with h4 | ⟨k, h4, h5⟩
      · simp at h4; omega
      · have := h.mono a1 hle a2 h4
        omega
/-- The path by which a node was found is the least of the shortest ones. -/
theorem Sc.chain (G : Fit n l) (h : Sc n l [a] Q K B p T) {e : Nat} (hb : Q[e]? = some b) : ∀ {r i z : Nat}, Up K e i r → Q[i]? = some z → dst n l z b = some r →
    ∀ t, t < r → ∃ x y : Nat, (pth n l r z b)[t]? = some x ∧ (pth n l r z b)[t + 1]? = some y ∧ B[y]? = some (x : Int)
  | 0, i, z, hu, hz, hd, t, ht => absurd ht (Nat.not_lt_zero _)
  | r + 1, i, z, hu, hz, hd, t, ht => by
    cases hu with
    | s a1 a2 a3 =>
      rename_i j
      obtain ⟨y, hy⟩ := h.at a2
      obtain ⟨b0, z', b1, b2, b3, b4⟩ := h.par a1 hy a2
      rw [hz] at b1
      injection b1 with b1
      subst b1
      have hwy := h.upwalk G hb a3 hy
      have hdy := (dst_step G hd b3).2 hwy
      obtain ⟨c1, c2, c3, c4⟩ := nx_spec G hd
      have hnx : nx n l r z b = y := by
        rcases Nat.lt_trichotomy (nx n l r z b) y with c | c | c
        · exfalso
          obtain ⟨cc, hcc⟩ : ∃ cc, nx n l r z b = cc := ⟨_, rfl⟩
          rw [hcc] at c c1 c2 c3
          have hsc : i < p ∨ (i = p ∧ cc ∈ T) := by
            rcases b4 with b4 | ⟨b4, b5⟩
            · exact .inl b4
            · subst b4
              exact .inr ⟨rfl, h.tp z hz y b5 cc c c2⟩
          obtain ⟨ic, k1, k2⟩ := h.sc i z cc hz c2 hsc
          refine h.ahead G hb a3 (ic := ic) (Nat.lt_of_not_le fun hle => ?_) k1 (dst_some.1 c3).2.1
          by_cases e1 : j = ic
          · subst e1
            rw [hy] at k1
            injection k1 with k1
            omega
          · rcases k2 with k2 | ⟨k, k2, k3⟩
            · simp at k2; omega
            · rcases h.mo j ic y cc i k (by simp; omega) (by omega) hy k1 a2 k2 with q | q <;> omega
        · exact c
        · have := c4 y c
          rw [b3, hwy] at this
          cases this
      have hp : pth n l (r + 1) z b = z :: pth n l r y b := by
        show z :: pth n l r (nx n l r z b) b = _
        rw [hnx]
      rw [hp]
      cases t with
      | zero => exact ⟨z, y, rfl, pth_head n l b r y, b2⟩
      | succ t => exact h.chain G hb a3 hy hdy t (by omega)
theorem Sc.dist (G : Fit n l) (h : Sc n l [a] Q K B p T) {e d : Nat} (hb : Q[e]? = some b) (hd : Dp K e d) : dst n l a b = some d := by
  have ha : a < n := h.lt a (get_mem (h.pre 0 a rfl))
  refine dst_of G ha (h.walk G hd hb) fun m hm => Bool.eq_false_iff.2 fun hw => ?_
  have hlow : ∀ m x, m < d → wk n l m a x = true → ∃ i e', Q[i]? = some x ∧ Dp K i e' ∧ e' ≤ m := fun m => by
    induction m with
    | zero =>
      intro x _ hw
      rw [wk_zero] at hw
      subst hw
      exact ⟨0, 0, h.pre 0 _ rfl, .z, Nat.le_refl _⟩
    | succ m ih =>
      intro x hm hw
      obtain ⟨c, _, h1, h2⟩ := wk_last G ha hw
      obtain ⟨i, e', h3, h4, h5⟩ := ih c (by omega) h1
      cases hd with
      | z => omega
      | @s _ kb d' a1 a2 a3 =>
        obtain ⟨_, _, _, _, _, b4⟩ := h.par a1 hb a2
        have hik : i < kb := Nat.lt_of_not_le fun hle => by
          have := h.deep a3 h4 hle
          omega
        obtain ⟨j, h6, h7⟩ := h.sc i c x h3 h2 (.inl (by omega))
        by_cases e0 : j = 0
        · subst e0
          exact ⟨0, 0, h6, .z, Nat.zero_le _⟩
        · rcases h7 with h7 | ⟨k, h7, h8⟩
          · simp at h7; omega
          · obtain ⟨y, hy, _⟩ := (h.par (by omega) h6 h7).2
            obtain ⟨dk, hdk⟩ := h.dp k y hy
            have := h.deep hdk h4 h8
            exact ⟨j, dk + 1, h6, .s (by omega) h7 hdk, by omega⟩
  obtain ⟨i, e', h1, h2, h3⟩ := hlow m b hm hw
  obtain rfl := get_one h.nd hb h1
  have := h.deep hd h2 (Nat.le_refl _)
  omega
theorem Sc.path (G : Fit n l) (h : Sc n l [a] Q K B p T) (hb : b ∈ Q) : ∃ k, dst n l a b = some k ∧ ∀ t, t < k → ∃ x y : Nat, (pth n l k a b)[t]? = some x ∧ (pth n l k a b)[t + 1]? = some y ∧ B[y]? = some (x : Int) ∧ y ≠ a := by
  obtain ⟨e, he, hq⟩ := List.mem_iff_getElem.1 hb
  have hq : Q[e]? = some b := by rw [List.getElem?_eq_getElem he, hq]
  obtain ⟨d, hd⟩ := h.dp e b hq
  have hdist := h.dist G hq hd
  have ha0 := h.pre 0 a rfl
  have ha : a < n := h.lt a (get_mem ha0)
  refine ⟨d, hdist, fun t ht => ?_⟩
  obtain ⟨x, y, h1, h2, h3⟩ := h.chain G hq (hd.up .z) ha0 hdist t (by omega)
  refine ⟨x, y, h1, h2, h3, fun e => ?_⟩
  obtain ⟨c, k1, k2, k3, _⟩ := pth_rest G ha hdist (i := t + 1) (by omega)
  have h2' : (pth n l d a b)[t + 1]? = some y := h2
  rw [k2] at h2'
  injection h2' with h2'
  subst h2'
  subst e
  rw [hdist] at k3
  injection k3 with k3
  omega
end
end Go.Proofs.Ytkdfmjhhdfiiiaa.GraP
