/-
  Plain facts of package graph: shortest paths, the least of them. No word of the program. Condition: none.
-/
import Derived.Test.YtkdfmjhhdfiiiaaGraphPlainB
namespace Go.Proofs.Ytkdfmjhhdfiiiaa.GraP
open PairW
/-- Nodes as numbers. -/
def ints (l : List Nat) : List Int := l.map fun x : Nat => (x : Int)
theorem ints_len (l : List Nat) : (ints l).length = l.length := List.length_map ..
theorem ints_app (a b : List Nat) : ints (a ++ b) = ints a ++ ints b := List.map_append
theorem ints_at {l : List Nat} {i c : Nat} (h : l[i]? = some c) : (ints l)[i]? = some (c : Int) := by unfold ints; rw [List.getElem?_map, h]; rfl
theorem ints_drop (l : List Nat) (i : Nat) : ints (l.drop i) = (ints l).drop i := List.map_drop ..
/-- The least node from which the rest of a path of k arcs leads to b. -/
def nx (n : Nat) (l : List Ar) (k a b : Nat) : Nat := ((List.range n).find? fun c => ar l a c && wk n l k c b).getD 0
/-- The least path of k arcs. -/
def pth (n : Nat) (l : List Ar) : Nat → Nat → Nat → List Nat
  | 0, a, _ => [a]
  | k + 1, a, b => a :: pth n l k (nx n l k a b) b
theorem pth_len (n : Nat) (l : List Ar) (b : Nat) : ∀ (k a : Nat), (pth n l k a b).length = k + 1
  | 0, _ => rfl
  | k + 1, a => by
    show (pth n l k (nx n l k a b) b).length + 1 = _
    rw [pth_len n l b k]
theorem nx_spec {n : Nat} {l : List Ar} (G : Fit n l) {a b k : Nat} (h : dst n l a b = some (k + 1)) : nx n l k a b < n ∧ ar l a (nx n l k a b) = true ∧ dst n l (nx n l k a b) b = some k ∧ ∀ j, j < nx n l k a b → (ar l a j && wk n l k j b) = false := by
  obtain ⟨c, h1, h2, h3⟩ := wk_succ.1 (dst_some.1 h).2.1
  cases hf : (List.range n).find? (fun c => ar l a c && wk n l k c b) with
  | none =>
    have := List.find?_eq_none.1 hf c (List.mem_range.2 h1)
    rw [h2, h3] at this
    exact absurd rfl this
  | some d =>
    obtain ⟨h4, h5, h6⟩ := find_range.1 hf
    have e : nx n l k a b = d := by unfold nx; rw [hf]; rfl
    rw [e]
    rw [Bool.and_eq_true] at h5
    exact ⟨h4, h5.1, (dst_step G h h5.1).2 h5.2, h6⟩
/-- A rest of a path. -/
theorem pth_rest {n : Nat} {l : List Ar} (G : Fit n l) {b : Nat} : ∀ {i k a : Nat}, a < n → dst n l a b = some k → i ≤ k → ∃ c, c < n ∧ (pth n l k a b)[i]? = some c ∧ dst n l c b = some (k - i) ∧ (pth n l k a b).drop i = pth n l (k - i) c b
  | 0, k, a, ha, h, _ => by
    cases k with
    | zero => exact ⟨a, ha, rfl, h, rfl⟩
    | succ k => exact ⟨a, ha, rfl, h, rfl⟩
  | i + 1, 0, a, _, _, hi => absurd hi (by omega)
  | i + 1, k + 1, a, ha, h, hi => by
    obtain ⟨h1, h2, h3, _⟩ := nx_spec G h
    obtain ⟨c, k1, k2, k3, k4⟩ := pth_rest G h1 h3 (i := i) (by omega)
    have e : k + 1 - (i + 1) = k - i := by omega
    rw [e]
    exact ⟨c, k1, k2, k3, k4⟩
theorem pth_arc {n : Nat} {l : List Ar} (G : Fit n l) {b i k a c d : Nat} (ha : a < n) (h : dst n l a b = some k) (hi : i + 1 ≤ k) (hc : (pth n l k a b)[i]? = some c) (hd : (pth n l k a b)[i + 1]? = some d) : ar l c d = true := by
  obtain ⟨c', h1, h2, h3, h4⟩ := pth_rest G ha h (i := i) (by omega)
  rw [hc] at h2
  injection h2 with h2
  subst h2
  obtain ⟨j, hj⟩ : ∃ j, k - i = j + 1 := ⟨k - i - 1, by omega⟩
  rw [hj] at h3 h4
  obtain ⟨k1, k2, _, _⟩ := nx_spec G h3
  have e : (pth n l k a b)[i + 1]? = some (nx n l j c b) := by
    have : ((pth n l k a b).drop i)[1]? = some (nx n l j c b) := by
      rw [h4]
      show (pth n l j (nx n l j c b) b)[0]? = _
      cases j <;> rfl
    rwa [List.getElem?_drop] at this
  rw [hd] at e
  injection e with e
  rw [e]
  exact k2
theorem pth_last {n : Nat} {l : List Ar} (G : Fit n l) {b k a : Nat} (ha : a < n) (h : dst n l a b = some k) : (pth n l k a b)[k]? = some b := by
  obtain ⟨c, h1, h2, h3, _⟩ := pth_rest G ha h (i := k) (Nat.le_refl _)
  rw [Nat.sub_self] at h3
  rw [h2, (dst_zero h1).1 h3]
theorem pth_head (n : Nat) (l : List Ar) (b k a : Nat) : (pth n l k a b)[0]? = some a := by cases k <;> rfl
end Go.Proofs.Ytkdfmjhhdfiiiaa.GraP
