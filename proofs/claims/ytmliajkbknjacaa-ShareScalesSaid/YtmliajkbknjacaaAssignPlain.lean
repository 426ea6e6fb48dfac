/-
  The chapter's assignments as plain mathematics: sums over rows and columns, costs, what is least, prices, and tables turned over. No word of the program. Condition: none.
-/
import Derived.Test.YtmliajkbknjacaaMatchPlain
namespace Go.Proofs.Ytmliajkbknjacaa.AsgP
open MchP (rel_le map_nodup PM Mx)
/-! ### Sums -/
def su (f : Nat → Int) : Nat → Int
  | 0 => 0
  | k + 1 => su f k + f k
theorem su_zero (f : Nat → Int) : su f 0 = 0 := rfl
theorem su_succ (f : Nat → Int) (k : Nat) : su f (k + 1) = su f k + f k := rfl
theorem su_congr {f g : Nat → Int} : ∀ {n : Nat}, (∀ i, i < n → f i = g i) → su f n = su g n
  | 0, _ => rfl
  | n + 1, h => by rw [su_succ, su_succ, su_congr fun i q => h i (by omega), h n (by omega)]
theorem su_add (f g : Nat → Int) : ∀ n : Nat, su (fun i => f i + g i) n = su f n + su g n
  | 0 => rfl
  | n + 1 => by rw [su_succ, su_succ, su_succ, su_add f g n]; omega
theorem su_le {f g : Nat → Int} : ∀ {n : Nat}, (∀ i, i < n → f i ≤ g i) → su f n ≤ su g n
  | 0, _ => Int.le_refl _
  | n + 1, h => by
    have := su_le (n := n) fun i q => h i (by omega)
    have := h n (by omega)
    rw [su_succ, su_succ]; omega
theorem su_tight {f g : Nat → Int} : ∀ {n : Nat}, (∀ i, i < n → f i ≤ g i) → su f n = su g n → ∀ i, i < n → f i = g i
  | 0, _, _, _, q => absurd q (Nat.not_lt_zero _)
  | n + 1, h, e, i, q => by
    have h1 := su_le (n := n) fun i q => h i (by omega)
    have h2 := h n (by omega)
    rw [su_succ, su_succ] at e
    by_cases d : i = n
    · subst d; omega
    · exact su_tight (n := n) (fun i q => h i (by omega)) (by omega) i (by omega)
theorem su_const (a : Int) : ∀ n : Nat, su (fun _ => a) n = n * a
  | 0 => by rw [su_zero]; simp
  | n + 1 => by
    rw [su_succ, su_const a n]
    have : ((n + 1 : Nat) : Int) * a = (n : Int) * a + a := by rw [Int.natCast_succ, Int.add_mul, Int.one_mul]
    omega
theorem su_bound {f : Nat → Int} {a b : Int} {n : Nat} (h : ∀ i, i < n → a ≤ f i ∧ f i ≤ b) : n * a ≤ su f n ∧ su f n ≤ n * b := by
  rw [← su_const a n, ← su_const b n]
  exact ⟨su_le fun i q => (h i q).1, su_le fun i q => (h i q).2⟩
/-- A sum that is not 0 at one place only. -/
theorem su_one (p : Nat) (b : Int) : ∀ n : Nat, su (fun i => if i = p then b else 0) n = if p < n then b else 0
  | 0 => by rw [su_zero, if_neg (Nat.not_lt_zero _)]
  | n + 1 => by
    rw [su_succ, su_one p b n]
    by_cases h : p < n
    · rw [if_pos h, if_neg (by omega), if_pos (by omega)]; omega
    · by_cases e : n = p
      · rw [if_neg h, if_pos e, if_pos (by omega)]; omega
      · rw [if_neg h, if_neg e, if_neg (by omega)]; omega
def lsu : List Int → Int
  | [] => 0
  | a :: A => a + lsu A
theorem lsu_perm {A B : List Int} (h : A.Perm B) : lsu A = lsu B := by
  induction h with
  | nil => rfl
  | cons x _ ih => show x + _ = x + _; rw [ih]
  | swap x y l => show y + (x + lsu l) = x + (y + lsu l); omega
  | trans _ _ i1 i2 => exact i1.trans i2
theorem lsu_append : ∀ (A B : List Int), lsu (A ++ B) = lsu A + lsu B
  | [], B => by show lsu B = 0 + lsu B; omega
  | a :: A, B => by show a + lsu (A ++ B) = a + lsu A + lsu B; rw [lsu_append A B]; omega
theorem su_lsu (f : Nat → Int) : ∀ n : Nat, su f n = lsu ((List.range n).map f)
  | 0 => rfl
  | n + 1 => by
    rw [su_succ, su_lsu f n, List.range_succ, List.map_append, lsu_append]
    show _ = _ + (f n + 0)
    omega
theorem perm_of {α : Type} [DecidableEq α] : ∀ (A B : List α), A.Nodup → (∀ a ∈ A, a ∈ B) → A.length = B.length → A.Perm B
  | [], B, _, _, h => by
    cases B with
    | nil => exact List.Perm.nil
    | cons b B => exact absurd h (by simp)
  | a :: A, B, hn, hs, hl => by
    have ha := hs a (List.mem_cons_self ..)
    have h1 := perm_of A (B.erase a) (List.nodup_cons.1 hn).2 (fun x hx => (List.mem_erase_of_ne (by rintro rfl; exact (List.nodup_cons.1 hn).1 hx)).2 (hs x (List.mem_cons_of_mem _ hx))) (by
      rw [List.length_erase_of_mem ha, ← hl, List.length_cons]; rfl)
    exact (h1.cons a).trans (List.perm_cons_erase ha).symm
/-! ### Tables and assignments -/
abbrev Tb := List (List Int)
def ct (c : Tb) (i j : Nat) : Int := (c.getD i []).getD j 0
/-- The column of a row. -/
def cl (l : List Int) (i : Nat) : Nat := (l.getD i 0).toNat
structure IsA (n : Nat) (l : List Int) : Prop where
  len : l.length = n
  rng : ∀ x ∈ l, 0 ≤ x ∧ x < (n : Int)
  nd : l.Nodup
theorem IsA.at {n : Nat} {l : List Int} (h : IsA n l) {i : Nat} (hi : i < n) : 0 ≤ l.getD i 0 ∧ l.getD i 0 < (n : Int) := by
  have hl : i < l.length := by rw [h.len]; exact hi
  rw [List.getD_eq_getElem?_getD, List.getElem?_eq_getElem hl, Option.getD_some]
  exact h.rng _ (List.getElem_mem hl)
theorem IsA.lt {n : Nat} {l : List Int} (h : IsA n l) {i : Nat} (hi : i < n) : cl l i < n := by
  have := h.at hi
  unfold cl
  omega
theorem IsA.inj {n : Nat} {l : List Int} (h : IsA n l) {i j : Nat} (hi : i < n) (hj : j < n) (e : cl l i = cl l j) : i = j := by
  have h1 := h.at hi
  have h2 := h.at hj
  have e2 : l.getD i 0 = l.getD j 0 := by unfold cl at e; omega
  have l1 : i < l.length := by rw [h.len]; exact hi
  have l2 : j < l.length := by rw [h.len]; exact hj
  rw [List.getD_eq_getElem?_getD, List.getD_eq_getElem?_getD, List.getElem?_eq_getElem l1, List.getElem?_eq_getElem l2, Option.getD_some, Option.getD_some] at e2
  exact (List.getElem_inj h.nd).1 e2
/-- Each column once: a sum over the rows' columns is one over all columns. -/
theorem IsA.sum {n : Nat} {l : List Int} (h : IsA n l) (g : Nat → Int) : su (fun i => g (cl l i)) n = su g n := by
  rw [su_lsu, su_lsu]
  have hp : ((List.range n).map (cl l)).Perm (List.range n) := by
    refine perm_of _ _ (map_nodup List.nodup_range fun a ha b hb e => h.inj (List.mem_range.1 ha) (List.mem_range.1 hb) e) (fun x hx => ?_) (by rw [List.length_map])
    obtain ⟨i, hi, rfl⟩ := List.mem_map.1 hx
    exact List.mem_range.2 (h.lt (List.mem_range.1 hi))
  have e : (List.range n).map (fun i => g (cl l i)) = ((List.range n).map (cl l)).map g := by rw [List.map_map]; rfl
  rw [e]
  exact lsu_perm (hp.map g)
/-- The row of a column. -/
theorem IsA.onto {n : Nat} {l : List Int} (h : IsA n l) {j : Nat} (hj : j < n) : ∃ i, i < n ∧ cl l i = j := by
  have h1 := h.sum fun x => if x = j then 1 else 0
  rw [su_one, if_pos hj] at h1
  refine Classical.byContradiction fun hne => ?_
  have h2 : su (fun i => if cl l i = j then (1 : Int) else 0) n = su (fun _ => 0) n := su_congr fun i hi => if_neg fun e => hne ⟨i, hi, e⟩
  rw [h2, su_const] at h1
  omega
def costK (c : Tb) (l : List Int) (k : Nat) : Int := su (fun i => ct c i (cl l i)) k
def cost (c : Tb) (l : List Int) : Int := costK c l c.length
/-- k is not later than l. -/
def Lx (n : Nat) (k l : List Int) : Prop := ∀ i, i < n → (∀ j, j < i → k.getD j 0 = l.getD j 0) → k.getD i 0 ≤ l.getD i 0
/-- k is the least assignment of least cost, m is that cost. -/
structure Bst (c : Tb) (k : List Int) (m : Int) : Prop where
  asg : IsA c.length k
  eq : cost c k = m
  le : ∀ l, IsA c.length l → m ≤ cost c l
  lex : ∀ l, IsA c.length l → cost c l = m → Lx c.length k l
theorem lx_antisymm {n : Nat} {k l : List Int} (hk : k.length = n) (hl : l.length = n) (h1 : Lx n k l) (h2 : Lx n l k) : k = l := by
  have key : ∀ i, i < n → k.getD i 0 = l.getD i 0 := by
    intro i
    induction i using Nat.strongRecOn with
    | ind i ih =>
      intro hi
      have a := h1 i hi fun j q => ih j q (by omega)
      have b := h2 i hi fun j q => (ih j q (by omega)).symm
      omega
  refine List.ext_getElem (hk.trans hl.symm) fun i q1 q2 => ?_
  have := key i (by omega)
  rw [List.getD_eq_getElem?_getD, List.getD_eq_getElem?_getD, List.getElem?_eq_getElem q1, List.getElem?_eq_getElem q2] at this
  exact this
theorem Bst.uniq {c : Tb} {k l : List Int} {m n : Int} (h : Bst c k m) (g : Bst c l n) : k = l ∧ m = n := by
  have e : m = n := by
    have a := h.le l g.asg
    have b := g.le k h.asg
    have := h.eq
    have := g.eq
    omega
  subst e
  exact ⟨lx_antisymm h.asg.len g.asg.len (h.lex l g.asg g.eq) (g.lex k h.asg h.eq), rfl⟩
theorem Bst.empty : Bst [] [] 0 := ⟨⟨rfl, fun _ h => absurd h List.not_mem_nil, List.nodup_nil⟩, rfl, fun _ _ => Int.le_refl _, fun _ _ _ _ hi => absurd hi (Nat.not_lt_zero _)⟩
/-! ### Prices -/
structure Pr (c : Tb) (u v : List Int) : Prop where
  lu : u.length = c.length
  lv : v.length = c.length
  le : ∀ i, i < c.length → ∀ j, j < c.length → u.getD i 0 + v.getD j 0 ≤ ct c i j
def prs (u v : List Int) (n : Nat) : Int := su (fun i => u.getD i 0) n + su (fun i => v.getD i 0) n
theorem Pr.rows {c : Tb} {u v l : List Int} (_ : Pr c u v) (h : IsA c.length l) : su (fun i => u.getD i 0 + v.getD (cl l i) 0) c.length = prs u v c.length := by
  rw [su_add, h.sum fun j => v.getD j 0]
  rfl
/-- No assignment costs less than the sum of prices. -/
theorem Pr.weak {c : Tb} {u v l : List Int} (p : Pr c u v) (h : IsA c.length l) : prs u v c.length ≤ cost c l := by
  rw [← p.rows h]
  exact su_le fun i hi => p.le i hi _ (h.lt hi)
theorem Pr.tight {c : Tb} {u v l : List Int} (p : Pr c u v) (h : IsA c.length l) (e : prs u v c.length = cost c l) : ∀ i, i < c.length → u.getD i 0 + v.getD (cl l i) 0 = ct c i (cl l i) :=
  su_tight (fun i hi => p.le i hi _ (h.lt hi)) ((p.rows h).trans e)
/-- A list all of whose places are tight costs the sum of prices: so it is least. -/
theorem Pr.least {c : Tb} {u v l : List Int} (p : Pr c u v) (h : IsA c.length l) (t : ∀ i, i < c.length → u.getD i 0 + v.getD (cl l i) 0 = ct c i (cl l i)) : cost c l = prs u v c.length := by
  rw [← p.rows h]
  exact (su_congr t).symm
end Go.Proofs.Ytmliajkbknjacaa.AsgP
