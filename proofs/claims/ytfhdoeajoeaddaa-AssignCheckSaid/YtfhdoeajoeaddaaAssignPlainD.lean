/-
  Which tables of costs are refused. No word of the program. Condition: none.
-/
import Derived.Test.YtfhdoeajoeaddaaAssignPlainC
namespace Go.Proofs.Ytfhdoeajoeaddaa.AsgP
def Sqa (c : Tb) : Prop := ∀ r ∈ c, r.length = c.length
def Rga (c : Tb) : Prop := ∀ r ∈ c, ∀ x ∈ r, 0 ≤ x ∧ x ≤ 1099511627776
def chA (c : Tb) : Int := if 16 < c.length then 3 else if c.all (fun r => decide (r.length = c.length)) then (if c.all (fun r => r.all fun x => decide (0 ≤ x ∧ x ≤ 1099511627776)) then 0 else 1) else 2
theorem sqa_iff {c : Tb} : c.all (fun r => decide (r.length = c.length)) = true ↔ Sqa c := by
  rw [List.all_eq_true]
  exact ⟨fun h r hr => of_decide_eq_true (h r hr), fun h r hr => decide_eq_true (h r hr)⟩
theorem rga_iff {c : Tb} : c.all (fun r => r.all fun x => decide (0 ≤ x ∧ x ≤ 1099511627776)) = true ↔ Rga c := by
  rw [List.all_eq_true]
  exact ⟨fun h r hr x hx => of_decide_eq_true (List.all_eq_true.1 (h r hr) x hx), fun h r hr => List.all_eq_true.2 fun x hx => decide_eq_true (h r hr x hx)⟩
theorem chA_full {c : Tb} (h : 16 < c.length) : chA c = 3 := by unfold chA; rw [if_pos h]
theorem chA_form {c : Tb} (h1 : c.length ≤ 16) {i : Nat} {r : List Int} (h3 : c[i]? = some r) (h4 : r.length ≠ c.length) : chA c = 2 := by
  unfold chA
  rw [if_neg (by omega), if_neg fun q => h4 (sqa_iff.1 q r (List.mem_of_getElem? h3))]
theorem chA_range {c : Tb} (h1 : c.length ≤ 16) (h2 : Sqa c) {i j : Nat} {r : List Int} {x : Int} (h3 : c[i]? = some r) (h4 : r[j]? = some x) (h5 : x < 0 ∨ 1099511627776 < x) : chA c = 1 := by
  unfold chA
  rw [if_neg (by omega), if_pos (sqa_iff.2 h2), if_neg fun q => ?_]
  have := rga_iff.1 q r (List.mem_of_getElem? h3) x (List.mem_of_getElem? h4)
  omega
theorem chA_fine {c : Tb} (h1 : c.length ≤ 16) (h2 : Sqa c) (h3 : Rga c) : chA c = 0 := by
  unfold chA
  rw [if_neg (by omega), if_pos (sqa_iff.2 h2), if_pos (rga_iff.2 h3)]
theorem chA_ok {c : Tb} (h : chA c = 0) : c.length ≤ 16 ∧ Sqa c ∧ Rga c := by
  unfold chA at h
  by_cases h1 : 16 < c.length
  · rw [if_pos h1] at h; exact absurd h (by decide)
  · rw [if_neg h1] at h
    by_cases h2 : c.all (fun r => decide (r.length = c.length)) = true
    · rw [if_pos h2] at h
      by_cases h3 : c.all (fun r => r.all fun x => decide (0 ≤ x ∧ x ≤ 1099511627776)) = true
      · exact ⟨by omega, sqa_iff.1 h2, rga_iff.1 h3⟩
      · rw [if_neg h3] at h; exact absurd h (by decide)
    · rw [if_neg h2] at h; exact absurd h (by decide)
theorem ct_of {c : Tb} {i j : Nat} {r : List Int} {x : Int} (h : c[i]? = some r) (h2 : r[j]? = some x) : ct c i j = x := by
  unfold ct
  rw [List.getD_eq_getElem?_getD, List.getD_eq_getElem?_getD, h, Option.getD_some, h2, Option.getD_some]
theorem row_ct {c : Tb} {i j : Nat} {r : List Int} (h : c[i]? = some r) (hj : j < r.length) : r[j]? = some (ct c i j) := by
  rw [ct_of h (List.getElem?_eq_getElem hj)]
  exact List.getElem?_eq_getElem hj
theorem okc_of {c : Tb} (h : Rga c) : Okc c 1099511627776 := by
  intro i j
  unfold ct
  rw [List.getD_eq_getElem?_getD, List.getD_eq_getElem?_getD]
  cases e : c[i]? with
  | none => rw [Option.getD_none, List.getElem?_nil, Option.getD_none]; omega
  | some r =>
    rw [Option.getD_some]
    cases e2 : r[j]? with
    | none => rw [Option.getD_none]; omega
    | some x =>
      rw [Option.getD_some]
      exact h r (List.mem_of_getElem? e) x (List.mem_of_getElem? e2)
theorem rga_mk {c : Tb} (hs : Sqa c) (h : ∀ i, i < c.length → ∀ j, j < c.length → 0 ≤ ct c i j ∧ ct c i j ≤ 1099511627776) : Rga c := by
  intro r hr x hx
  obtain ⟨i, hi, rfl⟩ := List.mem_iff_getElem.1 hr
  obtain ⟨j, hj, rfl⟩ := List.mem_iff_getElem.1 hx
  have e : ct c i j = c[i][j] := ct_of (List.getElem?_eq_getElem hi) (List.getElem?_eq_getElem hj)
  rw [← e]
  exact h i hi j (by rw [← hs _ hr]; exact hj)
/-! ### Which lists are assignments, and what they cost -/
def asgV (n : Nat) (l : List Int) : Bool := decide (l.length = n) && l.all (fun x => decide (0 ≤ x ∧ x < (n : Int))) && decide l.Nodup
theorem asgV_iff {n : Nat} {l : List Int} : asgV n l = true ↔ IsA n l := by
  unfold asgV
  rw [Bool.and_eq_true, Bool.and_eq_true, decide_eq_true_iff, decide_eq_true_iff, List.all_eq_true]
  exact ⟨fun h => ⟨h.1.1, fun x hx => of_decide_eq_true (h.1.2 x hx), h.2⟩, fun h => ⟨⟨h.len, fun x hx => decide_eq_true (h.rng x hx)⟩, h.nd⟩⟩
theorem getD_of {l : List Int} {i : Nat} {x : Int} (h : l[i]? = some x) : l.getD i 0 = x := by
  rw [List.getD_eq_getElem?_getD, h, Option.getD_some]
theorem getD_at {l : List Int} {i : Nat} (h : i < l.length) : l[i]? = some (l.getD i 0) := by
  rw [List.getD_eq_getElem?_getD, List.getElem?_eq_getElem h, Option.getD_some]
theorem isA_mk {n : Nat} {l : List Int} (hl : l.length = n) (h : ∀ a, a < n → (0 ≤ l.getD a 0 ∧ l.getD a 0 < (n : Int)) ∧ ∀ b, b < a → l.getD b 0 ≠ l.getD a 0) : IsA n l := by
  refine ⟨hl, fun x hx => ?_, List.pairwise_iff_getElem.2 fun i j hi hj hij => ?_⟩
  · obtain ⟨i, hi, rfl⟩ := List.mem_iff_getElem.1 hx
    rw [← getD_of (List.getElem?_eq_getElem hi)]
    exact (h i (by omega)).1
  · rw [← getD_of (List.getElem?_eq_getElem hi), ← getD_of (List.getElem?_eq_getElem hj)]
    exact (h j (by omega)).2 i hij
theorem IsA.ne {n : Nat} {l : List Int} (h : IsA n l) {a b : Nat} (ha : a < n) (hb : b < a) : l.getD b 0 ≠ l.getD a 0 := by
  intro e
  have := h.inj (by omega) ha (show cl l b = cl l a by unfold cl; rw [e])
  omega
def coV (c : Tb) (l : List Int) : Int := if chA c = 0 ∧ asgV c.length l = true then cost c l else 0
def coE (c : Tb) (l : List Int) : Int := if chA c = 0 then (if asgV c.length l = true then 0 else 2) else chA c
theorem costK_bound {c : Tb} (h : Rga c) (l : List Int) (k : Nat) : 0 ≤ costK c l k ∧ costK c l k ≤ k * 1099511627776 := by
  have := su_bound (a := 0) (b := 1099511627776) (n := k) fun i _ => okc_of h i (cl l i)
  rw [Int.mul_zero] at this
  exact this
end Go.Proofs.Ytfhdoeajoeaddaa.AsgP
