/-
  The chapter's examples reckoned. No word of the program. Condition: none.
-/
import Derived.Test.YtfhdoeajoeaddaaAssignPlainD
namespace Go.Proofs.Ytfhdoeajoeaddaa.AsgP
def tA : Tb := [[4, 1, 3], [2, 0, 5], [3, 2, 2]]
def tB : Tb := [[1, 1], [1, 1]]
def tC : Tb := [[-1, 2], [3]]
theorem isA3 {l : List Int} (h : IsA 3 l) : l ∈ [[0, 1, 2], [0, 2, 1], [1, 0, 2], [1, 2, 0], [2, 0, 1], [2, 1, (0 : Int)]] := by
  match l, h.len with
  | [a, b, d], _ =>
    have ha := h.rng a (by simp)
    have hb := h.rng b (by simp)
    have hd := h.rng d (by simp)
    have hn := h.nd
    have a3 : a = 0 ∨ a = 1 ∨ a = 2 := by omega
    have b3 : b = 0 ∨ b = 1 ∨ b = 2 := by omega
    have d3 : d = 0 ∨ d = 1 ∨ d = 2 := by omega
    rcases a3 with rfl | rfl | rfl <;> rcases b3 with rfl | rfl | rfl <;> rcases d3 with rfl | rfl | rfl <;> first | decide | exact absurd hn (by decide)
theorem isA2 {l : List Int} (h : IsA 2 l) : l ∈ [[0, 1], [1, (0 : Int)]] := by
  match l, h.len with
  | [a, b], _ =>
    have ha := h.rng a (by simp)
    have hb := h.rng b (by simp)
    have hn := h.nd
    have a3 : a = 0 ∨ a = 1 := by omega
    have b3 : b = 0 ∨ b = 1 := by omega
    rcases a3 with rfl | rfl <;> rcases b3 with rfl | rfl <;> first | decide | exact absurd hn (by decide)
def lxB (n : Nat) (k l : List Int) : Bool := (List.range n).all fun i => (!(List.range i).all fun j => decide (k.getD j 0 = l.getD j 0)) || decide (k.getD i 0 ≤ l.getD i 0)
theorem lxB_ok {n : Nat} {k l : List Int} (h : lxB n k l = true) : Lx n k l := by
  intro i hi e
  have h1 := List.all_eq_true.1 h i (List.mem_range.2 hi)
  rcases (Bool.or_eq_true _ _).mp h1 with q | q
  · have : (List.range i).all (fun j => decide (k.getD j 0 = l.getD j 0)) = true := List.all_eq_true.2 fun j hj => decide_eq_true (e j (List.mem_range.1 hj))
    rw [this] at q
    exact absurd q (by decide)
  · exact of_decide_eq_true q
theorem bst_all {c : Tb} {k : List Int} {m : Int} (L : List (List Int)) (ha : ∀ l, IsA c.length l → l ∈ L) (h1 : asgV c.length k = true) (h2 : cost c k = m) (h3 : (L.all fun l => decide (m ≤ cost c l) && (!decide (cost c l = m) || lxB c.length k l)) = true) : Bst c k m := by
  have h4 : ∀ l, IsA c.length l → m ≤ cost c l ∧ (cost c l = m → lxB c.length k l = true) := fun l hl => by
    have h5 := List.all_eq_true.1 h3 l (ha l hl)
    rw [Bool.and_eq_true] at h5
    refine ⟨of_decide_eq_true h5.1, fun e => ?_⟩
    rcases (Bool.or_eq_true _ _).mp h5.2 with q | q
    · rw [decide_eq_true e] at q
      exact absurd q (by decide)
    · exact q
  exact ⟨asgV_iff.1 h1, h2, fun l hl => (h4 l hl).1, fun l hl e => lxB_ok ((h4 l hl).2 e)⟩
theorem bst_tA : Bst tA [1, 0, 2] 5 := bst_all _ (fun _ h => isA3 h) (by decide) (by decide) (by decide)
theorem bst_tB : Bst tB [0, 1] 2 := bst_all _ (fun _ h => isA2 h) (by decide) (by decide) (by decide)
theorem chk_tA : chA tA = 0 := by decide
theorem chk_tB : chA tB = 0 := by decide
theorem chk_tC : chA tC = 2 := by decide
theorem cost_tA : coV tA [0, 1, 2] = 6 ∧ coE tA [0, 1, 2] = 0 := by decide
theorem form_tA : coE tA [0, 0, 2] = 2 := by decide
end Go.Proofs.Ytfhdoeajoeaddaa.AsgP
