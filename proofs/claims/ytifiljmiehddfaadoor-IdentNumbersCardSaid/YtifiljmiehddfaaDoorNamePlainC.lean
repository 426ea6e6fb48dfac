/-
  The order of names, reckoned: with a number that runs down. Nothing of the program. Condition: none.
-/
import Derived.Test.YtifiljmiehddfaaDoorNamePlain
namespace Go.Proofs.YtifiljmiehddfaaDoor.NamP
def ordF : Nat → Bs → Bs → Int
  | 0, _, _ => 0
  | n + 1, a, b => match a, b with
    | [], [] => 0
    | [], _ :: _ => -1
    | _ :: _, [] => 1
    | x :: a', y :: b' => if digB x then (if digB y then (if numC (runD (x :: a')) (runD (y :: b')) ≠ 0 then numC (runD (x :: a')) (runD (y :: b')) else ordF n (restD (x :: a')) (restD (y :: b'))) else -1)
      else if digB y then 1 else if x.toNat < y.toNat then -1 else if y.toNat < x.toNat then 1 else ordF n a' b'
theorem ordF_ord : ∀ (n : Nat) (a b : Bs), a.length < n → ordF n a b = ordL a b
  | 0, _, _, h => by omega
  | n + 1, [], [], _ => by rw [ordL]; rfl
  | n + 1, [], _ :: _, _ => by rw [ordL]; rfl
  | n + 1, _ :: _, [], _ => by rw [ordL]; rfl
  | n + 1, x :: a', y :: b', h => by
    rw [ordL]
    show (if digB x = true then _ else _) = _
    by_cases hx : digB x = true
    · have hl := restD_len (l := a') hx
      rw [if_pos hx, dif_pos hx, ordF_ord n (restD (x :: a')) (restD (y :: b')) (by omega)]
    · rw [if_neg hx, dif_neg hx, ordF_ord n a' b' (by simp at h; omega)]
def lessF (a b : Bs) : Bool := vldB a && vldB b && decide (ordF (a.length + 1) a b < 0)
theorem lessF_less (a b : Bs) : lessF a b = lessB a b := by
  unfold lessF lessB
  rw [ordF_ord _ a b (by omega)]
/-- The names of the chapter's second example, in their order. -/
def exL : List Bs := [[97], [97, 55], [97, 48, 55], [97, 48, 48, 55], [97, 56], [97, 49, 48], [97, 45, 98], [97, 98], [98]]
theorem ex_less : ∀ i, i < 9 → ∀ k, k < 9 → lessF (exL.getD i []) (exL.getD k []) = decide (i < k) := by decide +kernel
end Go.Proofs.YtifiljmiehddfaaDoor.NamP
