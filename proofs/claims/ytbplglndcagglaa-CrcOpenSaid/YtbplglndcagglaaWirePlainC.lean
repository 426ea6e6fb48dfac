/-
  Plain facts of package wire: how long the encodings of a list are. No word of the program. Condition: none.
-/
import Derived.Test.YtbplglndcagglaaWirePlain
namespace Go.Proofs.Ytbplglndcagglaa.WirP
theorem encs_len : ∀ (l : List Int), In64 l → (encs l).length ≤ 10 * l.length
  | [], _ => Nat.zero_le _
  | x :: r, h => by
    have h1 := enc_ten (h x (List.mem_cons_self ..))
    have h2 := encs_len r (fun y hy => h y (List.mem_cons_of_mem _ hy))
    show (encI x ++ encs r).length ≤ 10 * (r.length + 1)
    rw [List.length_append]
    omega
theorem in_take {l : List Int} (h : In64 l) (k : Nat) : In64 (l.take k) := fun x hx => h x (List.mem_of_mem_take hx)
end Go.Proofs.Ytbplglndcagglaa.WirP
