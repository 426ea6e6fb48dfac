/-
  The library's contract of math/bits.Len64, laid at this translation; math/bits.LeadingZeros64 walked. Condition: none.
-/
import Derived.Shelf.Small.Bits
import Derived.Test.YtmliajkbknjacaaPairs
namespace Go.Proofs.Ytmliajkbknjacaa
open Go.Shelf
def Try.lays129_ren : Go.Shelf.Ren := ⟨fun | 129 => 43 | n => n, fun | 3 => 3 | 4 => 4 | 5 => 5 | 9 => 9 | 46 => 57 | 53 => 44 | n => n, fun | n => n⟩
theorem Try.lays129 : Go.Proofs.Lays.n129 Try.prog Try.lays129_ren := {
  mixed := by kernel_rfl
  f129 := Try.func43.trans (congrArg some (by kernel_rfl))
  t3 := Try.underlying3
  a3 := Try.isAgg3
  z3 := Try.sizeOf3
  v3 := Try.zeroValue3
  t4 := Try.underlying4
  a4 := Try.isAgg4
  z4 := Try.sizeOf4
  v4 := Try.zeroValue4
  t5 := Try.underlying5
  a5 := Try.isAgg5
  z5 := Try.sizeOf5
  v5 := Try.zeroValue5
  t9 := Try.underlying9
  a9 := Try.isAgg9
  z9 := Try.sizeOf9
  v9 := Try.zeroValue9
  t46 := Try.underlying57
  a46 := Try.isAgg57
  z46 := Try.sizeOf57
  v46 := Try.zeroValue57
  t53 := Try.underlying44
  a53 := Try.isAgg44
  z53 := Try.sizeOf44
  v53 := Try.zeroValue44 }
namespace BitW
open Go.ChangeShapes Go.WideShapes Go.ChangeAt Go.RowKit Go.Lib PairW
theorem len64_at (x : Nat) (w : World) (hx : x < 18446744073709551616) :
    Calls Try.prog 43 #[.int .u64 x] w fun e w' => e = .returned (.int .i64 (Lib.bitLen x : Nat)) ∧ w = w' := by
  have := Any.bits_Len64 Try.lays129 x w (by omega) (by omega)
  refine this.mono ?_
  rintro e w' ⟨rfl, rfl⟩
  exact ⟨rfl, rfl⟩
theorem bitLenAux_bound : ∀ (f x : Nat), 0 < x → x < 2 ^ f → 1 ≤ Lib.bitLenAux f x ∧ Lib.bitLenAux f x ≤ f ∧ 2 ^ (Lib.bitLenAux f x - 1) ≤ x ∧ x < 2 ^ Lib.bitLenAux f x
  | 0, x, h0, h => by rw [Nat.pow_zero] at h; omega
  | f + 1, x, h0, h => by
    unfold Lib.bitLenAux
    rw [if_neg (by omega)]
    by_cases h1 : x / 2 = 0
    · rw [h1]
      have e : Lib.bitLenAux f 0 = 0 := by cases f <;> rfl
      rw [e]
      refine ⟨Nat.le_refl _, by omega, ?_, ?_⟩
      · show 2 ^ 0 ≤ x
        rw [Nat.pow_zero]; exact h0
      · show x < 2 ^ 1
        omega
    · obtain ⟨a, b, c, d⟩ := bitLenAux_bound f (x / 2) (by omega) (by rw [Nat.pow_succ] at h; omega)
      obtain ⟨m, hm⟩ : ∃ m, Lib.bitLenAux f (x / 2) = m + 1 := ⟨Lib.bitLenAux f (x / 2) - 1, by omega⟩
      rw [hm] at a b c d ⊢
      rw [Nat.add_sub_cancel] at c
      refine ⟨by omega, by omega, ?_, ?_⟩
      · rw [show 1 + (m + 1) - 1 = m + 1 by omega, Nat.pow_succ]; omega
      · rw [show 1 + (m + 1) = (m + 1) + 1 by omega, Nat.pow_succ]; omega
theorem bitLen_bound {x : Nat} (h0 : 0 < x) (h : x < 18446744073709551616) : 1 ≤ Lib.bitLen x ∧ Lib.bitLen x ≤ 64 ∧ 2 ^ (Lib.bitLen x - 1) ≤ x ∧ x < 2 ^ Lib.bitLen x := bitLenAux_bound 64 x h0 (by omega)
set_option maxRecDepth 100000 in
theorem lead64_at (x s : Nat) (w : World) (h0 : 0 < x) (hx : x < 18446744073709551616) (HS : Hid (64 - Lib.bitLen x = s)) :
    Calls Try.prog 39 #[.int .u64 x] w fun e w' => e = .returned (.int .i64 s) ∧ w = w' := by
  obtain ⟨b0, b1, -, -⟩ := bitLen_bound h0 hx
  have hs := HS.out
  obtain ⟨n, hn⟩ : ∃ n, Lib.bitLen x = n := ⟨_, rfl⟩
  have hl := len64_at x w hx
  rw [hn] at b0 b1 hs hl
  clear HS hn
  go_enter Try.func39, Try.ntmps39
  go_wp2_with (go_at_call 43; refine hl.mono ?_; rintro e w' ⟨rfl, rfl⟩)
  go_ret
  exact ⟨by rw [show ((s : Nat) : Int) = 64 - (n : Int) by omega]; rfl, rfl⟩
end BitW
end Go.Proofs.Ytmliajkbknjacaa
