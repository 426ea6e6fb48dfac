/-
  Walk of the specification of package field: Print, the decimal form. Condition: none.
-/
import Derived.Test.YtedkpkdfopffiaaDoorFieldN
namespace Go.Proofs.YtedkpkdfopffiaaDoor.NamW
open Go.ChangeShapes Go.WideShapes Go.ChangeAt Go.RowKit
open PairW NamP StrW FldP
open Go.Lib (decDigits)
def tenS : ByteArray := ⟨#[48, 49, 50, 51, 52, 53, 54, 55, 56, 57]⟩
theorem ten_at : ∀ u : Nat, u < 10 → bs (tenS.extract u (u + 1)) = [UInt8.ofNat (48 + u)] := by decide
theorem dec_small {u : Nat} (h : u < 10) : decDigits u = [UInt8.ofNat (48 + u)] := by rw [decDigits, dif_pos h]
theorem dec_big {u : Nat} (h : ¬ u < 10) : decDigits u = decDigits (u / 10) ++ decDigits (u % 10) := by
  rw [decDigits, dif_neg h, dec_small (show u % 10 < 10 by omega)]
theorem dec_short (u : Nat) (h : u ≤ 9223372036854775808) : (decDigits u).length ≤ 19 := dec_len 18 u (by omega)
theorem str_size {r : ByteArray} {l : Bs} (h : bs r = l) : r.size = l.length := by rw [← h, bs_len]
set_option maxRecDepth 100000 in
set_option maxHeartbeats 2000000 in
theorem print_nat : ∀ (k u : Nat), u < k → u ≤ 9223372036854775807 → ∀ w, Calls Tryd.prog 24 #[.int .i64 (u : Int)] w fun e w' => ∃ r, e = .returned (.string r) ∧ bs r = decDigits u ∧ w = w' := by
  intro k
  induction k with
  | zero => intro u h; omega
  | succ k ih =>
    intro u hk hu w
    have c0 : ¬ (u : Int) < 0 := by omega
    by_cases c : u < 10
    · have ci : (u : Int) < 10 := by omega
      have HD := Lib.hid ((ten_at u c).trans (dec_small c).symm)
      unfold tenS at HD
      have i1 : IntKind.i64.wrap ((u : Int) + 1) = (u : Int) + 1 := IntWalk.i64_in _ (by omega)
      have k0 : 0 ≤ (u : Int) + 1 := by omega
      have k1 : ((u : Int) + 1).toNat = u + 1 := by omega
      have k2 : (u : Int) ≤ (u : Int) + 1 := by omega
      have k3 : (u : Int) + 1 ≤ 10 := by omega
      clear c
      go_enter Tryd.func24, Tryd.ntmps24
      go_wp2
      go_ret
      exact ⟨_, rfl, HD.out, rfl⟩
    · have ci : ¬ (u : Int) < 10 := by omega
      have hq : (u : Int).tdiv 10 = ((u / 10 : Nat) : Int) := by rw [Int.tdiv_eq_ediv_of_nonneg (by omega)]; omega
      have hr : (u : Int).tmod 10 = ((u % 10 : Nat) : Int) := by rw [Int.tmod_eq_emod_of_nonneg (by omega)]; omega
      obtain ⟨p, hp⟩ : ∃ p, u / 10 = p := ⟨_, rfl⟩
      obtain ⟨q, hq2⟩ : ∃ q, u % 10 = q := ⟨_, rfl⟩
      rw [hp] at hq
      rw [hq2] at hr
      have HD := Lib.hid (dec_big c)
      rw [hp, hq2] at HD
      have HP := Lib.hid (ih p (by omega) (by omega))
      have HQ := Lib.hid (ih q (by omega) (by omega))
      have lp := dec_short p (by omega)
      have lq := dec_short q (by omega)
      have w1 : wrap64 ((p : Nat) : Int) = (p : Int) := IntWalk.wrap64_in _ (by omega)
      have w2 : wrap64 ((q : Nat) : Int) = (q : Int) := IntWalk.wrap64_in _ (by omega)
      clear hp hq2 c
      go_enter Tryd.func24, Tryd.ntmps24
      go_wp2_with (go_at_call 24; (first
        | (with_reducible refine (HP.out _).mono ?_; rintro e w1 ⟨r1, rfl, h1, rfl⟩; have s1 := str_size h1; have H1 := Lib.hid h1; clear h1)
        | (with_reducible refine (HQ.out _).mono ?_; rintro e w1 ⟨r2, rfl, h2, rfl⟩; have s2 := str_size h2; have H2 := Lib.hid h2; clear h2; have n1 : ¬ (9223372036854775807 < r1.size + r2.size) := (by omega))))
      go_ret
      exact ⟨_, rfl, by rw [bs_app, H1.out, H2.out, HD.out], rfl⟩
end Go.Proofs.YtedkpkdfopffiaaDoor.NamW
