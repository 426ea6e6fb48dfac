/-
  Walk of the specification of package field: Print at numbers below nought, and at any. Condition: none.
-/
import Derived.Test.YtedkpkdfopffiaaDoorFieldP
namespace Go.Proofs.YtedkpkdfopffiaaDoor.NamW
open Go.ChangeShapes Go.WideShapes Go.ChangeAt Go.RowKit
open PairW NamP StrW FldP
open Go.Lib (decDigits itoa)
theorem neg_tdiv (u : Nat) : (-(u : Int)).tdiv 10 = -((u / 10 : Nat) : Int) := by
  rw [Int.neg_tdiv, Int.tdiv_eq_ediv_of_nonneg (by omega)]
  omega
theorem neg_tmod (u : Nat) : (-(u : Int)).tmod 10 = -((u % 10 : Nat) : Int) := by
  rw [Int.neg_tmod, Int.tmod_eq_emod_of_nonneg (by omega)]
  omega
/-- What the walk meets of a number below -9. -/
theorem neg_facts (v : Int) (u : Nat) (h : v = -(u : Int)) (hu : 10 ≤ u) (hb : u ≤ 9223372036854775808) :
    ∃ (p m : Int) (q d : Nat), v.tdiv 10 = p ∧ v.tmod 10 = m ∧ wrap64 p = p ∧ wrap64 m = m ∧ wrap64 (-m) = (q : Int) ∧ p = -(d : Int) ∧ d = u / 10 ∧ q = u % 10 := by
  subst h
  refine ⟨-((u / 10 : Nat) : Int), -((u % 10 : Nat) : Int), u % 10, u / 10, neg_tdiv u, neg_tmod u, ?_, ?_, ?_, rfl, rfl, rfl⟩
  · refine IntWalk.wrap64_in _ ?_
    have : u / 10 ≤ 9223372036854775808 / 10 := Nat.div_le_div_right hb
    omega
  · refine IntWalk.wrap64_in _ ?_
    have : u % 10 < 10 := Nat.mod_lt _ (by decide)
    omega
  · rw [Int.neg_neg]
    refine IntWalk.wrap64_in _ ?_
    have : u % 10 < 10 := Nat.mod_lt _ (by decide)
    omega
theorem itoa_pos (u : Nat) : itoa (u : Int) = decDigits u := by
  unfold itoa
  rw [if_neg (by omega)]
  rfl
theorem itoa_neg {u : Nat} (h : 0 < u) : itoa (-(u : Int)) = 45 :: decDigits u := by
  unfold itoa
  rw [if_pos (by omega)]
  rw [show (-(u : Int)).natAbs = u by omega]
set_option maxRecDepth 100000 in
set_option maxHeartbeats 2000000 in
theorem print_neg : ∀ (k u : Nat), u < k → 0 < u → u ≤ 9223372036854775808 → ∀ (v : Int) w, v = -(u : Int) → Calls Tryd.prog 24 #[.int .i64 v] w fun e w' => ∃ r, e = .returned (.string r) ∧ bs r = 45 :: decDigits u ∧ w = w' := by
  intro k
  induction k with
  | zero => intro u h; omega
  | succ k ih =>
    intro u hk h0 hu v w hv
    have c0 : v < 0 := by omega
    by_cases c : u < 10
    · have ci : -10 < v := by omega
      have HP := Lib.hid (fun w => show Calls Tryd.prog 24 #[.int .i64 (-v)] w (fun e w' => ∃ r, e = .returned (.string r) ∧ bs r = decDigits u ∧ w = w') from by
        rw [show -v = (u : Int) by omega]
        exact print_nat (u + 1) u (by omega) (by omega) w)
      have lp := dec_short u (by omega)
      have HZ := Lib.hid (show (⟨#[45]⟩ : ByteArray).size = 1 from rfl)
      clear hv c ih
      go_enter Tryd.func24, Tryd.ntmps24
      go_wp2_with (go_at_call 24; (with_reducible refine (HP.out _).mono ?_; rintro e w1 ⟨r1, rfl, h1, rfl⟩; have s1 := str_size h1; have H1 := Lib.hid h1; clear h1; have n1 : ¬ (9223372036854775807 < (⟨#[45]⟩ : ByteArray).size + r1.size) := (by have hz := HZ.out; omega)))
      go_ret
      exact ⟨_, rfl, by rw [bs_app, H1.out]; rfl, rfl⟩
    · have ci : ¬ -10 < v := by omega
      obtain ⟨p, m, q, d, h1, h2, h3, h4, h5, h6, h7, h8⟩ := neg_facts v u hv (by omega) hu
      have hd1 : d < k := by omega
      have hd2 : 0 < d := by omega
      have hd3 : d ≤ 9223372036854775808 := by omega
      have hq : q < 10 := by omega
      have HP := Lib.hid (fun w => ih d hd1 hd2 hd3 p w h6)
      have HQ := Lib.hid (print_nat (q + 1) q (by omega) (by omega))
      have HD := Lib.hid (dec_big c)
      rw [← h7, ← h8] at HD
      have lp := dec_short d hd3
      have lq := dec_short q (by omega)
      clear c hv ih h6 h7 h8 hk h0 hu
      go_enter Tryd.func24, Tryd.ntmps24
      go_wp2_with (go_at_call 24; (first
        | (with_reducible refine (HP.out _).mono ?_; rintro e w1 ⟨r1, rfl, g1, rfl⟩; have s1 := str_size g1; rw [List.length_cons] at s1; have H1 := Lib.hid g1; clear g1)
        | (with_reducible refine (HQ.out _).mono ?_; rintro e w1 ⟨r2, rfl, g2, rfl⟩; have s2 := str_size g2; have H2 := Lib.hid g2; clear g2; have n1 : ¬ (9223372036854775807 < r1.size + r2.size) := (by omega))))
      go_ret
      exact ⟨_, rfl, by rw [bs_app, H1.out, H2.out, HD.out]; rfl, rfl⟩
theorem print_at (n : Int) (w : World) (hn : -9223372036854775808 ≤ n ∧ n ≤ 9223372036854775807) : Calls Tryd.prog 24 #[.int .i64 n] w fun e w' => ∃ r, e = .returned (.string r) ∧ bs r = itoa n ∧ w = w' := by
  by_cases c : n < 0
  · obtain ⟨u, rfl⟩ : ∃ u : Nat, n = -(u : Int) := ⟨n.natAbs, by omega⟩
    rw [itoa_neg (by omega)]
    exact print_neg (u + 1) u (by omega) (by omega) (by omega) _ w rfl
  · obtain ⟨u, rfl⟩ : ∃ u : Nat, n = (u : Int) := ⟨n.toNat, by omega⟩
    rw [itoa_pos]
    exact print_nat (u + 1) u (by omega) (by omega) w
end Go.Proofs.YtedkpkdfopffiaaDoor.NamW
