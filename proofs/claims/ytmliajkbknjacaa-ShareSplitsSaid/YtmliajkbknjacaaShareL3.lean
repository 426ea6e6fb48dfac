/-
  Package share: the law ShareEven walked, over what it asks of the program. Condition: none.
-/
import Derived.Test.YtmliajkbknjacaaShareT
namespace Go.Proofs.Ytmliajkbknjacaa.ShaW
open Go.ChangeShapes Go.WideShapes Go.ChangeAt Go.RowKit
open PairW CelW MchW ShaP
open AsgP (su su_zero su_succ)
section
variable (S : ShaC)
include S
set_option maxRecDepth 100000 in
set_option maxHeartbeats 8000000 in
theorem leven_at (t n : Int) (w : World) (hb : I64 t) (hb2 : I64 n) :
    Calls Try.prog 7 #[.int .i64 t, .int .i64 n] w fun e w' => e = .returned (.bool true) ∧ Own w w' := by
  obtain ⟨f, hf⟩ : ∃ f, staE t n = f := ⟨_, rfl⟩
  obtain ⟨M, hm⟩ : ∃ M, staV t n = M := ⟨_, rfl⟩
  have HF := Lib.hid hf
  have HM := Lib.hid hm
  clear hf hm
  have hst := S.stages t n f M w hb hb2 HF HM
  by_cases h0 : f = 0
  · subst h0
    obtain ⟨o1, o2, o3⟩ := staE_ok HF.out
    obtain ⟨ht0, ht1⟩ := okW_iff.1 o1
    obtain ⟨n, rfl⟩ : ∃ k : Nat, n = k := ⟨n.toNat, by omega⟩
    obtain rfl : mpF (staF t n) n = M := by rw [← HM.out]; unfold staV; rw [if_pos HF.out]; rfl
    have hnn : n ≤ 512 := by omega
    have hn1 : 1 ≤ n := by omega
    clear o1 o2 o3 HM HF
    go_enter Try.func7, Try.ntmps7
    go_upto_region 2 with (go_at_call 13; refine hst.mono ?_; rintro e w1 ⟨x1, rfl, c1, q1⟩; have C1 := Lib.hid c1; have Q1 := Lib.hid q1; clear c1 q1)
    obtain ⟨A, cap, rfl, h1, h2, h3⟩ := cel_int C1.out
    unfold maxLen at h2
    have hml : (mpF (staF t n) n).length = n := mpF_len
    rw [hml] at h1 h3 ⊢
    have H3 := Lib.hid h3
    clear hml h3 hst
    go_wp2
    go_loopw [7, 8] (fun v7 v8 wr => ∃ (k : Nat) (s : Int), v7 = .int .i64 s ∧ v8 = .int .i64 (k : Int) ∧ k ≤ n ∧ Own w1 wr ∧ t * (k : Int) / n = s) (fun _ v8 _ => n - (intOf v8).toNat)
    case atStart => exact ⟨0, 0, rfl, rfl, Nat.zero_le _, Own.refl _, by simp⟩
    case round =>
      obtain ⟨k, s, rfl, rfl, hk, hq, hs⟩ := hrel
      have HQ := Lib.hid hq
      have hpk : 0 ≤ t * (k : Int) ∧ t * (k : Int) ≤ 562949953421312 := by
        have g1 := Int.mul_nonneg ht0 (show 0 ≤ (k : Int) by omega)
        have g2 : t * (k : Int) ≤ 1099511627776 * (k : Int) := Int.mul_le_mul_of_nonneg_right ht1 (by omega)
        omega
      have hsb : 0 ≤ s ∧ s ≤ 562949953421312 := by
        have g1 : 0 ≤ t * (k : Int) / n := Int.ediv_nonneg hpk.1 (by omega)
        have g2 : t * (k : Int) / n ≤ t * (k : Int) := Int.ediv_le_self _ hpk.1
        omega
      obtain ⟨hs0, hs1⟩ := hsb
      have HSS := Lib.hid hs
      clear hq hs hpk
      by_cases hlt : k < n
      · have hkn : (k : Int) < n := by omega
        obtain ⟨g, off, rfl, h4⟩ := H3.out (by omega)
        have e0 := HQ.out.cell (h4 k _ (mpF_at hlt))
        obtain ⟨y, hy⟩ : ∃ y, staF t n k = y := ⟨_, rfl⟩
        rw [hy] at e0
        have hev := sta_even (t := t) (n := n) (by omega) k
        rw [hy] at hev
        obtain ⟨p1, hp1⟩ : ∃ p, t * ((k : Int) + 1) = p := ⟨_, rfl⟩
        have hb1 : 0 ≤ p1 ∧ p1 ≤ 562949953421312 := by
          rw [← hp1]
          have g1 := Int.mul_nonneg ht0 (show 0 ≤ (k : Int) + 1 by omega)
          have g2 : t * ((k : Int) + 1) ≤ 1099511627776 * ((k : Int) + 1) := Int.mul_le_mul_of_nonneg_right ht1 (by omega)
          omega
        obtain ⟨hb1, hb3⟩ := hb1
        obtain ⟨z, hz⟩ : ∃ z, t.tdiv (n : Int) = z := ⟨_, rfl⟩
        have hz1 : t / (n : Int) = z := by rw [← hz, Int.tdiv_eq_ediv_of_nonneg ht0]
        have hz2 : 0 ≤ z ∧ z ≤ t := ⟨by rw [← hz1]; exact Int.ediv_nonneg ht0 (by omega), by rw [← hz1]; exact Int.ediv_le_self _ ht0⟩
        rw [hz1] at hev
        have hd1 : p1.tdiv (n : Int) = s + y := by
          rw [Int.tdiv_eq_ediv_of_nonneg hb1, ← hp1, ← HSS.out, ← hy]
          unfold staF
          omega
        have HNX := Lib.hid (show t * (((k + 1 : Nat) : Int)) / n = s + y by rw [← hd1, Int.tdiv_eq_ediv_of_nonneg hb1, ← hp1]; rfl)
        obtain ⟨hz3, hz4⟩ := hz2
        obtain ⟨hv1, hv2⟩ := hev
        have hnz : ¬ (n : Int) = 0 := by omega
        have hnz2 : ¬ n = 0 := by omega
        have c1 : decide (y < z) = false := decide_eq_false (by omega)
        have c2 : decide (z + 1 < y) = false := decide_eq_false (by omega)
        have c3 : (s + y != s + y) = false := by simp
        clear h4 hy hz1
        go_upto_region 11 with (fail)
        go_quiet (fail)
        go_wp2
        go_roundw
        case rel => exact ⟨k + 1, s + y, by go_num, by go_num, hlt, HQ.out.drewN _, HNX.out⟩
        case measure => simp [intOf]; omega
      · obtain rfl : n = k := by omega
        obtain rfl : t = s := by rw [← HSS.out, Int.mul_ediv_cancel _ (by omega)]
        have d1 : (t == t) = true := beq_self_eq_true t
        go_wp2_with (go_at_call 9; with_reducible refine (awake_at S _).mono ?_; rintro e w9 ⟨rfl, q9⟩; have Q9 := Lib.hid q9; clear q9)
        go_ret
        exact ⟨rfl, (Q1.out.trans HQ.out).trans Q9.out⟩
  · obtain rfl : [] = M := by rw [← HM.out]; unfold staV; rw [HF.out, if_neg h0]
    have df : (f != 0) = true := bne_iff_ne.2 h0
    clear h0
    go_enter Try.func7, Try.ntmps7
    go_wp2_with (first
      | (go_at_call 13; refine hst.mono ?_; rintro e w1 ⟨x1, rfl, c1, q1⟩; obtain ⟨A1, p1, rfl, _, _, _⟩ := cel_int c1; have Q1 := Lib.hid q1; clear c1 q1)
      | (go_at_call 9; with_reducible refine (awake_at S _).mono ?_; rintro e w9 ⟨rfl, q9⟩; have Q9 := Lib.hid q9; clear q9))
    go_ret
    exact ⟨rfl, Q1.out.trans Q9.out⟩
end
end Go.Proofs.Ytmliajkbknjacaa.ShaW
