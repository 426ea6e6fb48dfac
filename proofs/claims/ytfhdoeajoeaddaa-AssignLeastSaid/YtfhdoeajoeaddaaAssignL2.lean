/-
  Package assign: the law AssignLeast walked, over what it asks of the program. Condition: none.
-/
import Derived.Test.YtfhdoeajoeaddaaAssignT
namespace Go.Proofs.Ytfhdoeajoeaddaa.AsgW
open Go.ChangeShapes Go.WideShapes Go.ChangeAt Go.RowKit
open PairW CelW TabW MchW AsgP
section
variable (A : AsgC)
include A
set_option maxRecDepth 100000 in
set_option maxHeartbeats 4000000 in
theorem lleast_at (c : Tb) (l : List Int) (vc vl : Value) (w : World) (HT : Hid (Cels w vc (cellsG c))) (HL : Hid (Cel w vl (cellsI l))) :
    Calls Try.prog 7 #[vc, vl] w fun e w' => e = .returned (.bool true) ∧ Own w w' := by
  obtain ⟨m, hm⟩ : ∃ m, coV c l = m := ⟨_, rfl⟩
  obtain ⟨f, hf⟩ : ∃ f, coE c l = f := ⟨_, rfl⟩
  have HM := Lib.hid hm
  have HF := Lib.hid hf
  clear hm hf
  by_cases h0 : f = 0
  · subst h0
    have hc : chA c = 0 ∧ asgV c.length l = true := by
      have h := HF.out
      unfold coE at h
      by_cases a : chA c = 0
      · rw [if_pos a] at h
        by_cases b : asgV c.length l = true
        · exact ⟨a, b⟩
        · rw [if_neg b] at h; omega
      · rw [if_neg a] at h; exact absurd h a
    have HK := Lib.hid hc.1
    have HA := Lib.hid (asgV_iff.1 hc.2)
    have HCM := Lib.hid (show cost c l = m by
      have h := HM.out
      unfold coV at h
      rwa [if_pos hc] at h)
    obtain ⟨b1, _, _⟩ := chA_ok hc.1
    obtain ⟨n, hn⟩ : ∃ n, c.length = n := ⟨_, rfl⟩
    have hll := HA.out.len
    rw [hn] at hll b1
    have HN := Lib.hid hn
    have HLL := Lib.hid hll
    clear hc hn
    have hcost := A.cost c l vc vl m 0 w HT HL HM HF
    obtain ⟨AL, capl, rfl, l1, l2, l3⟩ := cel_int HL.out
    unfold maxLen at l2
    rw [hll] at l1 l3 HL hcost ⊢
    have HL3 := Lib.hid l3
    clear l3 hll
    go_enter Try.func7, Try.ntmps7
    go_upto_region 4 with (go_at_call 16; refine hcost.mono ?_; rintro e w1 ⟨rfl, q1⟩; have HQ1 := Lib.hid q1; have HT1 := Lib.hid (HT.out.own q1); clear q1)
    go_upto_region 5 with (go_at_call 14; with_reducible refine (A.solve c vc 0 _ HT1 HK).mono ?_; rintro e w2 ⟨x, K, m2, rfl, cx, q2, hb, _⟩; have HX2 := Lib.hid cx; have HQ2 := Lib.hid (HQ1.out.trans q2); have HB := Lib.hid (hb rfl); clear cx q2 hb)
    have hkl := HB.out.asg.len
    rw [HN.out] at hkl
    obtain ⟨AX, capx, rfl, x1, x2, x3⟩ := cel_int HX2.out
    unfold maxLen at x2
    rw [hkl] at x1 x3 ⊢
    have HX3 := Lib.hid x3
    have HKL := Lib.hid hkl
    have hle : m2 ≤ m := by rw [← HCM.out]; exact HB.out.le l HA.out
    clear x3 hkl
    by_cases hmm : m = m2
    · subst hmm
      have d1 : (m == m) = true := beq_self_eq_true m
      have HLX := Lib.hid (show Lx n K l by have := HB.out.lex l HA.out HCM.out; rwa [HN.out] at this)
      go_wp2
      go_loopw [10] (fun vi wr => ∃ i : Nat, vi = .int .i64 (i : Int) ∧ i ≤ n ∧ Own w2 wr ∧ ∀ j, j < i → K.getD j 0 = l.getD j 0) (fun vi _ => n - (intOf vi).toNat)
      case atStart => exact ⟨0, rfl, Nat.zero_le _, Own.refl _, fun j h => absurd h (Nat.not_lt_zero _)⟩
      case round =>
        obtain ⟨i, rfl, hi, q, heq⟩ := hrel
        have HQ := Lib.hid q
        have HEQ := Lib.hid heq
        clear q heq
        by_cases hlt : i < n
        · obtain ⟨gl, ol, rfl, hl4⟩ := HL3.out (by omega)
          obtain ⟨gx, ox, rfl, hx4⟩ := HX3.out (by omega)
          have e0 := (HQ2.out.trans HQ.out).cell (hl4 i _ (getD_at (by rw [HLL.out]; exact hlt)))
          have e1 := HQ.out.cell (hx4 i _ (getD_at (by rw [HKL.out]; exact hlt)))
          have hge := HLX.out i hlt HEQ.out
          have hin : (i : Int) < n := by omega
          obtain ⟨a, ha⟩ : ∃ a, l.getD i 0 = a := ⟨_, rfl⟩
          obtain ⟨b, hb⟩ : ∃ b, K.getD i 0 = b := ⟨_, rfl⟩
          rw [ha] at e0 hge
          rw [hb] at e1 hge
          have HAE := Lib.hid ha
          have HBE := Lib.hid hb
          have c1 : decide (a < b) = false := decide_eq_false (by omega)
          clear hl4 hx4 ha hb
          by_cases hab : b < a
          · have c2 : decide (b < a) = true := decide_eq_true hab
            go_upto_region 10 with (fail)
            go_quiet (fail)
            go_upto_region 12 with (fail)
            go_quiet (fail)
            go_wp2_with (go_at_call 13; refine (awake_at A _).mono ?_; rintro e w4 ⟨rfl, q4⟩; have HQ4 := Lib.hid q4; clear q4)
            go_ret
            exact ⟨rfl, ((HQ2.out.trans HQ.out).drewN _).trans HQ4.out⟩
          · obtain rfl : a = b := by omega
            have c2 : decide (a < a) = false := decide_eq_false (by omega)
            have HNX := Lib.hid (show ∀ j, j < i + 1 → K.getD j 0 = l.getD j 0 from fun j hj => by
              by_cases e : j = i
              · subst e; rw [HAE.out, HBE.out]
              · exact HEQ.out j (by omega))
            go_upto_region 10 with (fail)
            go_quiet (fail)
            go_upto_region 12 with (fail)
            go_quiet (fail)
            go_wp2
            go_roundw
            case rel => exact ⟨i + 1, by go_num, hlt, HQ.out.drewN _, HNX.out⟩
            case measure => simp [intOf]; omega
        · obtain rfl : i = n := by omega
          go_wp2_with (go_at_call 13; refine (awake_at A _).mono ?_; rintro e w4 ⟨rfl, q4⟩; have HQ4 := Lib.hid q4; clear q4)
          go_ret
          exact ⟨rfl, (HQ2.out.trans HQ.out).trans HQ4.out⟩
    · have d1 : (m == m2) = false := beq_eq_false_iff_ne.2 hmm
      go_wp2
      go_loopw [10] (fun vi wr => ∃ i : Nat, vi = .int .i64 (i : Int) ∧ i ≤ n ∧ w2 = wr) (fun vi _ => n - (intOf vi).toNat)
      case atStart => exact ⟨0, rfl, Nat.zero_le _, rfl⟩
      case round =>
        obtain ⟨i, rfl, hi, rfl⟩ := hrel
        by_cases hlt : (i : Int) < n
        · go_wp2_with (go_at_call 13; refine (awake_at A _).mono ?_; rintro e w4 ⟨rfl, q4⟩; have HQ4 := Lib.hid q4; clear q4)
          go_ret
          exact ⟨rfl, HQ2.out.trans HQ4.out⟩
        · go_wp2_with (go_at_call 13; refine (awake_at A _).mono ?_; rintro e w4 ⟨rfl, q4⟩; have HQ4 := Lib.hid q4; clear q4)
          go_ret
          exact ⟨rfl, HQ2.out.trans HQ4.out⟩
  · have d0 : (f != 0) = true := bne_iff_ne.2 h0
    go_enter Try.func7, Try.ntmps7
    go_wp2_with (first
      | (go_at_call 16; with_reducible refine (A.cost c l vc vl m f _ HT HL HM HF).mono ?_; rintro e w1 ⟨rfl, q1⟩; have HQ1 := Lib.hid q1; clear q1)
      | (go_at_call 13; with_reducible refine (awake_at A _).mono ?_; rintro e w4 ⟨rfl, q4⟩; have HQ4 := Lib.hid q4; clear q4))
    go_ret
    exact ⟨rfl, HQ1.out.trans HQ4.out⟩
end
end Go.Proofs.Ytfhdoeajoeaddaa.AsgW
