/-
  Package assign: the laws AssignCheck, AssignSolve, AssignProof, AssignCost walked, over what they ask of the program. Condition: none.
-/
import Derived.Test.YtfhdoeajoeaddaaAssignT
import Derived.Test.YtfhdoeajoeaddaaAssignD
import Derived.Test.YtfhdoeajoeaddaaAssignE
namespace Go.Proofs.Ytfhdoeajoeaddaa.AsgW
open Go.ChangeShapes Go.WideShapes Go.ChangeAt Go.RowKit
open PairW CelW TabW MchW AsgP
theorem co_bad {c : Tb} (l : List Int) {f : Int} (h : chA c = f) (hf : f ≠ 0) : coV c l = 0 ∧ coE c l = f := by
  unfold coV coE
  rw [h]
  exact ⟨if_neg fun q => hf q.1, if_neg hf⟩
section
variable (A : AsgC)
include A
set_option maxRecDepth 100000 in
set_option maxHeartbeats 4000000 in
theorem lcheck_at (c : Tb) (l : List Int) (vc vl : Value) (w : World) (HT : Hid (Cels w vc (cellsG c))) (HL : Hid (Cel w vl (cellsI l))) :
    Calls Try.prog 3 #[vc, vl] w fun e w' => e = .returned (.bool true) ∧ Own w w' := by
  obtain ⟨f, hf⟩ : ∃ f, chA c = f := ⟨_, rfl⟩
  have HF := Lib.hid hf
  clear hf
  by_cases h0 : f = 0
  · subst h0
    go_enter Try.func3, Try.ntmps3
    go_wp2_with (first
      | (go_at_call 11; with_reducible refine (racheck_at c vc 0 _ HT HF).mono ?_; rintro e w1 ⟨rfl, rfl⟩)
      | (go_at_call 12; with_reducible refine (A.check c vc 0 _ HT HF).mono ?_; rintro e w2 ⟨rfl, q2⟩; have HQ2 := Lib.hid q2; clear q2)
      | (go_at_call 13; with_reducible refine (awake_at A _).mono ?_; rintro e w3 ⟨rfl, q3⟩; have HQ3 := Lib.hid q3; clear q3))
    go_ret
    exact ⟨rfl, HQ2.out.trans HQ3.out⟩
  · have d0 : (f == 0) = false := beq_eq_false_iff_ne.2 h0
    have df : (f != f) = false := by simp
    have de : (f == f) = true := beq_self_eq_true f
    have HC := Lib.hid (co_bad l HF.out h0)
    have HNZ := Lib.hid h0
    clear h0
    go_enter Try.func3, Try.ntmps3
    go_upto_region 6 with (first
      | (go_at_call 11; with_reducible refine (racheck_at c vc f _ HT HF).mono ?_; rintro e w1 ⟨rfl, rfl⟩)
      | (go_at_call 12; with_reducible refine (A.check c vc f _ HT HF).mono ?_; rintro e w2 ⟨rfl, q2⟩; have HQ2 := Lib.hid q2; have HT2 := Lib.hid (HT.out.own q2); clear q2))
    go_upto_region 7 with (go_at_call 14; with_reducible refine (A.solve c vc f _ HT2 HF).mono ?_; rintro e w3 ⟨x, M, m, rfl, cx, q3, _, hb⟩; obtain ⟨rfl, rfl⟩ := hb HNZ.out; obtain ⟨Ax, cpx, rfl, _, _, _⟩ := cel_int cx; have HQ3 := Lib.hid (HQ2.out.trans q3); have HT3 := Lib.hid (HT2.out.own q3); clear q3 cx)
    go_upto_region 8 with (go_at_call 15; with_reducible refine (A.prices c vc f _ HT3 HF).mono ?_; rintro e w4 ⟨y, z, U, V, rfl, cy, cz, q4, _, hb⟩; obtain ⟨rfl, rfl⟩ := hb HNZ.out; obtain ⟨Ay, cpy, rfl, _, _, _⟩ := cel_int cy; obtain ⟨Az, cpz, rfl, _, _, _⟩ := cel_int cz; have HQ4 := Lib.hid (HQ3.out.trans q4); have HT4 := Lib.hid (HT3.out.own q4); clear q4 cy cz)
    have HL4 := Lib.hid (HL.out.own HQ4.out)
    have HC1 := Lib.hid HC.out.1
    have HC2 := Lib.hid HC.out.2
    go_wp2_with (first
      | (go_at_call 16; with_reducible refine (A.cost c l vc vl 0 f _ HT4 HL4 HC1 HC2).mono ?_; rintro e w5 ⟨rfl, q5⟩; have HQ5 := Lib.hid (HQ4.out.trans q5); clear q5)
      | (go_at_call 13; with_reducible refine (awake_at A _).mono ?_; rintro e w6 ⟨rfl, q6⟩; have HQ6 := Lib.hid q6; clear q6))
    go_ret
    exact ⟨rfl, HQ5.out.trans HQ6.out⟩
set_option maxRecDepth 100000 in
set_option maxHeartbeats 4000000 in
theorem lsolve_at (c : Tb) (vc : Value) (w : World) (HT : Hid (Cels w vc (cellsG c))) :
    Calls Try.prog 4 #[vc] w fun e w' => e = .returned (.bool true) ∧ Own w w' := by
  obtain ⟨f, hf⟩ : ∃ f, chA c = f := ⟨_, rfl⟩
  have HF := Lib.hid hf
  clear hf
  obtain ⟨AC, capc, rfl, t1, t2, _⟩ := gt_open HT.out
  unfold maxLen at t2
  obtain ⟨n, hn⟩ : ∃ n, c.length = n := ⟨_, rfl⟩
  rw [hn] at t1 HT ⊢
  clear hn
  by_cases h8 : (8 : Int) < n
  · go_enter Try.func4, Try.ntmps4
    go_wp2_with (go_at_call 13; with_reducible refine (awake_at A _).mono ?_; rintro e w3 ⟨rfl, q3⟩; have HQ3 := Lib.hid q3; clear q3)
    go_ret
    exact ⟨rfl, HQ3.out⟩
  · go_enter Try.func4, Try.ntmps4
    go_upto_region 4 with (go_at_call 14; with_reducible refine (A.solve c _ f _ HT HF).mono ?_; rintro e w1 ⟨x, M, m, rfl, cx, q1, hb1, hb2⟩; have HX := Lib.hid cx; have HQ1 := Lib.hid q1; have HT1 := Lib.hid (HT.out.own q1); have HB := Lib.hid (And.intro hb1 hb2); clear cx q1 hb1 hb2)
    go_upto_region 5 with (go_at_call 17; with_reducible refine (rasolve_at c _ f _ HT1 HF).mono ?_; rintro e w2 ⟨y, M2, m2, rfl, ry, q2, hb1, hb2⟩; have HY := Lib.hid (cel_of_row ry); have HX2 := Lib.hid (HX.out.own q2); have HQ2 := Lib.hid (HQ1.out.trans q2); have HB2 := Lib.hid (And.intro hb1 hb2); clear ry q2 hb1 hb2)
    obtain ⟨rfl, rfl⟩ : M = M2 ∧ m = m2 := by
      by_cases h0 : f = 0
      · exact (HB.out.1 h0).uniq (HB2.out.1 h0)
      · obtain ⟨a1, a2⟩ := HB.out.2 h0
        obtain ⟨b1, b2⟩ := HB2.out.2 h0
        exact ⟨a1.trans b1.symm, a2.trans b2.symm⟩
    have d1 : (m == m) = true := beq_self_eq_true m
    have d2 : (f == f) = true := beq_self_eq_true f
    go_wp2_with (first
      | (go_at_call 18; with_reducible refine (same_yes M _ _ _ HX2 HY).mono ?_; rintro e w3 ⟨rfl, q3⟩; have HQ3 := Lib.hid (HQ2.out.trans q3); clear q3)
      | (go_at_call 13; with_reducible refine (awake_at A _).mono ?_; rintro e w4 ⟨rfl, q4⟩; have HQ4 := Lib.hid q4; clear q4))
    go_ret
    exact ⟨rfl, HQ3.out.trans HQ4.out⟩
set_option maxRecDepth 100000 in
set_option maxHeartbeats 4000000 in
theorem lproof_at (c : Tb) (vc : Value) (w : World) (HT : Hid (Cels w vc (cellsG c))) :
    Calls Try.prog 5 #[vc] w fun e w' => e = .returned (.bool true) ∧ Own w w' := by
  obtain ⟨f, hf⟩ : ∃ f, chA c = f := ⟨_, rfl⟩
  have HF := Lib.hid hf
  obtain ⟨b, hb⟩ : ∃ b, c.all (fun r => decide (r.length = c.length)) = b := ⟨_, rfl⟩
  have HB := Lib.hid hb
  clear hf hb
  cases b with
  | false =>
    go_enter Try.func5, Try.ntmps5
    go_wp2_with (first
      | (go_at_call 19; with_reducible refine (square_at c vc false _ HT HB).mono ?_; rintro e w1 ⟨rfl, rfl⟩)
      | (go_at_call 13; with_reducible refine (awake_at A _).mono ?_; rintro e w3 ⟨rfl, q3⟩; have HQ3 := Lib.hid q3; clear q3))
    go_ret
    exact ⟨rfl, HQ3.out⟩
  | true =>
    by_cases h0 : f = 0
    · subst h0
      go_enter Try.func5, Try.ntmps5
      go_upto_region 3 with (first
        | (go_at_call 19; with_reducible refine (square_at c vc true _ HT HB).mono ?_; rintro e w1 ⟨rfl, rfl⟩)
        | (go_at_call 12; with_reducible refine (A.check c vc 0 _ HT HF).mono ?_; rintro e w2 ⟨rfl, q2⟩; have HQ2 := Lib.hid q2; have HT2 := Lib.hid (HT.out.own q2); clear q2))
      go_wp2_with (first
        | (go_at_call 20; with_reducible refine (proves_yes A c vc _ HT2 HF).mono ?_; rintro e w3 ⟨rfl, q3⟩; have HQ3 := Lib.hid (HQ2.out.trans q3); clear q3)
        | (go_at_call 13; with_reducible refine (awake_at A _).mono ?_; rintro e w4 ⟨rfl, q4⟩; have HQ4 := Lib.hid q4; clear q4))
      go_ret
      exact ⟨rfl, HQ3.out.trans HQ4.out⟩
    · have d0 : (f != 0) = true := bne_iff_ne.2 h0
      go_enter Try.func5, Try.ntmps5
      go_wp2_with (first
        | (go_at_call 19; with_reducible refine (square_at c vc true _ HT HB).mono ?_; rintro e w1 ⟨rfl, rfl⟩)
        | (go_at_call 12; with_reducible refine (A.check c vc f _ HT HF).mono ?_; rintro e w2 ⟨rfl, q2⟩; have HQ2 := Lib.hid q2; clear q2)
        | (go_at_call 13; with_reducible refine (awake_at A _).mono ?_; rintro e w4 ⟨rfl, q4⟩; have HQ4 := Lib.hid q4; clear q4))
      go_ret
      exact ⟨rfl, HQ2.out.trans HQ4.out⟩
set_option maxRecDepth 100000 in
set_option maxHeartbeats 4000000 in
theorem lcost_at (c : Tb) (l : List Int) (vc vl : Value) (w : World) (HT : Hid (Cels w vc (cellsG c))) (HL : Hid (Cel w vl (cellsI l))) :
    Calls Try.prog 6 #[vc, vl] w fun e w' => e = .returned (.bool true) ∧ Own w w' := by
  obtain ⟨m, hm⟩ : ∃ m, coV c l = m := ⟨_, rfl⟩
  obtain ⟨f, hf⟩ : ∃ f, coE c l = f := ⟨_, rfl⟩
  have HM := Lib.hid hm
  have HF := Lib.hid hf
  clear hm hf
  have d1 : (m == m) = true := beq_self_eq_true m
  have d2 : (f == f) = true := beq_self_eq_true f
  go_enter Try.func6, Try.ntmps6
  go_upto_region 2 with (go_at_call 16; with_reducible refine (A.cost c l vc vl m f _ HT HL HM HF).mono ?_; rintro e w1 ⟨rfl, q1⟩; have HQ1 := Lib.hid q1; have HT1 := Lib.hid (HT.out.own q1); have HL1 := Lib.hid (HL.out.own q1); clear q1)
  go_wp2_with (first
    | (go_at_call 21; with_reducible refine (racost_at c l vc vl m f _ HT1 HL1 HM HF).mono ?_; rintro e w2 ⟨rfl, q2⟩; have HQ2 := Lib.hid (HQ1.out.trans q2); clear q2)
    | (go_at_call 13; with_reducible refine (awake_at A _).mono ?_; rintro e w4 ⟨rfl, q4⟩; have HQ4 := Lib.hid q4; clear q4))
  go_ret
  exact ⟨rfl, HQ2.out.trans HQ4.out⟩
end
end Go.Proofs.Ytfhdoeajoeaddaa.AsgW
