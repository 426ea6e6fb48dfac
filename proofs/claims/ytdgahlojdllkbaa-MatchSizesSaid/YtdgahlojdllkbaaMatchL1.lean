/-
  Package match: the laws MatchSizes and MatchLeast walked. Condition: none.
-/
import Derived.Test.YtdgahlojdllkbaaMatchT
namespace Go.Proofs.Ytdgahlojdllkbaa.MchW
open Go.ChangeShapes Go.WideShapes Go.ChangeAt Go.RowKit
open PairW CelW TabW MchP
set_option maxRecDepth 100000 in
set_option maxHeartbeats 2000000 in
theorem lsizes_at (l : List (List Bool)) (vl : Value) (w : World) (HT : Hid (Cels w vl (cellsB l))) :
    Calls Try.prog 3 #[vl] w fun e w' => e = .returned (.bool true) ∧ Own w w' := by
  obtain ⟨f, hf⟩ : ∃ f, chkE l = f := ⟨_, rfl⟩
  obtain ⟨n, hn⟩ : ∃ n, nuV l = n := ⟨_, rfl⟩
  have HF := Lib.hid hf
  have HN := Lib.hid hn
  clear hf hn
  go_enter Try.func3, Try.ntmps3
  go_upto_region 2 with (go_at_call 11; with_reducible refine (psizeOf_at l vl n f _ HT HF HN).mono ?_; rintro e w1 ⟨rfl, q1, _⟩; have HQ1 := Lib.hid q1; have HT1 := Lib.hid (HT.out.own q1); clear q1)
  go_upto_region 3 with (go_at_call 12; with_reducible refine (rsize_at l vl n f _ HT1 HF HN).mono ?_; rintro e w2 ⟨rfl, q2, _⟩; have HQ2 := Lib.hid q2; have HT2 := Lib.hid (HT1.out.own q2); clear q2)
  go_wp2_with (first
    | (go_at_call 13; with_reducible refine (pcheck_at l vl f _ HT2 HF).mono ?_; rintro e w3 ⟨rfl, rfl⟩)
    | (go_at_call 14; with_reducible refine (rcheck_at l vl f _ HT2 HF).mono ?_; rintro e w4 ⟨rfl, q4⟩; have HQ4 := Lib.hid q4; clear q4)
    | (go_at_call 15; with_reducible refine (awake_at _).mono ?_; rintro e w5 ⟨rfl, q5⟩; have HQ5 := Lib.hid q5; clear q5))
  go_ret
  exact ⟨rfl, ((HQ1.out.trans HQ2.out).trans HQ4.out).trans HQ5.out⟩
set_option maxRecDepth 100000 in
set_option maxHeartbeats 2000000 in
theorem lleast_at (l : List (List Bool)) (vl : Value) (w : World) (HT : Hid (Cels w vl (cellsB l))) :
    Calls Try.prog 4 #[vl] w fun e w' => e = .returned (.bool true) ∧ Own w w' := by
  obtain ⟨f, hf⟩ : ∃ f, chkE l = f := ⟨_, rfl⟩
  obtain ⟨M, hm⟩ : ∃ M, maV l = M := ⟨_, rfl⟩
  have HF := Lib.hid hf
  have HM := Lib.hid hm
  clear hf hm
  obtain ⟨AL, capl, rfl, t1, t2, _⟩ := tb_open HT.out
  unfold maxLen at t2
  obtain ⟨R, hR⟩ : ∃ R, l.length = R := ⟨_, rfl⟩
  rw [hR] at t1 HT ⊢
  clear hR
  by_cases hb : 10 < R ∧ R ≤ 24
  · have h1 : (10 : Int) < R := by omega
    have h2 : (R : Int) ≤ 24 := by omega
    go_enter Try.func4, Try.ntmps4
    go_wp2_with (go_at_call 15; with_reducible refine (awake_at _).mono ?_; rintro e w5 ⟨rfl, q5⟩; have HQ5 := Lib.hid q5; clear q5)
    go_ret
    exact ⟨rfl, HQ5.out⟩
  · have key : ∀ w, Calls Try.prog 15 #[] w fun e w' => e = .returned (.bool true) ∧ Own w w' := awake_at
    have HK := Lib.hid key
    clear key
    by_cases h1 : (10 : Int) < R
    · have h2 : ¬ (R : Int) ≤ 24 := by omega
      go_enter Try.func4, Try.ntmps4
      go_upto_region 4 with (go_at_call 16; with_reducible refine (pmatch_at l _ M f _ HT HF HM).mono ?_; rintro e w1 ⟨v1, rfl, hr1, q1, _⟩; obtain ⟨A1, c1, rfl⟩ := rows_shape hr1; have HR1 := Lib.hid hr1; have HQ1 := Lib.hid q1; have HT1 := Lib.hid (HT.out.own q1); clear q1 hr1)
      go_upto_region 5 with (go_at_call 17; with_reducible refine (rmatch_at l _ M f _ HT1 HF HM).mono ?_; rintro e w2 ⟨v2, rfl, hr2, q2⟩; obtain ⟨A2, c2, rfl⟩ := rows_shape hr2; have HC2 := Lib.hid (cel_of_row hr2); have HC1 := Lib.hid ((cel_of_row HR1.out).own q2); have HQ2 := Lib.hid q2; clear q2 hr2)
      go_wp2_with (first
        | (go_at_call 18; with_reducible refine (rints_yes M _ _ _ HC1 HC2).mono ?_; rintro e w3 ⟨rfl, q3⟩; have HQ3 := Lib.hid q3; clear q3)
        | (go_at_call 15; with_reducible refine (HK.out _).mono ?_; rintro e w5 ⟨rfl, q5⟩; have HQ5 := Lib.hid q5; clear q5))
      go_ret
      exact ⟨rfl, ((HQ1.out.trans HQ2.out).trans HQ3.out).trans HQ5.out⟩
    · go_enter Try.func4, Try.ntmps4
      go_upto_region 4 with (go_at_call 16; with_reducible refine (pmatch_at l _ M f _ HT HF HM).mono ?_; rintro e w1 ⟨v1, rfl, hr1, q1, _⟩; obtain ⟨A1, c1, rfl⟩ := rows_shape hr1; have HR1 := Lib.hid hr1; have HQ1 := Lib.hid q1; have HT1 := Lib.hid (HT.out.own q1); clear q1 hr1)
      go_upto_region 5 with (go_at_call 17; with_reducible refine (rmatch_at l _ M f _ HT1 HF HM).mono ?_; rintro e w2 ⟨v2, rfl, hr2, q2⟩; obtain ⟨A2, c2, rfl⟩ := rows_shape hr2; have HC2 := Lib.hid (cel_of_row hr2); have HC1 := Lib.hid ((cel_of_row HR1.out).own q2); have HQ2 := Lib.hid q2; clear q2 hr2)
      go_wp2_with (first
        | (go_at_call 18; with_reducible refine (rints_yes M _ _ _ HC1 HC2).mono ?_; rintro e w3 ⟨rfl, q3⟩; have HQ3 := Lib.hid q3; clear q3)
        | (go_at_call 15; with_reducible refine (HK.out _).mono ?_; rintro e w5 ⟨rfl, q5⟩; have HQ5 := Lib.hid q5; clear q5))
      go_ret
      exact ⟨rfl, ((HQ1.out.trans HQ2.out).trans HQ3.out).trans HQ5.out⟩
end Go.Proofs.Ytdgahlojdllkbaa.MchW
