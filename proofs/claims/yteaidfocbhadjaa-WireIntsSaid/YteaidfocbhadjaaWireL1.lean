/-
  Package wire: the laws Ints, Texts, Lists, over what is asked of the program. Condition: none.
-/
import Derived.Test.YteaidfocbhadjaaWireW
namespace Go.Proofs.Yteaidfocbhadjaa.WirW
open Go.ChangeShapes Go.WideShapes Go.ChangeAt Go.RowKit
open PairW CelW WirP
set_option maxRecDepth 100000 in
set_option maxHeartbeats 2000000 in
theorem lints_at (C : PutC) (D : TakeC) (n : Int) (b : Bs) (v : Value) (w : World) (HB : Hid (Cel w v (cellsU b))) (hn : I64 n) (hb1 : b.length ≤ 140737488355000) : Calls Try.prog 3 #[.int .i64 n, v] w fun e w' => e = .returned (.bool true) ∧ Own w w' := by
  obtain ⟨f, hf⟩ : ∃ t, takeE b = t := ⟨_, rfl⟩
  obtain ⟨x, hx⟩ : ∃ t, takeV b = t := ⟨_, rfl⟩
  obtain ⟨m, hm⟩ : ∃ t, takeK b = t := ⟨_, rfl⟩
  have HT := Lib.hid (And.intro hf (And.intro hx hm))
  clear hf hx hm
  have hb : b.length ≤ 140737488355000 := by omega
  obtain ⟨A0, c0, rfl, _, _⟩ := cel_form HB.out
  go_enter Try.func3, Try.ntmps3
  go_wp2_with (first
    | (go_at_call 11; with_reducible refine (D.int b _ f x m _ HB HT).mono ?_; rintro e w1 ⟨rfl, q1⟩; have H1 := Lib.hid (HB.out.own q1))
    | (go_at_call 12; with_reducible refine (rtake_at b _ f x m _ H1 HT).mono ?_; rintro e w1 ⟨rfl, rfl⟩)
    | (go_at_call 15; have H2 := H1; with_reducible refine (lown_at b _ _ H2 hb).mono ?_; rintro e w2 ⟨v2, rfl, hown2, q2⟩; have H3 := Lib.hid (cel_of_row hown2))
    | (go_at_call 14; with_reducible refine (C.int b _ n _ H3 hn hb1).mono ?_; rintro e w3 ⟨v3, rfl, hown3, q3⟩)
    | (go_at_call 16; have H4 := Lib.hid ((HB.out.own q1).own (q2.trans q3)); with_reducible refine (rput_at b _ n _ H4 hn hb).mono ?_; rintro e w4 ⟨v4, rfl, hown4, q4⟩)
    | (go_at_call 13; have H5 := Lib.hid ((cel_of_row hown3).own q4); have H6 := Lib.hid (cel_of_row hown4); with_reducible refine (rbytes_yes (b ++ encI n) _ _ _ H5 H6).mono ?_; rintro e w5 ⟨rfl, rfl⟩)
    | (go_at_call 17; with_reducible refine (awake_at C D _).mono ?_; rintro e w6 ⟨rfl, q6⟩))
  go_ret
  exact ⟨rfl, q1.trans (q2.trans (q3.trans (q4.trans q6)))⟩
set_option maxRecDepth 100000 in
set_option maxHeartbeats 2000000 in
theorem ltexts_at (C : PutC) (D : TakeC) (s : ByteArray) (b : Bs) (v : Value) (most : Int) (w : World) (HB : Hid (Cel w v (cellsU b))) (hm : I64 most) (hb1 : b.length + s.size ≤ 1000000000000) : Calls Try.prog 4 #[.string s, v, .int .i64 most] w fun e w' => e = .returned (.bool true) ∧ Own w w' := by
  obtain ⟨f, hf⟩ : ∃ t, textE b most = t := ⟨_, rfl⟩
  obtain ⟨x, hx⟩ : ∃ t, textV b most = t := ⟨_, rfl⟩
  obtain ⟨m, hmm⟩ : ∃ t, textK b most = t := ⟨_, rfl⟩
  have HT := Lib.hid (And.intro hf (And.intro hx hmm))
  clear hf hx hmm
  have hb : b.length ≤ 140737488355000 := by omega
  have hb2 : b.length ≤ 1000000000000 := by omega
  have hb3 : b.length + s.size ≤ 140737488355000 := by omega
  obtain ⟨A0, c0, rfl, _, _⟩ := cel_form HB.out
  obtain ⟨y, hy⟩ : ∃ y, strB x = y := ⟨_, rfl⟩
  have TP := Lib.hid (fun w v h => by have := D.text b x v most f m w h hb2 hm HT; rw [hy] at this; exact this)
  have TR := Lib.hid (fun w v h => by have := rtaketext_at b x v most f m w h HT; rw [hy] at this; exact this)
  clear hy
  go_enter Try.func4, Try.ntmps4
  go_wp2_with (first
    | (go_at_call 18; with_reducible refine (TP.out _ _ HB).mono ?_; rintro e w1 ⟨rfl, q1⟩; have H1 := Lib.hid (HB.out.own q1))
    | (go_at_call 19; with_reducible refine (TR.out _ _ H1).mono ?_; rintro e w1 ⟨rfl, rfl⟩)
    | (go_at_call 15; have H2 := H1; with_reducible refine (lown_at b _ _ H2 hb).mono ?_; rintro e w2 ⟨v2, rfl, hown2, q2⟩; have H3 := Lib.hid (cel_of_row hown2))
    | (go_at_call 20; with_reducible refine (C.text b _ s _ H3 hb1).mono ?_; rintro e w3 ⟨v3, rfl, hown3, q3⟩)
    | (go_at_call 21; have H4 := Lib.hid ((HB.out.own q1).own (q2.trans q3)); with_reducible refine (rputtext_at b _ s _ H4 hb3).mono ?_; rintro e w4 ⟨v4, rfl, hown4, q4⟩)
    | (go_at_call 13; have H5 := Lib.hid ((cel_of_row hown3).own q4); have H6 := Lib.hid (cel_of_row hown4); with_reducible refine (rbytes_yes (b ++ encT s.data.toList) _ _ _ H5 H6).mono ?_; rintro e w5 ⟨rfl, rfl⟩)
    | (go_at_call 17; with_reducible refine (awake_at C D _).mono ?_; rintro e w6 ⟨rfl, q6⟩))
  go_ret
  exact ⟨rfl, q1.trans (q2.trans (q3.trans (q4.trans q6)))⟩
set_option maxRecDepth 100000 in
set_option maxHeartbeats 2000000 in
theorem llists_at (C : PutC) (D : TakeC) (l : List Int) (vl : Value) (b : Bs) (v : Value) (most : Int) (w : World) (HL : Hid (Cel w vl (cellsI l))) (hi : In64 l) (HB : Hid (Cel w v (cellsU b))) (hm : I64 most) (hb1 : b.length + 10 * (l.length + 1) ≤ 1000000000000) : Calls Try.prog 5 #[vl, v, .int .i64 most] w fun e w' => e = .returned (.bool true) ∧ Own w w' := by
  obtain ⟨f, hf⟩ : ∃ t, listE b most = t := ⟨_, rfl⟩
  obtain ⟨x, hx⟩ : ∃ t, listV b most = t := ⟨_, rfl⟩
  obtain ⟨m, hmm⟩ : ∃ t, listK b most = t := ⟨_, rfl⟩
  have HT := Lib.hid (And.intro hf (And.intro hx hmm))
  clear hf hx hmm
  have hb : b.length ≤ 140737488355000 := by omega
  have hb2 : b.length ≤ 1000000000000 := by omega
  have hb3 : b.length + 10 * (l.length + 1) ≤ 140737488355000 := by omega
  have HI := Lib.hid hi
  clear hi
  obtain ⟨A0, c0, rfl, _, _⟩ := cel_form HB.out
  go_enter Try.func5, Try.ntmps5
  go_wp2_with (first
    | (go_at_call 22; with_reducible refine (D.list b x _ most f m _ HB hb2 hm HT).mono ?_; rintro e w1 ⟨va, rfl, howna, q1⟩; have H1 := Lib.hid (HB.out.own q1); have HA := Lib.hid (cel_of_row howna))
    | (go_at_call 23; with_reducible refine (rtakelist_at b x _ most f m _ H1 hb2 HT).mono ?_; rintro e w7 ⟨vb, rfl, hownb, q7⟩; have H7 := Lib.hid (H1.out.own q7); have HVA := Lib.hid (HA.out.own q7); have HVB := Lib.hid (cel_of_row hownb))
    | (go_at_call 15; have H2 := Lib.hid (H7.out.own q8); with_reducible refine (lown_at b _ _ H2 hb).mono ?_; rintro e w2 ⟨v2, rfl, hown2, q2⟩; have H3 := Lib.hid (cel_of_row hown2))
    | (go_at_call 25; have HL3 := Lib.hid (HL.out.own (((q1.trans q7).trans q8).trans q2)); with_reducible refine (C.list b l _ _ _ H3 HL3 HI.out hb1).mono ?_; rintro e w3 ⟨v3, rfl, hown3, q3⟩)
    | (go_at_call 26; have H4 := Lib.hid (H2.out.own (q2.trans q3)); have HL4 := Lib.hid (HL3.out.own q3); with_reducible refine (rputlist_at b l _ _ _ H4 HL4 HI.out hb3).mono ?_; rintro e w4 ⟨v4, rfl, hown4, q4⟩)
    | (go_at_call 13; have H5 := Lib.hid ((cel_of_row hown3).own q4); have H6 := Lib.hid (cel_of_row hown4); with_reducible refine (rbytes_yes (b ++ encL l) _ _ _ H5 H6).mono ?_; rintro e w5 ⟨rfl, rfl⟩)
    | (go_at_call 17; with_reducible refine (awake_at C D _).mono ?_; rintro e w6 ⟨rfl, q6⟩)
    | (go_at_call 24; with_reducible refine (rints_yes x _ _ _ HVA HVB).mono ?_; rintro e w8 ⟨rfl, d8, hd8⟩; have q8 : Own w7 w8 := (by rw [hd8]; exact (Own.refl _).drewN d8); clear hd8))
  go_ret
  exact ⟨rfl, q1.trans (q7.trans (q8.trans (q2.trans (q3.trans (q4.trans q6)))))⟩
end Go.Proofs.Yteaidfocbhadjaa.WirW
