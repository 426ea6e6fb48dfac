/-
  Package crc: the laws Frame, Open, over what is asked of the program. Condition: none.
-/
import Derived.Test.YtbplglndcagglaaCrcF
namespace Go.Proofs.Ytbplglndcagglaa.CrcW
open Go.ChangeShapes Go.WideShapes Go.ChangeAt Go.RowKit
open PairW CelW WirP CrcP WirW
theorem rsame_yes (a : Bs) (va vb : Value) (w : World) (HA : Hid (Cel w va (cellsU a))) (HB : Hid (Cel w vb (cellsU a))) :
    Calls Try.prog 18 #[va, vb] w fun e w' => e = .returned (.bool true) ∧ w = w' := rsame_at a a va vb true w HA HB (Lib.hid (decide_eq_true rfl))
set_option maxRecDepth 100000 in
set_option maxHeartbeats 1000000 in
theorem lframe_at (C : CrcC) (b : Bs) (v : Value) (w : World) (HB : Hid (Cel w v (cellsU b))) :
    Calls Try.prog 6 #[v] w fun e w' => e = .returned (.bool true) ∧ Own w w' := by
  obtain ⟨z, hz⟩ : ∃ z, b.length = z := ⟨_, rfl⟩
  obtain ⟨A, cap, rfl, h1, h2⟩ := cel_form HB.out
  rw [cellsU_len, hz] at HB ⊢
  clear h1 h2
  by_cases c : 4096 < z
  · have d1 : (4096 : Int) < z := by omega
    go_enter Try.func6, Try.ntmps6
    go_wp2_with (go_at_call 11; with_reducible refine (awake_at C _).mono ?_; rintro e w3 ⟨rfl, q3⟩)
    go_ret
    exact ⟨rfl, q3⟩
  · have d1 : ¬ (4096 : Int) < z := by omega
    have HL := Lib.hid (show b.length ≤ 200000 by omega)
    obtain ⟨fe, hfe⟩ : ∃ t, frE b = t := ⟨_, rfl⟩
    have HP := Lib.hid (fun (w : World) (v : Value) (h : Hid (Cel w v (cellsU b))) => C.frame b v w h HL.out)
    have HR := Lib.hid (fun (w : World) (v : Value) (h : Hid (Cel w v (cellsU b))) => rframe_at b v w h)
    rw [hfe] at HP HR
    clear hz hfe
    go_enter Try.func6, Try.ntmps6
    go_wp2_with (first
      | (go_at_call 16; with_reducible refine (HP.out _ _ HB).mono ?_; rintro e w1 ⟨v1, rfl, hown1, q1⟩; have HB1 := Lib.hid (HB.out.own q1); have H1 := Lib.hid (cel_of_row hown1); clear hown1)
      | (go_at_call 17; with_reducible refine (HR.out _ _ HB1).mono ?_; rintro e w2 ⟨v2, rfl, hown2, q2⟩; have H2 := Lib.hid (H1.out.own q2); have H3 := Lib.hid (cel_of_row hown2); clear hown2)
      | (go_at_call 18; with_reducible refine (rsame_yes _ _ _ _ H2 H3).mono ?_; rintro e w4 ⟨rfl, rfl⟩)
      | (go_at_call 11; with_reducible refine (awake_at C _).mono ?_; rintro e w3 ⟨rfl, q3⟩))
    go_ret
    exact ⟨rfl, q1.trans (q2.trans q3)⟩
set_option maxRecDepth 100000 in
set_option maxHeartbeats 1000000 in
theorem lopen_at (C : CrcC) (b : Bs) (v : Value) (w : World) (HB : Hid (Cel w v (cellsU b))) :
    Calls Try.prog 7 #[v] w fun e w' => e = .returned (.bool true) ∧ Own w w' := by
  obtain ⟨z, hz⟩ : ∃ z, b.length = z := ⟨_, rfl⟩
  obtain ⟨A, cap, rfl, h1, h2⟩ := cel_form HB.out
  rw [cellsU_len, hz] at HB ⊢
  clear h1 h2
  by_cases c : 4096 < z
  · have d1 : (4096 : Int) < z := by omega
    go_enter Try.func7, Try.ntmps7
    go_wp2_with (go_at_call 11; with_reducible refine (awake_at C _).mono ?_; rintro e w3 ⟨rfl, q3⟩)
    go_ret
    exact ⟨rfl, q3⟩
  · have d1 : ¬ (4096 : Int) < z := by omega
    have HL := Lib.hid (show b.length ≤ 200000 by omega)
    have HL2 := Lib.hid (show b.length ≤ 1000000000000 by omega)
    obtain ⟨f, hf⟩ : ∃ t, openE b = t := ⟨_, rfl⟩
    obtain ⟨V, hV⟩ : ∃ t, openV b = t := ⟨_, rfl⟩
    obtain ⟨m, hm⟩ : ∃ t, openK b = t := ⟨_, rfl⟩
    obtain ⟨⟨L, n⟩, hall⟩ : ∃ t, allR b = t := ⟨_, rfl⟩
    have HT := Lib.hid (And.intro hf (And.intro hV hm))
    have HALL := Lib.hid hall
    clear hz hf hV hm hall
    go_enter Try.func7, Try.ntmps7
    go_wp2_with (first
      | (go_at_call 19; with_reducible refine (C.op b V _ f m _ HB HL.out HT).mono ?_; rintro e w1 ⟨v1, rfl, hown1, q1⟩; have HB1 := Lib.hid (HB.out.own q1); have H1 := Lib.hid (cel_of_row hown1); clear hown1)
      | (go_at_call 20; with_reducible refine (ropen_at b V _ f m _ HB1 HT).mono ?_; rintro e w2 ⟨v2, rfl, hown2, q2⟩; have H2 := Lib.hid (H1.out.own q2); have H3 := Lib.hid (cel_of_row hown2); have HB2 := Lib.hid (HB1.out.own q2); clear hown2)
      | (go_at_call 18; with_reducible refine (rsame_yes _ _ _ _ H2 H3).mono ?_; rintro e w4 ⟨rfl, rfl⟩)
      | (go_at_call 21; with_reducible refine (C.all b L n _ _ HB2 HL.out HALL).mono ?_; rintro e w5 ⟨v5, rfl, hl5, q5⟩; have HB5 := Lib.hid (HB2.out.own q5); have HL5 := Lib.hid (cels_lsts hl5); clear hl5)
      | (go_at_call 22; with_reducible refine (rall_at b L n _ _ HB5 HL2.out HALL).mono ?_; rintro e w6 ⟨v6, rfl, hl6, q6⟩; have HL6 := Lib.hid (HL5.out.own q6); have HL7 := Lib.hid (cels_lsts hl6); clear hl6)
      | (go_at_call 23; with_reducible refine (lists_yes L _ _ _ HL6 HL7).mono ?_; rintro e w7 ⟨rfl, q7⟩)
      | (go_at_call 11; with_reducible refine (awake_at C _).mono ?_; rintro e w3 ⟨rfl, q3⟩))
    go_ret
    exact ⟨rfl, q1.trans (q2.trans (q5.trans (q6.trans (q7.trans q3))))⟩
end Go.Proofs.Ytbplglndcagglaa.CrcW
