/-
  Package wire: the law Sizes, over what is asked of the program. Condition: none.
-/
import Derived.Test.YteaidfocbhadjaaWireW
namespace Go.Proofs.Yteaidfocbhadjaa.WirW
open Go.ChangeShapes Go.WideShapes Go.ChangeAt Go.RowKit
open PairW CelW WirP
theorem put_len (C : PutC) (n : Int) (a : Nat) (w : World) (hn : I64 n) (h : (encI n).length = a) :
    Calls Try.prog 14 #[.slice none 0 0, .int .i64 n] w fun e w' => ∃ g c, e = .returned (.slice (some ⟨g, 0, none⟩) a c) ∧ Own w w' := by
  refine (C.int [] (.slice none 0 0) n w (Lib.hid (nil_cel w)) hn (by simp)).mono ?_
  rintro e w1 ⟨v1, rfl, hown, q⟩
  rw [List.nil_append, h] at hown
  obtain ⟨g, c, rfl⟩ := own_form hown (by rw [← h]; exact enc_len n)
  exact ⟨g, c, rfl, q⟩
set_option maxRecDepth 100000 in
set_option maxHeartbeats 2000000 in
theorem lsizes_at (C : PutC) (D : TakeC) (n m : Int) (w : World) (hn : I64 n) (hm : I64 m) : Calls Try.prog 9 #[.int .i64 n, .int .i64 m] w fun e w' => e = .returned (.bool true) ∧ Own w w' := by
  have hone := enc_one (n := n)
  have hten : (encI n).length ≤ 10 := enc_ten hn
  have hlen := enc_len n
  have hmono := enc_mono (n := n) (m := m)
  obtain ⟨a, ha⟩ : ∃ a, (encI n).length = a := ⟨_, rfl⟩
  obtain ⟨b, hb⟩ : ∃ b, (encI m).length = b := ⟨_, rfl⟩
  have HA := Lib.hid ha
  have HB := Lib.hid hb
  have HN := Lib.hid hn
  have HM := Lib.hid hm
  rw [ha] at hone hten hlen hmono
  rw [hb] at hmono
  have ha1 : ¬ (a : Int) < 1 := by omega
  have ha2 : ¬ (10 : Int) < a := by omega
  have HONE := Lib.hid hone
  have HMONO := Lib.hid hmono
  clear ha hb hn hm hten hlen hone hmono
  go_enter Try.func9, Try.ntmps9
  go_upto_region 2 with (first
    | (go_at_call 14; with_reducible refine (put_len C n a _ HN.out HA.out).mono ?_; rintro e w1 ⟨g1, c1, rfl, q1⟩)
    | (go_at_call 14; with_reducible refine (put_len C m b _ HM.out HB.out).mono ?_; rintro e w2 ⟨g2, c2, rfl, q2⟩))
  go_cut [29] (fun s wx => s = .bool false ∧ w2 = wx)
  case first =>
    by_cases c1 : -64 ≤ n
    · by_cases c2 : n ≤ 63
      · have d3 : ((a : Int) == 1) = true := beq_iff_eq.2 (by have := HONE.out; omega)
        go_wp2
        all_goals (go_meet; exact ⟨by first | rfl | (rw [decide_eq_false (show ¬ (a : Int) < 1 by omega), decide_eq_false (show ¬ (10 : Int) < a by omega)]; rfl), rfl⟩)
      · have d3 : ((a : Int) == 1) = false := beq_eq_false_iff_ne.2 (by have := HONE.out; omega)
        go_wp2
        all_goals (go_meet; exact ⟨by first | rfl | (rw [decide_eq_false (show ¬ (a : Int) < 1 by omega), decide_eq_false (show ¬ (10 : Int) < a by omega)]; rfl), rfl⟩)
    · have d3 : ((a : Int) == 1) = false := beq_eq_false_iff_ne.2 (by have := HONE.out; omega)
      go_wp2
      all_goals (go_meet; exact ⟨by first | rfl | (rw [decide_eq_false (show ¬ (a : Int) < 1 by omega), decide_eq_false (show ¬ (10 : Int) < a by omega)]; rfl), rfl⟩)
  case rest =>
    obtain ⟨rfl, rfl⟩ := hcut
    clear ha1 ha2
    go_upto_region 4 with (fail)
    go_cut [55] (fun s wx => s = .bool false ∧ w2 = wx)
    case first =>
      by_cases c1 : 0 ≤ n
      · have c1' : ¬ n < 0 := by omega
        by_cases c2 : n ≤ m
        · have d4 : ¬ (b : Int) < a := by have := HMONO.out (.inl ⟨c1, c2⟩); omega
          go_wp2
          all_goals (go_meet; exact ⟨rfl, rfl⟩)
        · go_wp2
          all_goals (go_meet; exact ⟨rfl, rfl⟩)
      · have c1' : n < 0 := by omega
        by_cases c2 : m ≤ n
        · have d4 : ¬ (b : Int) < a := by have := HMONO.out (.inr ⟨c1', c2⟩); omega
          go_wp2
          all_goals (go_meet; exact ⟨rfl, rfl⟩)
        · go_wp2
          all_goals (go_meet; exact ⟨rfl, rfl⟩)
    case rest =>
      obtain ⟨rfl, rfl⟩ := hcut
      go_wp2_with (go_at_call 17; with_reducible refine (awake_at C D _).mono ?_; rintro e w6 ⟨rfl, q6⟩)
      go_ret
      exact ⟨rfl, q1.trans (q2.trans q6)⟩
end Go.Proofs.Yteaidfocbhadjaa.WirW
