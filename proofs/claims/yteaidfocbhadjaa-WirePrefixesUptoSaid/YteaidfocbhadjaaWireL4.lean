/-
  Package wire: the law Once, over what is asked of the program. Condition: none.
-/
import Derived.Test.YteaidfocbhadjaaWireW
import Derived.Test.YteaidfocbhadjaaBytes
import Derived.Deep.RegionHeld3
namespace Go.Proofs.Yteaidfocbhadjaa.WirW
open Go.ChangeShapes Go.WideShapes Go.ChangeAt Go.RowKit
open PairW CelW WirP
theorem put_nil (C : PutC) (n : Int) (B : Bs) (k : Nat) (w : World) (hn : I64 n) (h : encI n = B) (hk : B.length = k) :
    Calls Try.prog 14 #[.slice none 0 0, .int .i64 n] w fun e w' => ∃ A c, e = .returned (.slice A k c) ∧ Cel w' (.slice A k c) (cellsU B) ∧ Own w w' := by
  subst hk
  refine (C.int [] (.slice none 0 0) n w (Lib.hid (nil_cel w)) hn (by simp)).mono ?_
  rintro e w1 ⟨v1, rfl, hown, q⟩
  rw [List.nil_append, h] at hown
  have hc := cel_of_row hown
  obtain ⟨A, c, rfl⟩ := row_shape hown
  exact ⟨A, c, rfl, hc, q⟩
theorem puttext_nil (C : PutC) (s : ByteArray) (B : Bs) (k : Nat) (w : World) (hs : s.size ≤ 100000000) (h : encT s.data.toList = B) (hk : B.length = k) :
    Calls Try.prog 20 #[.slice none 0 0, .string s] w fun e w' => ∃ A c, e = .returned (.slice A k c) ∧ Cel w' (.slice A k c) (cellsU B) ∧ Own w w' := by
  subst hk
  refine (C.text [] (.slice none 0 0) s w (Lib.hid (nil_cel w)) (by rw [List.length_nil]; omega)).mono ?_
  rintro e w1 ⟨v1, rfl, hown, q⟩
  rw [List.nil_append, h] at hown
  have hc := cel_of_row hown
  obtain ⟨A, c, rfl⟩ := row_shape hown
  exact ⟨A, c, rfl, hc, q⟩
theorem putlist_nil (C : PutC) (l : List Int) (vl : Value) (B : Bs) (k : Nat) (w : World) (HL : Hid (Cel w vl (cellsI l))) (hi : In64 l) (hs : l.length ≤ 100000000) (h : encL l = B) (hk : B.length = k) :
    Calls Try.prog 25 #[.slice none 0 0, vl] w fun e w' => ∃ A c, e = .returned (.slice A k c) ∧ Cel w' (.slice A k c) (cellsU B) ∧ Own w w' := by
  subst hk
  refine (C.list [] l (.slice none 0 0) vl w (Lib.hid (nil_cel w)) HL hi (by rw [List.length_nil]; omega)).mono ?_
  rintro e w1 ⟨v1, rfl, hown, q⟩
  rw [List.nil_append, h] at hown
  have hc := cel_of_row hown
  obtain ⟨A, c, rfl⟩ := row_shape hown
  exact ⟨A, c, rfl, hc, q⟩
theorem cel_take {w : World} {A : Option Addr} {z cap k : Nat} {b : Bs} (h : Cel w (.slice A z cap) (cellsU b)) (hk : k ≤ z) : Cel w (.slice A k cap) (cellsU (b.take k)) := by
  obtain ⟨A', c, hv, h2, h3, h4⟩ := h
  rw [cellsU_len] at hv h2 h4
  injection hv with e1 e2 e3
  subst e1
  subst e3
  have hl : (cellsU (b.take k)).length = k := by rw [cellsU_len, List.length_take]; omega
  refine ⟨_, _, by rw [hl], by rw [hl]; omega, h3, fun h0 => ?_⟩
  rw [hl] at h0
  obtain ⟨g, o, hA, hc⟩ := h4 (by omega)
  refine ⟨g, o, hA, fun i u hu => hc i u ?_⟩
  have hi : i < k := by have := (List.getElem?_eq_some_iff.1 hu).1; rwa [hl] at this
  rw [← hu]
  unfold cellsU
  rw [List.map_take, List.getElem?_take_of_lt hi]
theorem taketext_y (D : TakeC) (b V : Bs) (y : ByteArray) (v : Value) (most f : Int) (m : Nat) (w : World) (HB : Hid (Cel w v (cellsU b))) (hb : b.length ≤ 1000000000000) (hm : I64 most) (H : Hid (textE b most = f ∧ textV b most = V ∧ textK b most = m)) (hy : strB V = y) :
    Calls Try.prog 18 #[v, .int .i64 most] w fun e w' => e = .returned (.tuple #[.string y, .int .i64 (m : Int), .int .i64 f]) ∧ Own w w' := by
  subst hy
  exact D.text b V v most f m w HB hb hm H
theorem takelist_n (D : TakeC) (b : Bs) (V : List Int) (n : Nat) (v : Value) (most f : Int) (m : Nat) (w : World) (HB : Hid (Cel w v (cellsU b))) (hb : b.length ≤ 1000000000000) (hm : I64 most) (H : Hid (listE b most = f ∧ listV b most = V ∧ listK b most = m)) (hn : V.length = n) :
    Calls Try.prog 22 #[v, .int .i64 most] w fun e w' => ∃ A c, e = .returned (.tuple #[.slice A n c, .int .i64 (m : Int), .int .i64 f]) ∧ Cel w' (.slice A n c) (cellsI V) ∧ Own w w' := by
  subst hn
  refine (D.list b V v most f m w HB hb hm H).mono ?_
  rintro e w1 ⟨vl, rfl, hown, q⟩
  have hc := cel_of_row hown
  obtain ⟨A, c, rfl⟩ := row_shape hown
  exact ⟨A, c, rfl, hc, q⟩
theorem encs_ge : ∀ (l : List Int), l.length ≤ (encs l).length
  | [] => Nat.zero_le _
  | x :: r => by
    have h1 := enc_len x
    have h2 := encs_ge r
    show r.length + 1 ≤ (encI x ++ encs r).length
    rw [List.length_append]
    omega
set_option maxRecDepth 100000 in
set_option maxHeartbeats 2000000 in
theorem lonce_at (C : PutC) (D : TakeC) (b : Bs) (v : Value) (most : Int) (w : World) (HB : Hid (Cel w v (cellsU b))) (hm : I64 most) (hb1 : b.length ≤ 10000000) : Calls Try.prog 7 #[v, .int .i64 most] w fun e w' => e = .returned (.bool true) ∧ Own w w' := by
  obtain ⟨f, hf⟩ : ∃ t, takeE b = t := ⟨_, rfl⟩
  obtain ⟨x, hx⟩ : ∃ t, takeV b = t := ⟨_, rfl⟩
  obtain ⟨m, hmm⟩ : ∃ t, takeK b = t := ⟨_, rfl⟩
  have HT := Lib.hid (And.intro hf (And.intro hx hmm))
  have HTO := Lib.hid (show f = 0 → encI x = b.take m ∧ 1 ≤ m ∧ m ≤ b.length ∧ m ≤ 10 ∧ I64 x from fun e => by
    have h := take_once (hf.trans e)
    rw [hx, hmm] at h
    exact ⟨h.1, h.2.1, h.2.2.1, h.2.2.2.1, h.2.2.2.2.1, h.2.2.2.2.2⟩)
  clear hf hx hmm
  obtain ⟨f2, hf⟩ : ∃ t, textE b most = t := ⟨_, rfl⟩
  obtain ⟨V, hx⟩ : ∃ t, textV b most = t := ⟨_, rfl⟩
  obtain ⟨m2, hmm⟩ : ∃ t, textK b most = t := ⟨_, rfl⟩
  obtain ⟨y, hy⟩ : ∃ y, strB V = y := ⟨_, rfl⟩
  have HT2 := Lib.hid (And.intro hf (And.intro hx hmm))
  have HY := Lib.hid hy
  have HTO2 := Lib.hid (show f2 = 0 → encT y.data.toList = b.take m2 ∧ 1 ≤ m2 ∧ m2 ≤ b.length ∧ (y.size : Int) ≤ most ∧ y.size ≤ 100000000 from fun e => by
    have h := text_once (hf.trans e)
    rw [hx, hmm] at h
    have hs : y.size = V.length := by rw [← hy]; rfl
    have hv : y.data.toList = V := by rw [← hy]; rfl
    have hl : (encT V).length ≤ b.length := by rw [h.1, List.length_take]; omega
    unfold encT at hl
    rw [List.length_append] at hl
    rw [hv, hs]
    exact ⟨h.1, h.2.1, h.2.2.1, h.2.2.2, by omega⟩)
  clear hf hx hmm hy
  obtain ⟨f3, hf⟩ : ∃ t, listE b most = t := ⟨_, rfl⟩
  obtain ⟨U, hx⟩ : ∃ t, listV b most = t := ⟨_, rfl⟩
  obtain ⟨m3, hmm⟩ : ∃ t, listK b most = t := ⟨_, rfl⟩
  obtain ⟨n3, hn3⟩ : ∃ t, U.length = t := ⟨_, rfl⟩
  have HT3 := Lib.hid (And.intro hf (And.intro hx hmm))
  have HN3 := Lib.hid hn3
  have HTO3 := Lib.hid (show f3 = 0 → encL U = b.take m3 ∧ 1 ≤ m3 ∧ m3 ≤ b.length ∧ (n3 : Int) ≤ most ∧ U.length ≤ 100000000 ∧ In64 U from fun e => by
    have h := list_once (hf.trans e)
    rw [hx, hmm] at h
    have hl : (encL U).length ≤ b.length := by rw [h.1, List.length_take]; omega
    unfold encL at hl
    rw [List.length_append] at hl
    have h2 := encs_ge U
    rw [← hn3]
    exact ⟨h.1, h.2.1, h.2.2.1, h.2.2.2.1, by omega, h.2.2.2.2⟩)
  clear hf hx hmm hn3
  obtain ⟨z, hz⟩ : ∃ z, b.length = z := ⟨_, rfl⟩
  rw [hz] at HTO HTO2 HTO3
  have HB12 := Lib.hid (show b.length ≤ 1000000000000 by omega)
  obtain ⟨A0, c0, rfl, hc1, hc2⟩ := cel_form HB.out
  rw [cellsU_len, hz] at HB hc1 ⊢
  unfold maxLen at hc2
  have HMO := Lib.hid hm
  go_enter Try.func7, Try.ntmps7
  go_upto_region 2 with (go_at_call 11; with_reducible refine (D.int b _ f x m _ HB HT).mono ?_; rintro e w1 ⟨rfl, q1⟩)
  go_cut [40] (fun s wx => s = .bool false ∧ Own w wx)
  case first =>
    clear HMO
    by_cases c : f = 0
    · subst c
      obtain ⟨o1, o2, o3, o4, o5⟩ := HTO.out rfl
      have HO5 := Lib.hid o5
      obtain ⟨B, hB⟩ : ∃ B, b.take m = B := ⟨_, rfl⟩
      have HLB := Lib.hid (show B.length = m by rw [← hB, List.length_take]; omega)
      have HCT := Lib.hid (show Cel w (.slice A0 m c0) (cellsU B) by rw [← hB]; exact cel_take HB.out o3)
      rw [hB] at o1
      have HO1 := Lib.hid o1
      have d1 : decide ((m : Int) < 1) = false := decide_eq_false (by omega)
      have d2 : decide (z < m) = false := decide_eq_false (by omega)
      have d3 : decide ((10 : Int) < m) = false := decide_eq_false (by omega)
      have hmc : m ≤ c0 := by omega
      clear o1 hB
      have s1 := Own.drew q1
      go_region_held3 (fun w' => Own w w') (with_reducible assumption) (first
        | (go_at_call 14; with_reducible refine (put_nil C x B m _ HO5.out HO1.out HLB.out).mono ?_; rintro e w3 ⟨A3, c3, rfl, hc3, q3⟩; have s3 := Own.trans (show Own w _ by with_reducible assumption) q3; have H3 := Lib.hid hc3; have H4 := Lib.hid (HCT.out.own s3))
        | (go_at_call 13; with_reducible refine (rbytes_yes B _ _ _ H3 H4).mono ?_; rintro e w4 ⟨rfl, rfl⟩))
      go_wp2
      all_goals (go_meet; exact ⟨rfl, by with_reducible assumption⟩)
    · have d0 : decide (f = 0) = false := decide_eq_false c
      have d1 : (f == 0) = false := beq_eq_false_iff_ne.2 c
      go_quiet (fail)
      go_wp2
      all_goals (go_meet; exact ⟨rfl, by first | exact (q1).drewN _ | exact (q1).drew | exact q1⟩)
  case rest =>
    obtain ⟨rfl, q2⟩ := hcut
    have H2 := Lib.hid (HB.out.own q2)
    go_upto_region 5 with (go_at_call 18; with_reducible refine (taketext_y D b V y _ most f2 m2 _ H2 HB12.out HMO.out HT2 HY.out).mono ?_; rintro e w2 ⟨rfl, q5⟩; have q6 := q2.trans q5)
    go_cut [74] (fun s wx => s = .bool false ∧ Own w wx)
    case first =>
      clear HMO
      by_cases c : f2 = 0
      · subst c
        obtain ⟨o1, o2, o3, o4, o5⟩ := HTO2.out rfl
        have HO5 := Lib.hid o5
        obtain ⟨B, hB⟩ : ∃ B, b.take m2 = B := ⟨_, rfl⟩
        have HLB := Lib.hid (show B.length = m2 by rw [← hB, List.length_take]; omega)
        have HCT := Lib.hid (show Cel w (.slice A0 m2 c0) (cellsU B) by rw [← hB]; exact cel_take HB.out o3)
        rw [hB] at o1
        have HO1 := Lib.hid o1
        have d1 : decide ((m2 : Int) < 1) = false := decide_eq_false (by omega)
        have d2 : decide (z < m2) = false := decide_eq_false (by omega)
        have d3 : decide (most < (y.size : Int)) = false := decide_eq_false (by omega)
        have hmc : m2 ≤ c0 := by omega
        clear o1 hB
        have s1 := Own.drew q6
        go_region_held3 (fun w' => Own w w') (with_reducible assumption) (first
          | (go_at_call 20; with_reducible refine (puttext_nil C y B m2 _ HO5.out HO1.out HLB.out).mono ?_; rintro e w3 ⟨A3, c3, rfl, hc3, q3⟩; have s3 := Own.trans (show Own w _ by with_reducible assumption) q3; have H3 := Lib.hid hc3; have H4 := Lib.hid (HCT.out.own s3))
          | (go_at_call 13; with_reducible refine (rbytes_yes B _ _ _ H3 H4).mono ?_; rintro e w4 ⟨rfl, rfl⟩))
        go_wp2
        all_goals (go_meet; exact ⟨rfl, by with_reducible assumption⟩)
      · have d0 : decide (f2 = 0) = false := decide_eq_false c
        have d1 : (f2 == 0) = false := beq_eq_false_iff_ne.2 c
        go_quiet (fail)
        go_wp2
        all_goals (go_meet; exact ⟨rfl, by first | exact (q6).drewN _ | exact (q6).drew | exact q6⟩)
    case rest =>
      obtain ⟨rfl, q2⟩ := hcut
      have H2 := Lib.hid (HB.out.own q2)
      go_upto_region 8 with (go_at_call 22; with_reducible refine (takelist_n D b U n3 _ most f3 m3 _ H2 HB12.out HMO.out HT3 HN3.out).mono ?_; rintro e w2 ⟨A2, c2, rfl, hcu, q5⟩; have q6 := q2.trans q5; have HCU := Lib.hid hcu; clear hcu)
      go_cut [108] (fun s wx => s = .bool false ∧ Own w wx)
      case first =>
        clear HMO
        by_cases c : f3 = 0
        · subst c
          obtain ⟨o1, o2, o3, o4, o5, o6⟩ := HTO3.out rfl
          have HO5 := Lib.hid o5
          have HO6 := Lib.hid o6
          obtain ⟨B, hB⟩ : ∃ B, b.take m3 = B := ⟨_, rfl⟩
          have HLB := Lib.hid (show B.length = m3 by rw [← hB, List.length_take]; omega)
          have HCT := Lib.hid (show Cel w (.slice A0 m3 c0) (cellsU B) by rw [← hB]; exact cel_take HB.out o3)
          rw [hB] at o1
          have HO1 := Lib.hid o1
          have d1 : decide ((m3 : Int) < 1) = false := decide_eq_false (by omega)
          have d2 : decide (z < m3) = false := decide_eq_false (by omega)
          have d3 : decide (most < (n3 : Int)) = false := decide_eq_false (by omega)
          have s0 := Own.drew (Own.refl w2)
          have hmc : m3 ≤ c0 := by omega
          clear o1 hB
          have s1 := Own.drew q6
          go_region_held3 (fun w' => Own w w') (with_reducible assumption) (first
            | (go_at_call 25; have HCW := Lib.hid (HCU.out.own (by with_reducible assumption)); with_reducible refine (putlist_nil C U _ B m3 _ HCW HO6.out HO5.out HO1.out HLB.out).mono ?_; rintro e w3 ⟨A3, c3, rfl, hc3, q3⟩; have s3 := Own.trans (show Own w _ by with_reducible assumption) q3; have H3 := Lib.hid hc3; have H4 := Lib.hid (HCT.out.own s3))
            | (go_at_call 13; with_reducible refine (rbytes_yes B _ _ _ H3 H4).mono ?_; rintro e w4 ⟨rfl, rfl⟩))
          go_wp2
          all_goals (go_meet; exact ⟨rfl, by with_reducible assumption⟩)
        · have d0 : decide (f3 = 0) = false := decide_eq_false c
          have d1 : (f3 == 0) = false := beq_eq_false_iff_ne.2 c
          go_quiet (fail)
          go_wp2
          all_goals (go_meet; exact ⟨rfl, by first | exact (q6).drewN _ | exact (q6).drew | exact q6⟩)
      case rest =>
        obtain ⟨rfl, q2⟩ := hcut
        go_wp2_with (go_at_call 17; with_reducible refine (awake_at C D _).mono ?_; rintro e w6 ⟨rfl, q6⟩)
        go_ret
        exact ⟨rfl, q2.trans q6⟩
end Go.Proofs.Yteaidfocbhadjaa.WirW
