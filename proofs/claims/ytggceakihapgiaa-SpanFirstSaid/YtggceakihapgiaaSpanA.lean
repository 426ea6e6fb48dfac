/-
  Walks of Check, Has, Same and in of the specification of package span, and of the small functions of its laws: what a call returns for every input. Condition: none.
-/
import Derived.Test.YtggceakihapgiaaPairs
import Derived.Test.YtggceakihapgiaaSpanPlain
namespace Go.Proofs.Ytggceakihapgiaa.SpaW
open Go.ChangeShapes Go.WideShapes Go.ChangeAt Go.RowKit
open PairW SpaP

def chkE (l : List Sp) : Int := if 128 < l.length then 3 else if l.all okS = true then 0 else 1
theorem chkE_big {l : List Sp} (h : 128 < l.length) : chkE l = 3 := by unfold chkE; rw [if_pos h]
theorem chkE_bad {l : List Sp} {i : Nat} (h : l.length ≤ 128) (hi : i < l.length) (hb : okS (at' l i) = false) : chkE l = 1 := by
  unfold chkE
  rw [if_neg (by omega), if_neg]
  intro h2
  have := List.all_eq_true.1 h2 _ (at_mem hi)
  rw [hb] at this
  cases this
theorem all_upto {l : List Sp} (h : ∀ i, i < l.length → okS (at' l i) = true) : ∀ q ∈ l, okS q = true := by
  intro q hq
  obtain ⟨i, hi, e⟩ := List.mem_iff_getElem.1 hq
  have := h i hi
  unfold at' at this
  rw [List.getD_eq_getElem?_getD, List.getElem?_eq_getElem hi, Option.getD_some, e] at this
  exact this
theorem chkE_good {l : List Sp} (h : l.length ≤ 128) (hb : ∀ i, i < l.length → okS (at' l i) = true) : chkE l = 0 := by
  unfold chkE
  rw [if_neg (by omega), if_pos (List.all_eq_true.2 (all_upto hb))]
theorem chkE_zero (l : List Sp) : chkE l = 0 ↔ l.length ≤ 128 ∧ ∀ q ∈ l, okS q = true := by
  unfold chkE
  by_cases h : 128 < l.length
  · rw [if_pos h]; omega
  · rw [if_neg h]
    by_cases g : l.all okS = true
    · rw [if_pos g]; exact ⟨fun _ => ⟨by omega, List.all_eq_true.1 g⟩, fun _ => rfl⟩
    · rw [if_neg g]; exact ⟨fun x => by omega, fun x => absurd (List.all_eq_true.2 x.2) g⟩
set_option maxRecDepth 100000 in
set_option maxHeartbeats 2000000 in
theorem rcheck_at (l : List Sp) (sv : Value) (f : Int) (w : World) (HP : Hid (Pts w sv l)) (H : Hid (chkE l = f)) :
    Calls Try.prog 13 #[sv] w fun e w' => e = .returned (.int .i64 f) ∧ Own w w' := by
  obtain ⟨A, cap, rfl, ha1, ha2, ha⟩ := HP.out.open
  unfold maxLen at ha2
  have HA := Lib.hid ha
  clear ha HP
  obtain ⟨n, hn⟩ : ∃ n, l.length = n := ⟨_, rfl⟩
  rw [hn] at HA ha1 ⊢
  by_cases hb : 128 < n
  · have hf := chkE_big (l := l) (by omega)
    rw [H.out] at hf
    subst hf
    clear hn H
    go_enter Try.func13, Try.ntmps13
    go_wp2
    go_ret
    exact ⟨rfl, Own.refl w⟩
  · have HN := Lib.hid hn
    clear hn
    go_enter Try.func13, Try.ntmps13
    go_wp2
    go_loopw [3] (fun i wr => ∃ k : Nat, i = .int .i64 k ∧ k ≤ n ∧ Own w wr ∧ ∀ j, j < k → okS (at' l j) = true) (fun i _ => n - (intOf i).toNat)
    case atStart => exact ⟨0, rfl, Nat.zero_le _, Own.refl w, fun j hj => absurd hj (Nat.not_lt_zero _)⟩
    case round =>
      obtain ⟨k, rfl, hk, g0, hok⟩ := hrel
      have HOK := Lib.hid hok
      clear hok
      by_cases hlt : k < n
      · obtain ⟨b, off, rfl, hc⟩ := HA.out (by omega)
        have e0 := g0.cell (hc k hlt).1
        have e1 := g0.cell (hc k hlt).2
        clear hc
        obtain ⟨p, hp⟩ : ∃ p, at' l k = p := ⟨_, rfl⟩
        have HP2 := Lib.hid hp
        rw [hp] at e0 e1
        clear hp
        obtain ⟨x, y⟩ := p
        simp only at e0 e1
        by_cases c1 : x < 0
        · have hf : chkE l = 1 := chkE_bad (i := k) (by rw [HN.out]; omega) (by rw [HN.out]; exact hlt) (by rw [HP2.out]; unfold okS; rw [decide_eq_false (show ¬ (0 : Int) ≤ x by omega)]; rfl)
          rw [H.out] at hf
          subst hf
          have d1 : decide (x < 0) = true := decide_eq_true c1
          go_upto_region 6 with (fail)
          go_quiet (fail)
          go_wp2
          go_ret
          exact ⟨rfl, g0.drewN _⟩
        have d1 : decide (x < 0) = false := decide_eq_false c1
        by_cases c2 : y < x
        · have hf : chkE l = 1 := chkE_bad (i := k) (by rw [HN.out]; omega) (by rw [HN.out]; exact hlt) (by rw [HP2.out]; unfold okS; rw [decide_eq_false (show ¬ x ≤ y by omega)]; simp)
          rw [H.out] at hf
          subst hf
          have d2 : decide (y < x) = true := decide_eq_true c2
          go_upto_region 6 with (fail)
          go_quiet (fail)
          go_wp2
          go_ret
          exact ⟨rfl, g0.drewN _⟩
        have d2 : decide (y < x) = false := decide_eq_false c2
        by_cases c3 : 65536 < y
        · have hf : chkE l = 1 := chkE_bad (i := k) (by rw [HN.out]; omega) (by rw [HN.out]; exact hlt) (by rw [HP2.out]; unfold okS; rw [decide_eq_false (show ¬ y ≤ 65536 by omega)]; simp)
          rw [H.out] at hf
          subst hf
          have d3 : decide (65536 < y) = true := decide_eq_true c3
          go_upto_region 6 with (fail)
          go_quiet (fail)
          go_wp2
          go_ret
          exact ⟨rfl, g0.drewN _⟩
        have d3 : decide (65536 < y) = false := decide_eq_false c3
        have HT := Lib.hid (show okS (at' l k) = true by rw [HP2.out]; exact (okS_iff (x, y)).2 ⟨by simp only; omega, by simp only; omega, by simp only; omega⟩)
        clear HP2
        go_upto_region 6 with (fail)
        go_quiet (fail)
        go_wp2
        go_roundw
        case rel => exact ⟨k + 1, by go_num, hlt, g0.drewN _, fun j hj => by
            by_cases e : j = k
            · rw [e]; exact HT.out
            · exact HOK.out j (by omega)⟩
        case measure => simp [intOf]; omega
      · obtain rfl : k = n := by omega
        have hf := chkE_good (l := l) (by rw [HN.out]; omega) (by rw [HN.out]; exact HOK.out)
        rw [H.out] at hf
        subst hf
        go_wp2
        go_ret
        exact ⟨rfl, g0⟩
set_option maxRecDepth 100000 in
theorem rhas_at (l : List Sp) (sv : Value) (x : Int) (t : Bool) (w : World) (HP : Hid (Pts w sv l)) (H : Hid (hasB l x = t)) :
    Calls Try.prog 45 #[sv, .int .i64 x] w fun e w' => e = .returned (.bool t) ∧ Own w w' := by
  obtain ⟨A, cap, rfl, ha1, ha2, ha⟩ := HP.out.open
  unfold maxLen at ha2
  have HA := Lib.hid ha
  clear ha HP
  obtain ⟨n, hn⟩ : ∃ n, l.length = n := ⟨_, rfl⟩
  rw [hn] at HA ha1 ⊢
  have HN := Lib.hid hn
  clear hn
  go_enter Try.func45, Try.ntmps45
  go_wp2
  go_loopw [5] (fun i wr => ∃ k : Nat, i = .int .i64 k ∧ k ≤ n ∧ Own w wr ∧ ∀ j, j < k → ¬ ((at' l j).1 ≤ x ∧ x < (at' l j).2)) (fun i _ => n - (intOf i).toNat)
  case atStart => exact ⟨0, rfl, Nat.zero_le _, Own.refl w, fun j hj => absurd hj (Nat.not_lt_zero _)⟩
  case round =>
    obtain ⟨k, rfl, hk, g0, hno⟩ := hrel
    have HNO := Lib.hid hno
    clear hno
    by_cases hlt : k < n
    · obtain ⟨b, off, rfl, hc⟩ := HA.out (by omega)
      have e0 := g0.cell (hc k hlt).1
      have e1 := g0.cell (hc k hlt).2
      clear hc
      obtain ⟨p, hp⟩ : ∃ p, at' l k = p := ⟨_, rfl⟩
      have HP2 := Lib.hid hp
      rw [hp] at e0 e1
      clear hp
      obtain ⟨y, z⟩ := p
      simp only at e0 e1
      by_cases c1 : y ≤ x
      · by_cases c2 : x < z
        · have ht : t = true := by rw [← H.out, has_iff]; exact ⟨at' l k, at_mem (by rw [HN.out]; exact hlt), by rw [HP2.out]; exact ⟨c1, c2⟩⟩
          subst ht
          have d1 : decide (y ≤ x) = true := decide_eq_true c1
          have d2 : decide (x < z) = true := decide_eq_true c2
          go_wp2
          go_ret
          exact ⟨rfl, g0⟩
        · have d1 : decide (y ≤ x) = true := decide_eq_true c1
          have d2 : decide (x < z) = false := decide_eq_false c2
          go_wp2
          go_roundw
          case rel => exact ⟨k + 1, by go_num, hlt, g0, fun j hj => by
              by_cases e : j = k
              · rw [e, HP2.out]; simp only; omega
              · exact HNO.out j (by omega)⟩
          case measure => simp [intOf]; omega
      · have d1 : decide (y ≤ x) = false := decide_eq_false c1
        go_wp2
        go_roundw
        case rel => exact ⟨k + 1, by go_num, hlt, g0, fun j hj => by
            by_cases e : j = k
            · rw [e, HP2.out]; simp only; omega
            · exact HNO.out j (by omega)⟩
        case measure => simp [intOf]; omega
    · obtain rfl : k = n := by omega
      have ht : t = false := by
        rw [← H.out]
        refine Bool.of_not_eq_true fun hx => ?_
        obtain ⟨s, hs, h1⟩ := (has_iff l x).1 hx
        obtain ⟨i, hi, e⟩ := List.mem_iff_getElem.1 hs
        have := HNO.out i (by rw [← HN.out]; exact hi)
        unfold at' at this
        rw [List.getD_eq_getElem?_getD, List.getElem?_eq_getElem hi, Option.getD_some, e] at this
        exact this h1
      subst ht
      go_wp2
      go_ret
      exact ⟨rfl, g0⟩
set_option maxRecDepth 100000 in
theorem in_at (l : List Sp) (sv : Value) (x : Int) (t : Bool) (w : World) (HP : Hid (Pts w sv l)) (H : Hid (hasB l x = t)) :
    Calls Try.prog 15 #[sv, .int .i64 x] w fun e w' => e = .returned (.bool t) ∧ Own w w' := by
  obtain ⟨A, cap, rfl, ha1, ha2, ha⟩ := HP.out.open
  unfold maxLen at ha2
  have HA := Lib.hid ha
  clear ha HP
  obtain ⟨n, hn⟩ : ∃ n, l.length = n := ⟨_, rfl⟩
  rw [hn] at HA ha1 ⊢
  have HN := Lib.hid hn
  clear hn
  go_enter Try.func15, Try.ntmps15
  go_wp2
  go_loopw [5] (fun i wr => ∃ k : Nat, i = .int .i64 k ∧ k ≤ n ∧ Own w wr ∧ ∀ j, j < k → ¬ ((at' l j).1 ≤ x ∧ x < (at' l j).2)) (fun i _ => n - (intOf i).toNat)
  case atStart => exact ⟨0, rfl, Nat.zero_le _, Own.refl w, fun j hj => absurd hj (Nat.not_lt_zero _)⟩
  case round =>
    obtain ⟨k, rfl, hk, g0, hno⟩ := hrel
    have HNO := Lib.hid hno
    clear hno
    by_cases hlt : k < n
    · obtain ⟨b, off, rfl, hc⟩ := HA.out (by omega)
      have e0 := g0.cell (hc k hlt).1
      have e1 := g0.cell (hc k hlt).2
      clear hc
      obtain ⟨p, hp⟩ : ∃ p, at' l k = p := ⟨_, rfl⟩
      have HP2 := Lib.hid hp
      rw [hp] at e0 e1
      clear hp
      obtain ⟨y, z⟩ := p
      simp only at e0 e1
      by_cases c1 : y ≤ x
      · by_cases c2 : x < z
        · have ht : t = true := by rw [← H.out, has_iff]; exact ⟨at' l k, at_mem (by rw [HN.out]; exact hlt), by rw [HP2.out]; exact ⟨c1, c2⟩⟩
          subst ht
          have d1 : decide (y ≤ x) = true := decide_eq_true c1
          have d2 : decide (x < z) = true := decide_eq_true c2
          go_wp2
          go_ret
          exact ⟨rfl, g0⟩
        · have d1 : decide (y ≤ x) = true := decide_eq_true c1
          have d2 : decide (x < z) = false := decide_eq_false c2
          go_wp2
          go_roundw
          case rel => exact ⟨k + 1, by go_num, hlt, g0, fun j hj => by
              by_cases e : j = k
              · rw [e, HP2.out]; simp only; omega
              · exact HNO.out j (by omega)⟩
          case measure => simp [intOf]; omega
      · have d1 : decide (y ≤ x) = false := decide_eq_false c1
        go_wp2
        go_roundw
        case rel => exact ⟨k + 1, by go_num, hlt, g0, fun j hj => by
            by_cases e : j = k
            · rw [e, HP2.out]; simp only; omega
            · exact HNO.out j (by omega)⟩
        case measure => simp [intOf]; omega
    · obtain rfl : k = n := by omega
      have ht : t = false := by
        rw [← H.out]
        refine Bool.of_not_eq_true fun hx => ?_
        obtain ⟨s, hs, h1⟩ := (has_iff l x).1 hx
        obtain ⟨i, hi, e⟩ := List.mem_iff_getElem.1 hs
        have := HNO.out i (by rw [← HN.out]; exact hi)
        unfold at' at this
        rw [List.getD_eq_getElem?_getD, List.getElem?_eq_getElem hi, Option.getD_some, e] at this
        exact this h1
      subst ht
      go_wp2
      go_ret
      exact ⟨rfl, g0⟩
/-- Whether two spans are the same. -/
def ptB (a b c d : Int) : Bool := (a == c) && (b == d)
theorem ptB_iff (a b c d : Int) : ptB a b c d = true ↔ ((a, b) : Sp) = (c, d) := by unfold ptB; rw [Bool.and_eq_true, beq_iff_eq, beq_iff_eq, Prod.mk.injEq]
theorem ptB_yes {a b c d : Int} (h : ((a, b) : Sp) = (c, d)) : ptB a b c d = true := (ptB_iff a b c d).2 h
theorem ptB_no {a b c d : Int} (h : ¬ ((a, b) : Sp) = (c, d)) : ptB a b c d = false := Bool.of_not_eq_true (mt (ptB_iff a b c d).1 h)
theorem pt_under : Try.prog.underlying 36 = some (.struct (Try.prog.fieldsOf 36)) := by kernel_rfl
theorem pt_stood : Try.prog.stoodInHeld 36 = false := by kernel_rfl
theorem pt_guards : Try.prog.eqGuardType Try.prog.depth 36 = false := by kernel_rfl
@[go_sem high] theorem pt_guard (op : BinOp) (x y : Operand) (xs ys : Array Value) (W : World) : (eqGuard op 36 x y (.agg xs) (.agg ys)).run Try.prog W = .ok () W := run_eqGuard_agg W op 36 x y xs ys pt_guards
theorem pt_eq (a b c d : Int) (W : World) : (Op.equalIn 10000 36 (.agg #[.int .i64 a, .int .i64 b]) (.agg #[.int .i64 c, .int .i64 d])).run Try.prog W = .ok (ptB a b c d) W := by
  rw [run_equalIn_agg W 9999 36 _ _ pt_under pt_stood]
  unfold ptB
  simp [go_sem, Op.eqFields, part, Program.fieldsOf, Try.underlying36, Try.underlying3]
  by_cases h1 : a = c <;> by_cases h2 : b = d <;> simp [h1, h2]
@[go_sem high] theorem pt_eql (a b c d : Int) (W : World) : (binOp .eql 36 (.agg #[.int .i64 a, .int .i64 b]) (.agg #[.int .i64 c, .int .i64 d])).run Try.prog W = .ok (.bool (ptB a b c d)) W := by
  rw [run_eql_struct, pt_eq]
  rfl
@[go_sem high] theorem pt_neq (a b c d : Int) (W : World) : (binOp .neq 36 (.agg #[.int .i64 a, .int .i64 b]) (.agg #[.int .i64 c, .int .i64 d])).run Try.prog W = .ok (.bool (!ptB a b c d)) W := by
  rw [run_neq_struct, pt_eq]
  rfl
set_option maxRecDepth 100000 in
set_option maxHeartbeats 2000000 in
theorem rsame_at (la lb : List Sp) (sa sb : Value) (t : Bool) (w : World) (HA : Hid (Pts w sa la)) (HB : Hid (Pts w sb lb)) (H : Hid (decide (la = lb) = t)) :
    Calls Try.prog 21 #[sa, sb] w fun e w' => e = .returned (.bool t) ∧ Own w w' := by
  obtain ⟨A, ca, rfl, ha1, ha2, ha⟩ := HA.out.open
  obtain ⟨B, cb, rfl, hb1, hb2, hb⟩ := HB.out.open
  clear HA HB
  unfold maxLen at ha2 hb2
  have HA := Lib.hid ha
  have HB := Lib.hid hb
  clear ha hb
  obtain ⟨n, hn⟩ : ∃ n, la.length = n := ⟨_, rfl⟩
  obtain ⟨m, hm⟩ : ∃ m, lb.length = m := ⟨_, rfl⟩
  rw [hn] at HA ha1 ⊢
  rw [hm] at HB hb1 ⊢
  by_cases hl : n = m
  · subst hl
    have HN := Lib.hid hn
    have HM := Lib.hid hm
    clear hn hm
    go_enter Try.func21, Try.ntmps21
    go_wp2
    go_loopw [5] (fun i wr => ∃ k : Nat, i = .int .i64 k ∧ k ≤ n ∧ Own w wr ∧ ∀ j, j < k → at' la j = at' lb j) (fun i _ => n - (intOf i).toNat)
    case atStart => exact ⟨0, rfl, Nat.zero_le _, Own.refl w, fun j hj => absurd hj (Nat.not_lt_zero _)⟩
    case round =>
      obtain ⟨k, rfl, hk, g0, heq⟩ := hrel
      have HE := Lib.hid heq
      clear heq
      by_cases hlt : k < n
      · obtain ⟨b, off, rfl, hc⟩ := HA.out (by omega)
        obtain ⟨b', off', rfl, hc'⟩ := HB.out (by omega)
        have e0 := g0.cell (hc k hlt).1
        have e1 := g0.cell (hc k hlt).2
        have e2 := g0.cell (hc' k hlt).1
        have e3 := g0.cell (hc' k hlt).2
        clear hc hc'
        by_cases hs : at' la k = at' lb k
        · have HS := Lib.hid hs
          rw [hs] at e0 e1
          obtain ⟨⟨x, y⟩, hp⟩ : ∃ p, at' lb k = p := ⟨_, rfl⟩
          rw [hp] at e0 e1 e2 e3
          simp only at e0 e1 e2 e3
          clear hs hp
          have hb1 : ptB x y x y = true := ptB_yes rfl
          go_upto_region 6 with (fail)
          go_quiet (fail)
          go_wp2
          go_roundw
          case rel => exact ⟨k + 1, by go_num, hlt, g0.drewN _, fun j hj => by
              by_cases e : j = k
              · rw [e]; exact HS.out
              · exact HE.out j (by omega)⟩
          case measure => simp [intOf]; omega
        · have ht := not_same hs H.out
          subst ht
          obtain ⟨⟨x, y⟩, hp⟩ : ∃ p, at' la k = p := ⟨_, rfl⟩
          obtain ⟨⟨x2, y2⟩, hp2⟩ : ∃ p, at' lb k = p := ⟨_, rfl⟩
          rw [hp] at e0 e1 hs
          rw [hp2] at e2 e3 hs
          simp only at e0 e1 e2 e3
          have hb1 := ptB_no hs
          clear hs hp hp2
          go_upto_region 6 with (fail)
          go_quiet (fail)
          go_wp2
          go_ret
          exact ⟨rfl, g0.drewN _⟩
      · obtain rfl : k = n := by omega
        have ht : t = true := by rw [← H.out]; exact decide_eq_true (lists_eq (HN.out.trans HM.out.symm) (by rw [HN.out]; exact HE.out))
        subst ht
        go_wp2
        go_ret
        exact ⟨rfl, g0⟩
  · have ht : t = false := by rw [← H.out]; exact decide_eq_false (fun e => hl (by rw [← hn, ← hm, e]))
    subst ht
    have hne : ((n : Int) != (m : Int)) = true := bne_iff_ne.2 (by omega)
    clear hn hm hl
    go_enter Try.func21, Try.ntmps21
    go_wp2
    go_ret
    exact ⟨rfl, Own.refl w⟩
theorem rin_at (p q : Bool) (op : Int) (t : Bool) (w : World) (H : Hid (opB op p q = t)) (hop : op = 0 ∨ op = 1 ∨ op = 2) :
    Calls Try.prog 44 #[.bool p, .bool q, .int .i64 op] w fun e w' => e = .returned (.bool t) ∧ w = w' := by
  obtain rfl := H.out
  clear H
  rcases hop with rfl | rfl | rfl
  all_goals
    cases p <;> cases q
    all_goals
      go_enter Try.func44, Try.ntmps44
      go_wp2
      go_ret
      exact ⟨rfl, rfl⟩
end Go.Proofs.Ytggceakihapgiaa.SpaW
