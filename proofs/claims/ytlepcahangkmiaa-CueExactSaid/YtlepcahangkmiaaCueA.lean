/-
  Walks of the specification of package cue: Check, Tempos, Ints. Condition: none.
-/
import Derived.Test.YtlepcahangkmiaaCuePlain
import Derived.Test.YtlepcahangkmiaaLists
import Derived.Lib.Hide
import Derived.Deep.DeepCutAuto
namespace Go.Proofs.Ytlepcahangkmiaa.CueW
open Go.ChangeShapes Go.WideShapes Go.ChangeAt Go.RowKit
open PairW CelW CueP
set_option maxRecDepth 100000 in
set_option maxHeartbeats 1000000 in
theorem rcheck_at (l : List Pt) (sv : Value) (f : Int) (w : World) (HP : Hid (Pts w sv l)) (H : Hid (ccE l = f)) :
    Calls Try.prog 11 #[sv] w fun e w' => e = .returned (.int .i64 f) ∧ Own w w' := by
  obtain ⟨A, cap, rfl, ha1, ha2, ha⟩ := HP.out.open
  unfold maxLen at ha2
  have HA := Lib.hid ha
  clear ha HP
  obtain ⟨n, hn⟩ : ∃ n, l.length = n := ⟨_, rfl⟩
  rw [hn] at HA ha1 ⊢
  have HN := Lib.hid hn
  clear hn
  by_cases h0 : n < 2
  · obtain rfl : 4 = f := by rw [← H.out]; exact (cc_few (by rw [HN.out]; exact h0)).symm
    have d0 : (n : Int) < 2 := by omega
    clear H HA
    go_enter Try.func11, Try.ntmps11
    go_wp2
    go_ret
    exact ⟨rfl, Own.refl w⟩
  have d0 : ¬ (n : Int) < 2 := by omega
  by_cases h1 : 64 < n
  · obtain rfl : 3 = f := by rw [← H.out]; exact (cc_many (l := l) (by rw [HN.out]; exact h1)).symm
    have d1 : (64 : Int) < n := by omega
    clear H HA
    go_enter Try.func11, Try.ntmps11
    go_wp2
    go_ret
    exact ⟨rfl, Own.refl w⟩
  have d1 : ¬ (64 : Int) < n := by omega
  obtain ⟨b, off, rfl, hcc⟩ := HA.out (by omega)
  have HC := Lib.hid hcc
  have hl0 : 2 ≤ l.length := by rw [HN.out]; omega
  have hl : l.length ≤ 64 := by rw [HN.out]; omega
  have HL := Lib.hid (And.intro hl0 hl)
  clear hcc HA hl0 hl
  have dn0 : (0 : Int) < n := by omega
  go_enter Try.func11, Try.ntmps11
  go_wp2
  go_loopw [3] (fun vi wr => ∃ k : Nat, vi = .int .i64 (k : Int) ∧ k ≤ n ∧ Own w wr ∧ ∀ j, j < k → okC (at' l j) = true) (fun vi _ => n - (intOf vi).toNat)
  case atStart => exact ⟨0, rfl, Nat.zero_le _, Own.refl w, fun j hj => absurd hj (Nat.not_lt_zero _)⟩
  case round =>
    obtain ⟨k, rfl, hk, g0, hok⟩ := hrel
    have HOK := Lib.hid hok
    clear hok
    by_cases hlt : k < n
    · have e0 := g0.cell (HC.out k hlt).1
      have e1 := g0.cell (HC.out k hlt).2
      obtain ⟨t, ht⟩ : ∃ t, okC (at' l k) = t := ⟨_, rfl⟩
      have HB := Lib.hid (fun (e : t = false) => cc_bad (l := l) (i := k) HL.out.1 HL.out.2 (by rw [HN.out]; exact hlt) (ht.trans e))
      obtain ⟨⟨x, y⟩, hp⟩ : ∃ p, at' l k = p := ⟨_, rfl⟩
      have HTT := Lib.hid ht
      rw [hp] at e0 e1 ht
      simp only at e0 e1
      clear hp
      have hkn : (k : Int) < n := by omega
      cases t with
      | true =>
        have ho := (okC_iff _).1 ht
        simp only at ho
        obtain ⟨⟨o1, o2⟩, o3, o4⟩ := ho
        have x1 : ¬ x < 0 := by omega
        have x2 : ¬ 8192 < x := by omega
        have x3 : ¬ y < 0 := by omega
        have x4 : ¬ 1099511627776 < y := by omega
        clear ht o1 o2 o3 o4
        go_wp2
        go_roundw
        case rel => exact ⟨k + 1, by go_num, hlt, g0, fun j hj => by
          by_cases e : j = k
          · rw [e]; exact HTT.out
          · exact HOK.out j (by omega)⟩
        case measure => simp [intOf]; omega
      | false =>
        obtain rfl : 1 = f := by rw [← H.out]; exact (HB.out rfl).symm
        have hno := (okC_no (x, y)).1 ht
        simp only at hno
        clear ht
        rcases hno with x1 | ⟨x1, x2⟩ | ⟨x1, x2, x3⟩ | ⟨x1, x2, x3, x4⟩
        all_goals
          go_wp2
          go_ret
          exact ⟨rfl, g0⟩
    · obtain rfl : k = n := by omega
      have HO := Lib.hid (show ∀ i, i < l.length → okC (at' l i) = true by rw [HN.out]; exact HOK.out)
      have e0 := g0.cell (HC.out 0 (by omega)).1
      obtain ⟨x0, hx0⟩ : ∃ x, (at' l 0).1 = x := ⟨_, rfl⟩
      rw [hx0] at e0
      simp only [Nat.zero_mul, Nat.add_zero] at e0
      by_cases h2 : x0 = 0
      · subst h2
        have HF := Lib.hid hx0
        have good : (∀ i, i + 1 < k → lat (at' l i) (at' l (i + 1)) = true) → 0 = f := fun h => by
          rw [← H.out]
          exact (cc_cues.2 ⟨HL.out.1, HL.out.2, HO.out, HF.out, fun i hi => (lat_iff _ _).1 (h i (by rw [← HN.out]; exact hi))⟩).symm
        have GD := Lib.hid good
        generalize hwc : wr = wc at *
        clear hwc hx0 hlt HOK good
        go_wp2
        go_loopw [4] (fun vi wr => ∃ i : Nat, vi = .int .i64 (i : Int) ∧ 1 ≤ i ∧ i ≤ k ∧ Own w wr ∧ ∀ j, j + 1 < i → lat (at' l j) (at' l (j + 1)) = true) (fun vi _ => k - (intOf vi).toNat)
        case atStart => exact ⟨1, rfl, Nat.le_refl _, by omega, g0, fun j hj => by omega⟩
        case round =>
          obtain ⟨i, rfl, hi1, hi, q0, hup⟩ := hrel
          have HUP := Lib.hid hup
          clear hup
          by_cases hlt : i < k
          · obtain ⟨j, hj⟩ : ∃ j, i = j + 1 := ⟨i - 1, by omega⟩
            have c0 := q0.cell (HC.out j (by omega)).1
            have c1 := q0.cell (HC.out i (by omega)).1
            have c2 := q0.cell (HC.out j (by omega)).2
            have c3 := q0.cell (HC.out i (by omega)).2
            obtain ⟨t, ht⟩ : ∃ t, lat (at' l j) (at' l (j + 1)) = t := ⟨_, rfl⟩
            have HX := Lib.hid (fun (e : t = false) => cc_five (l := l) (j := j + 1) HL.out.1 HL.out.2 HO.out (by rw [HN.out]; omega) (by show (!lat (at' l j) (at' l (j + 1))) = true; rw [ht, e]; rfl))
            have HT := Lib.hid ht
            have HJ := Lib.hid hj
            rw [← hj] at ht
            obtain ⟨⟨x, u⟩, hx⟩ : ∃ p, at' l j = p := ⟨_, rfl⟩
            obtain ⟨⟨y, v⟩, hy⟩ : ∃ p, at' l i = p := ⟨_, rfl⟩
            rw [hx] at c0 c2 ht
            rw [hy] at c1 c3 ht
            simp only at c0 c1 c2 c3
            have him : (i : Int) < k := by omega
            have i1 : IntKind.i64.wrap ((i : Int) - 1) = (j : Int) := (IntWalk.i64_in _ (by omega)).trans (by omega)
            have d5 : (0 : Int) ≤ (j : Int) := by omega
            have d6 : (j : Int) < k := by omega
            clear hx hy hj
            cases t with
            | true =>
              obtain ⟨o1, o2⟩ := (lat_iff _ _).1 ht
              simp only at o1 o2
              have dd : decide (y ≤ x) = false := decide_eq_false (by omega)
              have de : decide (v ≤ u) = false := decide_eq_false (by omega)
              clear ht o1 o2
              go_upto_region 15 with (fail)
              go_quiet (fail)
              go_wp2
              go_roundw
              case rel => exact ⟨i + 1, by go_num, by omega, hlt, q0.drewN _, fun m hm => by
                by_cases e : m = j
                · rw [e]; exact HT.out
                · exact HUP.out m (by have := HJ.out; omega)⟩
              case measure => simp [intOf]; omega
            | false =>
              obtain rfl : 5 = f := by rw [← H.out]; exact (HX.out rfl).symm
              have hno : y ≤ x ∨ ¬ y ≤ x ∧ v ≤ u := by
                have := mt (lat_iff (x, u) (y, v)).2 (by rw [ht]; decide)
                simp only at this
                omega
              clear ht
              rcases hno with o1 | ⟨o1, o2⟩
              · have dd : decide (y ≤ x) = true := decide_eq_true o1
                go_upto_region 15 with (fail)
                go_quiet (fail)
                go_wp2
                go_ret
                exact ⟨rfl, q0.drewN _⟩
              · have dd : decide (y ≤ x) = false := decide_eq_false o1
                have de : decide (v ≤ u) = true := decide_eq_true o2
                clear o1
                go_upto_region 15 with (fail)
                go_quiet (fail)
                go_wp2
                go_ret
                exact ⟨rfl, q0.drewN _⟩
          · obtain rfl : i = k := by omega
            obtain rfl := GD.out (fun j hj => HUP.out j (by omega))
            go_wp2
            go_ret
            exact ⟨rfl, q0⟩
      · obtain rfl : 5 = f := by rw [← H.out]; exact (cc_five (j := 0) HL.out.1 HL.out.2 HO.out (by rw [HN.out]; omega) (by show decide ((at' l 0).1 ≠ 0) = true; rw [hx0]; exact decide_eq_true h2)).symm
        have d2 : (x0 != 0) = true := bne_iff_ne.2 h2
        clear hx0
        go_wp2
        go_ret
        exact ⟨rfl, g0⟩
/-- Whether two pairs are the same. -/
def ptB (a b c d : Int) : Bool := (a == c) && (b == d)
theorem ptB_self (a b : Int) : ptB a b a b = true := by unfold ptB; simp
theorem te_under : Try.prog.underlying 45 = some (.struct (Try.prog.fieldsOf 45)) := by kernel_rfl
theorem te_stood : Try.prog.stoodInHeld 45 = false := by kernel_rfl
theorem te_guards : Try.prog.eqGuardType Try.prog.depth 45 = false := by kernel_rfl
@[go_sem high] theorem te_guard (op : BinOp) (x y : Operand) (xs ys : Array Value) (W : World) : (eqGuard op 45 x y (.agg xs) (.agg ys)).run Try.prog W = .ok () W := run_eqGuard_agg W op 45 x y xs ys te_guards
theorem te_eq (a b c d : Int) (W : World) : (Op.equalIn 10000 45 (.agg #[.int .i64 a, .int .i64 b]) (.agg #[.int .i64 c, .int .i64 d])).run Try.prog W = .ok (ptB a b c d) W := by
  rw [run_equalIn_agg W 9999 45 _ _ te_under te_stood]
  unfold ptB
  simp [go_sem, Op.eqFields, part, Program.fieldsOf, Try.underlying45, Try.underlying3]
  by_cases h1 : a = c <;> by_cases h2 : b = d <;> simp [h1, h2]
@[go_sem high] theorem te_eql (a b c d : Int) (W : World) : (binOp .eql 45 (.agg #[.int .i64 a, .int .i64 b]) (.agg #[.int .i64 c, .int .i64 d])).run Try.prog W = .ok (.bool (ptB a b c d)) W := by
  rw [run_eql_struct, te_eq]
  rfl
@[go_sem high] theorem te_neq (a b c d : Int) (W : World) : (binOp .neq 45 (.agg #[.int .i64 a, .int .i64 b]) (.agg #[.int .i64 c, .int .i64 d])).run Try.prog W = .ok (.bool (!ptB a b c d)) W := by
  rw [run_neq_struct, te_eq]
  rfl
set_option maxRecDepth 100000 in
set_option maxHeartbeats 1000000 in
theorem rtempos_yes (l : List Pt) (va vb : Value) (w : World) (HA : Hid (Pts w va l)) (HB : Hid (Pts w vb l)) :
    Calls Try.prog 15 #[va, vb] w fun e w' => e = .returned (.bool true) ∧ Own w w' := by
  obtain ⟨A, ca, rfl, a1, a2, a3⟩ := HA.out.open
  obtain ⟨B, cb, rfl, b1, b2, b3⟩ := HB.out.open
  unfold maxLen at a2 b2
  have HCA := Lib.hid a3
  have HCB := Lib.hid b3
  obtain ⟨n, hn⟩ : ∃ n, l.length = n := ⟨_, rfl⟩
  rw [hn] at a1 b1 HCA HCB ⊢
  clear a3 b3 HA HB hn
  go_enter Try.func15, Try.ntmps15
  go_wp2
  go_loopw [5] (fun i wr => ∃ k : Nat, i = .int .i64 k ∧ k ≤ n ∧ Own w wr) (fun i _ => n - (intOf i).toNat)
  case atStart => exact ⟨0, rfl, Nat.zero_le _, Own.refl w⟩
  case round =>
    obtain ⟨k, rfl, hk, q⟩ := hrel
    by_cases hlt : k < n
    · obtain ⟨g, off, rfl, hc⟩ := HCA.out (by omega)
      obtain ⟨g2, off2, rfl, hc2⟩ := HCB.out (by omega)
      have c0 := q.cell (hc k hlt).1
      have c1 := q.cell (hc k hlt).2
      have c2 := q.cell (hc2 k hlt).1
      have c3 := q.cell (hc2 k hlt).2
      obtain ⟨⟨x, y⟩, hp⟩ : ∃ p, at' l k = p := ⟨_, rfl⟩
      rw [hp] at c0 c1 c2 c3
      simp only at c0 c1 c2 c3
      clear hc hc2 hp
      have hkn : (k : Int) < n := by omega
      have hzz : ptB x y x y = true := ptB_self x y
      go_upto_region 6 with (fail)
      go_quiet (fail)
      go_wp2
      go_roundw
      case rel => exact ⟨k + 1, by go_num, hlt, q.drewN _⟩
      case measure => simp [intOf]; omega
    · obtain rfl : k = n := by omega
      go_wp2
      go_ret
      exact ⟨rfl, q⟩
set_option maxRecDepth 100000 in
set_option maxHeartbeats 1000000 in
theorem rints_yes (l : List Int) (va vb : Value) (w : World) (HA : Hid (Cel w va (cellsI l))) (HB : Hid (Cel w vb (cellsI l))) :
    Calls Try.prog 20 #[va, vb] w fun e w' => e = .returned (.bool true) ∧ Own w w' := by
  obtain ⟨A, ca, rfl, a1, a2, a3⟩ := cel_ints HA.out
  obtain ⟨B, cb, rfl, b1, b2, b3⟩ := cel_ints HB.out
  unfold maxLen at a2 b2
  have HCA := Lib.hid a3
  have HCB := Lib.hid b3
  obtain ⟨n, hn⟩ : ∃ n, l.length = n := ⟨_, rfl⟩
  have HN := Lib.hid hn
  rw [hn] at a1 b1 ⊢
  clear a3 b3 HA HB hn
  go_enter Try.func20, Try.ntmps20
  go_wp2
  go_loopw [5] (fun i wr => ∃ k : Nat, i = .int .i64 k ∧ k ≤ n ∧ Own w wr) (fun i _ => n - (intOf i).toNat)
  case atStart => exact ⟨0, rfl, Nat.zero_le _, Own.refl w⟩
  case round =>
    obtain ⟨k, rfl, hk, q⟩ := hrel
    by_cases hlt : k < n
    · obtain ⟨g, off, rfl, hc⟩ := HCA.out (by rw [HN.out]; omega)
      obtain ⟨g2, off2, rfl, hc2⟩ := HCB.out (by rw [HN.out]; omega)
      have hkl : k < l.length := by rw [HN.out]; exact hlt
      have c0 := q.cell (hc k hkl)
      have c1 := q.cell (hc2 k hkl)
      obtain ⟨z, hz⟩ : ∃ z, l[k] = z := ⟨_, rfl⟩
      rw [hz] at c0 c1
      clear hc hc2 hz hkl
      have hkn : (k : Int) < n := by omega
      have hzz : (z == z) = true := beq_self_eq_true z
      go_upto_region 6 with (fail)
      go_quiet (fail)
      go_wp2
      go_roundw
      case rel => exact ⟨k + 1, by go_num, hlt, q.drewN _⟩
      case measure => simp [intOf]; omega
    · obtain rfl : k = n := by omega
      go_wp2
      go_ret
      exact ⟨rfl, q⟩
end Go.Proofs.Ytlepcahangkmiaa.CueW
