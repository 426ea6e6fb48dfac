/-
  What the laws ask of the program's package assign, and the walk of the laws' proves over it. Condition: none.
-/
import Derived.Test.YtfhdoeajoeaddaaAssignB
import Derived.Test.YtfhdoeajoeaddaaAssignS
import Derived.Test.YtfhdoeajoeaddaaAssignPlainE
namespace Go.Proofs.Ytfhdoeajoeaddaa.AsgW
open Go.ChangeShapes Go.WideShapes Go.ChangeAt Go.RowKit
open PairW CelW TabW MchW AsgP
def Big (U : List Int) : Prop := ∀ x ∈ U, -1125899906842624 ≤ x ∧ x ≤ 1125899906842624
theorem Big.at {U : List Int} (h : Big U) {i : Nat} (hi : i < U.length) : -1125899906842624 ≤ U.getD i 0 ∧ U.getD i 0 ≤ 1125899906842624 :=
  h _ (List.mem_of_getElem? (getD_at hi))
/-- Prices of a table. -/
structure Prc (c : Tb) (U V : List Int) : Prop where
  pr : Pr c U V
  bu : Big U
  bv : Big V
  sum : ∀ M m, Bst c M m → prs U V c.length = m
/-- What the laws ask of Check, Solve, Prices and Cost. -/
structure AsgC : Prop where
  check : ∀ (c : Tb) (v : Value) (f : Int) (w : World), Hid (Cels w v (cellsG c)) → Hid (chA c = f) →
    Calls Try.prog 12 #[v] w fun e w' => e = .returned (.int .i64 f) ∧ Own w w'
  solve : ∀ (c : Tb) (v : Value) (f : Int) (w : World), Hid (Cels w v (cellsG c)) → Hid (chA c = f) →
    Calls Try.prog 14 #[v] w fun e w' => ∃ (x : Value) (M : List Int) (m : Int), e = .returned (.tuple #[x, .int .i64 m, .int .i64 f]) ∧ Cel w' x (cellsI M) ∧ Own w w' ∧ (f = 0 → Bst c M m) ∧ (f ≠ 0 → M = [] ∧ m = 0)
  prices : ∀ (c : Tb) (v : Value) (f : Int) (w : World), Hid (Cels w v (cellsG c)) → Hid (chA c = f) →
    Calls Try.prog 15 #[v] w fun e w' => ∃ (x y : Value) (U V : List Int), e = .returned (.tuple #[x, y, .int .i64 f]) ∧ Cel w' x (cellsI U) ∧ Cel w' y (cellsI V) ∧ Own w w' ∧ (f = 0 → Prc c U V) ∧ (f ≠ 0 → U = [] ∧ V = [])
  cost : ∀ (c : Tb) (l : List Int) (vc vl : Value) (m f : Int) (w : World), Hid (Cels w vc (cellsG c)) → Hid (Cel w vl (cellsI l)) → Hid (coV c l = m) → Hid (coE c l = f) →
    Calls Try.prog 16 #[vc, vl] w fun e w' => e = .returned (.tuple #[.int .i64 m, .int .i64 f]) ∧ Own w w'
theorem raasg_yes (l : List Int) (v : Value) (n : Nat) (w : World) (HL : Hid (Cel w v (cellsI l))) (hn : n ≤ 16) (HB : Hid (asgV n l = true)) :
    Calls Try.prog 28 #[v, .int .i64 (n : Int)] w fun e w' => e = .returned (.bool true) ∧ Own w w' := raasg_at l v n true w HL hn HB
set_option maxRecDepth 100000 in
set_option maxHeartbeats 4000000 in
theorem proves_yes (A : AsgC) (c : Tb) (vc : Value) (w : World) (HT : Hid (Cels w vc (cellsG c))) (HF : Hid (chA c = 0)) :
    Calls Try.prog 20 #[vc] w fun e w' => e = .returned (.bool true) ∧ Own w w' := by
  obtain ⟨b1, b2, b3⟩ := chA_ok HF.out
  obtain ⟨n, hn⟩ : ∃ n, c.length = n := ⟨_, rfl⟩
  rw [hn] at b1
  have HN := Lib.hid hn
  have HS := Lib.hid b2
  have HR := Lib.hid b3
  clear hn b2 b3
  have hsolve := A.solve c vc 0 w HT HF
  obtain ⟨AC, capc, rfl, t1, t2, _⟩ := gt_open HT.out
  rw [HN.out] at t1 HT hsolve ⊢
  unfold maxLen at t2
  go_enter Try.func20, Try.ntmps20
  go_upto_region 2 with (go_at_call 14; refine hsolve.mono ?_; rintro e w1 ⟨x, M, m, rfl, cx, q1, hb, _⟩)
  have HB := Lib.hid (hb trivial)
  have HQ1 := Lib.hid q1
  have HX1 := Lib.hid cx
  clear hb q1 cx hsolve
  have hprices := A.prices c (.slice AC n capc) 0 w1 (Lib.hid (HT.out.own HQ1.out)) HF
  go_upto_region 3 with (go_at_call 15; refine hprices.mono ?_; rintro e w2 ⟨y, z, U, V, rfl, cy, cz, q2, hp, _⟩)
  have HP := Lib.hid (hp trivial)
  have HQ2 := Lib.hid (HQ1.out.trans q2)
  have HX := Lib.hid (HX1.out.own q2)
  have HY := Lib.hid cy
  have HZ := Lib.hid cz
  clear hp q2 cy cz hprices
  have HA := Lib.hid HB.out.asg
  rw [HN.out] at HA
  have hml := HA.out.len
  have hul := HP.out.pr.lu
  have hvl := HP.out.pr.lv
  rw [HN.out] at hul hvl
  have hasg := raasg_yes M x n w2 HX b1 (Lib.hid (asgV_iff.2 HA.out))
  obtain ⟨Ax, cx, rfl, x1, x2, x3⟩ := cel_int HX.out
  obtain ⟨Ay, cy, rfl, y1, y2, y3⟩ := cel_int HY.out
  obtain ⟨Az, cz, rfl, z1, z2, z3⟩ := cel_int HZ.out
  unfold maxLen at x2 y2 z2
  rw [hml] at x1 x3 hasg
  rw [hul] at y1 y3
  rw [hvl] at z1 z3
  have HML := Lib.hid hml
  have HUL := Lib.hid hul
  have HVL := Lib.hid hvl
  have HX3 := Lib.hid x3
  have HY3 := Lib.hid y3
  have HZ3 := Lib.hid z3
  have HPS := Lib.hid (show prs U V n = m by rw [← HN.out]; exact HP.out.sum M m HB.out)
  have HCM := Lib.hid (show costK c M n = m by have := HB.out.eq; unfold cost at this; rw [HN.out] at this; exact this)
  clear x3 y3 z3
  rw [hml, hul, hvl]
  clear hml hul hvl
  have HQC := Lib.hid (Own.refl w2)
  go_wp2_with (go_at_call 28; refine hasg.mono ?_; rintro e w3 ⟨rfl, q3⟩; have HQ3 := Lib.hid q3; clear q3)
  clear hasg HQC
  go_loopw [9, 10] (fun vs vi wr => ∃ (i : Nat) (t : Int), vs = .int .i64 t ∧ vi = .int .i64 (i : Int) ∧ i ≤ n ∧ Own w2 wr ∧ prs U V i = t) (fun _ vi _ => n - (intOf vi).toNat)
  case atStart => exact ⟨0, 0, rfl, rfl, Nat.zero_le _, HQ3.out, rfl⟩
  case round =>
    clear HQ3
    obtain ⟨i, t, rfl, rfl, hi, q, ht⟩ := hrel
    have HQ := Lib.hid q
    have HTT := Lib.hid ht
    have tb : -37000000000000000 ≤ t ∧ t ≤ 37000000000000000 := by
      have k1 := su_bound (f := fun i => U.getD i 0) (a := -1125899906842624) (b := 1125899906842624) (n := i) fun j hj => HP.out.bu.at (by rw [HUL.out]; omega)
      have k2 := su_bound (f := fun i => V.getD i 0) (a := -1125899906842624) (b := 1125899906842624) (n := i) fun j hj => HP.out.bv.at (by rw [HVL.out]; omega)
      unfold prs at ht
      omega
    obtain ⟨tb1, tb2⟩ := tb
    clear q ht
    generalize wr = w5 at *
    by_cases hlt : i < n
    · have hin : (i : Int) < n := by omega
      obtain ⟨gy, oy, rfl, hy4⟩ := HY3.out (by omega)
      obtain ⟨gz, oz, rfl, hz4⟩ := HZ3.out (by omega)
      have e0 := HQ.out.cell (hy4 i _ (getD_at (by rw [HUL.out]; exact hlt)))
      have e1 := HQ.out.cell (hz4 i _ (getD_at (by rw [HVL.out]; exact hlt)))
      have u12 := HP.out.bu.at (show i < U.length by rw [HUL.out]; exact hlt)
      have v12 := HP.out.bv.at (show i < V.length by rw [HVL.out]; exact hlt)
      have HNX := Lib.hid (show prs U V (i + 1) = t + U.getD i 0 + V.getD i 0 by
        rw [← HTT.out]
        unfold prs
        rw [su_succ, su_succ]
        omega)
      generalize U.getD i 0 = u at *
      generalize V.getD i 0 = v at *
      obtain ⟨u1, u2⟩ := u12
      obtain ⟨v1, v2⟩ := v12
      have c1 : decide (u < -1125899906842624) = false := decide_eq_false (by omega)
      have c2 : decide (1125899906842624 < u) = false := decide_eq_false (by omega)
      have c3 : decide (v < -1125899906842624) = false := decide_eq_false (by omega)
      have c4 : decide (1125899906842624 < v) = false := decide_eq_false (by omega)
      clear hy4 hz4
      go_upto_region 11 with (fail)
      go_quiet (fail)
      go_wp2
      go_roundw
      case rel => exact ⟨i + 1, t + u + v, by go_num, by go_num, hlt, HQ.out.drewN _, HNX.out⟩
      case measure => simp [intOf]; omega
    · obtain rfl : n = i := by omega
      obtain rfl : m = t := by rw [← HTT.out, HPS.out]
      go_wp2
      go_loopw [11, 12, 13] (fun vc vi _ wr => ∃ (i : Nat) (t : Int), vc = .int .i64 t ∧ vi = .int .i64 (i : Int) ∧ i ≤ n ∧ Own w2 wr ∧ costK c M i = t) (fun _ vi _ _ => n - (intOf vi).toNat)
      case atStart => exact ⟨0, 0, rfl, rfl, Nat.zero_le _, HQ.out, rfl⟩
      case round =>
        clear HQ
        obtain ⟨i, t, rfl, rfl, hi, q, ht⟩ := hrel
        have HQ := Lib.hid q
        have HTC := Lib.hid ht
        have tb := costK_bound HR.out M i
        rw [ht] at tb
        obtain ⟨tc1, tc2⟩ := tb
        have tc3 : t ≤ 17592186044416 := by omega
        clear q ht tc2
        generalize wr = w5 at *
        by_cases hlt : i < n
        · have hin : (i : Int) < n := by omega
          obtain ⟨gy, oy, rfl, hy4⟩ := HY3.out (by omega)
          obtain ⟨gz, oz, rfl, hz4⟩ := HZ3.out (by omega)
          have HY4 := Lib.hid hy4
          have HZ4 := Lib.hid hz4
          have u12 := HP.out.bu.at (show i < U.length by rw [HUL.out]; exact hlt)
          clear hy4 hz4
          go_wp2
          go_loopw [13] (fun vj wx => ∃ j : Nat, vj = .int .i64 (j : Int) ∧ j ≤ n ∧ Own w2 wx) (fun vj _ => n - (intOf vj).toNat)
          case atStart => exact ⟨0, rfl, Nat.zero_le _, HQ.out⟩
          case round =>
            clear HQ
            obtain ⟨j, rfl, hj, q⟩ := hrel
            have HQ := Lib.hid q
            clear q
            generalize wr = w6 at *
            have HTX := Lib.hid (HT.out.own (HQ2.out.trans HQ.out))
            obtain ⟨gl, ol, cpl, gr, og, cr, he, _, _, e1, h5, h6, hcell⟩ := gt_row HTX.out HS.out HN.out hlt
            injection he with ea eb ec
            subst ea
            subst ec
            unfold maxLen at h6
            have e0 := HQ.out.cell (HY4.out i _ (getD_at (by rw [HUL.out]; exact hlt)))
            by_cases hjn : j < n
            · have hjz : (j : Int) < n := by omega
              have e2 := HQ.out.cell (HZ4.out j _ (getD_at (by rw [HVL.out]; exact hjn)))
              have e3 := hcell j hjn
              have v12 := HP.out.bv.at (show j < V.length by rw [HVL.out]; exact hjn)
              have hle := HP.out.pr.le i (by rw [HN.out]; exact hlt) j (by rw [HN.out]; exact hjn)
              generalize U.getD i 0 = u at *
              generalize V.getD j 0 = v at *
              generalize ct c i j = y at *
              obtain ⟨u1, u2⟩ := u12
              obtain ⟨v1, v2⟩ := v12
              have c1 : decide (y < u + v) = false := decide_eq_false (by omega)
              clear hcell eb
              go_upto_region 19 with (fail)
              go_quiet (fail)
              go_wp2
              go_roundw
              case rel => exact ⟨j + 1, by go_num, hjn, HQ.out.drewN _⟩
              case measure => simp [intOf]; omega
            · obtain rfl : n = j := by omega
              obtain ⟨gx, ox, rfl, hx4⟩ := HX3.out (by omega)
              have e4 := HQ.out.cell (hx4 i _ (getD_at (by rw [HML.out]; exact hlt)))
              obtain ⟨x, hx⟩ : ∃ x, cl M i = x := ⟨_, rfl⟩
              have hxn := HA.out.lt hlt
              rw [hx] at hxn
              have hxz : (x : Int) < n := by omega
              rw [show M.getD i 0 = (x : Int) by rw [← hx]; unfold cl; have := (HA.out.at hlt).1; omega] at e4
              have e2 := HQ.out.cell (HZ4.out x _ (getD_at (by rw [HVL.out]; exact hxn)))
              have e3 := hcell x hxn
              have v12 := HP.out.bv.at (show x < V.length by rw [HVL.out]; exact hxn)
              have htt := HP.out.pr.tight (l := M) HB.out.asg (by rw [HB.out.eq]; exact HP.out.sum M m HB.out) i (by rw [HN.out]; exact hlt)
              rw [hx] at htt
              have HNX := Lib.hid (show costK c M (i + 1) = t + ct c i x by
                have e : costK c M (i + 1) = costK c M i + ct c i (cl M i) := rfl
                rw [e, HTC.out, hx])
              have hub := okc_of HR.out i x
              generalize U.getD i 0 = u at *
              generalize V.getD x 0 = v at *
              generalize ct c i x = y at *
              obtain ⟨u1, u2⟩ := u12
              obtain ⟨v1, v2⟩ := v12
              obtain ⟨y1', y2'⟩ := hub
              have c1 : (u + v != y) = false := bne_eq_false_iff_eq.2 htt
              clear hcell eb hx4 hx htt
              go_upto_region 21 with (fail)
              go_quiet (fail)
              go_upto_region 23 with (fail)
              go_quiet (fail)
              go_wp2
              go_roundw
              case rel => exact ⟨i + 1, t + y, by go_num, by go_num, hlt, HQ.out.drewN _, HNX.out⟩
              case measure => simp [intOf]; omega
        · obtain rfl : n = i := by omega
          obtain rfl : m = t := by rw [← HTC.out, HCM.out]
          have c1 : (m == m) = true := beq_self_eq_true m
          go_wp2
          go_ret
          exact ⟨rfl, HQ2.out.trans HQ.out⟩
end Go.Proofs.Ytfhdoeajoeaddaa.AsgW
