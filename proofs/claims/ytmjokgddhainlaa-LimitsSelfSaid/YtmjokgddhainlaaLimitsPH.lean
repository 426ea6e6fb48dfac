/-
  Walks of the program of package limits: change, isTooFast, limbError, bodyError. Condition: none.
-/
import Derived.Test.YtmjokgddhainlaaLimitsPD
import Derived.Test.YtmjokgddhainlaaMovMem
namespace Go.Proofs.Ytmjokgddhainlaa.LimW
open Go.ChangeShapes Go.WideShapes Go.ChangeAt Go.RowKit
open MovW PairW AimP AimW BlkW PrtW PstP PstW RegD LimP
open AngP
set_option maxRecDepth 100000 in
set_option maxHeartbeats 1000000 in
theorem lch_at (x y v : Int) (w : World) (H : Hid (chg x y = v)) :
    Calls Try.prog 73 #[.int .i64 x, .int .i64 y] w fun r w' => r = .returned (.int .i64 v) ∧ w = w' := by
  have hb := bet_bd x y
  obtain ⟨n, hn⟩ : ∃ n, betV x y 64 = n := ⟨_, rfl⟩
  rw [hn] at hb
  obtain ⟨g, hg⟩ : ∃ g, betE x y 64 = g := ⟨_, rfl⟩
  have HBE := Lib.hid (show betV x y 64 = n ∧ betE x y 64 = g from ⟨hn, hg⟩)
  have HV := Lib.hid (show max n (-n) = v by rw [← H.out, ← hn]; rfl)
  have i1 : IntKind.i64.wrap (-n) = -n := IntWalk.i64_in _ (by omega)
  have hm0 := fun (w : World) (ts : Array TypeId) (t : TypeId) => max2_at (P := Try.prog) n (-n) w ts t
  rw [HV.out] at hm0
  clear hn hb H hg
  go_enter Try.func73, Try.ntmps73
  go_wp2_with (go_at_call 77; with_reducible refine (AngW.bet_at _ _ _ n g _ HBE).mono ?_; rintro r w1 ⟨rfl, rfl⟩)
  go_ret
  exact ⟨rfl, rfl⟩
set_option maxRecDepth 100000 in
set_option maxHeartbeats 8000000 in
theorem lft_at (x : Vl) (z e b z' e' b' : Int) (t : Bool) (w : World) (he : -64 ≤ e ∧ e ≤ 64) (he' : -64 ≤ e' ∧ e' ≤ 64) (H : Hid (fstB x z e z' e' = t)) :
    Calls Try.prog 72 #[.agg (cz 6 x), .agg #[.int .i64 z, .int .i64 e, .int .i64 b], .agg #[.int .i64 z', .int .i64 e', .int .i64 b']] w fun r w' => r = .returned (.bool t) ∧ Own w w' := by
  obtain ⟨d, hd⟩ : ∃ d, e' - e = d := ⟨_, rfl⟩
  have i1 : IntKind.i64.wrap (e' - e) = d := (IntWalk.i64_in _ (by omega)).trans hd
  have i2 : IntKind.i64.wrap (-d) = -d := IntWalk.i64_in _ (by omega)
  have H2 := Lib.hid (show (decide (x 5 < max d (-d)) || (!poleB e && !poleB e' && decide (x 5 < chg z z'))) = t by rw [← hd]; exact H.out)
  clear hd H he he'
  obtain ⟨g, hg⟩ : ∃ g, max d (-d) = g := ⟨_, rfl⟩
  have hm0 := fun (w : World) (ts : Array TypeId) (t : TypeId) => max2_at (P := Try.prog) d (-d) w ts t
  rw [hg] at hm0 H2
  clear hg
  by_cases hf : x 5 < g
  · obtain rfl : true = t := by rw [← H2.out, decide_eq_true hf]; rfl
    have d1 : decide (x 5 < g) = true := decide_eq_true hf
    clear H2 hf
    go_enter Try.func72, Try.ntmps72
    go_upto_region 1 with (fail)
    obtain ⟨W0, B, C, D, hW, hD, hC, hB, hb, hc, hd, g0, -, -, -, -⟩ := three_new w (cz 6 x) 23 (#[.int .i64 z, .int .i64 e, .int .i64 b]) 34 (#[.int .i64 z', .int .i64 e', .int .i64 b']) 34
    rw [hW, hD, hC, hB]
    have HB := Lib.hid hb
    have HC := Lib.hid hc
    have HD := Lib.hid hd
    have k5 := blk_num hb (i := 5) (by omega)
    obtain ⟨m0, m1, m2⟩ := hc.three
    obtain ⟨n0, n1, n2⟩ := hd.three
    clear hW hD hC hB hb hc hd
    clear HB HC HD
    go_wp2
    go_ret
    exact ⟨rfl, g0⟩
  · have d1 : decide (x 5 < g) = false := decide_eq_false hf
    rw [d1] at H2
    clear hf
    cases hpf : poleB e with
    | true =>
      obtain rfl : false = t := by rw [← H2.out, hpf]; rfl
      have HPF := Lib.hid hpf
      clear H2 hpf
      go_enter Try.func72, Try.ntmps72
      go_upto_region 1 with (fail)
      obtain ⟨W0, B, C, D, hW, hD, hC, hB, hb, hc, hd, g0, -, -, -, -⟩ := three_new w (cz 6 x) 23 (#[.int .i64 z, .int .i64 e, .int .i64 b]) 34 (#[.int .i64 z', .int .i64 e', .int .i64 b']) 34
      rw [hW, hD, hC, hB]
      have HB := Lib.hid hb
      have HC := Lib.hid hc
      have HD := Lib.hid hd
      have k5 := blk_num hb (i := 5) (by omega)
      obtain ⟨m0, m1, m2⟩ := hc.three
      obtain ⟨n0, n1, n2⟩ := hd.three
      clear hW hD hC hB hb hc hd
      go_upto_region 4 with (fail)
      clear hm0 d1 i1 i2
      clear m0 m1 m2 n0 n1 n2 k5
      refine RegD.region_duty [20, 21, 22, 23, 24, 25, 26, 27, 28, 29, 30, 31, 32, 33, 34, 35, 36, 37, 6] (RegI.upd (RegI.upd (RegI.upd (RegI.upd (RegI.upd (RegI.upd (RegI.upd (RegI.upd (RegI.upd (RegI.upd (RegI.upd (RegI.upd (RegI.upd (RegI.upd (RegI.upd (RegI.upd (RegI.upd (RegI.upd (RegI.upd (fun _ => undef) 20 (.agg #[.int .i64 z, .int .i64 e, .int .i64 b])) 21 (.bool true)) 22 (.bool false)) 23 (.bool false)) 24 (undef)) 25 (undef)) 26 (undef)) 27 (.bool false)) 28 (.bool false)) 29 (undef)) 30 (undef)) 31 (undef)) 32 (undef)) 33 (undef)) 34 (undef)) 35 (undef)) 36 (undef)) 37 (.bool false)) 6 (.bool false)) (by kernel_rfl) (by kernel_rfl) (by intro d hd; simp at hd; simp; omega) ?_
      simp only [RegD.FF, RegI.FX, RegI.upd, List.foldl_cons, List.foldl_nil, List.not_mem_nil, if_true, if_false, Nat.reduceEqDiff]
      simp only [List.setIfInBounds_toArray, List.set_cons_succ, List.set_cons_zero]
      refine And.intro ?hs1 ?he1
      case hs1 =>
        refine And.intro ?s1_0 (And.intro ?s1_1 (And.intro ?s1_2 (And.intro ?s1_3 (And.intro ?s1_4 (And.intro ?s1_5 (And.intro ?s1_6 (And.intro ?s1_7 (And.intro ?s1_8 (And.intro ?s1_9 (And.intro ?s1_10 (And.intro ?s1_11 (And.intro ?s1_12 (And.intro ?s1_13 (And.intro ?s1_14 (And.intro ?s1_15 (And.intro ?s1_16 (And.intro ?s1_17 (And.intro ?s1_18 (trivial)))))))))))))))))))
        case s1_0 =>
          intro u w1 hO
          have HB9 := Lib.hid (HC.out.own hO)
          go_wp2_with ((with_reducible show wpList _ _ _ (⟨_, .load 34 (.tmp 4), _, _, _, none⟩ :: _) _ _); refine wpList_load_row rfl 34 (.tmp 4) rfl C rfl 34 _ (0, 0) _ HB9.out.raw Try.underlying34 rfl infoA ?_)
          exact ⟨rfl, rfl, rfl, Own.refl _⟩
        case s1_1 =>
          intro u w1 hO
          go_wp2_with (go_at_call 56; with_reducible refine (liv_at z e b true _ HPF).mono ?_; rintro r w2 ⟨rfl, hg⟩)
          exact ⟨rfl, rfl, rfl, hg⟩
        case s1_2 =>
          intro u w1 hO
          go_wp2
          exact ⟨rfl, rfl, rfl, Own.refl _⟩
        case s1_3 =>
          intro u w1 hO
          go_wp2
          exact ⟨rfl, rfl, rfl, Own.refl _⟩
        case s1_4 =>
          intro u w1 hO
          go_wp2
          exact ⟨rfl, rfl, rfl, Own.refl _⟩
        case s1_5 =>
          intro u w1 hO
          go_wp2
          exact ⟨rfl, rfl, rfl, Own.refl _⟩
        case s1_6 =>
          intro u w1 hO
          go_wp2
          exact ⟨rfl, rfl, rfl, Own.refl _⟩
        case s1_7 =>
          intro u w1 hO
          go_wp2
          exact ⟨rfl, rfl, rfl, Own.refl _⟩
        case s1_8 =>
          intro u w1 hO
          go_wp2
          exact ⟨rfl, rfl, rfl, Own.refl _⟩
        case s1_9 =>
          intro u w1 hO
          go_wp2
          exact ⟨rfl, rfl, rfl, Own.refl _⟩
        case s1_10 =>
          intro u w1 hO
          go_wp2
          exact ⟨rfl, rfl, rfl, Own.refl _⟩
        case s1_11 =>
          intro u w1 hO
          go_wp2
          exact ⟨rfl, rfl, rfl, Own.refl _⟩
        case s1_12 =>
          intro u w1 hO
          go_wp2
          exact ⟨rfl, rfl, rfl, Own.refl _⟩
        case s1_13 =>
          intro u w1 hO
          go_wp2
          exact ⟨rfl, rfl, rfl, Own.refl _⟩
        case s1_14 =>
          intro u w1 hO
          go_wp2
          exact ⟨rfl, rfl, rfl, Own.refl _⟩
        case s1_15 =>
          intro u w1 hO
          go_wp2
          exact ⟨rfl, rfl, rfl, Own.refl _⟩
        case s1_16 =>
          intro u w1 hO
          go_wp2
          exact ⟨rfl, rfl, rfl, Own.refl _⟩
        case s1_17 =>
          intro u w1 hO
          go_wp2
          exact ⟨rfl, rfl, rfl, Own.refl _⟩
        case s1_18 =>
          intro u w1 hO
          go_wp2
          exact ⟨rfl, rfl, rfl, Own.refl _⟩
      intro u w9 hO
      replace g0 := g0.trans hO
      clear hO HB HC HD
      go_wp2
      go_ret
      exact ⟨rfl, g0⟩
    | false =>
      have HPF := Lib.hid hpf
      cases hpt : poleB e' with
      | true =>
        obtain rfl : false = t := by rw [← H2.out, hpf, hpt]; rfl
        have HPT := Lib.hid hpt
        clear H2 hpf hpt
        go_enter Try.func72, Try.ntmps72
        go_upto_region 1 with (fail)
        obtain ⟨W0, B, C, D, hW, hD, hC, hB, hb, hc, hd, g0, -, -, -, -⟩ := three_new w (cz 6 x) 23 (#[.int .i64 z, .int .i64 e, .int .i64 b]) 34 (#[.int .i64 z', .int .i64 e', .int .i64 b']) 34
        rw [hW, hD, hC, hB]
        have HB := Lib.hid hb
        have HC := Lib.hid hc
        have HD := Lib.hid hd
        have k5 := blk_num hb (i := 5) (by omega)
        obtain ⟨m0, m1, m2⟩ := hc.three
        obtain ⟨n0, n1, n2⟩ := hd.three
        clear hW hD hC hB hb hc hd
        go_upto_region 4 with (fail)
        clear hm0 d1 i1 i2
        clear m0 m1 m2 n0 n1 n2 k5
        refine RegD.region_duty [20, 21, 22, 23, 24, 25, 26, 27, 28, 29, 30, 31, 32, 33, 34, 35, 36, 37, 6] (RegI.upd (RegI.upd (RegI.upd (RegI.upd (RegI.upd (RegI.upd (RegI.upd (RegI.upd (RegI.upd (RegI.upd (RegI.upd (RegI.upd (RegI.upd (RegI.upd (RegI.upd (RegI.upd (RegI.upd (RegI.upd (RegI.upd (fun _ => undef) 20 (.agg #[.int .i64 z, .int .i64 e, .int .i64 b])) 21 (.bool false)) 22 (.bool true)) 23 (.bool true)) 24 (.agg #[.int .i64 z', .int .i64 e', .int .i64 b'])) 25 (.bool true)) 26 (.bool false)) 27 (.bool false)) 28 (.bool false)) 29 (undef)) 30 (undef)) 31 (undef)) 32 (undef)) 33 (undef)) 34 (undef)) 35 (undef)) 36 (undef)) 37 (.bool false)) 6 (.bool false)) (by kernel_rfl) (by kernel_rfl) (by intro d hd; simp at hd; simp; omega) ?_
        simp only [RegD.FF, RegI.FX, RegI.upd, List.foldl_cons, List.foldl_nil, List.not_mem_nil, if_true, if_false, Nat.reduceEqDiff]
        simp only [List.setIfInBounds_toArray, List.set_cons_succ, List.set_cons_zero]
        refine And.intro ?hs2 ?he2
        case hs2 =>
          refine And.intro ?s2_0 (And.intro ?s2_1 (And.intro ?s2_2 (And.intro ?s2_3 (And.intro ?s2_4 (And.intro ?s2_5 (And.intro ?s2_6 (And.intro ?s2_7 (And.intro ?s2_8 (And.intro ?s2_9 (And.intro ?s2_10 (And.intro ?s2_11 (And.intro ?s2_12 (And.intro ?s2_13 (And.intro ?s2_14 (And.intro ?s2_15 (And.intro ?s2_16 (And.intro ?s2_17 (And.intro ?s2_18 (trivial)))))))))))))))))))
          case s2_0 =>
            intro u w1 hO
            have HB9 := Lib.hid (HC.out.own hO)
            go_wp2_with ((with_reducible show wpList _ _ _ (⟨_, .load 34 (.tmp 4), _, _, _, none⟩ :: _) _ _); refine wpList_load_row rfl 34 (.tmp 4) rfl C rfl 34 _ (0, 0) _ HB9.out.raw Try.underlying34 rfl infoA ?_)
            exact ⟨rfl, rfl, rfl, Own.refl _⟩
          case s2_1 =>
            intro u w1 hO
            go_wp2_with (go_at_call 56; with_reducible refine (liv_at z e b false _ HPF).mono ?_; rintro r w2 ⟨rfl, hg⟩)
            exact ⟨rfl, rfl, rfl, hg⟩
          case s2_2 =>
            intro u w1 hO
            go_wp2
            exact ⟨rfl, rfl, rfl, Own.refl _⟩
          case s2_3 =>
            intro u w1 hO
            go_wp2
            exact ⟨rfl, rfl, rfl, Own.refl _⟩
          case s2_4 =>
            intro u w1 hO
            have HB9 := Lib.hid (HD.out.own hO)
            go_wp2_with ((with_reducible show wpList _ _ _ (⟨_, .load 34 (.tmp 5), _, _, _, some _⟩ :: _) _ _); refine wpList_load_row_g rfl 34 (.tmp 5) rfl D rfl 34 _ (0, 0) _ HB9.out.raw Try.underlying34 rfl infoA ?_)
            exact ⟨rfl, rfl, rfl, Own.refl _⟩
          case s2_5 =>
            intro u w1 hO
            go_wp2_with (go_at_call 56; with_reducible refine (liv_at z' e' b' true _ HPT).mono ?_; rintro r w2 ⟨rfl, hg⟩)
            exact ⟨rfl, rfl, rfl, hg⟩
          case s2_6 =>
            intro u w1 hO
            go_wp2
            exact ⟨rfl, rfl, rfl, Own.refl _⟩
          case s2_7 =>
            intro u w1 hO
            go_wp2
            exact ⟨rfl, rfl, rfl, Own.refl _⟩
          case s2_8 =>
            intro u w1 hO
            go_wp2
            exact ⟨rfl, rfl, rfl, Own.refl _⟩
          case s2_9 =>
            intro u w1 hO
            go_wp2
            exact ⟨rfl, rfl, rfl, Own.refl _⟩
          case s2_10 =>
            intro u w1 hO
            go_wp2
            exact ⟨rfl, rfl, rfl, Own.refl _⟩
          case s2_11 =>
            intro u w1 hO
            go_wp2
            exact ⟨rfl, rfl, rfl, Own.refl _⟩
          case s2_12 =>
            intro u w1 hO
            go_wp2
            exact ⟨rfl, rfl, rfl, Own.refl _⟩
          case s2_13 =>
            intro u w1 hO
            go_wp2
            exact ⟨rfl, rfl, rfl, Own.refl _⟩
          case s2_14 =>
            intro u w1 hO
            go_wp2
            exact ⟨rfl, rfl, rfl, Own.refl _⟩
          case s2_15 =>
            intro u w1 hO
            go_wp2
            exact ⟨rfl, rfl, rfl, Own.refl _⟩
          case s2_16 =>
            intro u w1 hO
            go_wp2
            exact ⟨rfl, rfl, rfl, Own.refl _⟩
          case s2_17 =>
            intro u w1 hO
            go_wp2
            exact ⟨rfl, rfl, rfl, Own.refl _⟩
          case s2_18 =>
            intro u w1 hO
            go_wp2
            exact ⟨rfl, rfl, rfl, Own.refl _⟩
        intro u w9 hO
        replace g0 := g0.trans hO
        clear hO HB HC HD
        go_wp2
        go_ret
        exact ⟨rfl, g0⟩
      | false =>
        have HPT := Lib.hid hpt
        obtain ⟨v, hv⟩ : ∃ v, chg z z' = v := ⟨_, rfl⟩
        have HV := Lib.hid hv
        have HDV := Lib.hid (show decide (x 5 < v) = t by
          rw [← H2.out, hpf, hpt, hv]
          rfl)
        clear H2 hpf hpt hv
        go_enter Try.func72, Try.ntmps72
        go_upto_region 1 with (fail)
        obtain ⟨W0, B, C, D, hW, hD, hC, hB, hb, hc, hd, g0, -, -, -, -⟩ := three_new w (cz 6 x) 23 (#[.int .i64 z, .int .i64 e, .int .i64 b]) 34 (#[.int .i64 z', .int .i64 e', .int .i64 b']) 34
        rw [hW, hD, hC, hB]
        have HB := Lib.hid hb
        have HC := Lib.hid hc
        have HD := Lib.hid hd
        have k5 := blk_num hb (i := 5) (by omega)
        obtain ⟨m0, m1, m2⟩ := hc.three
        obtain ⟨n0, n1, n2⟩ := hd.three
        clear hW hD hC hB hb hc hd
        go_upto_region 4 with (fail)
        clear hm0 d1 i1 i2
        clear m0 m1 m2 n0 n1 n2 k5
        refine RegD.region_duty [20, 21, 22, 23, 24, 25, 26, 27, 28, 29, 30, 31, 32, 33, 34, 35, 36, 37, 6] (RegI.upd (RegI.upd (RegI.upd (RegI.upd (RegI.upd (RegI.upd (RegI.upd (RegI.upd (RegI.upd (RegI.upd (RegI.upd (RegI.upd (RegI.upd (RegI.upd (RegI.upd (RegI.upd (RegI.upd (RegI.upd (RegI.upd (fun _ => undef) 20 (.agg #[.int .i64 z, .int .i64 e, .int .i64 b])) 21 (.bool false)) 22 (.bool true)) 23 (.bool true)) 24 (.agg #[.int .i64 z', .int .i64 e', .int .i64 b'])) 25 (.bool false)) 26 (.bool true)) 27 (.bool true)) 28 (.bool true)) 29 (.pointer (some ⟨C, 0, none⟩))) 30 (.int .i64 z)) 31 (.pointer (some ⟨D, 0, none⟩))) 32 (.int .i64 z')) 33 (.int .i64 v)) 34 (.pointer (some ⟨B, 5, none⟩))) 35 (.int .i64 (x 5))) 36 (.bool (decide (x 5 < v)))) 37 (.bool (decide (x 5 < v)))) 6 (.bool (decide (x 5 < v)))) (by kernel_rfl) (by kernel_rfl) (by intro d hd; simp at hd; simp; omega) ?_
        simp only [RegD.FF, RegI.FX, RegI.upd, List.foldl_cons, List.foldl_nil, List.not_mem_nil, if_true, if_false, Nat.reduceEqDiff]
        simp only [List.setIfInBounds_toArray, List.set_cons_succ, List.set_cons_zero]
        refine And.intro ?hs3 ?he3
        case hs3 =>
          refine And.intro ?s3_0 (And.intro ?s3_1 (And.intro ?s3_2 (And.intro ?s3_3 (And.intro ?s3_4 (And.intro ?s3_5 (And.intro ?s3_6 (And.intro ?s3_7 (And.intro ?s3_8 (And.intro ?s3_9 (And.intro ?s3_10 (And.intro ?s3_11 (And.intro ?s3_12 (And.intro ?s3_13 (And.intro ?s3_14 (And.intro ?s3_15 (And.intro ?s3_16 (And.intro ?s3_17 (And.intro ?s3_18 (trivial)))))))))))))))))))
          case s3_0 =>
            intro u w1 hO
            have HB9 := Lib.hid (HC.out.own hO)
            go_wp2_with ((with_reducible show wpList _ _ _ (⟨_, .load 34 (.tmp 4), _, _, _, none⟩ :: _) _ _); refine wpList_load_row rfl 34 (.tmp 4) rfl C rfl 34 _ (0, 0) _ HB9.out.raw Try.underlying34 rfl infoA ?_)
            exact ⟨rfl, rfl, rfl, Own.refl _⟩
          case s3_1 =>
            intro u w1 hO
            go_wp2_with (go_at_call 56; with_reducible refine (liv_at z e b false _ HPF).mono ?_; rintro r w2 ⟨rfl, hg⟩)
            exact ⟨rfl, rfl, rfl, hg⟩
          case s3_2 =>
            intro u w1 hO
            go_wp2
            exact ⟨rfl, rfl, rfl, Own.refl _⟩
          case s3_3 =>
            intro u w1 hO
            go_wp2
            exact ⟨rfl, rfl, rfl, Own.refl _⟩
          case s3_4 =>
            intro u w1 hO
            have HB9 := Lib.hid (HD.out.own hO)
            go_wp2_with ((with_reducible show wpList _ _ _ (⟨_, .load 34 (.tmp 5), _, _, _, some _⟩ :: _) _ _); refine wpList_load_row_g rfl 34 (.tmp 5) rfl D rfl 34 _ (0, 0) _ HB9.out.raw Try.underlying34 rfl infoA ?_)
            exact ⟨rfl, rfl, rfl, Own.refl _⟩
          case s3_5 =>
            intro u w1 hO
            go_wp2_with (go_at_call 56; with_reducible refine (liv_at z' e' b' false _ HPT).mono ?_; rintro r w2 ⟨rfl, hg⟩)
            exact ⟨rfl, rfl, rfl, hg⟩
          case s3_6 =>
            intro u w1 hO
            go_wp2
            exact ⟨rfl, rfl, rfl, Own.refl _⟩
          case s3_7 =>
            intro u w1 hO
            go_wp2
            exact ⟨rfl, rfl, rfl, Own.refl _⟩
          case s3_8 =>
            intro u w1 hO
            go_wp2
            exact ⟨rfl, rfl, rfl, Own.refl _⟩
          case s3_9 =>
            intro u w1 hO
            go_wp2
            exact ⟨rfl, rfl, rfl, Own.refl _⟩
          case s3_10 =>
            intro u w1 hO
            have kk := (HC.out.own hO).cell 0
            go_wp2
            exact ⟨rfl, rfl, rfl, Own.refl _⟩
          case s3_11 =>
            intro u w1 hO
            go_wp2
            exact ⟨rfl, rfl, rfl, Own.refl _⟩
          case s3_12 =>
            intro u w1 hO
            have kk := (HD.out.own hO).cell 0
            go_wp2
            exact ⟨rfl, rfl, rfl, Own.refl _⟩
          case s3_13 =>
            intro u w1 hO
            go_wp2_with (go_at_call 73; with_reducible refine (lch_at _ _ v _ HV).mono ?_; rintro r w2 ⟨rfl, rfl⟩)
            exact ⟨rfl, rfl, rfl, Own.refl _⟩
          case s3_14 =>
            intro u w1 hO
            go_wp2
            exact ⟨rfl, rfl, rfl, Own.refl _⟩
          case s3_15 =>
            intro u w1 hO
            have kk := blk_num (HB.out.own hO) (i := 5) (by omega)
            go_wp2
            exact ⟨rfl, rfl, rfl, Own.refl _⟩
          case s3_16 =>
            intro u w1 hO
            go_wp2
            exact ⟨rfl, rfl, rfl, Own.refl _⟩
          case s3_17 =>
            intro u w1 hO
            go_wp2
            exact ⟨rfl, rfl, rfl, Own.refl _⟩
          case s3_18 =>
            intro u w1 hO
            go_wp2
            exact ⟨rfl, rfl, rfl, Own.refl _⟩
        intro u w9 hO
        replace g0 := g0.trans hO
        clear hO HB HC HD
        go_wp2
        go_ret
        exact ⟨ret_bool HDV.out, g0⟩
set_option maxRecDepth 100000 in
set_option maxHeartbeats 2000000 in
theorem lle_at (x : Vl) (z e b z' e' b' c : Int) (w : World) (hx : 0 ≤ x 2 ∧ x 2 ≤ 255) (hz : 0 ≤ z' ∧ z' ≤ 511) (he : -64 ≤ e ∧ e ≤ 64) (he' : -64 ≤ e' ∧ e' ≤ 64) (H : Hid (lbE x z e z' e' b' = c)) :
    Calls Try.prog 63 #[.agg (cz 6 x), .agg #[.int .i64 z, .int .i64 e, .int .i64 b], .agg #[.int .i64 z', .int .i64 e', .int .i64 b']] w fun r w' => r = .returned (.int .i64 c) ∧ Own w w' := by
  have hc := H.out
  unfold lbE at hc
  clear H
  cases hm : mayB x z' e' b' with
  | false =>
    rw [if_neg (by rw [hm]; exact Bool.false_ne_true)] at hc
    subst hc
    have HM := Lib.hid hm
    clear hm
    go_enter Try.func63, Try.ntmps63
    go_upto_region 2 with (fail)
    obtain ⟨W0, B, C, D, hW, hD, hC, hB, hb, hc, hd, g0, -, -, -, -⟩ := three_new w (cz 6 x) 23 (#[.int .i64 z, .int .i64 e, .int .i64 b]) 34 (#[.int .i64 z', .int .i64 e', .int .i64 b']) 34
    rw [hW, hD, hC, hB]
    have HB := Lib.hid hb
    have HC := Lib.hid hc
    have HD := Lib.hid hd
    clear hW hD hC hB hb hc hd
    go_wp2_with (first | ((with_reducible show wpList _ _ _ (⟨_, .load 23 (.tmp 3), _, _, _, none⟩ :: _) _ _); refine wpList_load_row rfl 23 (.tmp 3) rfl B rfl 23 _ (0, 0) _ HB.out.raw Try.underlying23 rfl infoL ?_) | ((with_reducible show wpList _ _ _ (⟨_, .load 34 (.tmp 4), _, _, _, none⟩ :: _) _ _); refine wpList_load_row rfl 34 (.tmp 4) rfl C rfl 34 _ (0, 0) _ HC.out.raw Try.underlying34 rfl infoA ?_) | ((with_reducible show wpList _ _ _ (⟨_, .load 34 (.tmp 5), _, _, _, none⟩ :: _) _ _); refine wpList_load_row rfl 34 (.tmp 5) rfl D rfl 34 _ (0, 0) _ HD.out.raw Try.underlying34 rfl infoA ?_) | (go_at_call 37; with_reducible refine (lal_at x z' e' b' false _ hx hz HM).mono ?_; rintro r w1 ⟨rfl, hg⟩; replace g0 := g0.trans hg; replace HB := Lib.hid (HB.out.own hg); replace HC := Lib.hid (HC.out.own hg); replace HD := Lib.hid (HD.out.own hg); clear hg))
    go_ret
    exact ⟨rfl, g0⟩
  | true =>
    rw [if_pos hm] at hc
    have HM := Lib.hid hm
    cases hf : fstB x z e z' e' with
    | true =>
      rw [if_pos hf] at hc
      subst hc
      have HF := Lib.hid hf
      clear hm hf
      go_enter Try.func63, Try.ntmps63
      go_upto_region 2 with (fail)
      obtain ⟨W0, B, C, D, hW, hD, hC, hB, hb, hc, hd, g0, -, -, -, -⟩ := three_new w (cz 6 x) 23 (#[.int .i64 z, .int .i64 e, .int .i64 b]) 34 (#[.int .i64 z', .int .i64 e', .int .i64 b']) 34
      rw [hW, hD, hC, hB]
      have HB := Lib.hid hb
      have HC := Lib.hid hc
      have HD := Lib.hid hd
      clear hW hD hC hB hb hc hd
      go_wp2_with (first | ((with_reducible show wpList _ _ _ (⟨_, .load 23 (.tmp 3), _, _, _, none⟩ :: _) _ _); refine wpList_load_row rfl 23 (.tmp 3) rfl B rfl 23 _ (0, 0) _ HB.out.raw Try.underlying23 rfl infoL ?_) | ((with_reducible show wpList _ _ _ (⟨_, .load 34 (.tmp 4), _, _, _, none⟩ :: _) _ _); refine wpList_load_row rfl 34 (.tmp 4) rfl C rfl 34 _ (0, 0) _ HC.out.raw Try.underlying34 rfl infoA ?_) | ((with_reducible show wpList _ _ _ (⟨_, .load 34 (.tmp 5), _, _, _, none⟩ :: _) _ _); refine wpList_load_row rfl 34 (.tmp 5) rfl D rfl 34 _ (0, 0) _ HD.out.raw Try.underlying34 rfl infoA ?_) | (go_at_call 37; with_reducible refine (lal_at x z' e' b' true _ hx hz HM).mono ?_; rintro r w1 ⟨rfl, hg⟩; replace g0 := g0.trans hg; replace HB := Lib.hid (HB.out.own hg); replace HC := Lib.hid (HC.out.own hg); replace HD := Lib.hid (HD.out.own hg); clear hg) | (go_at_call 72; with_reducible refine (lft_at x z e b z' e' b' true _ he he' HF).mono ?_; rintro r w2 ⟨rfl, hg⟩; replace g0 := g0.trans hg; replace HB := Lib.hid (HB.out.own hg); replace HC := Lib.hid (HC.out.own hg); replace HD := Lib.hid (HD.out.own hg); clear hg))
      go_ret
      exact ⟨rfl, g0⟩
    | false =>
      rw [if_neg (by rw [hf]; exact Bool.false_ne_true)] at hc
      subst hc
      have HF := Lib.hid hf
      clear hm hf
      go_enter Try.func63, Try.ntmps63
      go_upto_region 2 with (fail)
      obtain ⟨W0, B, C, D, hW, hD, hC, hB, hb, hc, hd, g0, -, -, -, -⟩ := three_new w (cz 6 x) 23 (#[.int .i64 z, .int .i64 e, .int .i64 b]) 34 (#[.int .i64 z', .int .i64 e', .int .i64 b']) 34
      rw [hW, hD, hC, hB]
      have HB := Lib.hid hb
      have HC := Lib.hid hc
      have HD := Lib.hid hd
      clear hW hD hC hB hb hc hd
      go_wp2_with (first | ((with_reducible show wpList _ _ _ (⟨_, .load 23 (.tmp 3), _, _, _, none⟩ :: _) _ _); refine wpList_load_row rfl 23 (.tmp 3) rfl B rfl 23 _ (0, 0) _ HB.out.raw Try.underlying23 rfl infoL ?_) | ((with_reducible show wpList _ _ _ (⟨_, .load 34 (.tmp 4), _, _, _, none⟩ :: _) _ _); refine wpList_load_row rfl 34 (.tmp 4) rfl C rfl 34 _ (0, 0) _ HC.out.raw Try.underlying34 rfl infoA ?_) | ((with_reducible show wpList _ _ _ (⟨_, .load 34 (.tmp 5), _, _, _, none⟩ :: _) _ _); refine wpList_load_row rfl 34 (.tmp 5) rfl D rfl 34 _ (0, 0) _ HD.out.raw Try.underlying34 rfl infoA ?_) | (go_at_call 37; with_reducible refine (lal_at x z' e' b' true _ hx hz HM).mono ?_; rintro r w1 ⟨rfl, hg⟩; replace g0 := g0.trans hg; replace HB := Lib.hid (HB.out.own hg); replace HC := Lib.hid (HC.out.own hg); replace HD := Lib.hid (HD.out.own hg); clear hg) | (go_at_call 72; with_reducible refine (lft_at x z e b z' e' b' false _ he he' HF).mono ?_; rintro r w2 ⟨rfl, hg⟩; replace g0 := g0.trans hg; replace HB := Lib.hid (HB.out.own hg); replace HC := Lib.hid (HC.out.own hg); replace HD := Lib.hid (HD.out.own hg); clear hg))
      go_ret
      exact ⟨rfl, g0⟩
set_option maxRecDepth 100000 in
set_option maxHeartbeats 8000000 in
theorem lbo_at (l p q : Vl) (a c : Int) (w : World) (H : Hid (bdE l p q a = c)) :
    Calls Try.prog 64 #[.agg (lz l), .agg (cz 22 p), .agg (cz 22 q), .int .i64 a] w fun r w' => r = .returned (.int .i64 c) ∧ Own w w' := by
  obtain ⟨v, hv⟩ : ∃ v, chg (p 2) (q 2) = v := ⟨_, rfl⟩
  have HV := Lib.hid hv
  have H0 := H.out
  unfold bdE at H0
  rw [hv] at H0
  clear H hv
  by_cases h1 : q 3 < 0
  · have d1 : decide (q 3 < 0) = true := decide_eq_true h1
    have d2 : decide (0 < q 3) = false := decide_eq_false (by omega)
    by_cases h2 : l 36 = 1
    · rw [if_neg (by omega)] at H0
      clear h1
      by_cases hs : l 39 < v
      · rw [if_pos hs] at H0
        obtain rfl : 26 = c := H0
        have d3 : decide (l 39 < v) = true := decide_eq_true hs
        clear hs
        go_enter Try.func64, Try.ntmps64
        go_upto_region 2 with (fail)
        obtain ⟨W0, B, C, D, hW, hD, hC, hB, hb, hc, hd, g0, -, -, -, -⟩ := three_new w (lz l) 26 (cz 22 p) 63 (cz 22 q) 63
        rw [hW, hD, hC, hB]
        have HB := Lib.hid hb
        have HC := Lib.hid hc
        have HD := Lib.hid hd
        have k36 := lb_low hb
        have k37 := lb_rise hb
        have k38 := lb_num hb (i := 38) (by omega) (by omega)
        have q3 := blk_num hd (i := 3) (by omega)
        clear hW hD hC hB hb hc hd
        rw [decide_eq_true h2] at k36
        go_upto_region 5 with (fail)
        refine RegD.region_duty [27, 28, 29, 30, 31, 32, 33, 34, 26] (RegI.upd (RegI.upd (RegI.upd (RegI.upd (RegI.upd (RegI.upd (RegI.upd (RegI.upd (RegI.upd (fun _ => undef) 27 (.pointer (some ⟨C, 2, none⟩))) 28 (.int .i64 (p 2))) 29 (.pointer (some ⟨D, 2, none⟩))) 30 (.int .i64 (q 2))) 31 (.int .i64 v)) 32 (.pointer (some ⟨B, 39, none⟩))) 33 (.int .i64 (l 39))) 34 (.bool true)) 26 (.bool true)) (by kernel_rfl) (by kernel_rfl) (by intro d hd; simp at hd; simp; omega) ?_
        simp only [RegD.FF, RegI.FX, RegI.upd, List.foldl_cons, List.foldl_nil, List.not_mem_nil, if_true, if_false, Nat.reduceEqDiff]
        simp only [List.setIfInBounds_toArray, List.set_cons_succ, List.set_cons_zero]
        refine And.intro ?hs4 ?he4
        case hs4 =>
          refine And.intro ?s4_0 (And.intro ?s4_1 (And.intro ?s4_2 (And.intro ?s4_3 (And.intro ?s4_4 (And.intro ?s4_5 (And.intro ?s4_6 (And.intro ?s4_7 (And.intro ?s4_8 (trivial)))))))))
          case s4_0 =>
            intro u w1 hO
            go_wp2
            exact ⟨rfl, rfl, rfl, Own.refl _⟩
          case s4_1 =>
            intro u w1 hO
            have kk := blk_num (HC.out.own hO) (i := 2) (by omega)
            go_wp2
            exact ⟨rfl, rfl, rfl, Own.refl _⟩
          case s4_2 =>
            intro u w1 hO
            go_wp2
            exact ⟨rfl, rfl, rfl, Own.refl _⟩
          case s4_3 =>
            intro u w1 hO
            have kk := blk_num (HD.out.own hO) (i := 2) (by omega)
            go_wp2
            exact ⟨rfl, rfl, rfl, Own.refl _⟩
          case s4_4 =>
            intro u w1 hO
            go_wp2_with (go_at_call 73; with_reducible refine (lch_at _ _ v _ HV).mono ?_; rintro r w2 ⟨rfl, rfl⟩)
            exact ⟨rfl, rfl, rfl, Own.refl _⟩
          case s4_5 =>
            intro u w1 hO
            go_wp2
            exact ⟨rfl, rfl, rfl, Own.refl _⟩
          case s4_6 =>
            intro u w1 hO
            have kk := lb_num (HB.out.own hO) (i := 39) (by omega) (by omega)
            go_wp2
            exact ⟨rfl, rfl, rfl, Own.refl _⟩
          case s4_7 =>
            intro u w1 hO
            go_wp2
            exact ⟨rfl, rfl, rfl, Own.refl _⟩
          case s4_8 =>
            intro u w1 hO
            go_wp2
            exact ⟨rfl, rfl, rfl, Own.refl _⟩
        intro u w9 hO
        replace g0 := g0.trans hO
        replace k38 := hO.cell k38
        clear hO HB HC HD q3 k36 k37
        go_wp2
        go_ret
        exact ⟨rfl, g0⟩
      · rw [if_neg hs] at H0
        have d3 : decide (l 39 < v) = false := decide_eq_false hs
        clear hs
        by_cases ha : l 38 < a
        · obtain rfl : 28 = c := (if_pos ha).symm.trans H0
          have d4 : decide (l 38 < a) = true := decide_eq_true ha
          clear ha H0
          go_enter Try.func64, Try.ntmps64
          go_upto_region 2 with (fail)
          obtain ⟨W0, B, C, D, hW, hD, hC, hB, hb, hc, hd, g0, -, -, -, -⟩ := three_new w (lz l) 26 (cz 22 p) 63 (cz 22 q) 63
          rw [hW, hD, hC, hB]
          have HB := Lib.hid hb
          have HC := Lib.hid hc
          have HD := Lib.hid hd
          have k36 := lb_low hb
          have k37 := lb_rise hb
          have k38 := lb_num hb (i := 38) (by omega) (by omega)
          have q3 := blk_num hd (i := 3) (by omega)
          clear hW hD hC hB hb hc hd
          rw [decide_eq_true h2] at k36
          go_upto_region 5 with (fail)
          refine RegD.region_duty [27, 28, 29, 30, 31, 32, 33, 34, 26] (RegI.upd (RegI.upd (RegI.upd (RegI.upd (RegI.upd (RegI.upd (RegI.upd (RegI.upd (RegI.upd (fun _ => undef) 27 (.pointer (some ⟨C, 2, none⟩))) 28 (.int .i64 (p 2))) 29 (.pointer (some ⟨D, 2, none⟩))) 30 (.int .i64 (q 2))) 31 (.int .i64 v)) 32 (.pointer (some ⟨B, 39, none⟩))) 33 (.int .i64 (l 39))) 34 (.bool false)) 26 (.bool false)) (by kernel_rfl) (by kernel_rfl) (by intro d hd; simp at hd; simp; omega) ?_
          simp only [RegD.FF, RegI.FX, RegI.upd, List.foldl_cons, List.foldl_nil, List.not_mem_nil, if_true, if_false, Nat.reduceEqDiff]
          simp only [List.setIfInBounds_toArray, List.set_cons_succ, List.set_cons_zero]
          refine And.intro ?hs5 ?he5
          case hs5 =>
            refine And.intro ?s5_0 (And.intro ?s5_1 (And.intro ?s5_2 (And.intro ?s5_3 (And.intro ?s5_4 (And.intro ?s5_5 (And.intro ?s5_6 (And.intro ?s5_7 (And.intro ?s5_8 (trivial)))))))))
            case s5_0 =>
              intro u w1 hO
              go_wp2
              exact ⟨rfl, rfl, rfl, Own.refl _⟩
            case s5_1 =>
              intro u w1 hO
              have kk := blk_num (HC.out.own hO) (i := 2) (by omega)
              go_wp2
              exact ⟨rfl, rfl, rfl, Own.refl _⟩
            case s5_2 =>
              intro u w1 hO
              go_wp2
              exact ⟨rfl, rfl, rfl, Own.refl _⟩
            case s5_3 =>
              intro u w1 hO
              have kk := blk_num (HD.out.own hO) (i := 2) (by omega)
              go_wp2
              exact ⟨rfl, rfl, rfl, Own.refl _⟩
            case s5_4 =>
              intro u w1 hO
              go_wp2_with (go_at_call 73; with_reducible refine (lch_at _ _ v _ HV).mono ?_; rintro r w2 ⟨rfl, rfl⟩)
              exact ⟨rfl, rfl, rfl, Own.refl _⟩
            case s5_5 =>
              intro u w1 hO
              go_wp2
              exact ⟨rfl, rfl, rfl, Own.refl _⟩
            case s5_6 =>
              intro u w1 hO
              have kk := lb_num (HB.out.own hO) (i := 39) (by omega) (by omega)
              go_wp2
              exact ⟨rfl, rfl, rfl, Own.refl _⟩
            case s5_7 =>
              intro u w1 hO
              go_wp2
              exact ⟨rfl, rfl, rfl, Own.refl _⟩
            case s5_8 =>
              intro u w1 hO
              go_wp2
              exact ⟨rfl, rfl, rfl, Own.refl _⟩
          intro u w9 hO
          replace g0 := g0.trans hO
          replace k38 := hO.cell k38
          clear hO HB HC HD q3 k36 k37
          go_wp2
          go_ret
          exact ⟨rfl, g0⟩
        · obtain rfl : 0 = c := (if_neg ha).symm.trans H0
          have d4 : decide (l 38 < a) = false := decide_eq_false ha
          clear ha H0
          go_enter Try.func64, Try.ntmps64
          go_upto_region 2 with (fail)
          obtain ⟨W0, B, C, D, hW, hD, hC, hB, hb, hc, hd, g0, -, -, -, -⟩ := three_new w (lz l) 26 (cz 22 p) 63 (cz 22 q) 63
          rw [hW, hD, hC, hB]
          have HB := Lib.hid hb
          have HC := Lib.hid hc
          have HD := Lib.hid hd
          have k36 := lb_low hb
          have k37 := lb_rise hb
          have k38 := lb_num hb (i := 38) (by omega) (by omega)
          have q3 := blk_num hd (i := 3) (by omega)
          clear hW hD hC hB hb hc hd
          rw [decide_eq_true h2] at k36
          go_upto_region 5 with (fail)
          refine RegD.region_duty [27, 28, 29, 30, 31, 32, 33, 34, 26] (RegI.upd (RegI.upd (RegI.upd (RegI.upd (RegI.upd (RegI.upd (RegI.upd (RegI.upd (RegI.upd (fun _ => undef) 27 (.pointer (some ⟨C, 2, none⟩))) 28 (.int .i64 (p 2))) 29 (.pointer (some ⟨D, 2, none⟩))) 30 (.int .i64 (q 2))) 31 (.int .i64 v)) 32 (.pointer (some ⟨B, 39, none⟩))) 33 (.int .i64 (l 39))) 34 (.bool false)) 26 (.bool false)) (by kernel_rfl) (by kernel_rfl) (by intro d hd; simp at hd; simp; omega) ?_
          simp only [RegD.FF, RegI.FX, RegI.upd, List.foldl_cons, List.foldl_nil, List.not_mem_nil, if_true, if_false, Nat.reduceEqDiff]
          simp only [List.setIfInBounds_toArray, List.set_cons_succ, List.set_cons_zero]
          refine And.intro ?hs6 ?he6
          case hs6 =>
            refine And.intro ?s6_0 (And.intro ?s6_1 (And.intro ?s6_2 (And.intro ?s6_3 (And.intro ?s6_4 (And.intro ?s6_5 (And.intro ?s6_6 (And.intro ?s6_7 (And.intro ?s6_8 (trivial)))))))))
            case s6_0 =>
              intro u w1 hO
              go_wp2
              exact ⟨rfl, rfl, rfl, Own.refl _⟩
            case s6_1 =>
              intro u w1 hO
              have kk := blk_num (HC.out.own hO) (i := 2) (by omega)
              go_wp2
              exact ⟨rfl, rfl, rfl, Own.refl _⟩
            case s6_2 =>
              intro u w1 hO
              go_wp2
              exact ⟨rfl, rfl, rfl, Own.refl _⟩
            case s6_3 =>
              intro u w1 hO
              have kk := blk_num (HD.out.own hO) (i := 2) (by omega)
              go_wp2
              exact ⟨rfl, rfl, rfl, Own.refl _⟩
            case s6_4 =>
              intro u w1 hO
              go_wp2_with (go_at_call 73; with_reducible refine (lch_at _ _ v _ HV).mono ?_; rintro r w2 ⟨rfl, rfl⟩)
              exact ⟨rfl, rfl, rfl, Own.refl _⟩
            case s6_5 =>
              intro u w1 hO
              go_wp2
              exact ⟨rfl, rfl, rfl, Own.refl _⟩
            case s6_6 =>
              intro u w1 hO
              have kk := lb_num (HB.out.own hO) (i := 39) (by omega) (by omega)
              go_wp2
              exact ⟨rfl, rfl, rfl, Own.refl _⟩
            case s6_7 =>
              intro u w1 hO
              go_wp2
              exact ⟨rfl, rfl, rfl, Own.refl _⟩
            case s6_8 =>
              intro u w1 hO
              go_wp2
              exact ⟨rfl, rfl, rfl, Own.refl _⟩
          intro u w9 hO
          replace g0 := g0.trans hO
          replace k38 := hO.cell k38
          clear hO HB HC HD q3 k36 k37
          go_wp2
          go_ret
          exact ⟨rfl, g0⟩
    · obtain rfl : 25 = c := (if_pos (.inl ⟨h1, h2⟩)).symm.trans H0
      clear h1 H0
      go_enter Try.func64, Try.ntmps64
      go_upto_region 2 with (fail)
      obtain ⟨W0, B, C, D, hW, hD, hC, hB, hb, hc, hd, g0, -, -, -, -⟩ := three_new w (lz l) 26 (cz 22 p) 63 (cz 22 q) 63
      rw [hW, hD, hC, hB]
      have HB := Lib.hid hb
      have HC := Lib.hid hc
      have HD := Lib.hid hd
      have k36 := lb_low hb
      have k37 := lb_rise hb
      have k38 := lb_num hb (i := 38) (by omega) (by omega)
      have q3 := blk_num hd (i := 3) (by omega)
      clear hW hD hC hB hb hc hd
      rw [decide_eq_false h2] at k36
      clear HB HC HD
      go_wp2
      go_ret
      exact ⟨rfl, g0⟩
  · have d1 : decide (q 3 < 0) = false := decide_eq_false h1
    by_cases h3 : 0 < q 3
    · have d2 : decide (0 < q 3) = true := decide_eq_true h3
      by_cases h2 : l 37 = 1
      · rw [if_neg (by omega)] at H0
        clear h1 h3
        by_cases hs : l 39 < v
        · rw [if_pos hs] at H0
          obtain rfl : 26 = c := H0
          have d3 : decide (l 39 < v) = true := decide_eq_true hs
          clear hs
          go_enter Try.func64, Try.ntmps64
          go_upto_region 2 with (fail)
          obtain ⟨W0, B, C, D, hW, hD, hC, hB, hb, hc, hd, g0, -, -, -, -⟩ := three_new w (lz l) 26 (cz 22 p) 63 (cz 22 q) 63
          rw [hW, hD, hC, hB]
          have HB := Lib.hid hb
          have HC := Lib.hid hc
          have HD := Lib.hid hd
          have k36 := lb_low hb
          have k37 := lb_rise hb
          have k38 := lb_num hb (i := 38) (by omega) (by omega)
          have q3 := blk_num hd (i := 3) (by omega)
          clear hW hD hC hB hb hc hd
          rw [decide_eq_true h2] at k37
          go_upto_region 5 with (fail)
          refine RegD.region_duty [27, 28, 29, 30, 31, 32, 33, 34, 26] (RegI.upd (RegI.upd (RegI.upd (RegI.upd (RegI.upd (RegI.upd (RegI.upd (RegI.upd (RegI.upd (fun _ => undef) 27 (.pointer (some ⟨C, 2, none⟩))) 28 (.int .i64 (p 2))) 29 (.pointer (some ⟨D, 2, none⟩))) 30 (.int .i64 (q 2))) 31 (.int .i64 v)) 32 (.pointer (some ⟨B, 39, none⟩))) 33 (.int .i64 (l 39))) 34 (.bool true)) 26 (.bool true)) (by kernel_rfl) (by kernel_rfl) (by intro d hd; simp at hd; simp; omega) ?_
          simp only [RegD.FF, RegI.FX, RegI.upd, List.foldl_cons, List.foldl_nil, List.not_mem_nil, if_true, if_false, Nat.reduceEqDiff]
          simp only [List.setIfInBounds_toArray, List.set_cons_succ, List.set_cons_zero]
          refine And.intro ?hs7 ?he7
          case hs7 =>
            refine And.intro ?s7_0 (And.intro ?s7_1 (And.intro ?s7_2 (And.intro ?s7_3 (And.intro ?s7_4 (And.intro ?s7_5 (And.intro ?s7_6 (And.intro ?s7_7 (And.intro ?s7_8 (trivial)))))))))
            case s7_0 =>
              intro u w1 hO
              go_wp2
              exact ⟨rfl, rfl, rfl, Own.refl _⟩
            case s7_1 =>
              intro u w1 hO
              have kk := blk_num (HC.out.own hO) (i := 2) (by omega)
              go_wp2
              exact ⟨rfl, rfl, rfl, Own.refl _⟩
            case s7_2 =>
              intro u w1 hO
              go_wp2
              exact ⟨rfl, rfl, rfl, Own.refl _⟩
            case s7_3 =>
              intro u w1 hO
              have kk := blk_num (HD.out.own hO) (i := 2) (by omega)
              go_wp2
              exact ⟨rfl, rfl, rfl, Own.refl _⟩
            case s7_4 =>
              intro u w1 hO
              go_wp2_with (go_at_call 73; with_reducible refine (lch_at _ _ v _ HV).mono ?_; rintro r w2 ⟨rfl, rfl⟩)
              exact ⟨rfl, rfl, rfl, Own.refl _⟩
            case s7_5 =>
              intro u w1 hO
              go_wp2
              exact ⟨rfl, rfl, rfl, Own.refl _⟩
            case s7_6 =>
              intro u w1 hO
              have kk := lb_num (HB.out.own hO) (i := 39) (by omega) (by omega)
              go_wp2
              exact ⟨rfl, rfl, rfl, Own.refl _⟩
            case s7_7 =>
              intro u w1 hO
              go_wp2
              exact ⟨rfl, rfl, rfl, Own.refl _⟩
            case s7_8 =>
              intro u w1 hO
              go_wp2
              exact ⟨rfl, rfl, rfl, Own.refl _⟩
          intro u w9 hO
          replace g0 := g0.trans hO
          replace k38 := hO.cell k38
          clear hO HB HC HD q3 k36 k37
          go_wp2
          go_ret
          exact ⟨rfl, g0⟩
        · rw [if_neg hs] at H0
          have d3 : decide (l 39 < v) = false := decide_eq_false hs
          clear hs
          by_cases ha : l 38 < a
          · obtain rfl : 28 = c := (if_pos ha).symm.trans H0
            have d4 : decide (l 38 < a) = true := decide_eq_true ha
            clear ha H0
            go_enter Try.func64, Try.ntmps64
            go_upto_region 2 with (fail)
            obtain ⟨W0, B, C, D, hW, hD, hC, hB, hb, hc, hd, g0, -, -, -, -⟩ := three_new w (lz l) 26 (cz 22 p) 63 (cz 22 q) 63
            rw [hW, hD, hC, hB]
            have HB := Lib.hid hb
            have HC := Lib.hid hc
            have HD := Lib.hid hd
            have k36 := lb_low hb
            have k37 := lb_rise hb
            have k38 := lb_num hb (i := 38) (by omega) (by omega)
            have q3 := blk_num hd (i := 3) (by omega)
            clear hW hD hC hB hb hc hd
            rw [decide_eq_true h2] at k37
            go_upto_region 5 with (fail)
            refine RegD.region_duty [27, 28, 29, 30, 31, 32, 33, 34, 26] (RegI.upd (RegI.upd (RegI.upd (RegI.upd (RegI.upd (RegI.upd (RegI.upd (RegI.upd (RegI.upd (fun _ => undef) 27 (.pointer (some ⟨C, 2, none⟩))) 28 (.int .i64 (p 2))) 29 (.pointer (some ⟨D, 2, none⟩))) 30 (.int .i64 (q 2))) 31 (.int .i64 v)) 32 (.pointer (some ⟨B, 39, none⟩))) 33 (.int .i64 (l 39))) 34 (.bool false)) 26 (.bool false)) (by kernel_rfl) (by kernel_rfl) (by intro d hd; simp at hd; simp; omega) ?_
            simp only [RegD.FF, RegI.FX, RegI.upd, List.foldl_cons, List.foldl_nil, List.not_mem_nil, if_true, if_false, Nat.reduceEqDiff]
            simp only [List.setIfInBounds_toArray, List.set_cons_succ, List.set_cons_zero]
            refine And.intro ?hs8 ?he8
            case hs8 =>
              refine And.intro ?s8_0 (And.intro ?s8_1 (And.intro ?s8_2 (And.intro ?s8_3 (And.intro ?s8_4 (And.intro ?s8_5 (And.intro ?s8_6 (And.intro ?s8_7 (And.intro ?s8_8 (trivial)))))))))
              case s8_0 =>
                intro u w1 hO
                go_wp2
                exact ⟨rfl, rfl, rfl, Own.refl _⟩
              case s8_1 =>
                intro u w1 hO
                have kk := blk_num (HC.out.own hO) (i := 2) (by omega)
                go_wp2
                exact ⟨rfl, rfl, rfl, Own.refl _⟩
              case s8_2 =>
                intro u w1 hO
                go_wp2
                exact ⟨rfl, rfl, rfl, Own.refl _⟩
              case s8_3 =>
                intro u w1 hO
                have kk := blk_num (HD.out.own hO) (i := 2) (by omega)
                go_wp2
                exact ⟨rfl, rfl, rfl, Own.refl _⟩
              case s8_4 =>
                intro u w1 hO
                go_wp2_with (go_at_call 73; with_reducible refine (lch_at _ _ v _ HV).mono ?_; rintro r w2 ⟨rfl, rfl⟩)
                exact ⟨rfl, rfl, rfl, Own.refl _⟩
              case s8_5 =>
                intro u w1 hO
                go_wp2
                exact ⟨rfl, rfl, rfl, Own.refl _⟩
              case s8_6 =>
                intro u w1 hO
                have kk := lb_num (HB.out.own hO) (i := 39) (by omega) (by omega)
                go_wp2
                exact ⟨rfl, rfl, rfl, Own.refl _⟩
              case s8_7 =>
                intro u w1 hO
                go_wp2
                exact ⟨rfl, rfl, rfl, Own.refl _⟩
              case s8_8 =>
                intro u w1 hO
                go_wp2
                exact ⟨rfl, rfl, rfl, Own.refl _⟩
            intro u w9 hO
            replace g0 := g0.trans hO
            replace k38 := hO.cell k38
            clear hO HB HC HD q3 k36 k37
            go_wp2
            go_ret
            exact ⟨rfl, g0⟩
          · obtain rfl : 0 = c := (if_neg ha).symm.trans H0
            have d4 : decide (l 38 < a) = false := decide_eq_false ha
            clear ha H0
            go_enter Try.func64, Try.ntmps64
            go_upto_region 2 with (fail)
            obtain ⟨W0, B, C, D, hW, hD, hC, hB, hb, hc, hd, g0, -, -, -, -⟩ := three_new w (lz l) 26 (cz 22 p) 63 (cz 22 q) 63
            rw [hW, hD, hC, hB]
            have HB := Lib.hid hb
            have HC := Lib.hid hc
            have HD := Lib.hid hd
            have k36 := lb_low hb
            have k37 := lb_rise hb
            have k38 := lb_num hb (i := 38) (by omega) (by omega)
            have q3 := blk_num hd (i := 3) (by omega)
            clear hW hD hC hB hb hc hd
            rw [decide_eq_true h2] at k37
            go_upto_region 5 with (fail)
            refine RegD.region_duty [27, 28, 29, 30, 31, 32, 33, 34, 26] (RegI.upd (RegI.upd (RegI.upd (RegI.upd (RegI.upd (RegI.upd (RegI.upd (RegI.upd (RegI.upd (fun _ => undef) 27 (.pointer (some ⟨C, 2, none⟩))) 28 (.int .i64 (p 2))) 29 (.pointer (some ⟨D, 2, none⟩))) 30 (.int .i64 (q 2))) 31 (.int .i64 v)) 32 (.pointer (some ⟨B, 39, none⟩))) 33 (.int .i64 (l 39))) 34 (.bool false)) 26 (.bool false)) (by kernel_rfl) (by kernel_rfl) (by intro d hd; simp at hd; simp; omega) ?_
            simp only [RegD.FF, RegI.FX, RegI.upd, List.foldl_cons, List.foldl_nil, List.not_mem_nil, if_true, if_false, Nat.reduceEqDiff]
            simp only [List.setIfInBounds_toArray, List.set_cons_succ, List.set_cons_zero]
            refine And.intro ?hs9 ?he9
            case hs9 =>
              refine And.intro ?s9_0 (And.intro ?s9_1 (And.intro ?s9_2 (And.intro ?s9_3 (And.intro ?s9_4 (And.intro ?s9_5 (And.intro ?s9_6 (And.intro ?s9_7 (And.intro ?s9_8 (trivial)))))))))
              case s9_0 =>
                intro u w1 hO
                go_wp2
                exact ⟨rfl, rfl, rfl, Own.refl _⟩
              case s9_1 =>
                intro u w1 hO
                have kk := blk_num (HC.out.own hO) (i := 2) (by omega)
                go_wp2
                exact ⟨rfl, rfl, rfl, Own.refl _⟩
              case s9_2 =>
                intro u w1 hO
                go_wp2
                exact ⟨rfl, rfl, rfl, Own.refl _⟩
              case s9_3 =>
                intro u w1 hO
                have kk := blk_num (HD.out.own hO) (i := 2) (by omega)
                go_wp2
                exact ⟨rfl, rfl, rfl, Own.refl _⟩
              case s9_4 =>
                intro u w1 hO
                go_wp2_with (go_at_call 73; with_reducible refine (lch_at _ _ v _ HV).mono ?_; rintro r w2 ⟨rfl, rfl⟩)
                exact ⟨rfl, rfl, rfl, Own.refl _⟩
              case s9_5 =>
                intro u w1 hO
                go_wp2
                exact ⟨rfl, rfl, rfl, Own.refl _⟩
              case s9_6 =>
                intro u w1 hO
                have kk := lb_num (HB.out.own hO) (i := 39) (by omega) (by omega)
                go_wp2
                exact ⟨rfl, rfl, rfl, Own.refl _⟩
              case s9_7 =>
                intro u w1 hO
                go_wp2
                exact ⟨rfl, rfl, rfl, Own.refl _⟩
              case s9_8 =>
                intro u w1 hO
                go_wp2
                exact ⟨rfl, rfl, rfl, Own.refl _⟩
            intro u w9 hO
            replace g0 := g0.trans hO
            replace k38 := hO.cell k38
            clear hO HB HC HD q3 k36 k37
            go_wp2
            go_ret
            exact ⟨rfl, g0⟩
      · obtain rfl : 25 = c := (if_pos (.inr ⟨h3, h2⟩)).symm.trans H0
        clear h1 h3 H0
        go_enter Try.func64, Try.ntmps64
        go_upto_region 2 with (fail)
        obtain ⟨W0, B, C, D, hW, hD, hC, hB, hb, hc, hd, g0, -, -, -, -⟩ := three_new w (lz l) 26 (cz 22 p) 63 (cz 22 q) 63
        rw [hW, hD, hC, hB]
        have HB := Lib.hid hb
        have HC := Lib.hid hc
        have HD := Lib.hid hd
        have k36 := lb_low hb
        have k37 := lb_rise hb
        have k38 := lb_num hb (i := 38) (by omega) (by omega)
        have q3 := blk_num hd (i := 3) (by omega)
        clear hW hD hC hB hb hc hd
        rw [decide_eq_false h2] at k37
        clear HB HC HD
        go_wp2
        go_ret
        exact ⟨rfl, g0⟩
    · have d2 : decide (0 < q 3) = false := decide_eq_false h3
      rw [if_neg (by omega)] at H0
      clear h1 h3
      by_cases hs : l 39 < v
      · rw [if_pos hs] at H0
        obtain rfl : 26 = c := H0
        have d3 : decide (l 39 < v) = true := decide_eq_true hs
        clear hs
        go_enter Try.func64, Try.ntmps64
        go_upto_region 2 with (fail)
        obtain ⟨W0, B, C, D, hW, hD, hC, hB, hb, hc, hd, g0, -, -, -, -⟩ := three_new w (lz l) 26 (cz 22 p) 63 (cz 22 q) 63
        rw [hW, hD, hC, hB]
        have HB := Lib.hid hb
        have HC := Lib.hid hc
        have HD := Lib.hid hd
        have k36 := lb_low hb
        have k37 := lb_rise hb
        have k38 := lb_num hb (i := 38) (by omega) (by omega)
        have q3 := blk_num hd (i := 3) (by omega)
        clear hW hD hC hB hb hc hd
        go_upto_region 5 with (fail)
        refine RegD.region_duty [27, 28, 29, 30, 31, 32, 33, 34, 26] (RegI.upd (RegI.upd (RegI.upd (RegI.upd (RegI.upd (RegI.upd (RegI.upd (RegI.upd (RegI.upd (fun _ => undef) 27 (.pointer (some ⟨C, 2, none⟩))) 28 (.int .i64 (p 2))) 29 (.pointer (some ⟨D, 2, none⟩))) 30 (.int .i64 (q 2))) 31 (.int .i64 v)) 32 (.pointer (some ⟨B, 39, none⟩))) 33 (.int .i64 (l 39))) 34 (.bool true)) 26 (.bool true)) (by kernel_rfl) (by kernel_rfl) (by intro d hd; simp at hd; simp; omega) ?_
        simp only [RegD.FF, RegI.FX, RegI.upd, List.foldl_cons, List.foldl_nil, List.not_mem_nil, if_true, if_false, Nat.reduceEqDiff]
        simp only [List.setIfInBounds_toArray, List.set_cons_succ, List.set_cons_zero]
        refine And.intro ?hs10 ?he10
        case hs10 =>
          refine And.intro ?s10_0 (And.intro ?s10_1 (And.intro ?s10_2 (And.intro ?s10_3 (And.intro ?s10_4 (And.intro ?s10_5 (And.intro ?s10_6 (And.intro ?s10_7 (And.intro ?s10_8 (trivial)))))))))
          case s10_0 =>
            intro u w1 hO
            go_wp2
            exact ⟨rfl, rfl, rfl, Own.refl _⟩
          case s10_1 =>
            intro u w1 hO
            have kk := blk_num (HC.out.own hO) (i := 2) (by omega)
            go_wp2
            exact ⟨rfl, rfl, rfl, Own.refl _⟩
          case s10_2 =>
            intro u w1 hO
            go_wp2
            exact ⟨rfl, rfl, rfl, Own.refl _⟩
          case s10_3 =>
            intro u w1 hO
            have kk := blk_num (HD.out.own hO) (i := 2) (by omega)
            go_wp2
            exact ⟨rfl, rfl, rfl, Own.refl _⟩
          case s10_4 =>
            intro u w1 hO
            go_wp2_with (go_at_call 73; with_reducible refine (lch_at _ _ v _ HV).mono ?_; rintro r w2 ⟨rfl, rfl⟩)
            exact ⟨rfl, rfl, rfl, Own.refl _⟩
          case s10_5 =>
            intro u w1 hO
            go_wp2
            exact ⟨rfl, rfl, rfl, Own.refl _⟩
          case s10_6 =>
            intro u w1 hO
            have kk := lb_num (HB.out.own hO) (i := 39) (by omega) (by omega)
            go_wp2
            exact ⟨rfl, rfl, rfl, Own.refl _⟩
          case s10_7 =>
            intro u w1 hO
            go_wp2
            exact ⟨rfl, rfl, rfl, Own.refl _⟩
          case s10_8 =>
            intro u w1 hO
            go_wp2
            exact ⟨rfl, rfl, rfl, Own.refl _⟩
        intro u w9 hO
        replace g0 := g0.trans hO
        replace k38 := hO.cell k38
        clear hO HB HC HD q3 k36 k37
        go_wp2
        go_ret
        exact ⟨rfl, g0⟩
      · rw [if_neg hs] at H0
        have d3 : decide (l 39 < v) = false := decide_eq_false hs
        clear hs
        by_cases ha : l 38 < a
        · obtain rfl : 28 = c := (if_pos ha).symm.trans H0
          have d4 : decide (l 38 < a) = true := decide_eq_true ha
          clear ha H0
          go_enter Try.func64, Try.ntmps64
          go_upto_region 2 with (fail)
          obtain ⟨W0, B, C, D, hW, hD, hC, hB, hb, hc, hd, g0, -, -, -, -⟩ := three_new w (lz l) 26 (cz 22 p) 63 (cz 22 q) 63
          rw [hW, hD, hC, hB]
          have HB := Lib.hid hb
          have HC := Lib.hid hc
          have HD := Lib.hid hd
          have k36 := lb_low hb
          have k37 := lb_rise hb
          have k38 := lb_num hb (i := 38) (by omega) (by omega)
          have q3 := blk_num hd (i := 3) (by omega)
          clear hW hD hC hB hb hc hd
          go_upto_region 5 with (fail)
          refine RegD.region_duty [27, 28, 29, 30, 31, 32, 33, 34, 26] (RegI.upd (RegI.upd (RegI.upd (RegI.upd (RegI.upd (RegI.upd (RegI.upd (RegI.upd (RegI.upd (fun _ => undef) 27 (.pointer (some ⟨C, 2, none⟩))) 28 (.int .i64 (p 2))) 29 (.pointer (some ⟨D, 2, none⟩))) 30 (.int .i64 (q 2))) 31 (.int .i64 v)) 32 (.pointer (some ⟨B, 39, none⟩))) 33 (.int .i64 (l 39))) 34 (.bool false)) 26 (.bool false)) (by kernel_rfl) (by kernel_rfl) (by intro d hd; simp at hd; simp; omega) ?_
          simp only [RegD.FF, RegI.FX, RegI.upd, List.foldl_cons, List.foldl_nil, List.not_mem_nil, if_true, if_false, Nat.reduceEqDiff]
          simp only [List.setIfInBounds_toArray, List.set_cons_succ, List.set_cons_zero]
          refine And.intro ?hs11 ?he11
          case hs11 =>
            refine And.intro ?s11_0 (And.intro ?s11_1 (And.intro ?s11_2 (And.intro ?s11_3 (And.intro ?s11_4 (And.intro ?s11_5 (And.intro ?s11_6 (And.intro ?s11_7 (And.intro ?s11_8 (trivial)))))))))
            case s11_0 =>
              intro u w1 hO
              go_wp2
              exact ⟨rfl, rfl, rfl, Own.refl _⟩
            case s11_1 =>
              intro u w1 hO
              have kk := blk_num (HC.out.own hO) (i := 2) (by omega)
              go_wp2
              exact ⟨rfl, rfl, rfl, Own.refl _⟩
            case s11_2 =>
              intro u w1 hO
              go_wp2
              exact ⟨rfl, rfl, rfl, Own.refl _⟩
            case s11_3 =>
              intro u w1 hO
              have kk := blk_num (HD.out.own hO) (i := 2) (by omega)
              go_wp2
              exact ⟨rfl, rfl, rfl, Own.refl _⟩
            case s11_4 =>
              intro u w1 hO
              go_wp2_with (go_at_call 73; with_reducible refine (lch_at _ _ v _ HV).mono ?_; rintro r w2 ⟨rfl, rfl⟩)
              exact ⟨rfl, rfl, rfl, Own.refl _⟩
            case s11_5 =>
              intro u w1 hO
              go_wp2
              exact ⟨rfl, rfl, rfl, Own.refl _⟩
            case s11_6 =>
              intro u w1 hO
              have kk := lb_num (HB.out.own hO) (i := 39) (by omega) (by omega)
              go_wp2
              exact ⟨rfl, rfl, rfl, Own.refl _⟩
            case s11_7 =>
              intro u w1 hO
              go_wp2
              exact ⟨rfl, rfl, rfl, Own.refl _⟩
            case s11_8 =>
              intro u w1 hO
              go_wp2
              exact ⟨rfl, rfl, rfl, Own.refl _⟩
          intro u w9 hO
          replace g0 := g0.trans hO
          replace k38 := hO.cell k38
          clear hO HB HC HD q3 k36 k37
          go_wp2
          go_ret
          exact ⟨rfl, g0⟩
        · obtain rfl : 0 = c := (if_neg ha).symm.trans H0
          have d4 : decide (l 38 < a) = false := decide_eq_false ha
          clear ha H0
          go_enter Try.func64, Try.ntmps64
          go_upto_region 2 with (fail)
          obtain ⟨W0, B, C, D, hW, hD, hC, hB, hb, hc, hd, g0, -, -, -, -⟩ := three_new w (lz l) 26 (cz 22 p) 63 (cz 22 q) 63
          rw [hW, hD, hC, hB]
          have HB := Lib.hid hb
          have HC := Lib.hid hc
          have HD := Lib.hid hd
          have k36 := lb_low hb
          have k37 := lb_rise hb
          have k38 := lb_num hb (i := 38) (by omega) (by omega)
          have q3 := blk_num hd (i := 3) (by omega)
          clear hW hD hC hB hb hc hd
          go_upto_region 5 with (fail)
          refine RegD.region_duty [27, 28, 29, 30, 31, 32, 33, 34, 26] (RegI.upd (RegI.upd (RegI.upd (RegI.upd (RegI.upd (RegI.upd (RegI.upd (RegI.upd (RegI.upd (fun _ => undef) 27 (.pointer (some ⟨C, 2, none⟩))) 28 (.int .i64 (p 2))) 29 (.pointer (some ⟨D, 2, none⟩))) 30 (.int .i64 (q 2))) 31 (.int .i64 v)) 32 (.pointer (some ⟨B, 39, none⟩))) 33 (.int .i64 (l 39))) 34 (.bool false)) 26 (.bool false)) (by kernel_rfl) (by kernel_rfl) (by intro d hd; simp at hd; simp; omega) ?_
          simp only [RegD.FF, RegI.FX, RegI.upd, List.foldl_cons, List.foldl_nil, List.not_mem_nil, if_true, if_false, Nat.reduceEqDiff]
          simp only [List.setIfInBounds_toArray, List.set_cons_succ, List.set_cons_zero]
          refine And.intro ?hs12 ?he12
          case hs12 =>
            refine And.intro ?s12_0 (And.intro ?s12_1 (And.intro ?s12_2 (And.intro ?s12_3 (And.intro ?s12_4 (And.intro ?s12_5 (And.intro ?s12_6 (And.intro ?s12_7 (And.intro ?s12_8 (trivial)))))))))
            case s12_0 =>
              intro u w1 hO
              go_wp2
              exact ⟨rfl, rfl, rfl, Own.refl _⟩
            case s12_1 =>
              intro u w1 hO
              have kk := blk_num (HC.out.own hO) (i := 2) (by omega)
              go_wp2
              exact ⟨rfl, rfl, rfl, Own.refl _⟩
            case s12_2 =>
              intro u w1 hO
              go_wp2
              exact ⟨rfl, rfl, rfl, Own.refl _⟩
            case s12_3 =>
              intro u w1 hO
              have kk := blk_num (HD.out.own hO) (i := 2) (by omega)
              go_wp2
              exact ⟨rfl, rfl, rfl, Own.refl _⟩
            case s12_4 =>
              intro u w1 hO
              go_wp2_with (go_at_call 73; with_reducible refine (lch_at _ _ v _ HV).mono ?_; rintro r w2 ⟨rfl, rfl⟩)
              exact ⟨rfl, rfl, rfl, Own.refl _⟩
            case s12_5 =>
              intro u w1 hO
              go_wp2
              exact ⟨rfl, rfl, rfl, Own.refl _⟩
            case s12_6 =>
              intro u w1 hO
              have kk := lb_num (HB.out.own hO) (i := 39) (by omega) (by omega)
              go_wp2
              exact ⟨rfl, rfl, rfl, Own.refl _⟩
            case s12_7 =>
              intro u w1 hO
              go_wp2
              exact ⟨rfl, rfl, rfl, Own.refl _⟩
            case s12_8 =>
              intro u w1 hO
              go_wp2
              exact ⟨rfl, rfl, rfl, Own.refl _⟩
          intro u w9 hO
          replace g0 := g0.trans hO
          replace k38 := hO.cell k38
          clear hO HB HC HD q3 k36 k37
          go_wp2
          go_ret
          exact ⟨rfl, g0⟩
end Go.Proofs.Ytmjokgddhainlaa.LimW
