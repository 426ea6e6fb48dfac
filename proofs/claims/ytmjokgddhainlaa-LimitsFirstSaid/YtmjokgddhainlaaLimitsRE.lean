/-
  Walks of the specification of package limits: change, fast, limbs, air. Condition: none.
-/
import Derived.Test.YtmjokgddhainlaaLimitsRA
import Derived.Test.YtmjokgddhainlaaLimitsPD
import Derived.Test.YtmjokgddhainlaaMovMem
namespace Go.Proofs.Ytmjokgddhainlaa.LimW
open Go.ChangeShapes Go.WideShapes Go.ChangeAt Go.RowKit
open MovW PairW AimP AimW BlkW PrtW PstP PstW RegD LimP
theorem rbet_at (a b s v f : Int) (w : World) (H : Hid (AngP.betV a b s = v ∧ AngP.betE a b s = f)) :
    Calls Try.prog 75 #[.int .i64 a, .int .i64 b, .int .i64 s] w fun e w' => e = .returned (.tuple #[.int .i64 v, .int .i64 f]) ∧ w = w' := by
  obtain ⟨rfl, rfl⟩ := H.out
  exact AngW.rbet_any a b s w
/-- The errors of the limbs alone. -/
def lkE (l p q : Vl) : Vl := fun i => lbE (lim l i) (p (4 + i * 3)) (p (4 + i * 3 + 1)) (q (4 + i * 3)) (q (4 + i * 3 + 1)) (q (4 + i * 3 + 2))
def lsE (l p q : Vl) : Int := feN (lkE l p q) 6
def lsP (l p q : Vl) : Int := if lsE l p q = 0 then 0 else (fx (lkE l p q) 6 : Nat)
theorem tk_lk {l p q : Vl} {a : Int} {i : Nat} (hi : i < 6) : tkE l p q a i = lkE l p q i := if_pos hi
theorem tk_bd {l p q : Vl} {a : Int} : tkE l p q a 6 = bdE l p q a := if_neg (by omega)
theorem ls_ok {l p q : Vl} (h : ∀ i, i < 6 → lkE l p q i = 0) : lsE l p q = 0 ∧ lsP l p q = 0 := by
  have e : lsE l p q = 0 := feN_ok h
  exact ⟨e, if_pos e⟩
theorem ls_at {l p q : Vl} {j : Nat} (h : ∀ i, i < j → lkE l p q i = 0) (hj : lkE l p q j ≠ 0) (hn : j < 6) : lsE l p q = lkE l p q j ∧ lsP l p q = (j : Int) := by
  have e : lsE l p q = lkE l p q j := feN_at h hj hn
  refine ⟨e, ?_⟩
  unfold lsP
  rw [if_neg (by rw [e]; exact hj), fx_at h hj hn]
/-- The fault of a tick is that of the limbs, then that of the body. -/
theorem ft_ls {l p q : Vl} {a : Int} (h : lsE l p q ≠ 0) : ftE l p q a = lsE l p q ∧ ftP l p q a = lsP l p q := by
  rcases feN_or (lkE l p q) 6 with g | ⟨j, h1, h2, h3⟩
  · exact absurd (ls_ok g).1 h
  · obtain ⟨e1, e2⟩ := ls_at h2 h3 h1
    obtain ⟨g1, g2⟩ := ft_at (l := l) (p := p) (q := q) (a := a) (j := j) (fun i hi => (tk_lk (by omega)).trans (h2 i hi)) (by rw [tk_lk h1]; exact h3) (by omega)
    rw [e1, e2, g1, g2, tk_lk h1]
    exact ⟨rfl, rfl⟩
theorem ft_bd {l p q : Vl} {a : Int} (h : lsE l p q = 0) : ftE l p q a = bdE l p q a ∧ ftP l p q a = if bdE l p q a = 0 then 0 else 6 := by
  have h0 := feN_no h
  by_cases c : bdE l p q a = 0
  · rw [if_pos c, c]
    exact ft_ok fun i hi => by
      by_cases e : i = 6
      · rw [e, tk_bd]; exact c
      · rw [tk_lk (by omega)]; exact h0 i (by omega)
  · rw [if_neg c]
    obtain ⟨g1, g2⟩ := ft_at (l := l) (p := p) (q := q) (a := a) (j := 6) (fun i hi => (tk_lk hi).trans (h0 i hi)) (by rw [tk_bd]; exact c) (by omega)
    rw [g1, g2, tk_bd]
    exact ⟨rfl, rfl⟩
theorem infoMv2 : (Try.prog.info? 52).map (·.size) = some 2 := by kernel_rfl
open AngP in
set_option maxRecDepth 100000 in
set_option maxHeartbeats 1000000 in
theorem rch_at (x y v : Int) (w : World) (H : Hid (chg x y = v)) :
    Calls Try.prog 67 #[.int .i64 x, .int .i64 y] w fun r w' => r = .returned (.int .i64 v) ∧ w = w' := by
  have hb := bet_bd x y
  obtain ⟨n, hn⟩ : ∃ n, betV x y 64 = n := ⟨_, rfl⟩
  rw [hn] at hb
  obtain ⟨g, hg⟩ : ∃ g, betE x y 64 = g := ⟨_, rfl⟩
  have HBE := Lib.hid (show betV x y 64 = n ∧ betE x y 64 = g from ⟨hn, hg⟩)
  have HV := Lib.hid (show max n (-n) = v by rw [← H.out, ← hn]; rfl)
  have i1 : IntKind.i64.wrap (-n) = -n := IntWalk.i64_in _ (by omega)
  have hm0 := fun (w : World) (ts : Array TypeId) (t : TypeId) => max2_at (P := Try.prog) n (-n) w ts t
  rw [HV.out] at hm0
  clear hn hb H hg
  go_enter Try.func67, Try.ntmps67
  go_wp2_with (go_at_call 75; with_reducible refine (rbet_at _ _ _ n g _ HBE).mono ?_; rintro r w1 ⟨rfl, rfl⟩)
  go_ret
  exact ⟨rfl, rfl⟩
set_option maxRecDepth 100000 in
set_option maxHeartbeats 8000000 in
theorem rft_at (x : Vl) (z e b z' e' b' : Int) (t : Bool) (w : World) (he : -64 ≤ e ∧ e ≤ 64) (he' : -64 ≤ e' ∧ e' ≤ 64) (H : Hid (fstB x z e z' e' = t)) :
    Calls Try.prog 74 #[.agg (cz 6 x), .agg #[.int .i64 z, .int .i64 e, .int .i64 b], .agg #[.int .i64 z', .int .i64 e', .int .i64 b']] w fun r w' => r = .returned (.bool t) ∧ Own w w' := by
  obtain ⟨d, hd⟩ : ∃ d, e' - e = d := ⟨_, rfl⟩
  have i1 : IntKind.i64.wrap (e' - e) = d := (IntWalk.i64_in _ (by omega)).trans hd
  have i2 : IntKind.i64.wrap (-d) = -d := IntWalk.i64_in _ (by omega)
  have H2 := Lib.hid (show (decide (x 5 < max d (-d)) || (!poleB e && !poleB e' && decide (x 5 < chg z z'))) = t by rw [← hd]; exact H.out)
  clear hd H he he'
  by_cases hf : x 5 < d ∨ x 5 < -d
  · obtain rfl : true = t := by rw [← H2.out, decide_eq_true (show x 5 < max d (-d) by omega)]; rfl
    clear H2
    by_cases hf1 : x 5 < d
    · have d1 : decide (x 5 < d) = true := decide_eq_true hf1
      clear hf hf1
      go_enter Try.func74, Try.ntmps74
      go_upto_region 1 with (fail)
      obtain ⟨W0, B, C, D, hW, hD, hC, hB, hb, hc, hd, g0, -, -, -, -⟩ := three_new w (cz 6 x) 23 (#[.int .i64 z, .int .i64 e, .int .i64 b]) 34 (#[.int .i64 z', .int .i64 e', .int .i64 b']) 34
      rw [hW, hD, hC, hB]
      have HB := Lib.hid hb
      have HC := Lib.hid hc
      have HD := Lib.hid hd
      have k5 := blk_num hb (i := 5) (by omega)
      obtain ⟨m0, m1, m2⟩ := hc.three
      obtain ⟨n0, n1, n2⟩ := hd.three
      clear hW hD hC hB hb hc hd
      clear HB HC HD
      go_wp2
      go_ret
      exact ⟨rfl, g0⟩
    · have d1 : decide (x 5 < d) = false := decide_eq_false hf1
      have d2 : decide (x 5 < -d) = true := decide_eq_true (by omega)
      clear hf hf1
      go_enter Try.func74, Try.ntmps74
      go_upto_region 1 with (fail)
      obtain ⟨W0, B, C, D, hW, hD, hC, hB, hb, hc, hd, g0, -, -, -, -⟩ := three_new w (cz 6 x) 23 (#[.int .i64 z, .int .i64 e, .int .i64 b]) 34 (#[.int .i64 z', .int .i64 e', .int .i64 b']) 34
      rw [hW, hD, hC, hB]
      have HB := Lib.hid hb
      have HC := Lib.hid hc
      have HD := Lib.hid hd
      have k5 := blk_num hb (i := 5) (by omega)
      obtain ⟨m0, m1, m2⟩ := hc.three
      obtain ⟨n0, n1, n2⟩ := hd.three
      clear hW hD hC hB hb hc hd
      clear HB HC HD
      go_wp2
      go_ret
      exact ⟨rfl, g0⟩
  · have d1 : decide (x 5 < d) = false := decide_eq_false (by omega)
    have d2 : decide (x 5 < -d) = false := decide_eq_false (by omega)
    rw [decide_eq_false (show ¬ x 5 < max d (-d) by omega)] at H2
    clear hf
    cases hpf : poleB e with
    | true =>
      obtain rfl : false = t := by rw [← H2.out, hpf]; rfl
      have HPF := Lib.hid hpf
      clear H2 hpf
      go_enter Try.func74, Try.ntmps74
      go_upto_region 1 with (fail)
      obtain ⟨W0, B, C, D, hW, hD, hC, hB, hb, hc, hd, g0, -, -, -, -⟩ := three_new w (cz 6 x) 23 (#[.int .i64 z, .int .i64 e, .int .i64 b]) 34 (#[.int .i64 z', .int .i64 e', .int .i64 b']) 34
      rw [hW, hD, hC, hB]
      have HB := Lib.hid hb
      have HC := Lib.hid hc
      have HD := Lib.hid hd
      have k5 := blk_num hb (i := 5) (by omega)
      obtain ⟨m0, m1, m2⟩ := hc.three
      obtain ⟨n0, n1, n2⟩ := hd.three
      clear hW hD hC hB hb hc hd
      go_upto_region 4 with (fail)
      clear d1 d2 i1 i2
      clear m0 m1 m2 n0 n1 n2 k5
      refine RegD.region_duty [24, 25, 26, 27, 28, 29, 30, 31, 32, 33, 34, 35, 36, 37, 38, 39, 40, 41, 6] (RegI.upd (RegI.upd (RegI.upd (RegI.upd (RegI.upd (RegI.upd (RegI.upd (RegI.upd (RegI.upd (RegI.upd (RegI.upd (RegI.upd (RegI.upd (RegI.upd (RegI.upd (RegI.upd (RegI.upd (RegI.upd (RegI.upd (fun _ => undef) 24 (.agg #[.int .i64 z, .int .i64 e, .int .i64 b])) 25 (.bool true)) 26 (.bool false)) 27 (.bool false)) 28 (undef)) 29 (undef)) 30 (undef)) 31 (.bool false)) 32 (.bool false)) 33 (undef)) 34 (undef)) 35 (undef)) 36 (undef)) 37 (undef)) 38 (undef)) 39 (undef)) 40 (undef)) 41 (.bool false)) 6 (.bool false)) (by kernel_rfl) (by kernel_rfl) (by intro d hd; simp at hd; simp; omega) ?_
      simp only [RegD.FF, RegI.FX, RegI.upd, List.foldl_cons, List.foldl_nil, List.not_mem_nil, if_true, if_false, Nat.reduceEqDiff]
      simp only [List.setIfInBounds_toArray, List.set_cons_succ, List.set_cons_zero]
      refine And.intro ?hs6 ?he6
      case hs6 =>
        refine And.intro ?s6_0 (And.intro ?s6_1 (And.intro ?s6_2 (And.intro ?s6_3 (And.intro ?s6_4 (And.intro ?s6_5 (And.intro ?s6_6 (And.intro ?s6_7 (And.intro ?s6_8 (And.intro ?s6_9 (And.intro ?s6_10 (And.intro ?s6_11 (And.intro ?s6_12 (And.intro ?s6_13 (And.intro ?s6_14 (And.intro ?s6_15 (And.intro ?s6_16 (And.intro ?s6_17 (And.intro ?s6_18 (trivial)))))))))))))))))))
        case s6_0 =>
          intro u w1 hO
          have HB9 := Lib.hid (HC.out.own hO)
          go_wp2_with ((with_reducible show wpList _ _ _ (⟨_, .load 34 (.tmp 4), _, _, _, none⟩ :: _) _ _); refine wpList_load_row rfl 34 (.tmp 4) rfl C rfl 34 _ (0, 0) _ HB9.out.raw Try.underlying34 rfl infoA ?_)
          exact ⟨rfl, rfl, rfl, Own.refl _⟩
        case s6_1 =>
          intro u w1 hO
          go_wp2_with (go_at_call 59; with_reducible refine (ruv_at z e b true _ HPF).mono ?_; rintro r w2 ⟨rfl, hg⟩)
          exact ⟨rfl, rfl, rfl, hg⟩
        case s6_2 =>
          intro u w1 hO
          go_wp2
          exact ⟨rfl, rfl, rfl, Own.refl _⟩
        case s6_3 =>
          intro u w1 hO
          go_wp2
          exact ⟨rfl, rfl, rfl, Own.refl _⟩
        case s6_4 =>
          intro u w1 hO
          go_wp2
          exact ⟨rfl, rfl, rfl, Own.refl _⟩
        case s6_5 =>
          intro u w1 hO
          go_wp2
          exact ⟨rfl, rfl, rfl, Own.refl _⟩
        case s6_6 =>
          intro u w1 hO
          go_wp2
          exact ⟨rfl, rfl, rfl, Own.refl _⟩
        case s6_7 =>
          intro u w1 hO
          go_wp2
          exact ⟨rfl, rfl, rfl, Own.refl _⟩
        case s6_8 =>
          intro u w1 hO
          go_wp2
          exact ⟨rfl, rfl, rfl, Own.refl _⟩
        case s6_9 =>
          intro u w1 hO
          go_wp2
          exact ⟨rfl, rfl, rfl, Own.refl _⟩
        case s6_10 =>
          intro u w1 hO
          go_wp2
          exact ⟨rfl, rfl, rfl, Own.refl _⟩
        case s6_11 =>
          intro u w1 hO
          go_wp2
          exact ⟨rfl, rfl, rfl, Own.refl _⟩
        case s6_12 =>
          intro u w1 hO
          go_wp2
          exact ⟨rfl, rfl, rfl, Own.refl _⟩
        case s6_13 =>
          intro u w1 hO
          go_wp2
          exact ⟨rfl, rfl, rfl, Own.refl _⟩
        case s6_14 =>
          intro u w1 hO
          go_wp2
          exact ⟨rfl, rfl, rfl, Own.refl _⟩
        case s6_15 =>
          intro u w1 hO
          go_wp2
          exact ⟨rfl, rfl, rfl, Own.refl _⟩
        case s6_16 =>
          intro u w1 hO
          go_wp2
          exact ⟨rfl, rfl, rfl, Own.refl _⟩
        case s6_17 =>
          intro u w1 hO
          go_wp2
          exact ⟨rfl, rfl, rfl, Own.refl _⟩
        case s6_18 =>
          intro u w1 hO
          go_wp2
          exact ⟨rfl, rfl, rfl, Own.refl _⟩
      intro u w9 hO
      replace g0 := g0.trans hO
      clear hO HB HC HD
      go_wp2
      go_ret
      exact ⟨rfl, g0⟩
    | false =>
      have HPF := Lib.hid hpf
      cases hpt : poleB e' with
      | true =>
        obtain rfl : false = t := by rw [← H2.out, hpf, hpt]; rfl
        have HPT := Lib.hid hpt
        clear H2 hpf hpt
        go_enter Try.func74, Try.ntmps74
        go_upto_region 1 with (fail)
        obtain ⟨W0, B, C, D, hW, hD, hC, hB, hb, hc, hd, g0, -, -, -, -⟩ := three_new w (cz 6 x) 23 (#[.int .i64 z, .int .i64 e, .int .i64 b]) 34 (#[.int .i64 z', .int .i64 e', .int .i64 b']) 34
        rw [hW, hD, hC, hB]
        have HB := Lib.hid hb
        have HC := Lib.hid hc
        have HD := Lib.hid hd
        have k5 := blk_num hb (i := 5) (by omega)
        obtain ⟨m0, m1, m2⟩ := hc.three
        obtain ⟨n0, n1, n2⟩ := hd.three
        clear hW hD hC hB hb hc hd
        go_upto_region 4 with (fail)
        clear d1 d2 i1 i2
        clear m0 m1 m2 n0 n1 n2 k5
        refine RegD.region_duty [24, 25, 26, 27, 28, 29, 30, 31, 32, 33, 34, 35, 36, 37, 38, 39, 40, 41, 6] (RegI.upd (RegI.upd (RegI.upd (RegI.upd (RegI.upd (RegI.upd (RegI.upd (RegI.upd (RegI.upd (RegI.upd (RegI.upd (RegI.upd (RegI.upd (RegI.upd (RegI.upd (RegI.upd (RegI.upd (RegI.upd (RegI.upd (fun _ => undef) 24 (.agg #[.int .i64 z, .int .i64 e, .int .i64 b])) 25 (.bool false)) 26 (.bool true)) 27 (.bool true)) 28 (.agg #[.int .i64 z', .int .i64 e', .int .i64 b'])) 29 (.bool true)) 30 (.bool false)) 31 (.bool false)) 32 (.bool false)) 33 (undef)) 34 (undef)) 35 (undef)) 36 (undef)) 37 (undef)) 38 (undef)) 39 (undef)) 40 (undef)) 41 (.bool false)) 6 (.bool false)) (by kernel_rfl) (by kernel_rfl) (by intro d hd; simp at hd; simp; omega) ?_
        simp only [RegD.FF, RegI.FX, RegI.upd, List.foldl_cons, List.foldl_nil, List.not_mem_nil, if_true, if_false, Nat.reduceEqDiff]
        simp only [List.setIfInBounds_toArray, List.set_cons_succ, List.set_cons_zero]
        refine And.intro ?hs7 ?he7
        case hs7 =>
          refine And.intro ?s7_0 (And.intro ?s7_1 (And.intro ?s7_2 (And.intro ?s7_3 (And.intro ?s7_4 (And.intro ?s7_5 (And.intro ?s7_6 (And.intro ?s7_7 (And.intro ?s7_8 (And.intro ?s7_9 (And.intro ?s7_10 (And.intro ?s7_11 (And.intro ?s7_12 (And.intro ?s7_13 (And.intro ?s7_14 (And.intro ?s7_15 (And.intro ?s7_16 (And.intro ?s7_17 (And.intro ?s7_18 (trivial)))))))))))))))))))
          case s7_0 =>
            intro u w1 hO
            have HB9 := Lib.hid (HC.out.own hO)
            go_wp2_with ((with_reducible show wpList _ _ _ (⟨_, .load 34 (.tmp 4), _, _, _, none⟩ :: _) _ _); refine wpList_load_row rfl 34 (.tmp 4) rfl C rfl 34 _ (0, 0) _ HB9.out.raw Try.underlying34 rfl infoA ?_)
            exact ⟨rfl, rfl, rfl, Own.refl _⟩
          case s7_1 =>
            intro u w1 hO
            go_wp2_with (go_at_call 59; with_reducible refine (ruv_at z e b false _ HPF).mono ?_; rintro r w2 ⟨rfl, hg⟩)
            exact ⟨rfl, rfl, rfl, hg⟩
          case s7_2 =>
            intro u w1 hO
            go_wp2
            exact ⟨rfl, rfl, rfl, Own.refl _⟩
          case s7_3 =>
            intro u w1 hO
            go_wp2
            exact ⟨rfl, rfl, rfl, Own.refl _⟩
          case s7_4 =>
            intro u w1 hO
            have HB9 := Lib.hid (HD.out.own hO)
            go_wp2_with ((with_reducible show wpList _ _ _ (⟨_, .load 34 (.tmp 5), _, _, _, some _⟩ :: _) _ _); refine wpList_load_row_g rfl 34 (.tmp 5) rfl D rfl 34 _ (0, 0) _ HB9.out.raw Try.underlying34 rfl infoA ?_)
            exact ⟨rfl, rfl, rfl, Own.refl _⟩
          case s7_5 =>
            intro u w1 hO
            go_wp2_with (go_at_call 59; with_reducible refine (ruv_at z' e' b' true _ HPT).mono ?_; rintro r w2 ⟨rfl, hg⟩)
            exact ⟨rfl, rfl, rfl, hg⟩
          case s7_6 =>
            intro u w1 hO
            go_wp2
            exact ⟨rfl, rfl, rfl, Own.refl _⟩
          case s7_7 =>
            intro u w1 hO
            go_wp2
            exact ⟨rfl, rfl, rfl, Own.refl _⟩
          case s7_8 =>
            intro u w1 hO
            go_wp2
            exact ⟨rfl, rfl, rfl, Own.refl _⟩
          case s7_9 =>
            intro u w1 hO
            go_wp2
            exact ⟨rfl, rfl, rfl, Own.refl _⟩
          case s7_10 =>
            intro u w1 hO
            go_wp2
            exact ⟨rfl, rfl, rfl, Own.refl _⟩
          case s7_11 =>
            intro u w1 hO
            go_wp2
            exact ⟨rfl, rfl, rfl, Own.refl _⟩
          case s7_12 =>
            intro u w1 hO
            go_wp2
            exact ⟨rfl, rfl, rfl, Own.refl _⟩
          case s7_13 =>
            intro u w1 hO
            go_wp2
            exact ⟨rfl, rfl, rfl, Own.refl _⟩
          case s7_14 =>
            intro u w1 hO
            go_wp2
            exact ⟨rfl, rfl, rfl, Own.refl _⟩
          case s7_15 =>
            intro u w1 hO
            go_wp2
            exact ⟨rfl, rfl, rfl, Own.refl _⟩
          case s7_16 =>
            intro u w1 hO
            go_wp2
            exact ⟨rfl, rfl, rfl, Own.refl _⟩
          case s7_17 =>
            intro u w1 hO
            go_wp2
            exact ⟨rfl, rfl, rfl, Own.refl _⟩
          case s7_18 =>
            intro u w1 hO
            go_wp2
            exact ⟨rfl, rfl, rfl, Own.refl _⟩
        intro u w9 hO
        replace g0 := g0.trans hO
        clear hO HB HC HD
        go_wp2
        go_ret
        exact ⟨rfl, g0⟩
      | false =>
        have HPT := Lib.hid hpt
        obtain ⟨v, hv⟩ : ∃ v, chg z z' = v := ⟨_, rfl⟩
        have HV := Lib.hid hv
        have HDV := Lib.hid (show decide (x 5 < v) = t by
          rw [← H2.out, hpf, hpt, hv]
          rfl)
        clear H2 hpf hpt hv
        go_enter Try.func74, Try.ntmps74
        go_upto_region 1 with (fail)
        obtain ⟨W0, B, C, D, hW, hD, hC, hB, hb, hc, hd, g0, -, -, -, -⟩ := three_new w (cz 6 x) 23 (#[.int .i64 z, .int .i64 e, .int .i64 b]) 34 (#[.int .i64 z', .int .i64 e', .int .i64 b']) 34
        rw [hW, hD, hC, hB]
        have HB := Lib.hid hb
        have HC := Lib.hid hc
        have HD := Lib.hid hd
        have k5 := blk_num hb (i := 5) (by omega)
        obtain ⟨m0, m1, m2⟩ := hc.three
        obtain ⟨n0, n1, n2⟩ := hd.three
        clear hW hD hC hB hb hc hd
        go_upto_region 4 with (fail)
        clear d1 d2 i1 i2
        clear m0 m1 m2 n0 n1 n2 k5
        refine RegD.region_duty [24, 25, 26, 27, 28, 29, 30, 31, 32, 33, 34, 35, 36, 37, 38, 39, 40, 41, 6] (RegI.upd (RegI.upd (RegI.upd (RegI.upd (RegI.upd (RegI.upd (RegI.upd (RegI.upd (RegI.upd (RegI.upd (RegI.upd (RegI.upd (RegI.upd (RegI.upd (RegI.upd (RegI.upd (RegI.upd (RegI.upd (RegI.upd (fun _ => undef) 24 (.agg #[.int .i64 z, .int .i64 e, .int .i64 b])) 25 (.bool false)) 26 (.bool true)) 27 (.bool true)) 28 (.agg #[.int .i64 z', .int .i64 e', .int .i64 b'])) 29 (.bool false)) 30 (.bool true)) 31 (.bool true)) 32 (.bool true)) 33 (.pointer (some ⟨C, 0, none⟩))) 34 (.int .i64 z)) 35 (.pointer (some ⟨D, 0, none⟩))) 36 (.int .i64 z')) 37 (.int .i64 v)) 38 (.pointer (some ⟨B, 5, none⟩))) 39 (.int .i64 (x 5))) 40 (.bool (decide (x 5 < v)))) 41 (.bool (decide (x 5 < v)))) 6 (.bool (decide (x 5 < v)))) (by kernel_rfl) (by kernel_rfl) (by intro d hd; simp at hd; simp; omega) ?_
        simp only [RegD.FF, RegI.FX, RegI.upd, List.foldl_cons, List.foldl_nil, List.not_mem_nil, if_true, if_false, Nat.reduceEqDiff]
        simp only [List.setIfInBounds_toArray, List.set_cons_succ, List.set_cons_zero]
        refine And.intro ?hs8 ?he8
        case hs8 =>
          refine And.intro ?s8_0 (And.intro ?s8_1 (And.intro ?s8_2 (And.intro ?s8_3 (And.intro ?s8_4 (And.intro ?s8_5 (And.intro ?s8_6 (And.intro ?s8_7 (And.intro ?s8_8 (And.intro ?s8_9 (And.intro ?s8_10 (And.intro ?s8_11 (And.intro ?s8_12 (And.intro ?s8_13 (And.intro ?s8_14 (And.intro ?s8_15 (And.intro ?s8_16 (And.intro ?s8_17 (And.intro ?s8_18 (trivial)))))))))))))))))))
          case s8_0 =>
            intro u w1 hO
            have HB9 := Lib.hid (HC.out.own hO)
            go_wp2_with ((with_reducible show wpList _ _ _ (⟨_, .load 34 (.tmp 4), _, _, _, none⟩ :: _) _ _); refine wpList_load_row rfl 34 (.tmp 4) rfl C rfl 34 _ (0, 0) _ HB9.out.raw Try.underlying34 rfl infoA ?_)
            exact ⟨rfl, rfl, rfl, Own.refl _⟩
          case s8_1 =>
            intro u w1 hO
            go_wp2_with (go_at_call 59; with_reducible refine (ruv_at z e b false _ HPF).mono ?_; rintro r w2 ⟨rfl, hg⟩)
            exact ⟨rfl, rfl, rfl, hg⟩
          case s8_2 =>
            intro u w1 hO
            go_wp2
            exact ⟨rfl, rfl, rfl, Own.refl _⟩
          case s8_3 =>
            intro u w1 hO
            go_wp2
            exact ⟨rfl, rfl, rfl, Own.refl _⟩
          case s8_4 =>
            intro u w1 hO
            have HB9 := Lib.hid (HD.out.own hO)
            go_wp2_with ((with_reducible show wpList _ _ _ (⟨_, .load 34 (.tmp 5), _, _, _, some _⟩ :: _) _ _); refine wpList_load_row_g rfl 34 (.tmp 5) rfl D rfl 34 _ (0, 0) _ HB9.out.raw Try.underlying34 rfl infoA ?_)
            exact ⟨rfl, rfl, rfl, Own.refl _⟩
          case s8_5 =>
            intro u w1 hO
            go_wp2_with (go_at_call 59; with_reducible refine (ruv_at z' e' b' false _ HPT).mono ?_; rintro r w2 ⟨rfl, hg⟩)
            exact ⟨rfl, rfl, rfl, hg⟩
          case s8_6 =>
            intro u w1 hO
            go_wp2
            exact ⟨rfl, rfl, rfl, Own.refl _⟩
          case s8_7 =>
            intro u w1 hO
            go_wp2
            exact ⟨rfl, rfl, rfl, Own.refl _⟩
          case s8_8 =>
            intro u w1 hO
            go_wp2
            exact ⟨rfl, rfl, rfl, Own.refl _⟩
          case s8_9 =>
            intro u w1 hO
            go_wp2
            exact ⟨rfl, rfl, rfl, Own.refl _⟩
          case s8_10 =>
            intro u w1 hO
            have kk := (HC.out.own hO).cell 0
            go_wp2
            exact ⟨rfl, rfl, rfl, Own.refl _⟩
          case s8_11 =>
            intro u w1 hO
            go_wp2
            exact ⟨rfl, rfl, rfl, Own.refl _⟩
          case s8_12 =>
            intro u w1 hO
            have kk := (HD.out.own hO).cell 0
            go_wp2
            exact ⟨rfl, rfl, rfl, Own.refl _⟩
          case s8_13 =>
            intro u w1 hO
            go_wp2_with (go_at_call 67; with_reducible refine (rch_at _ _ v _ HV).mono ?_; rintro r w2 ⟨rfl, rfl⟩)
            exact ⟨rfl, rfl, rfl, Own.refl _⟩
          case s8_14 =>
            intro u w1 hO
            go_wp2
            exact ⟨rfl, rfl, rfl, Own.refl _⟩
          case s8_15 =>
            intro u w1 hO
            have kk := blk_num (HB.out.own hO) (i := 5) (by omega)
            go_wp2
            exact ⟨rfl, rfl, rfl, Own.refl _⟩
          case s8_16 =>
            intro u w1 hO
            go_wp2
            exact ⟨rfl, rfl, rfl, Own.refl _⟩
          case s8_17 =>
            intro u w1 hO
            go_wp2
            exact ⟨rfl, rfl, rfl, Own.refl _⟩
          case s8_18 =>
            intro u w1 hO
            go_wp2
            exact ⟨rfl, rfl, rfl, Own.refl _⟩
        intro u w9 hO
        replace g0 := g0.trans hO
        clear hO HB HC HD
        go_wp2
        go_ret
        exact ⟨ret_bool HDV.out, g0⟩
set_option maxRecDepth 100000 in
set_option maxHeartbeats 16000000 in
theorem rli_at (l : Vl) (sv tv : Value) (f : Nat → Vl) (q : Nat → Int) (n m k : Nat) (fc ft fi : Int) (w : World) (HM : Hid (Mov sv tv f q n m w)) (hk : k < n) (hm : 0 < m) (hl : chE l = 0) (hv : ∀ k, k < n → vaE (f k) = 0) (H : Hid (lsE l (f (k - 1)) (f k) = fc ∧ (if lsE l (f (k - 1)) (f k) = 0 then 0 else (k : Int)) = ft ∧ lsP l (f (k - 1)) (f k) = fi)) :
    Calls Try.prog 66 #[.agg (lz l), .agg #[sv, tv], .int .i64 (k : Int)] w fun r w' => r = .returned (.agg #[.int .i64 fc, .int .i64 ft, .int .i64 fi]) ∧ Own w w' := by
  obtain ⟨⟨A, ca, rfl, hps⟩, ⟨A2, cb, rfl, hss⟩, hnl, hml⟩ := HM.out
  obtain ⟨pb, po, rfl, hpl⟩ := hps (by omega)
  obtain ⟨sb, so, rfl, hsl⟩ := hss (by omega)
  have HPL := Lib.hid hpl
  have HSL := Lib.hid hsl
  unfold maxLen at hnl hml
  clear hps hss hpl hsl
  have HOK := Lib.hid (ch_yes hl).1
  have HVP := Lib.hid (va_yes (hv (k - 1) (by omega))).2
  have HVQ := Lib.hid (va_yes (hv k hk)).2
  have HPK := Lib.hid (HPL.out k hk)
  have HPJ := Lib.hid (HPL.out (k - 1) (by omega))
  have hkn : (k : Int) < n := by omega
  clear hl hv HPL HSL HM hm
  have hpp : k = 0 → f (k - 1) = f k := fun h => by rw [h]
  generalize f k = p at *
  generalize f (k - 1) = p0 at *
  have HSAME := Lib.hid hpp
  clear hpp
  go_enter Try.func66, Try.ntmps66
  go_upto_region 1 with (fail)
  obtain ⟨W0, B, C, Rr, hW, hR, hC, hB, hb, hc, hr, g0, -, -, hR0, hneBC, hneBR, hneCR⟩ := three_new w (lz l) 26 #[.slice (some ⟨pb, po, none⟩) n ca, .slice (some ⟨sb, so, none⟩) m cb] 52 (#[.int .i64 0, .int .i64 0, .int .i64 0]) 55
  rw [hW, hR, hC, hB]
  have HB := Lib.hid hb
  have HC := Lib.hid hc
  have HR := Lib.hid hr
  clear hW hR hC hB hb hc hr
  go_wp2
  go_loopw [7] (fun vi wr => ∃ j : Nat, vi = .int .i64 (j : Int) ∧ j ≤ 6 ∧ (∀ i, i < j → lkE l p0 p i = 0) ∧ Own w wr ∧ Blk wr B (lz l) 26 ∧ Blk wr C #[.slice (some ⟨pb, po, none⟩) n ca, .slice (some ⟨sb, so, none⟩) m cb] 52 ∧ Blk wr Rr (#[.int .i64 0, .int .i64 0, .int .i64 0]) 55) (fun vi _ => 6 - (intOf vi).toNat)
  case atStart => exact ⟨0, rfl, by omega, fun i hi => absurd hi (by omega), g0, HB.out, HC.out, HR.out⟩
  case round =>
    clear g0 HB HC HR
    obtain ⟨j, rfl, hj, hz0, g0, hb, hc, hr⟩ := hrel
    have HZ := Lib.hid hz0
    have HB := Lib.hid hb
    have HC := Lib.hid hc
    have HR := Lib.hid hr
    clear hz0 hb hc hr
    by_cases hlt : j < 6
    · have hjn : (j : Int) < 6 := by omega
      obtain ⟨-, -, he, -⟩ := chk_yes (HVP.out j hlt)
      obtain ⟨-, hz, he2, -⟩ := chk_yes (HVQ.out j hlt)
      obtain ⟨c, hc⟩ : ∃ c, lkE l p0 p j = c := ⟨_, rfl⟩
      have HTK := Lib.hid hc
      have HAC := Lib.hid (lie_aim2 (HPJ.out.own g0) hlt)
      have HAD := Lib.hid (lie_aim2 (HPK.out.own g0) hlt)
      have hx := (HOK.out j hlt).2.1
      have HOX := Lib.hid (HOK.out j hlt)
      have HLIM := Lib.hid (lb_lim HB.out hlt)
      have HPC := Lib.hid (show k = 0 → p0 (4 + j * 3) = p (4 + j * 3) ∧ p0 (4 + j * 3 + 1) = p (4 + j * 3 + 1) from fun h => by rw [HSAME.out h]; exact ⟨rfl, rfl⟩)
      obtain ⟨x, hxx⟩ : ∃ x, lim l j = x := ⟨_, rfl⟩
      rw [hxx] at hx HLIM HOX
      have HLB := Lib.hid (show lbE x (p0 (4 + j * 3)) (p0 (4 + j * 3 + 1)) (p (4 + j * 3)) (p (4 + j * 3 + 1)) (p (4 + j * 3 + 2)) = c by
        rw [← hc, ← hxx]
        rfl)
      have hz9 : 0 ≤ p (4 + j * 3) ∧ p (4 + j * 3) ≤ 255 := hz
      replace hz : 0 ≤ p (4 + j * 3) ∧ p (4 + j * 3) ≤ 511 := by omega
      have he9 : -64 ≤ p0 (4 + j * 3 + 1) ∧ p0 (4 + j * 3 + 1) ≤ 64 := he
      have he8 : -64 ≤ p (4 + j * 3 + 1) ∧ p (4 + j * 3 + 1) ≤ 64 := he2
      clear he he2
      have he := he9
      have he2 := he8
      clear he9 he8
      generalize p0 (4 + j * 3) = z at HAC HLB HPC
      generalize p0 (4 + j * 3 + 1) = e at HAC HLB he HPC
      generalize p0 (4 + j * 3 + 2) = b at HAC
      generalize p (4 + j * 3) = z2 at HAD HLB hz hz9 HPC
      generalize p (4 + j * 3 + 1) = e2 at HAD HLB he2 HPC
      generalize p (4 + j * 3 + 2) = b2 at HAD HLB
      clear hc hxx
      have hlb := HLB.out
      unfold lbE at hlb
      go_upto_region 4 with (fail)
      by_cases hma : mayB x z2 e2 b2 = true
      · rw [if_pos hma] at hlb
        have HMAY := Lib.hid hma
        clear hma
        refine RegD.region_duty [12, 13, 14, 15, 16, 17, 18, 19, 20, 21, 22, 23, 24, 25] (RegI.upd (RegI.upd (RegI.upd (RegI.upd (RegI.upd (RegI.upd (RegI.upd (RegI.upd (RegI.upd (RegI.upd (RegI.upd (RegI.upd (RegI.upd (RegI.upd (fun _ => undef) 12 (.int .i64 (j : Int))) 13 (.pointer (some ⟨B, 0, none⟩))) 14 (.pointer (some ⟨B, j * 6, none⟩))) 15 (.agg (cz 6 x))) 16 (.pointer (some ⟨C, 0, none⟩))) 17 (.slice (some ⟨pb, po, none⟩) n ca)) 18 (.int .i64 (k : Int))) 19 (.int .i64 (j : Int))) 20 (.pointer (some ⟨pb, po + k * 22, none⟩))) 21 (.pointer (some ⟨pb, po + k * 22 + 4, none⟩))) 22 (.pointer (some ⟨pb, po + k * 22 + 4 + j * 3, none⟩))) 23 (.agg #[.int .i64 z2, .int .i64 e2, .int .i64 b2])) 24 (.bool true)) 25 (.bool false)) (by kernel_rfl) (by kernel_rfl) (by intro d hd; simp at hd; simp; omega) ?_
        simp only [RegD.FF, RegI.FX, RegI.upd, List.foldl_cons, List.foldl_nil, List.not_mem_nil, if_true, if_false, Nat.reduceEqDiff]
        simp only [List.setIfInBounds_toArray, List.set_cons_succ, List.set_cons_zero]
        refine And.intro ?hs1 ?he1
        case hs1 =>
          refine And.intro ?s1_0 (And.intro ?s1_1 (And.intro ?s1_2 (And.intro ?s1_3 (And.intro ?s1_4 (And.intro ?s1_5 (And.intro ?s1_6 (And.intro ?s1_7 (And.intro ?s1_8 (And.intro ?s1_9 (And.intro ?s1_10 (And.intro ?s1_11 (And.intro ?s1_12 (And.intro ?s1_13 (trivial))))))))))))))
          case s1_0 =>
            intro u w1 hO
            go_wp2
            exact ⟨rfl, rfl, rfl, Own.refl _⟩
          case s1_1 =>
            intro u w1 hO
            go_wp2
            exact ⟨rfl, rfl, rfl, Own.refl _⟩
          case s1_2 =>
            intro u w1 hO
            go_wp2
            exact ⟨rfl, rfl, rfl, Own.refl _⟩
          case s1_3 =>
            intro u w1 hO
            have HB9 := Lib.hid (HLIM.out.own hO)
            go_wp2_with ((with_reducible show wpList _ _ _ (⟨_, .load 23 (.tmp 14), _, _, _, none⟩ :: _) _ _); refine wpList_load_lie rfl 23 (.tmp 14) rfl B (j * 6) rfl (cz 6 x) HB9.out _ Try.underlying23 rfl infoL ?_)
            exact ⟨rfl, rfl, rfl, Own.refl _⟩
          case s1_4 =>
            intro u w1 hO
            go_wp2
            exact ⟨rfl, rfl, rfl, Own.refl _⟩
          case s1_5 =>
            intro u w1 hO
            have kk := (HC.out.own hO).cell 0
            go_wp2
            exact ⟨rfl, rfl, rfl, Own.refl _⟩
          case s1_6 =>
            intro u w1 hO
            go_wp2
            exact ⟨rfl, rfl, rfl, Own.refl _⟩
          case s1_7 =>
            intro u w1 hO
            go_wp2
            exact ⟨rfl, rfl, rfl, Own.refl _⟩
          case s1_8 =>
            intro u w1 hO
            go_wp2
            exact ⟨rfl, rfl, rfl, Own.refl _⟩
          case s1_9 =>
            intro u w1 hO
            go_wp2
            exact ⟨rfl, rfl, rfl, Own.refl _⟩
          case s1_10 =>
            intro u w1 hO
            go_wp2
            exact ⟨rfl, rfl, rfl, Own.refl _⟩
          case s1_11 =>
            intro u w1 hO
            have HB9 := Lib.hid (HAD.out.own hO)
            go_wp2_with ((with_reducible show wpList _ _ _ (⟨_, .load 34 (.tmp 22), _, _, _, none⟩ :: _) _ _); refine wpList_load_lie rfl 34 (.tmp 22) rfl pb (po + k * 22 + 4 + j * 3) rfl (#[.int .i64 z2, .int .i64 e2, .int .i64 b2]) HB9.out _ Try.underlying34 rfl infoA ?_)
            exact ⟨rfl, rfl, rfl, Own.refl _⟩
          case s1_12 =>
            intro u w1 hO
            go_wp2_with (go_at_call 39; with_reducible refine (rmay_at x z2 e2 b2 true _ hx hz HMAY).mono ?_; rintro r w2 ⟨rfl, hg⟩)
            exact ⟨rfl, rfl, rfl, hg⟩
          case s1_13 =>
            intro u w1 hO
            go_wp2
            exact ⟨rfl, rfl, rfl, Own.refl _⟩
        intro u w9 hO
        replace g0 := g0.trans hO
        replace HB := Lib.hid (HB.out.own hO)
        replace HC := Lib.hid (HC.out.own hO)
        replace HR := Lib.hid (HR.out.own hO)
        replace HLIM := Lib.hid (HLIM.out.own hO)
        replace HAD := Lib.hid (HAD.out.own hO)
        replace HAC := Lib.hid (HAC.out.own hO)
        clear hO
        go_upto_region 6 with (fail)
        by_cases hk0 : k = 0
        · have hfs : fstB x z e z2 e2 = false := by
            obtain ⟨q1, q2⟩ := HPC.out hk0
            rw [q1, q2]
            exact fst_self HOX.out hz9
          rw [hfs, if_neg Bool.false_ne_true] at hlb
          subst hlb
          have dk : ¬ 0 < k := by omega
          have dk2 : decide ((0 : Int) < (k : Int)) = false := decide_eq_false (by omega)
          clear hfs hk0
          refine RegD.region_duty [29, 30, 31, 32, 33, 34, 35, 36, 37, 38, 39, 40, 41, 42, 43, 44, 45, 46, 47, 48, 49, 50, 51, 52, 53, 54] (RegI.upd (RegI.upd (RegI.upd (RegI.upd (RegI.upd (RegI.upd (RegI.upd (RegI.upd (RegI.upd (RegI.upd (RegI.upd (RegI.upd (RegI.upd (RegI.upd (RegI.upd (RegI.upd (RegI.upd (RegI.upd (RegI.upd (RegI.upd (RegI.upd (RegI.upd (RegI.upd (RegI.upd (RegI.upd (RegI.upd (fun _ => undef) 29 (.int .i64 (k : Int))) 30 (.bool false)) 31 (.bool false)) 32 (undef)) 33 (undef)) 34 (undef)) 35 (undef)) 36 (undef)) 37 (undef)) 38 (undef)) 39 (undef)) 40 (undef)) 41 (undef)) 42 (undef)) 43 (undef)) 44 (undef)) 45 (undef)) 46 (undef)) 47 (undef)) 48 (undef)) 49 (undef)) 50 (undef)) 51 (undef)) 52 (undef)) 53 (undef)) 54 (.bool false)) (by kernel_rfl) (by kernel_rfl) (by intro d hd; simp at hd; simp; omega) ?_
          simp only [RegD.FF, RegI.FX, RegI.upd, List.foldl_cons, List.foldl_nil, List.not_mem_nil, if_true, if_false, Nat.reduceEqDiff]
          simp only [List.setIfInBounds_toArray, List.set_cons_succ, List.set_cons_zero]
          refine And.intro ?hs2 ?he2
          case hs2 =>
            refine And.intro ?s2_0 (And.intro ?s2_1 (And.intro ?s2_2 (And.intro ?s2_3 (And.intro ?s2_4 (And.intro ?s2_5 (And.intro ?s2_6 (And.intro ?s2_7 (And.intro ?s2_8 (And.intro ?s2_9 (And.intro ?s2_10 (And.intro ?s2_11 (And.intro ?s2_12 (And.intro ?s2_13 (And.intro ?s2_14 (And.intro ?s2_15 (And.intro ?s2_16 (And.intro ?s2_17 (And.intro ?s2_18 (And.intro ?s2_19 (And.intro ?s2_20 (And.intro ?s2_21 (And.intro ?s2_22 (And.intro ?s2_23 (And.intro ?s2_24 (And.intro ?s2_25 (trivial))))))))))))))))))))))))))
            case s2_0 =>
              intro u w1 hO
              go_wp2
              exact ⟨rfl, rfl, rfl, Own.refl _⟩
            case s2_1 =>
              intro u w1 hO
              go_wp2
              exact ⟨rfl, rfl, rfl, Own.refl _⟩
            case s2_2 =>
              intro u w1 hO
              go_wp2
              exact ⟨rfl, rfl, rfl, Own.refl _⟩
            case s2_3 =>
              intro u w1 hO
              go_wp2
              exact ⟨rfl, rfl, rfl, Own.refl _⟩
            case s2_4 =>
              intro u w1 hO
              go_wp2
              exact ⟨rfl, rfl, rfl, Own.refl _⟩
            case s2_5 =>
              intro u w1 hO
              go_wp2
              exact ⟨rfl, rfl, rfl, Own.refl _⟩
            case s2_6 =>
              intro u w1 hO
              go_wp2
              exact ⟨rfl, rfl, rfl, Own.refl _⟩
            case s2_7 =>
              intro u w1 hO
              go_wp2
              exact ⟨rfl, rfl, rfl, Own.refl _⟩
            case s2_8 =>
              intro u w1 hO
              go_wp2
              exact ⟨rfl, rfl, rfl, Own.refl _⟩
            case s2_9 =>
              intro u w1 hO
              go_wp2
              exact ⟨rfl, rfl, rfl, Own.refl _⟩
            case s2_10 =>
              intro u w1 hO
              go_wp2
              exact ⟨rfl, rfl, rfl, Own.refl _⟩
            case s2_11 =>
              intro u w1 hO
              go_wp2
              exact ⟨rfl, rfl, rfl, Own.refl _⟩
            case s2_12 =>
              intro u w1 hO
              go_wp2
              exact ⟨rfl, rfl, rfl, Own.refl _⟩
            case s2_13 =>
              intro u w1 hO
              go_wp2
              exact ⟨rfl, rfl, rfl, Own.refl _⟩
            case s2_14 =>
              intro u w1 hO
              go_wp2
              exact ⟨rfl, rfl, rfl, Own.refl _⟩
            case s2_15 =>
              intro u w1 hO
              go_wp2
              exact ⟨rfl, rfl, rfl, Own.refl _⟩
            case s2_16 =>
              intro u w1 hO
              go_wp2
              exact ⟨rfl, rfl, rfl, Own.refl _⟩
            case s2_17 =>
              intro u w1 hO
              go_wp2
              exact ⟨rfl, rfl, rfl, Own.refl _⟩
            case s2_18 =>
              intro u w1 hO
              go_wp2
              exact ⟨rfl, rfl, rfl, Own.refl _⟩
            case s2_19 =>
              intro u w1 hO
              go_wp2
              exact ⟨rfl, rfl, rfl, Own.refl _⟩
            case s2_20 =>
              intro u w1 hO
              go_wp2
              exact ⟨rfl, rfl, rfl, Own.refl _⟩
            case s2_21 =>
              intro u w1 hO
              go_wp2
              exact ⟨rfl, rfl, rfl, Own.refl _⟩
            case s2_22 =>
              intro u w1 hO
              go_wp2
              exact ⟨rfl, rfl, rfl, Own.refl _⟩
            case s2_23 =>
              intro u w1 hO
              go_wp2
              exact ⟨rfl, rfl, rfl, Own.refl _⟩
            case s2_24 =>
              intro u w1 hO
              go_wp2
              exact ⟨rfl, rfl, rfl, Own.refl _⟩
            case s2_25 =>
              intro u w1 hO
              go_wp2
              exact ⟨rfl, rfl, rfl, Own.refl _⟩
          intro u2 w10 hO
          replace g0 := g0.trans hO
          replace HB := Lib.hid (HB.out.own hO)
          replace HC := Lib.hid (HC.out.own hO)
          replace HR := Lib.hid (HR.out.own hO)
          clear hO
          clear HLIM HAD HAC hx hz hz9 he he2 dk dk2
          go_wp2
          go_roundw
          case rel =>
            refine ⟨j + 1, by go_num, hlt, fun i hi => ?_, g0, HB.out, HC.out, HR.out⟩
            by_cases e : i = j
            · rw [e]; exact HTK.out
            · exact HZ.out i (by omega)
          case measure => simp [intOf]; omega
        · obtain ⟨kp, hkp⟩ : ∃ kp, k - 1 = kp := ⟨_, rfl⟩
          rw [hkp] at HAC
          have i2 : IntKind.i64.wrap ((k : Int) - 1) = (kp : Int) := (IntWalk.i64_in _ (by omega)).trans (by omega)
          have hkp1 : (kp : Int) < n := by omega
          have dk : 0 < k := by omega
          have dk2 : decide ((0 : Int) < (k : Int)) = true := decide_eq_true (by omega)
          clear hkp hk0
          cases hfs : fstB x z e z2 e2 with
          | true =>
            rw [hfs, if_pos rfl] at hlb
            subst hlb
            have HFA := Lib.hid hfs
            clear hfs
            refine RegD.region_duty [29, 30, 31, 32, 33, 34, 35, 36, 37, 38, 39, 40, 41, 42, 43, 44, 45, 46, 47, 48, 49, 50, 51, 52, 53, 54] (RegI.upd (RegI.upd (RegI.upd (RegI.upd (RegI.upd (RegI.upd (RegI.upd (RegI.upd (RegI.upd (RegI.upd (RegI.upd (RegI.upd (RegI.upd (RegI.upd (RegI.upd (RegI.upd (RegI.upd (RegI.upd (RegI.upd (RegI.upd (RegI.upd (RegI.upd (RegI.upd (RegI.upd (RegI.upd (RegI.upd (fun _ => undef) 29 (.int .i64 (k : Int))) 30 (.bool true)) 31 (.bool true)) 32 (.int .i64 (j : Int))) 33 (.pointer (some ⟨B, 0, none⟩))) 34 (.pointer (some ⟨B, j * 6, none⟩))) 35 (.agg (cz 6 x))) 36 (.pointer (some ⟨C, 0, none⟩))) 37 (.slice (some ⟨pb, po, none⟩) n ca)) 38 (.int .i64 (k : Int))) 39 (.int .i64 (kp : Int))) 40 (.int .i64 (j : Int))) 41 (.pointer (some ⟨pb, po + kp * 22, none⟩))) 42 (.pointer (some ⟨pb, po + kp * 22 + 4, none⟩))) 43 (.pointer (some ⟨pb, po + kp * 22 + 4 + j * 3, none⟩))) 44 (.agg #[.int .i64 z, .int .i64 e, .int .i64 b])) 45 (.pointer (some ⟨C, 0, none⟩))) 46 (.slice (some ⟨pb, po, none⟩) n ca)) 47 (.int .i64 (k : Int))) 48 (.int .i64 (j : Int))) 49 (.pointer (some ⟨pb, po + k * 22, none⟩))) 50 (.pointer (some ⟨pb, po + k * 22 + 4, none⟩))) 51 (.pointer (some ⟨pb, po + k * 22 + 4 + j * 3, none⟩))) 52 (.agg #[.int .i64 z2, .int .i64 e2, .int .i64 b2])) 53 (.bool true)) 54 (.bool true)) (by kernel_rfl) (by kernel_rfl) (by intro d hd; simp at hd; simp; omega) ?_
            simp only [RegD.FF, RegI.FX, RegI.upd, List.foldl_cons, List.foldl_nil, List.not_mem_nil, if_true, if_false, Nat.reduceEqDiff]
            simp only [List.setIfInBounds_toArray, List.set_cons_succ, List.set_cons_zero]
            refine And.intro ?hs3 ?he3
            case hs3 =>
              refine And.intro ?s3_0 (And.intro ?s3_1 (And.intro ?s3_2 (And.intro ?s3_3 (And.intro ?s3_4 (And.intro ?s3_5 (And.intro ?s3_6 (And.intro ?s3_7 (And.intro ?s3_8 (And.intro ?s3_9 (And.intro ?s3_10 (And.intro ?s3_11 (And.intro ?s3_12 (And.intro ?s3_13 (And.intro ?s3_14 (And.intro ?s3_15 (And.intro ?s3_16 (And.intro ?s3_17 (And.intro ?s3_18 (And.intro ?s3_19 (And.intro ?s3_20 (And.intro ?s3_21 (And.intro ?s3_22 (And.intro ?s3_23 (And.intro ?s3_24 (And.intro ?s3_25 (trivial))))))))))))))))))))))))))
              case s3_0 =>
                intro u w1 hO
                go_wp2
                exact ⟨rfl, rfl, rfl, Own.refl _⟩
              case s3_1 =>
                intro u w1 hO
                go_wp2
                exact ⟨rfl, rfl, rfl, Own.refl _⟩
              case s3_2 =>
                intro u w1 hO
                go_wp2
                exact ⟨rfl, rfl, rfl, Own.refl _⟩
              case s3_3 =>
                intro u w1 hO
                go_wp2
                exact ⟨rfl, rfl, rfl, Own.refl _⟩
              case s3_4 =>
                intro u w1 hO
                go_wp2
                exact ⟨rfl, rfl, rfl, Own.refl _⟩
              case s3_5 =>
                intro u w1 hO
                go_wp2
                exact ⟨rfl, rfl, rfl, Own.refl _⟩
              case s3_6 =>
                intro u w1 hO
                have HB9 := Lib.hid (HLIM.out.own hO)
                go_wp2_with ((with_reducible show wpList _ _ _ (⟨_, .load 23 (.tmp 34), _, _, _, some _⟩ :: _) _ _); refine wpList_load_lie_g rfl 23 (.tmp 34) rfl B (j * 6) rfl (cz 6 x) HB9.out _ Try.underlying23 rfl infoL ?_)
                exact ⟨rfl, rfl, rfl, Own.refl _⟩
              case s3_7 =>
                intro u w1 hO
                go_wp2
                exact ⟨rfl, rfl, rfl, Own.refl _⟩
              case s3_8 =>
                intro u w1 hO
                have kk := (HC.out.own hO).cell 0
                go_wp2
                exact ⟨rfl, rfl, rfl, Own.refl _⟩
              case s3_9 =>
                intro u w1 hO
                go_wp2
                exact ⟨rfl, rfl, rfl, Own.refl _⟩
              case s3_10 =>
                intro u w1 hO
                go_wp2
                exact ⟨rfl, rfl, rfl, Own.refl _⟩
              case s3_11 =>
                intro u w1 hO
                go_wp2
                exact ⟨rfl, rfl, rfl, Own.refl _⟩
              case s3_12 =>
                intro u w1 hO
                go_wp2
                exact ⟨rfl, rfl, rfl, Own.refl _⟩
              case s3_13 =>
                intro u w1 hO
                go_wp2
                exact ⟨rfl, rfl, rfl, Own.refl _⟩
              case s3_14 =>
                intro u w1 hO
                go_wp2
                exact ⟨rfl, rfl, rfl, Own.refl _⟩
              case s3_15 =>
                intro u w1 hO
                have HB9 := Lib.hid (HAC.out.own hO)
                go_wp2_with ((with_reducible show wpList _ _ _ (⟨_, .load 34 (.tmp 43), _, _, _, some _⟩ :: _) _ _); refine wpList_load_lie_g rfl 34 (.tmp 43) rfl pb (po + kp * 22 + 4 + j * 3) rfl (#[.int .i64 z, .int .i64 e, .int .i64 b]) HB9.out _ Try.underlying34 rfl infoA ?_)
                exact ⟨rfl, rfl, rfl, Own.refl _⟩
              case s3_16 =>
                intro u w1 hO
                go_wp2
                exact ⟨rfl, rfl, rfl, Own.refl _⟩
              case s3_17 =>
                intro u w1 hO
                have kk := (HC.out.own hO).cell 0
                go_wp2
                exact ⟨rfl, rfl, rfl, Own.refl _⟩
              case s3_18 =>
                intro u w1 hO
                go_wp2
                exact ⟨rfl, rfl, rfl, Own.refl _⟩
              case s3_19 =>
                intro u w1 hO
                go_wp2
                exact ⟨rfl, rfl, rfl, Own.refl _⟩
              case s3_20 =>
                intro u w1 hO
                go_wp2
                exact ⟨rfl, rfl, rfl, Own.refl _⟩
              case s3_21 =>
                intro u w1 hO
                go_wp2
                exact ⟨rfl, rfl, rfl, Own.refl _⟩
              case s3_22 =>
                intro u w1 hO
                go_wp2
                exact ⟨rfl, rfl, rfl, Own.refl _⟩
              case s3_23 =>
                intro u w1 hO
                have HB9 := Lib.hid (HAD.out.own hO)
                go_wp2_with ((with_reducible show wpList _ _ _ (⟨_, .load 34 (.tmp 51), _, _, _, some _⟩ :: _) _ _); refine wpList_load_lie_g rfl 34 (.tmp 51) rfl pb (po + k * 22 + 4 + j * 3) rfl (#[.int .i64 z2, .int .i64 e2, .int .i64 b2]) HB9.out _ Try.underlying34 rfl infoA ?_)
                exact ⟨rfl, rfl, rfl, Own.refl _⟩
              case s3_24 =>
                intro u w1 hO
                go_wp2_with (go_at_call 74; with_reducible refine (rft_at x z e b z2 e2 b2 true _ he he2 HFA).mono ?_; rintro r w2 ⟨rfl, hg⟩)
                exact ⟨rfl, rfl, rfl, hg⟩
              case s3_25 =>
                intro u w1 hO
                go_wp2
                exact ⟨rfl, rfl, rfl, Own.refl _⟩
            intro u2 w10 hO
            replace g0 := g0.trans hO
            replace HB := Lib.hid (HB.out.own hO)
            replace HC := Lib.hid (HC.out.own hO)
            replace HR := Lib.hid (HR.out.own hO)
            clear hO
            clear HLIM HAD HAC hx hz hz9 he he2 i2 dk dk2
            obtain ⟨e1, e2⟩ := ls_at HZ.out (by rw [HTK.out]; decide) hlt
            obtain ⟨q1, q2, q3⟩ := H.out
            obtain rfl : 26 = fc := by rw [← q1, e1]; exact HTK.out.symm
            obtain rfl : (k : Int) = ft := by rw [← q2, if_neg (by rw [e1, HTK.out]; decide)]
            obtain rfl : (j : Int) = fi := by rw [← q3, e2]
            clear e1 e2 q1 q2 q3 H HZ HTK
            go_wp2_with ((with_reducible show wpList _ _ _ (⟨_, .store 55 (.tmp 6) (.tmp 57), _, _, _, none⟩ :: _) _ _); refine wpList_store_row rfl 55 (.tmp 6) (.tmp 57) rfl Rr #[.int .i64 26, .int .i64 (k : Int), .int .i64 (j : Int)] rfl rfl 55 _ HR.out.raw infoF rfl (by simp [Value.oneCell']) ?_)
            have hp := HR.out.row (#[.int .i64 26, .int .i64 (k : Int), .int .i64 (j : Int)])
            exact bodyPost_ret (blk_result rfl rfl hp Try.underlying55 rfl infoF) rfl ⟨rfl, own_setRow g0 hR0 _⟩
          | false =>
            rw [hfs, if_neg Bool.false_ne_true] at hlb
            subst hlb
            have HFA := Lib.hid hfs
            clear hfs
            refine RegD.region_duty [29, 30, 31, 32, 33, 34, 35, 36, 37, 38, 39, 40, 41, 42, 43, 44, 45, 46, 47, 48, 49, 50, 51, 52, 53, 54] (RegI.upd (RegI.upd (RegI.upd (RegI.upd (RegI.upd (RegI.upd (RegI.upd (RegI.upd (RegI.upd (RegI.upd (RegI.upd (RegI.upd (RegI.upd (RegI.upd (RegI.upd (RegI.upd (RegI.upd (RegI.upd (RegI.upd (RegI.upd (RegI.upd (RegI.upd (RegI.upd (RegI.upd (RegI.upd (RegI.upd (fun _ => undef) 29 (.int .i64 (k : Int))) 30 (.bool true)) 31 (.bool true)) 32 (.int .i64 (j : Int))) 33 (.pointer (some ⟨B, 0, none⟩))) 34 (.pointer (some ⟨B, j * 6, none⟩))) 35 (.agg (cz 6 x))) 36 (.pointer (some ⟨C, 0, none⟩))) 37 (.slice (some ⟨pb, po, none⟩) n ca)) 38 (.int .i64 (k : Int))) 39 (.int .i64 (kp : Int))) 40 (.int .i64 (j : Int))) 41 (.pointer (some ⟨pb, po + kp * 22, none⟩))) 42 (.pointer (some ⟨pb, po + kp * 22 + 4, none⟩))) 43 (.pointer (some ⟨pb, po + kp * 22 + 4 + j * 3, none⟩))) 44 (.agg #[.int .i64 z, .int .i64 e, .int .i64 b])) 45 (.pointer (some ⟨C, 0, none⟩))) 46 (.slice (some ⟨pb, po, none⟩) n ca)) 47 (.int .i64 (k : Int))) 48 (.int .i64 (j : Int))) 49 (.pointer (some ⟨pb, po + k * 22, none⟩))) 50 (.pointer (some ⟨pb, po + k * 22 + 4, none⟩))) 51 (.pointer (some ⟨pb, po + k * 22 + 4 + j * 3, none⟩))) 52 (.agg #[.int .i64 z2, .int .i64 e2, .int .i64 b2])) 53 (.bool false)) 54 (.bool false)) (by kernel_rfl) (by kernel_rfl) (by intro d hd; simp at hd; simp; omega) ?_
            simp only [RegD.FF, RegI.FX, RegI.upd, List.foldl_cons, List.foldl_nil, List.not_mem_nil, if_true, if_false, Nat.reduceEqDiff]
            simp only [List.setIfInBounds_toArray, List.set_cons_succ, List.set_cons_zero]
            refine And.intro ?hs4 ?he4
            case hs4 =>
              refine And.intro ?s4_0 (And.intro ?s4_1 (And.intro ?s4_2 (And.intro ?s4_3 (And.intro ?s4_4 (And.intro ?s4_5 (And.intro ?s4_6 (And.intro ?s4_7 (And.intro ?s4_8 (And.intro ?s4_9 (And.intro ?s4_10 (And.intro ?s4_11 (And.intro ?s4_12 (And.intro ?s4_13 (And.intro ?s4_14 (And.intro ?s4_15 (And.intro ?s4_16 (And.intro ?s4_17 (And.intro ?s4_18 (And.intro ?s4_19 (And.intro ?s4_20 (And.intro ?s4_21 (And.intro ?s4_22 (And.intro ?s4_23 (And.intro ?s4_24 (And.intro ?s4_25 (trivial))))))))))))))))))))))))))
              case s4_0 =>
                intro u w1 hO
                go_wp2
                exact ⟨rfl, rfl, rfl, Own.refl _⟩
              case s4_1 =>
                intro u w1 hO
                go_wp2
                exact ⟨rfl, rfl, rfl, Own.refl _⟩
              case s4_2 =>
                intro u w1 hO
                go_wp2
                exact ⟨rfl, rfl, rfl, Own.refl _⟩
              case s4_3 =>
                intro u w1 hO
                go_wp2
                exact ⟨rfl, rfl, rfl, Own.refl _⟩
              case s4_4 =>
                intro u w1 hO
                go_wp2
                exact ⟨rfl, rfl, rfl, Own.refl _⟩
              case s4_5 =>
                intro u w1 hO
                go_wp2
                exact ⟨rfl, rfl, rfl, Own.refl _⟩
              case s4_6 =>
                intro u w1 hO
                have HB9 := Lib.hid (HLIM.out.own hO)
                go_wp2_with ((with_reducible show wpList _ _ _ (⟨_, .load 23 (.tmp 34), _, _, _, some _⟩ :: _) _ _); refine wpList_load_lie_g rfl 23 (.tmp 34) rfl B (j * 6) rfl (cz 6 x) HB9.out _ Try.underlying23 rfl infoL ?_)
                exact ⟨rfl, rfl, rfl, Own.refl _⟩
              case s4_7 =>
                intro u w1 hO
                go_wp2
                exact ⟨rfl, rfl, rfl, Own.refl _⟩
              case s4_8 =>
                intro u w1 hO
                have kk := (HC.out.own hO).cell 0
                go_wp2
                exact ⟨rfl, rfl, rfl, Own.refl _⟩
              case s4_9 =>
                intro u w1 hO
                go_wp2
                exact ⟨rfl, rfl, rfl, Own.refl _⟩
              case s4_10 =>
                intro u w1 hO
                go_wp2
                exact ⟨rfl, rfl, rfl, Own.refl _⟩
              case s4_11 =>
                intro u w1 hO
                go_wp2
                exact ⟨rfl, rfl, rfl, Own.refl _⟩
              case s4_12 =>
                intro u w1 hO
                go_wp2
                exact ⟨rfl, rfl, rfl, Own.refl _⟩
              case s4_13 =>
                intro u w1 hO
                go_wp2
                exact ⟨rfl, rfl, rfl, Own.refl _⟩
              case s4_14 =>
                intro u w1 hO
                go_wp2
                exact ⟨rfl, rfl, rfl, Own.refl _⟩
              case s4_15 =>
                intro u w1 hO
                have HB9 := Lib.hid (HAC.out.own hO)
                go_wp2_with ((with_reducible show wpList _ _ _ (⟨_, .load 34 (.tmp 43), _, _, _, some _⟩ :: _) _ _); refine wpList_load_lie_g rfl 34 (.tmp 43) rfl pb (po + kp * 22 + 4 + j * 3) rfl (#[.int .i64 z, .int .i64 e, .int .i64 b]) HB9.out _ Try.underlying34 rfl infoA ?_)
                exact ⟨rfl, rfl, rfl, Own.refl _⟩
              case s4_16 =>
                intro u w1 hO
                go_wp2
                exact ⟨rfl, rfl, rfl, Own.refl _⟩
              case s4_17 =>
                intro u w1 hO
                have kk := (HC.out.own hO).cell 0
                go_wp2
                exact ⟨rfl, rfl, rfl, Own.refl _⟩
              case s4_18 =>
                intro u w1 hO
                go_wp2
                exact ⟨rfl, rfl, rfl, Own.refl _⟩
              case s4_19 =>
                intro u w1 hO
                go_wp2
                exact ⟨rfl, rfl, rfl, Own.refl _⟩
              case s4_20 =>
                intro u w1 hO
                go_wp2
                exact ⟨rfl, rfl, rfl, Own.refl _⟩
              case s4_21 =>
                intro u w1 hO
                go_wp2
                exact ⟨rfl, rfl, rfl, Own.refl _⟩
              case s4_22 =>
                intro u w1 hO
                go_wp2
                exact ⟨rfl, rfl, rfl, Own.refl _⟩
              case s4_23 =>
                intro u w1 hO
                have HB9 := Lib.hid (HAD.out.own hO)
                go_wp2_with ((with_reducible show wpList _ _ _ (⟨_, .load 34 (.tmp 51), _, _, _, some _⟩ :: _) _ _); refine wpList_load_lie_g rfl 34 (.tmp 51) rfl pb (po + k * 22 + 4 + j * 3) rfl (#[.int .i64 z2, .int .i64 e2, .int .i64 b2]) HB9.out _ Try.underlying34 rfl infoA ?_)
                exact ⟨rfl, rfl, rfl, Own.refl _⟩
              case s4_24 =>
                intro u w1 hO
                go_wp2_with (go_at_call 74; with_reducible refine (rft_at x z e b z2 e2 b2 false _ he he2 HFA).mono ?_; rintro r w2 ⟨rfl, hg⟩)
                exact ⟨rfl, rfl, rfl, hg⟩
              case s4_25 =>
                intro u w1 hO
                go_wp2
                exact ⟨rfl, rfl, rfl, Own.refl _⟩
            intro u2 w10 hO
            replace g0 := g0.trans hO
            replace HB := Lib.hid (HB.out.own hO)
            replace HC := Lib.hid (HC.out.own hO)
            replace HR := Lib.hid (HR.out.own hO)
            clear hO
            clear HLIM HAD HAC hx hz hz9 he he2 i2 dk dk2
            go_wp2
            go_roundw
            case rel =>
              refine ⟨j + 1, by go_num, hlt, fun i hi => ?_, g0, HB.out, HC.out, HR.out⟩
              by_cases e : i = j
              · rw [e]; exact HTK.out
              · exact HZ.out i (by omega)
            case measure => simp [intOf]; omega
      · rw [if_neg hma] at hlb
        subst hlb
        have HMAY := Lib.hid (Bool.eq_false_iff.2 hma)
        clear hma
        refine RegD.region_duty [12, 13, 14, 15, 16, 17, 18, 19, 20, 21, 22, 23, 24, 25] (RegI.upd (RegI.upd (RegI.upd (RegI.upd (RegI.upd (RegI.upd (RegI.upd (RegI.upd (RegI.upd (RegI.upd (RegI.upd (RegI.upd (RegI.upd (RegI.upd (fun _ => undef) 12 (.int .i64 (j : Int))) 13 (.pointer (some ⟨B, 0, none⟩))) 14 (.pointer (some ⟨B, j * 6, none⟩))) 15 (.agg (cz 6 x))) 16 (.pointer (some ⟨C, 0, none⟩))) 17 (.slice (some ⟨pb, po, none⟩) n ca)) 18 (.int .i64 (k : Int))) 19 (.int .i64 (j : Int))) 20 (.pointer (some ⟨pb, po + k * 22, none⟩))) 21 (.pointer (some ⟨pb, po + k * 22 + 4, none⟩))) 22 (.pointer (some ⟨pb, po + k * 22 + 4 + j * 3, none⟩))) 23 (.agg #[.int .i64 z2, .int .i64 e2, .int .i64 b2])) 24 (.bool false)) 25 (.bool true)) (by kernel_rfl) (by kernel_rfl) (by intro d hd; simp at hd; simp; omega) ?_
        simp only [RegD.FF, RegI.FX, RegI.upd, List.foldl_cons, List.foldl_nil, List.not_mem_nil, if_true, if_false, Nat.reduceEqDiff]
        simp only [List.setIfInBounds_toArray, List.set_cons_succ, List.set_cons_zero]
        refine And.intro ?hs5 ?he5
        case hs5 =>
          refine And.intro ?s5_0 (And.intro ?s5_1 (And.intro ?s5_2 (And.intro ?s5_3 (And.intro ?s5_4 (And.intro ?s5_5 (And.intro ?s5_6 (And.intro ?s5_7 (And.intro ?s5_8 (And.intro ?s5_9 (And.intro ?s5_10 (And.intro ?s5_11 (And.intro ?s5_12 (And.intro ?s5_13 (trivial))))))))))))))
          case s5_0 =>
            intro u w1 hO
            go_wp2
            exact ⟨rfl, rfl, rfl, Own.refl _⟩
          case s5_1 =>
            intro u w1 hO
            go_wp2
            exact ⟨rfl, rfl, rfl, Own.refl _⟩
          case s5_2 =>
            intro u w1 hO
            go_wp2
            exact ⟨rfl, rfl, rfl, Own.refl _⟩
          case s5_3 =>
            intro u w1 hO
            have HB9 := Lib.hid (HLIM.out.own hO)
            go_wp2_with ((with_reducible show wpList _ _ _ (⟨_, .load 23 (.tmp 14), _, _, _, none⟩ :: _) _ _); refine wpList_load_lie rfl 23 (.tmp 14) rfl B (j * 6) rfl (cz 6 x) HB9.out _ Try.underlying23 rfl infoL ?_)
            exact ⟨rfl, rfl, rfl, Own.refl _⟩
          case s5_4 =>
            intro u w1 hO
            go_wp2
            exact ⟨rfl, rfl, rfl, Own.refl _⟩
          case s5_5 =>
            intro u w1 hO
            have kk := (HC.out.own hO).cell 0
            go_wp2
            exact ⟨rfl, rfl, rfl, Own.refl _⟩
          case s5_6 =>
            intro u w1 hO
            go_wp2
            exact ⟨rfl, rfl, rfl, Own.refl _⟩
          case s5_7 =>
            intro u w1 hO
            go_wp2
            exact ⟨rfl, rfl, rfl, Own.refl _⟩
          case s5_8 =>
            intro u w1 hO
            go_wp2
            exact ⟨rfl, rfl, rfl, Own.refl _⟩
          case s5_9 =>
            intro u w1 hO
            go_wp2
            exact ⟨rfl, rfl, rfl, Own.refl _⟩
          case s5_10 =>
            intro u w1 hO
            go_wp2
            exact ⟨rfl, rfl, rfl, Own.refl _⟩
          case s5_11 =>
            intro u w1 hO
            have HB9 := Lib.hid (HAD.out.own hO)
            go_wp2_with ((with_reducible show wpList _ _ _ (⟨_, .load 34 (.tmp 22), _, _, _, none⟩ :: _) _ _); refine wpList_load_lie rfl 34 (.tmp 22) rfl pb (po + k * 22 + 4 + j * 3) rfl (#[.int .i64 z2, .int .i64 e2, .int .i64 b2]) HB9.out _ Try.underlying34 rfl infoA ?_)
            exact ⟨rfl, rfl, rfl, Own.refl _⟩
          case s5_12 =>
            intro u w1 hO
            go_wp2_with (go_at_call 39; with_reducible refine (rmay_at x z2 e2 b2 false _ hx hz HMAY).mono ?_; rintro r w2 ⟨rfl, hg⟩)
            exact ⟨rfl, rfl, rfl, hg⟩
          case s5_13 =>
            intro u w1 hO
            go_wp2
            exact ⟨rfl, rfl, rfl, Own.refl _⟩
        intro u w9 hO
        replace g0 := g0.trans hO
        replace HB := Lib.hid (HB.out.own hO)
        replace HC := Lib.hid (HC.out.own hO)
        replace HR := Lib.hid (HR.out.own hO)
        clear hO
        clear HLIM HAD HAC hx hz hz9 he he2
        obtain ⟨e1, e2⟩ := ls_at HZ.out (by rw [HTK.out]; decide) hlt
        obtain ⟨q1, q2, q3⟩ := H.out
        obtain rfl : 25 = fc := by rw [← q1, e1]; exact HTK.out.symm
        obtain rfl : (k : Int) = ft := by rw [← q2, if_neg (by rw [e1, HTK.out]; decide)]
        obtain rfl : (j : Int) = fi := by rw [← q3, e2]
        clear e1 e2 q1 q2 q3 H HZ HTK
        go_wp2_with ((with_reducible show wpList _ _ _ (⟨_, .store 55 (.tmp 6) (.tmp 28), _, _, _, none⟩ :: _) _ _); refine wpList_store_row rfl 55 (.tmp 6) (.tmp 28) rfl Rr #[.int .i64 25, .int .i64 (k : Int), .int .i64 (j : Int)] rfl rfl 55 _ HR.out.raw infoF rfl (by simp [Value.oneCell']) ?_)
        have hp := HR.out.row (#[.int .i64 25, .int .i64 (k : Int), .int .i64 (j : Int)])
        exact bodyPost_ret (blk_result rfl rfl hp Try.underlying55 rfl infoF) rfl ⟨rfl, own_setRow g0 hR0 _⟩
    · obtain rfl : j = 6 := by omega
      obtain ⟨e1, e2⟩ := ls_ok HZ.out
      obtain ⟨q1, q2, q3⟩ := H.out
      obtain rfl : 0 = fc := e1.symm.trans q1
      obtain rfl : 0 = ft := by rw [← q2, if_pos e1]
      obtain rfl : 0 = fi := e2.symm.trans q3
      clear e1 e2 q1 q2 q3 H HZ
      go_wp2_with ((with_reducible show wpList _ _ _ (⟨_, .store 55 (.tmp 6) (.tmp 58), _, _, _, none⟩ :: _) _ _); refine wpList_store_row rfl 55 (.tmp 6) (.tmp 58) rfl Rr #[.int .i64 0, .int .i64 0, .int .i64 0] rfl rfl 55 _ HR.out.raw infoF rfl (by simp [Value.oneCell']) ?_)
      have hp := HR.out.row (#[.int .i64 0, .int .i64 0, .int .i64 0])
      exact bodyPost_ret (blk_result rfl rfl hp Try.underlying55 rfl infoF) rfl ⟨rfl, own_setRow g0 hR0 _⟩
set_option maxRecDepth 100000 in
set_option maxHeartbeats 8000000 in
theorem rai_at (l : Vl) (sv tv : Value) (f : Nat → Vl) (q : Nat → Int) (n m k : Nat) (t : Bool) (w : World) (HM : Hid (Mov sv tv f q n m w)) (hk : k ≤ m) (hm : 0 < m) (hn : 0 < n) (hl : 0 ≤ l 38 ∧ l 38 ≤ 8192) (H : Hid (decide (l 38 < (airN q k : Int)) = t)) :
    Calls Try.prog 68 #[.agg (lz l), .agg #[sv, tv], .int .i64 (k : Int)] w fun r w' => r = .returned (.bool t) ∧ Own w w' := by
  obtain ⟨⟨A, ca, rfl, hps⟩, ⟨A2, cb, rfl, hss⟩, hnl, hml⟩ := HM.out
  obtain ⟨pb, po, rfl, hpl⟩ := hps (by omega)
  obtain ⟨sb, so, rfl, hsl⟩ := hss (by omega)
  have HPL := Lib.hid hpl
  have HSL := Lib.hid hsl
  unfold maxLen at hnl hml
  clear hps hss hpl hsl
  obtain ⟨A3, hA3⟩ : ∃ A : Nat, l 38 = A := ⟨(l 38).toNat, by omega⟩
  have hai := air_iff q k A3
  clear hm hn HM HPL
  by_cases h1 : (k : Int) ≤ l 38
  · obtain rfl : false = t := by rw [← H.out]; exact (decide_eq_false (fun h => by have := hai.1 (by omega); omega)).symm
    have d1 : decide ((k : Int) ≤ l 38) = true := decide_eq_true h1
    clear h1 hai H hA3 hl
    go_enter Try.func68, Try.ntmps68
    go_upto_region 1 with (fail)
    obtain ⟨W0, B, C, hW, hC, hB, hb, hc, g0, hB0B, hB0C, hneBC⟩ := two_new w (lz l) 26 (#[.slice (some ⟨pb, po, none⟩) n ca, .slice (some ⟨sb, so, none⟩) m cb]) 52
    rw [hW, hC, hB]
    have HB := Lib.hid hb
    have HC := Lib.hid hc
    clear hW hC hB hb hc
    have k38 := lb_num HB.out (i := 38) (by omega) (by omega)
    clear HB HC
    go_wp2
    go_ret
    exact ⟨rfl, g0⟩
  · have d1 : decide ((k : Int) ≤ l 38) = false := decide_eq_false h1
    obtain ⟨s, hs⟩ : ∃ s : Nat, k - A3 - 1 = s := ⟨_, rfl⟩
    rw [hs] at hai
    have i1 : IntKind.i64.wrap ((k : Int) - l 38) = (k : Int) - l 38 := IntWalk.i64_in _ (by omega)
    have i2 : IntKind.i64.wrap ((k : Int) - l 38 - 1) = (s : Int) := (IntWalk.i64_in _ (by omega)).trans (by omega)
    have hsk : s < k := by omega
    have HAI := Lib.hid (show l 38 < (airN q k : Int) ↔ ∀ i, s ≤ i → i < k → q i = 0 by
      rw [hA3]
      constructor
      · intro h
        exact (hai.1 (by omega)).2
      · intro h
        have := hai.2 ⟨by omega, h⟩
        omega)
    clear h1 hai hA3 hl hs
    go_enter Try.func68, Try.ntmps68
    go_upto_region 1 with (fail)
    obtain ⟨W0, B, C, hW, hC, hB, hb, hc, g0, hB0B, hB0C, hneBC⟩ := two_new w (lz l) 26 (#[.slice (some ⟨pb, po, none⟩) n ca, .slice (some ⟨sb, so, none⟩) m cb]) 52
    rw [hW, hC, hB]
    have HB := Lib.hid hb
    have HC := Lib.hid hc
    clear hW hC hB hb hc
    have k38 := lb_num HB.out (i := 38) (by omega) (by omega)
    clear HB
    go_wp2
    clear k38 d1 i1 i2
    go_loopw [7] (fun vi wr => ∃ j : Nat, vi = .int .i64 (j : Int) ∧ s ≤ j ∧ j ≤ k ∧ (∀ i, s ≤ i → i < j → q i = 0) ∧ Own w wr ∧ Blk wr C #[.slice (some ⟨pb, po, none⟩) n ca, .slice (some ⟨sb, so, none⟩) m cb] 52) (fun vi _ => k - (intOf vi).toNat)
    case atStart => exact ⟨s, rfl, by omega, by omega, fun i h1 h2 => absurd h2 (by omega), g0, HC.out⟩
    case round =>
      clear g0 HC
      obtain ⟨j, rfl, hj1, hj2, hz0, g0, hc⟩ := hrel
      have HZ := Lib.hid hz0
      have HC := Lib.hid hc
      have c1 := hc.cell 1
      clear hz0 hc
      by_cases hlt : j < k
      · have hjk : (j : Int) < k := by omega
        have hjm : (j : Int) < m := by omega
        have ej := g0.cell (HSL.out j (by omega))
        obtain ⟨qj, hqj⟩ : ∃ v, q j = v := ⟨_, rfl⟩
        rw [hqj] at ej
        by_cases hq0 : qj = 0
        · have dq : (qj != 0) = false := by rw [hq0]; rfl
          have HQ := Lib.hid (hqj.trans hq0)
          clear hqj hq0
          go_wp2
          go_roundw
          case rel =>
            refine ⟨j + 1, by go_num, by omega, by omega, fun i h1 h2 => ?_, g0, HC.out⟩
            by_cases e : i = j
            · rw [e]; exact HQ.out
            · exact HZ.out i h1 (by omega)
          case measure => simp [intOf]; omega
        · have dq : (qj != 0) = true := bne_iff_ne.2 hq0
          obtain rfl : false = t := by
            rw [← H.out]
            exact (decide_eq_false (fun h => hq0 (hqj.symm.trans (HAI.out.1 h j hj1 hlt)))).symm
          clear hqj hq0 H HAI HZ HC
          go_wp2
          go_ret
          exact ⟨rfl, g0⟩
      · obtain rfl : j = k := by omega
        obtain rfl : true = t := by rw [← H.out]; exact (decide_eq_true (HAI.out.2 HZ.out)).symm
        clear H HAI HZ HC c1
        go_wp2
        go_ret
        exact ⟨rfl, g0⟩
end Go.Proofs.Ytmjokgddhainlaa.LimW
