/-
  Walk of the law CueTicks. Condition: none.
-/
import Derived.Test.YtlepcahangkmiaaCueT
namespace Go.Proofs.Ytlepcahangkmiaa.CueW
open Go.ChangeShapes Go.WideShapes Go.ChangeAt Go.RowKit
open PairW CelW CueP
open TemP (mV Map whE whV)
theorem min2_at {P : Program} (x y m : Int) (hm : mn x y = m) (w : World) (ts : Array TypeId) (t : TypeId) : (Builtin.min_ ts t #[.int .i64 x, .int .i64 y]).run P w = .ok (.int .i64 m) w := by
  rw [← hm]
  simp [Builtin.min_, Builtin.min2, mn]
  split <;> split <;> omega
/-- What a tick between two cues lasts. -/
theorem tick_lasts {d m q r s : Int} (hd : 1 ≤ d) (hq : m / d = q) (hr : m % d = r) (hs : 0 ≤ s ∧ s < d) : q ≤ q + (mn (s + 1) r - mn s r) ∧ q + (mn (s + 1) r - mn s r) ≤ (m + d - 1) / d := by
  have r0 : 0 ≤ r := by rw [← hr]; exact Int.emod_nonneg _ (by omega)
  have r1 : r < d := by rw [← hr]; exact Int.emod_lt_of_pos _ (by omega)
  have e : m = d * q + r := by rw [← hq, ← hr]; exact (Int.mul_ediv_add_emod m d).symm
  have c1 : q ≤ (m + d - 1) / d := by
    rw [← hq]
    exact Int.ediv_le_ediv (by omega) (by omega)
  have c2 : 0 < r → q + 1 ≤ (m + d - 1) / d := fun h => by
    refine (Int.le_ediv_iff_mul_le (by omega)).2 ?_
    rw [Int.add_mul, Int.one_mul, Int.mul_comm q d]
    omega
  unfold mn
  split <;> split <;> omega
theorem mn_bd {s r : Int} (hs : 0 ≤ s) (hr : 0 ≤ r) : 0 ≤ mn s r ∧ mn s r ≤ r := by unfold mn; split <;> omega
set_option maxRecDepth 100000 in
set_option maxHeartbeats 4000000 in
theorem lticks_at (l : List Pt) (sv : Value) (a0 : Int) (w : World) (HP : Hid (Pts w sv l)) (ha0 : 0 ≤ a0 ∧ a0 ≤ 65535) :
    Calls Try.prog 7 #[sv, .int .u16 a0] w fun e w' => e = .returned (.bool true) ∧ PairW.Own w w' := by
  obtain ⟨A, cap, rfl, ha1, ha2, ha⟩ := HP.out.open
  unfold maxLen at ha2
  obtain ⟨n, hn⟩ : ∃ n, l.length = n := ⟨_, rfl⟩
  have HN := Lib.hid hn
  rw [hn] at ha1 ha HP ⊢
  have HA := Lib.hid ha
  obtain ⟨c, hc⟩ : ∃ c, fiE l = c := ⟨_, rfl⟩
  obtain ⟨M, hM⟩ : ∃ c, fiV l = c := ⟨_, rfl⟩
  have HF := Lib.hid (And.intro hc hM)
  have g0 := PairW.Own.refl w
  clear hn hc hM ha
  by_cases h1 : 20 < n
  · have d1 : (20 : Int) < n := by omega
    go_enter Try.func7, Try.ntmps7
    go_wp2_with (go_at_call 12; refine (awake_at _).mono ?_; rintro e w1 ⟨rfl, hg⟩; replace g0 : PairW.Own w w1 := g0.trans hg; clear hg)
    go_ret
    exact ⟨rfl, g0⟩
  have d1 : ¬ (20 : Int) < n := by omega
  by_cases h2 : c = 0
  case neg =>
    have d2 : (c != 0) = true := bne_iff_ne.2 h2
    obtain rfl : [] = M := by rw [← HF.out.2, fi_none (by rw [HF.out.1]; exact h2)]
    clear h2
    go_enter Try.func7, Try.ntmps7
    go_wp2_with (first
      | (go_at_call 13; refine (pfit_at l _ [] c _ (Lib.hid (HP.out.own g0)) HF).mono ?_; rintro e w1 ⟨s1, rfl, hr, hg⟩; obtain ⟨A1, c1, rfl⟩ := TemW.pair_shape hr; replace g0 : PairW.Own w w1 := g0.trans hg; clear hg hr)
      | (go_at_call 12; refine (awake_at _).mono ?_; rintro e w1 ⟨rfl, hg⟩; replace g0 : PairW.Own w w1 := g0.trans hg; clear hg))
    go_ret
    exact ⟨rfl, g0⟩
  subst h2
  have hmom := fun j (hj : j + 1 < l.length) t => fi_moment HF.out.1 hj (t := t)
  have hcu := cc_cues.1 (fi_parts HF.out.1).1
  have hmt := fi_map HF.out.1
  rw [HF.out.2] at hmom hmt
  have HMO := Lib.hid hmom
  have HCU := Lib.hid hcu
  have HTC := Lib.hid (TemP.chk_map.2 hmt)
  have hn0 : 2 ≤ n := by rw [← HN.out]; exact hcu.n0
  obtain ⟨sb, so, rfl, hcc⟩ := HA.out (by omega)
  have HCC := Lib.hid hcc
  have hnn : (0 : Int) < n := by omega
  clear hmom hcu hmt hcc HA
  go_enter Try.func7, Try.ntmps7
  go_wp2_with (go_at_call 13; refine (pfit_at l _ M 0 _ (Lib.hid (HP.out.own g0)) HF).mono ?_; rintro e w1 ⟨s1, rfl, hr, hg⟩; have HX := Lib.hid (pts_of_row hr); replace g0 : PairW.Own w w1 := g0.trans hg; clear hg hr)
  obtain ⟨wq, hwq⟩ : ∃ wq, w1 = wq := ⟨_, rfl⟩
  rw [hwq] at HX g0 ⊢
  clear hwq
  go_loopw [7] (fun vi wr => ∃ i k : Nat, i = k + 1 ∧ vi = .int .i64 (i : Int) ∧ i ≤ n ∧ PairW.Own wq wr) (fun vi _ => n - (intOf vi).toNat)
  case atStart => exact ⟨1, 0, rfl, rfl, by omega, PairW.Own.refl wq⟩
  case round =>
    obtain ⟨i, k, hik, rfl, hi, q0⟩ := hrel
    have HIK := Lib.hid hik
    have hki : IntKind.i64.wrap ((i : Int) - 1) = (k : Int) := (IntWalk.i64_in _ (by omega)).trans (by omega)
    have hk1 : k < n := by omega
    have hi1 : 1 ≤ i := by omega
    clear hik
    by_cases hlt : i < n
    · have ha := HCU.out.asc k (by rw [HN.out, ← HIK.out]; exact hlt)
      have hb1 := HCU.out.bd (i := k) (by rw [HN.out]; omega)
      have hb2 := HCU.out.bd (i := i) (by rw [HN.out]; omega)
      have hmo := HMO.out k (by rw [HN.out, ← HIK.out]; exact hlt)
      have hup := HCU.out.up (j := k) (by rw [HN.out]; omega)
      rw [← HIK.out] at ha hmo
      have hb0 := HCU.out.bd (i := 0) (by rw [HN.out]; omega)
      have X0 := Lib.hid (HCC.out k hk1).1
      have X1 := Lib.hid (HCC.out k hk1).2
      have X2 := Lib.hid (HCC.out i hlt).1
      have X3 := Lib.hid (HCC.out i hlt).2
      obtain ⟨⟨x, u⟩, hx⟩ : ∃ p, at' l k = p := ⟨_, rfl⟩
      obtain ⟨⟨y, v⟩, hy⟩ : ∃ p, at' l i = p := ⟨_, rfl⟩
      rw [hx] at ha hb1 hmo hup X0 X1
      rw [hy] at ha hb2 hmo X2 X3
      obtain ⟨z0, hz0⟩ : ∃ z, (at' l 0).2 = z := ⟨_, rfl⟩
      rw [hz0] at hmo hup hb0
      simp only at ha hb1 hb2 hmo hup X0 X1 X2 X3
      obtain ⟨ha1', ha2'⟩ := ha
      obtain ⟨⟨p1, p2⟩, p3, p4⟩ := hb1
      obtain ⟨⟨p5, p6⟩, p7, p8⟩ := hb2
      obtain ⟨-, p9, p10⟩ := hb0
      obtain ⟨q, hq⟩ : ∃ q, qB (x, u) (y, v) = q := ⟨_, rfl⟩
      obtain ⟨r, hr⟩ : ∃ r, rB (x, u) (y, v) = r := ⟨_, rfl⟩
      rw [hq, hr] at hmo
      unfold qB at hq
      unfold rB at hr
      simp only at hq hr
      obtain ⟨d, hd⟩ : ∃ d, y - x = d := ⟨_, rfl⟩
      obtain ⟨m, hmm⟩ : ∃ m, v - u = m := ⟨_, rfl⟩
      rw [hd, hmm] at hq hr
      obtain ⟨s, hs⟩ : ∃ s, a0 % d = s := ⟨_, rfl⟩
      have hs0 : 0 ≤ s ∧ s < d := by rw [← hs]; exact ⟨Int.emod_nonneg _ (by omega), Int.emod_lt_of_pos _ (by omega)⟩
      obtain ⟨kk, hkk⟩ : ∃ kk, x + s = kk := ⟨_, rfl⟩
      obtain ⟨α, hα⟩ : ∃ α, u - z0 = α := ⟨_, rfl⟩
      have m1 := hmo x (Int.le_refl _) (by omega)
      have m2 := hmo kk (by omega) (by omega)
      have m3 := hmo (kk + 1) (by omega) (by omega)
      have r0 : 0 ≤ r := by rw [← hr]; exact Int.emod_nonneg _ (by omega)
      have r1 : r < d := by rw [← hr]; exact Int.emod_lt_of_pos _ (by omega)
      have q0' : 0 ≤ q := by rw [← hq]; exact Int.ediv_nonneg (by omega) (by omega)
      have q1' : q ≤ m := by rw [← hq]; exact Int.ediv_le_self _ (by omega)
      have hdq : d * q ≤ m := by rw [← hq]; exact Int.mul_ediv_self_le (by omega)
      have tl := tick_lasts (d := d) (m := m) (q := q) (r := r) (s := s) (by omega) hq hr hs0
      have mb1 := mn_bd (s := s) (r := r) (by omega) r0
      have mb2 := mn_bd (s := s + 1) (r := r) (by omega) r0
      rw [hα, Int.sub_self, Int.zero_mul, show mn 0 r = 0 by unfold mn; rw [if_pos r0]] at m1
      rw [hα, show kk - x = s by omega] at m2
      rw [hα, show kk + 1 - x = s + 1 by omega, Int.add_mul, Int.one_mul] at m3
      obtain ⟨e1, he1⟩ : ∃ e, mn s r = e := ⟨_, rfl⟩
      obtain ⟨e2, he2⟩ : ∃ e, mn (s + 1) r = e := ⟨_, rfl⟩
      have hmin := fun w ts t => min2_at (P := Try.prog) s r e1 he1 w ts t
      rw [he1] at m2 tl mb1
      rw [he2] at m3 tl mb2
      have sqb : 0 ≤ s * q ∧ s * q ≤ m := by
        have a1 : s * q ≤ d * q := Int.mul_le_mul_of_nonneg_right (by omega) q0'
        exact ⟨Int.mul_nonneg hs0.1 q0', by omega⟩
      obtain ⟨sq, hsq⟩ : ∃ z, s * q = z := ⟨_, rfl⟩
      rw [hsq] at m2 m3 sqb
      obtain ⟨cl, hcl⟩ : ∃ z, (m + d - 1) / d = z := ⟨_, rfl⟩
      rw [hcl] at tl
      have hcl2 : 0 ≤ cl ∧ cl ≤ m + d - 1 := by rw [← hcl]; exact ⟨Int.ediv_nonneg (by omega) (by omega), Int.ediv_le_self _ (by omega)⟩
      obtain ⟨β, hβ⟩ : ∃ z, α + sq + e1 = z := ⟨_, rfl⟩
      obtain ⟨γ, hγ⟩ : ∃ z, α + (sq + q) + e2 = z := ⟨_, rfl⟩
      rw [hβ] at m2
      rw [hγ] at m3
      obtain ⟨g1, hg1⟩ : ∃ z, γ - β = z := ⟨_, rfl⟩
      obtain ⟨g2, hg2⟩ : ∃ z, β - α = z := ⟨_, rfl⟩
      have j0 : IntKind.i64.wrap (y - x) = d := (IntWalk.i64_in _ (by omega)).trans hd
      have j1 : IntKind.i64.wrap (v - u) = m := (IntWalk.i64_in _ (by omega)).trans hmm
      have j2 : m.tdiv d = q := by rw [Int.tdiv_eq_ediv_of_nonneg (by omega)]; exact hq
      have j3 : m.tmod d = r := by rw [Int.tmod_eq_emod_of_nonneg (by omega)]; exact hr
      have j4 : a0.tmod d = s := by rw [Int.tmod_eq_emod_of_nonneg (by omega)]; exact hs
      have j5 : IntKind.i64.wrap q = q := IntWalk.i64_in _ (by omega)
      have j6 : ¬ d = 0 := by omega
      have j7 : IntKind.i64.wrap (x + s) = kk := (IntWalk.i64_in _ (by omega)).trans hkk
      have j8 : IntKind.i64.wrap a0 = a0 := IntWalk.i64_in _ (by omega)
      have j9 : IntKind.i64.wrap s = s := IntWalk.i64_in _ (by omega)
      have j10 : IntKind.i64.wrap r = r := IntWalk.i64_in _ (by omega)
      obtain ⟨kp, hkp⟩ : ∃ z, kk + 1 = z := ⟨_, rfl⟩
      have j11 : IntKind.i64.wrap (kk + 1) = kp := (IntWalk.i64_in _ (by omega)).trans hkp
      have j12 : IntKind.i64.wrap (γ - β) = g1 := (IntWalk.i64_in _ (by omega)).trans hg1
      have j13 : IntKind.i64.wrap (β - α) = g2 := (IntWalk.i64_in _ (by omega)).trans hg2
      obtain ⟨md, hmd⟩ : ∃ z, m + d = z := ⟨_, rfl⟩
      have j14 : IntKind.i64.wrap (m + d) = md := (IntWalk.i64_in _ (by omega)).trans hmd
      obtain ⟨me, hme⟩ : ∃ z, md - 1 = z := ⟨_, rfl⟩
      have j15 : IntKind.i64.wrap (md - 1) = me := (IntWalk.i64_in _ (by omega)).trans hme
      have j16 : me.tdiv d = cl := by rw [Int.tdiv_eq_ediv_of_nonneg (by omega), ← hme, ← hmd]; exact hcl
      have j17 : IntKind.i64.wrap cl = cl := IntWalk.i64_in _ (by omega)
      have j18 : IntKind.i64.wrap (kk - x) = s := (IntWalk.i64_in _ (by omega)).trans (by omega)
      have j19 : IntKind.i64.wrap (s * q) = sq := (IntWalk.i64_in _ (by omega)).trans hsq
      have j20 : IntKind.i64.wrap (sq + e1) = g2 := (IntWalk.i64_in _ (by omega)).trans (by omega)
      have t1 : decide (g1 < q) = false := decide_eq_false (by omega)
      have t2 : decide (cl < g1) = false := decide_eq_false (by omega)
      have t3 : (g2 != g2) = false := by simp
      have t4 : ¬ d < 1 := by omega
      have t5 : ¬ m < 1 := by omega
      rw [hkp] at m3
      have HW1 := Lib.hid (show whE M x = 0 ∧ whV M x = α by have := TemP.wh_ok (l := M) (t := x) HTC.out ⟨p1, p2⟩; rw [m1] at this; refine ⟨this.1, this.2.trans (by omega)⟩)
      have HW2 := Lib.hid (show whE M kk = 0 ∧ whV M kk = β by have := TemP.wh_ok (l := M) (t := kk) HTC.out ⟨by omega, by omega⟩; rw [m2] at this; exact this)
      have HW3 := Lib.hid (show whE M kp = 0 ∧ whV M kp = γ by have := TemP.wh_ok (l := M) (t := kp) HTC.out ⟨by omega, by omega⟩; rw [m3] at this; exact this)
      have him : (i : Int) < n := by omega
      have d5 : (0 : Int) ≤ (k : Int) := by omega
      have d6 : (k : Int) < n := by omega
      have tok1 : True := trivial
      have tok2 : True := trivial
      have q1 := g0.trans q0
      have x0 := q1.cell X0.out
      have x1 := q1.cell X1.out
      have x2 := q1.cell X2.out
      have x3 := q1.cell X3.out
      clear hx hy hz0 hmo hup hd hmm hs hs0 hkk hα m1 m2 m3 q0' q1' hdq tl mb1 mb2 he1 he2 sqb hsq hcl hcl2 hβ hγ hg1 hg2 hkp hmd hme hq hr r0 r1
      go_upto_region 9 with (fail)
      go_quiet (fail)
      have qa : PairW.Own wr (wr.drewN nq) := (PairW.Own.refl wr).drewN nq
      generalize wr.drewN nq = wa at *
      replace q0 := q0.trans qa
      replace q1 := q1.trans qa
      replace x0 := qa.cell x0
      clear x1 x2 x3
      go_upto_region 12 with (fail)
      go_quiet (fail)
      have qb : PairW.Own wa (wa.drewN nq) := (PairW.Own.refl wa).drewN nq
      generalize wa.drewN nq = wb at *
      replace q0 := q0.trans qb
      replace q1 := q1.trans qb
      replace x0 := qb.cell x0
      clear qa qb
      go_upto_region 16 with (first
        | (go_at_call 21; have _t := tok1; refine (TemW.pWhen_at M _ x α 0 _ (Lib.hid (HX.out.own q0)) HW1).mono ?_; rintro e w5 ⟨rfl, hg⟩; replace q0 := q0.trans hg; replace q1 := q1.trans hg; replace x0 := hg.cell x0; clear hg tok1)
        | (go_at_call 21; have _t := tok2; refine (TemW.pWhen_at M _ kk β 0 _ (Lib.hid (HX.out.own q0)) HW2).mono ?_; rintro e w6 ⟨rfl, hg⟩; replace q0 := q0.trans hg; replace q1 := q1.trans hg; replace x0 := hg.cell x0; clear hg tok2)
        | (go_at_call 21; refine (TemW.pWhen_at M _ kp γ 0 _ (Lib.hid (HX.out.own q0)) HW3).mono ?_; rintro e w7 ⟨rfl, hg⟩; replace q0 := q0.trans hg; replace q1 := q1.trans hg; replace x0 := hg.cell x0; clear hg))
      go_quiet (fail)
      go_wp2
      go_roundw
      case rel => exact ⟨i + 1, i, rfl, by go_num, hlt, q0.drewN _⟩
      case measure => simp [intOf]; omega
    · obtain rfl : i = n := by omega
      have q1 := g0.trans q0
      go_wp2_with (go_at_call 12; refine (awake_at _).mono ?_; rintro e w1 ⟨rfl, hg⟩; replace q1 : PairW.Own w w1 := q1.trans hg; clear hg)
      go_ret
      exact ⟨rfl, q1⟩
end Go.Proofs.Ytlepcahangkmiaa.CueW
