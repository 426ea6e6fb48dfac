/-
  Walks of the specification of package cue: Fit, Drift, Worst. Condition: none.
-/
import Derived.Test.YtlepcahangkmiaaCueA
import Derived.Test.YtlepcahangkmiaaTempoMemC
import Derived.Test.YtlepcahangkmiaaTempoB
import Derived.Test.YtlepcahangkmiaaMeterMem
import Derived.Deep.AppendLies
import Derived.Deep.RegionHeld3
namespace Go.Proofs.Ytlepcahangkmiaa.CueW
open Go.ChangeShapes Go.WideShapes Go.ChangeAt Go.RowKit
open PairW CelW RowA CueP
open TemP (mV Map)
theorem bt_one {a b : Pt} {q : Int} (hr : rB a b = 0) (hq : qB a b = q) : bt a b = [(a.1, q)] := by unfold bt; rw [if_pos hr, hq]
theorem bt_two {a b : Pt} {q r : Int} (hn : r ≠ 0) (hr : rB a b = r) (hq : qB a b = q) : bt a b = [(a.1, q + 1)] ++ [(a.1 + r, q)] := by unfold bt; rw [hr, hq, if_neg hn]; rfl
theorem fs_next (l : List Pt) (k : Nat) : fs l (k + 1) = fs l k ++ bt (at' l k) (at' l (k + 1)) := rfl
set_option maxRecDepth 100000 in
set_option maxHeartbeats 2000000 in
theorem rfit_at (l : List Pt) (sv : Value) (M : List Pt) (f : Int) (w : World) (HP : Hid (Pts w sv l)) (H : Hid (fiE l = f ∧ fiV l = M)) :
    Calls Try.prog 14 #[sv] w fun e w' => ∃ s', e = .returned (.tuple #[s', .int .i64 f]) ∧ w'.ownsRow w.heap.size 45 2 s' M.length (cellsP M) ∧ Own w w' := by
  obtain ⟨i0, hi, hz0, hz1, hz2⟩ := info_parts (show (Try.prog.info? 45).map (fun i => (i.zero, i.size, i.bytes)) = some (some (.agg #[.int .i64 0, .int .i64 0]), 2, 16) by kernel_rfl)
  have HI := Lib.hid hi
  have HZ0 := Lib.hid hz0
  have HZ1 := Lib.hid hz1
  have HZ2 := Lib.hid hz2
  clear hi hz0 hz1 hz2
  obtain ⟨c0, hc⟩ : ∃ c, ccE l = c := ⟨_, rfl⟩
  have HC := Lib.hid hc
  have g0 : Own w w := Own.refl w
  by_cases h0 : c0 = 0
  case neg =>
    have e := fi_bad (l := l) (by rw [hc]; exact h0)
    obtain rfl : c0 = f := by rw [← H.out.1, e, hc]
    obtain rfl : [] = M := by rw [← H.out.2, fi_none (by rw [e, hc]; exact h0)]
    have d0 : (c0 != 0) = true := bne_iff_ne.2 h0
    clear H hc e
    go_enter Try.func14, Try.ntmps14
    go_wp2_with (go_at_call 11; refine (rcheck_at l _ c0 _ HP HC).mono ?_; rintro e w1 ⟨rfl, hg⟩; replace g0 : Own w w1 := g0.trans hg; clear hg)
    go_ret2
    exact ⟨_, rfl, World.ownsRow_nil _ _ _ _, g0⟩
  subst h0
  have hm := cc_cues.1 hc
  have HM := Lib.hid hm
  obtain ⟨A, cap, rfl, ha1, ha2, ha⟩ := HP.out.open
  have n0 := hm.n0
  have n1 := hm.n1
  obtain ⟨b, off, rfl, hcc⟩ := ha (by omega)
  unfold maxLen at ha2
  obtain ⟨n, hn⟩ : ∃ n, l.length = n := ⟨_, rfl⟩
  have HN := Lib.hid hn
  rw [hn] at hcc ha1 n0 n1 HP ⊢
  have HCC := Lib.hid hcc
  clear ha hcc hn hm hc
  go_enter Try.func14, Try.ntmps14
  go_wp2_with (go_at_call 11; refine (rcheck_at l _ 0 _ HP HC).mono ?_; rintro e w1 ⟨rfl, hg⟩; replace g0 : Own w w1 := g0.trans hg; clear hg)
  go_loopw [5, 6] (fun v5 v6 wr => ∃ (i k : Nat) (A : Option Addr) (c : Nat), i = k + 1 ∧ v6 = .int .i64 (i : Int) ∧ i ≤ n ∧ v5 = .slice A (fs l k).length c ∧ wr.ownsRow w.heap.size 45 2 (.slice A (fs l k).length c) (fs l k).length (cellsP (fs l k)) ∧ Own w wr ∧ ∀ j, j < k → okB (at' l j) (at' l (j + 1)) = true) (fun _ v6 _ => n - (intOf v6).toNat)
  case atStart => exact ⟨1, 0, none, 0, rfl, rfl, by omega, rfl, World.ownsRow_nil _ _ _ _, g0, fun j hj => absurd hj (Nat.not_lt_zero _)⟩
  case round =>
    obtain ⟨i, k, A, c, hik, rfl, hi, rfl, hrow, q0, hok⟩ := hrel
    have HIK := Lib.hid hik
    have HOK := Lib.hid hok
    have hfl := (fs_len l k).2
    obtain ⟨qs, hqs⟩ : ∃ q, fs l k = q := ⟨_, rfl⟩
    have HQS := Lib.hid hqs
    rw [hqs] at hrow hfl
    simp only [hqs]
    obtain ⟨z, hz⟩ : ∃ z, qs.length = z := ⟨_, rfl⟩
    have HQL := Lib.hid hz
    rw [hz] at hrow hfl
    simp only [hz]
    have HR := Lib.hid hrow
    have hk1 : k < n := by omega
    have hi1 : 1 ≤ i := by omega
    have hki : IntKind.i64.wrap ((i : Int) - 1) = (k : Int) := (IntWalk.i64_in _ (by omega)).trans (by omega)
    clear hqs hz hrow hok hik g0
    by_cases hlt : i < n
    · have ha := HM.out.asc k (by rw [HN.out, ← HIK.out]; exact hlt)
      have hb1 := HM.out.bd (i := k) (by rw [HN.out]; omega)
      have hb2 := HM.out.bd (i := i) (by rw [HN.out]; omega)
      have e0 := q0.cell (HCC.out k hk1).1
      have e1 := q0.cell (HCC.out k hk1).2
      have e2 := q0.cell (HCC.out i hlt).1
      have e3 := q0.cell (HCC.out i hlt).2
      have HNX := Lib.hid (show fs l i = qs ++ bt (at' l k) (at' l i) by rw [HIK.out, fs_next, HQS.out])
      have HOI := Lib.hid (fun (h : okB (at' l k) (at' l i) = true) => show ∀ j, j < i → okB (at' l j) (at' l (j + 1)) = true from fun j hj => by
        by_cases e : j = k
        · rw [e, ← HIK.out]; exact h
        · exact HOK.out j (by have := HIK.out; omega))
      have HNO := Lib.hid (fun (h : okB (at' l k) (at' l i) = false) => fi_no (l := l) HC.out (k := k) (by rw [HN.out, ← HIK.out]; exact hlt) (by rw [← HIK.out]; exact h))
      rw [← HIK.out] at ha
      obtain ⟨⟨x, u⟩, hx⟩ : ∃ p, at' l k = p := ⟨_, rfl⟩
      obtain ⟨⟨y, v⟩, hy⟩ : ∃ p, at' l i = p := ⟨_, rfl⟩
      rw [hx] at e0 e1 ha hb1 HNX HOI HNO
      rw [hy] at e2 e3 ha hb2 HNX HOI HNO
      simp only at e0 e1 e2 e3 ha hb1 hb2
      have E0 := Lib.hid (show w.cell? ⟨b, off + k * 2, none⟩ = some (.int .i64 x) by have := (HCC.out k hk1).1; rw [hx] at this; exact this)
      obtain ⟨ha1', ha2'⟩ := ha
      obtain ⟨⟨p1, p2⟩, p3, p4⟩ := hb1
      obtain ⟨⟨p5, p6⟩, p7, p8⟩ := hb2
      obtain ⟨q, hq⟩ : ∃ q, qB (x, u) (y, v) = q := ⟨_, rfl⟩
      obtain ⟨r, hr⟩ : ∃ r, rB (x, u) (y, v) = r := ⟨_, rfl⟩
      have hw := way (a := (x, u)) (b := (y, v)) ha1'
      have hq' := hq
      have hr' := hr
      have hob := okB_iff (x, u) (y, v)
      unfold lg at hob
      rw [hq, hr] at hw hob
      unfold qB at hq'
      unfold rB at hr'
      simp only at hw hq' hr'
      obtain ⟨d, hd⟩ : ∃ d, y - x = d := ⟨_, rfl⟩
      obtain ⟨m, hmm⟩ : ∃ m, v - u = m := ⟨_, rfl⟩
      rw [hd] at hw hq' hr'
      rw [hmm] at hw hq' hr'
      obtain ⟨w1', w2', w3'⟩ := hw
      have j0 : IntKind.i64.wrap (y - x) = d := (IntWalk.i64_in _ (by omega)).trans hd
      have j1 : IntKind.i64.wrap (v - u) = m := (IntWalk.i64_in _ (by omega)).trans hmm
      have qb : 0 ≤ q ∧ q ≤ m := by rw [← hq']; exact ⟨Int.ediv_nonneg (by omega) (by omega), Int.ediv_le_self _ (by omega)⟩
      obtain ⟨qb1, qb2⟩ := qb
      have j2 : m.tdiv d = q := by rw [Int.tdiv_eq_ediv_of_nonneg (by omega)]; exact hq'
      have j3 : m.tmod d = r := by rw [Int.tmod_eq_emod_of_nonneg (by omega)]; exact hr'
      have j4 : IntKind.i64.wrap q = q := IntWalk.i64_in _ (by omega)
      have j5 : IntKind.i64.wrap r = r := IntWalk.i64_in _ (by omega)
      have j6 : ¬ d = 0 := by omega
      have j7 : IntKind.i64.wrap (q + 1) = q + 1 := IntWalk.i64_in _ (by omega)
      have j8 : IntKind.i64.wrap (x + r) = x + r := IntWalk.i64_in _ (by omega)
      have j9 : IntKind.i64.wrap x = x := IntWalk.i64_in _ (by omega)
      have him : (i : Int) < n := by omega
      have d5 : (0 : Int) ≤ (k : Int) := by omega
      have d6 : (k : Int) < n := by omega
      have HQE := Lib.hid hq
      have HRE := Lib.hid hr
      have HOB := Lib.hid hob
      clear hq hr hq' hr' hx hy hd hmm hob w3' qb1 qb2
      go_upto_region 8 with (fail)
      go_quiet (fail)
      have qa : Own wr (wr.drewN nq) := (Own.refl wr).drewN nq
      generalize wr.drewN nq = wa at *
      go_upto_region 9 with (fail)
      go_quiet (fail)
      have qq : Own wr (wa.drewN nq) := qa.drewN nq
      generalize wa.drewN nq = wq at *
      have q1 : Own w wq := q0.trans qq
      have HR1 := Lib.hid (row_own HR.out qq)
      replace e0 := qq.cell e0
      have HB1 : w.heap.size ≤ wq.heap.size := q1.size
      clear qq qa q0 e1 e2 e3
      by_cases hr0 : r = 0
      · subst hr0
        have HNX2 := Lib.hid (show fs l i = qs ++ [(x, q)] by rw [HNX.out, bt_one HRE.out HQE.out])
        have ro : ¬ (0 : Int) < 0 := by omega
        have rz : x + 0 = x := by omega
        have ob : okB (x, u) (y, v) = true ↔ 1 ≤ q ∧ q ≤ 4194304 := HOB.out
        by_cases hok2 : 1 ≤ q ∧ q ≤ 4194304
        · have HOI2 := Lib.hid (HOI.out (ob.2 hok2))
          have t1 : decide (q < 1) = false := decide_eq_false (by omega)
          have t2 : decide (4194304 < q) = false := decide_eq_false (by omega)
          have t3 : ¬ q < 1 := by omega
          have t4 : ¬ 4194304 < q := by omega
          clear ob hok2 HOI HNO
          go_wp2_with (at_builtin; (refine TemW.wpList_add_pt wq rfl _ _ _ rfl w.heap.size 45 i0 (.agg #[.int .i64 0, .int .i64 0]) Try.underlying27 HI.out HZ0.out HZ1.out HZ2.out rfl A c z qs rfl HR1.out (by omega) x q rfl HB1 ?_); intro A' c' w' hown hadd; have HOWN := Lib.hid hown; have HQ := Lib.hid (hadd w q1 (Nat.le_refl _)); clear hown hadd)
          go_roundw
          case rel => exact ⟨i + 1, i, A', c', rfl, by go_num, hlt, by rw [HNX2.out, List.length_append, HQL.out]; rfl, by rw [HNX2.out, List.length_append, HQL.out]; exact HOWN.out, HQ.out, HOI2.out⟩
          case measure => simp [intOf]; omega
        · have hbad := HNO.out (Bool.eq_false_iff.2 (mt ob.1 hok2))
          obtain rfl : 1 = f := by rw [← H.out.1, hbad]
          obtain rfl : [] = M := by rw [← H.out.2, fi_none (by rw [hbad]; decide)]
          have hno : q < 1 ∨ ¬ q < 1 ∧ 4194304 < q := by omega
          clear ob hok2 hbad HOI HNO
          rcases hno with t1 | ⟨t1, t2⟩
          all_goals
            go_wp2_with (at_builtin; refine TemW.wpList_add_pt wq rfl _ _ _ rfl w.heap.size 45 i0 (.agg #[.int .i64 0, .int .i64 0]) Try.underlying27 HI.out HZ0.out HZ1.out HZ2.out rfl A c z qs rfl HR1.out (by omega) x q rfl HB1 ?_; intro A' c' w' hown hadd; have HQ := Lib.hid (hadd w q1 (Nat.le_refl _)); clear hown hadd)
            go_ret2
            exact ⟨_, rfl, World.ownsRow_nil _ _ _ _, HQ.out⟩
      · have rp : 0 < r := by omega
        have HNX2 := Lib.hid (show fs l i = (qs ++ [(x, q + 1)]) ++ [(x + r, q)] by rw [HNX.out, bt_two hr0 HRE.out HQE.out, List.append_assoc])
        have ob : okB (x, u) (y, v) = true ↔ 1 ≤ q ∧ q + 1 ≤ 4194304 := by
          have := HOB.out
          rw [if_neg hr0] at this
          exact this
        obtain ⟨xr, hxr⟩ : ∃ xr, x + r = xr := ⟨_, rfl⟩
        obtain ⟨q', hq2⟩ : ∃ q', q + 1 = q' := ⟨_, rfl⟩
        rw [hxr] at HNX2
        rw [hq2] at HNX2 ob
        replace j8 := j8.trans hxr
        replace j7 := j7.trans hq2
        clear hr0 HOB hxr hq2
        go_upto_region 14 with (at_builtin; refine TemW.wpList_add_pt wq rfl _ _ _ rfl w.heap.size 45 i0 (.agg #[.int .i64 0, .int .i64 0]) Try.underlying27 HI.out HZ0.out HZ1.out HZ2.out rfl A c z qs rfl HR1.out (by omega) x q' rfl HB1 ?_; intro A2 c2 w2 hown hadd; have HR2 := Lib.hid hown; have q2 := hadd w q1 (Nat.le_refl _); clear hown hadd)
        replace q1 := q2
        replace e0 := q1.cell E0.out
        have HB2 : w.heap.size ≤ w2.heap.size := q1.size
        by_cases hok2 : 1 ≤ q ∧ q' ≤ 4194304
        · have HOI2 := Lib.hid (HOI.out (ob.2 hok2))
          have t3 : ¬ q < 1 := by omega
          have t4 : ¬ 4194304 < q' := by omega
          clear ob hok2 HOI HNO
          go_wp2_with (at_builtin; refine TemW.wpList_add_pt w2 rfl _ _ _ rfl w.heap.size 45 i0 (.agg #[.int .i64 0, .int .i64 0]) Try.underlying27 HI.out HZ0.out HZ1.out HZ2.out rfl A2 c2 (z + 1) (qs ++ [(x, q')]) rfl HR2.out (by omega) xr q rfl HB2 ?_; intro A' c' w' hown hadd; have HOWN := Lib.hid hown; have HQ := Lib.hid (hadd w q1 (Nat.le_refl _)); clear hown hadd)
          go_roundw
          case rel => exact ⟨i + 1, i, A', c', rfl, by go_num, hlt, by rw [HNX2.out, List.length_append, List.length_append, HQL.out]; rfl, by rw [HNX2.out, List.length_append, List.length_append, HQL.out]; exact HOWN.out, HQ.out, HOI2.out⟩
          case measure => simp [intOf]; omega
        · have hbad := HNO.out (Bool.eq_false_iff.2 (mt ob.1 hok2))
          obtain rfl : 1 = f := by rw [← H.out.1, hbad]
          obtain rfl : [] = M := by rw [← H.out.2, fi_none (by rw [hbad]; decide)]
          have hno : q < 1 ∨ ¬ q < 1 ∧ 4194304 < q' := by omega
          clear ob hok2 hbad HOI HNO
          rcases hno with t1 | ⟨t1, t2⟩
          all_goals
            go_wp2_with (at_builtin; refine TemW.wpList_add_pt w2 rfl _ _ _ rfl w.heap.size 45 i0 (.agg #[.int .i64 0, .int .i64 0]) Try.underlying27 HI.out HZ0.out HZ1.out HZ2.out rfl A2 c2 (z + 1) (qs ++ [(x, q')]) rfl HR2.out (by omega) xr q rfl HB2 ?_; intro A' c' w' hown hadd; have HQ := Lib.hid (hadd w q1 (Nat.le_refl _)); clear hown hadd)
            go_ret2
            exact ⟨_, rfl, World.ownsRow_nil _ _ _ _, HQ.out⟩
    · obtain rfl : i = n := by omega
      have hfin : ∀ j, j < l.length - 1 → okB (at' l j) (at' l (j + 1)) = true := fun j hj => HOK.out j (by have := HN.out; have := HIK.out; omega)
      have hk2 : l.length - 1 = k := by have := HN.out; have := HIK.out; omega
      by_cases hbig : 64 < z
      · have e := fi_full HC.out hfin (by rw [hk2, HQS.out, HQL.out]; exact hbig)
        obtain rfl : 3 = f := by rw [← H.out.1, e]
        obtain rfl : [] = M := by rw [← H.out.2, fi_none (by rw [e]; decide)]
        have t1 : (64 : Int) < z := by omega
        clear e hfin hk2
        go_wp2
        go_ret2
        exact ⟨_, rfl, World.ownsRow_nil _ _ _ _, q0⟩
      · have e := fi_ok HC.out hfin (by rw [hk2, HQS.out, HQL.out]; omega)
        obtain rfl : 0 = f := by rw [← H.out.1, e.1]
        obtain rfl : qs = M := by rw [← H.out.2, e.2, hk2, HQS.out]
        have t1 : ¬ (64 : Int) < z := by omega
        clear e hfin hk2
        go_wp2
        go_ret2
        exact ⟨_, rfl, by rw [HQL.out]; exact HR.out, q0⟩
theorem max3_at {P : Program} (x y : Int) (w : World) (ts : Array TypeId) (t : TypeId) : (Builtin.max_ ts t #[.int .i64 x, .int .i64 y, .int .i64 (-y)]).run P w = .ok (.int .i64 (mx x y)) w := by
  simp [Builtin.max_, Builtin.max2, mx]
  repeat' split
  all_goals omega
set_option maxRecDepth 100000 in
set_option maxHeartbeats 2000000 in
theorem rdrift_at (l t : List Pt) (sv st : Value) (M : List Int) (f : Int) (w : World) (HP : Hid (Pts w sv l)) (HT : Hid (Pts w st t)) (H : Hid (drE l t = f ∧ drV l t = M)) :
    Calls Try.prog 17 #[sv, st] w fun e w' => ∃ s', e = .returned (.tuple #[s', .int .i64 f]) ∧ w'.ownsRow w.heap.size 3 1 s' M.length (cellsI M) ∧ Own w w' := by
  obtain ⟨i0, hi, hz0, hz1, hz2⟩ := info_parts (show (Try.prog.info? 3).map (fun i => (i.zero, i.size, i.bytes)) = some (some (.int .i64 0), 1, 8) by kernel_rfl)
  have HI := Lib.hid hi
  have HZ0 := Lib.hid hz0
  have HZ1 := Lib.hid hz1
  have HZ2 := Lib.hid hz2
  clear hi hz0 hz1 hz2
  obtain ⟨c0, hc⟩ : ∃ c, ccE l = c := ⟨_, rfl⟩
  have HC := Lib.hid hc
  have g0 : Own w w := Own.refl w
  by_cases h0 : c0 = 0
  case neg =>
    have e := dr_bad t (l := l) (by rw [hc]; exact h0)
    obtain rfl : c0 = f := by rw [← H.out.1, e, hc]
    obtain rfl : [] = M := by rw [← H.out.2, (dr_none (by rw [e, hc]; exact h0)).1]
    have d0 : (c0 != 0) = true := bne_iff_ne.2 h0
    clear H hc e
    go_enter Try.func17, Try.ntmps17
    go_wp2_with (go_at_call 11; refine (rcheck_at l _ c0 _ HP HC).mono ?_; rintro e w1 ⟨rfl, hg⟩; replace g0 : Own w w1 := g0.trans hg; clear hg)
    go_ret2
    exact ⟨_, rfl, World.ownsRow_nil _ _ _ _, g0⟩
  subst h0
  have e := dr_map t hc
  have HTC := Lib.hid (e.symm.trans H.out.1)
  by_cases h1 : f = 0
  case neg =>
    obtain rfl : [] = M := by rw [← H.out.2, (dr_none (by rw [H.out.1]; exact h1)).1]
    have d0 : (f != 0) = true := bne_iff_ne.2 h1
    clear H hc e
    go_enter Try.func17, Try.ntmps17
    go_wp2_with (first
      | (go_at_call 11; refine (rcheck_at l _ 0 _ HP HC).mono ?_; rintro e w1 ⟨rfl, hg⟩; replace g0 : Own w w1 := g0.trans hg; clear hg)
      | (go_at_call 27; refine (TemW.rcheck_at t _ f _ (Lib.hid (HT.out.own g0)) HTC).mono ?_; rintro e w1 ⟨rfl, hg⟩; replace g0 : Own w w1 := g0.trans hg; clear hg))
    go_ret2
    exact ⟨_, rfl, World.ownsRow_nil _ _ _ _, g0⟩
  subst h1
  obtain ⟨hm, hmt⟩ := dr_parts H.out.1
  have HM := Lib.hid hm
  have HMT := Lib.hid hmt
  have HMM := Lib.hid (show mp (drF l t) l.length = M by rw [← H.out.2, (dr_some H.out.1).1])
  obtain ⟨A, cap, rfl, ha1, ha2, ha⟩ := HP.out.open
  have n0 := hm.n0
  have n1 := hm.n1
  obtain ⟨b, off, rfl, hcc⟩ := ha (by omega)
  unfold maxLen at ha2
  obtain ⟨n, hn⟩ : ∃ n, l.length = n := ⟨_, rfl⟩
  have HN := Lib.hid hn
  rw [hn] at hcc ha1 n0 n1 HP HMM ⊢
  have HCC := Lib.hid hcc
  obtain ⟨z0, hz0⟩ : ∃ z, (at' l 0).2 = z := ⟨_, rfl⟩
  have HZ := Lib.hid hz0
  have E0 := Lib.hid (show w.cell? ⟨b, off + 1, none⟩ = some (.int .i64 z0) by have := (hcc 0 (by omega)).2; rw [hz0] at this; simpa using this)
  clear ha hcc hn hm hc hmt e hz0 H
  go_enter Try.func17, Try.ntmps17
  go_wp2_with (first
    | (go_at_call 11; refine (rcheck_at l _ 0 _ HP HC).mono ?_; rintro e w1 ⟨rfl, hg⟩; replace g0 : Own w w1 := g0.trans hg; clear hg)
    | (go_at_call 27; refine (TemW.rcheck_at t _ 0 _ (Lib.hid (HT.out.own g0)) HTC).mono ?_; rintro e w1 ⟨rfl, hg⟩; replace g0 : Own w w1 := g0.trans hg; clear hg))
  go_loopw [8, 9] (fun v8 v9 wr => ∃ (k : Nat) (A : Option Addr) (c : Nat), v9 = .int .i64 (k : Int) ∧ k ≤ n ∧ v8 = .slice A k c ∧ wr.ownsRow w.heap.size 3 1 (.slice A k c) k (cellsI (mp (drF l t) k)) ∧ Own w wr) (fun _ v9 _ => n - (intOf v9).toNat)
  case atStart => exact ⟨0, none, 0, rfl, Nat.zero_le _, rfl, World.ownsRow_nil _ _ _ _, g0⟩
  case round =>
    obtain ⟨k, A, c, rfl, hk, rfl, hrow, q0⟩ := hrel
    have HR := Lib.hid hrow
    clear hrow g0
    by_cases hlt : k < n
    · have hkl : k < l.length := by rw [HN.out]; exact hlt
      have hb := HM.out.bd hkl
      have hd := drF_bd HM.out HMT.out hkl
      have e0 := q0.cell (HCC.out k hlt).1
      have F1 := Lib.hid (HCC.out k hlt).2
      have HST := Lib.hid (mp_succ (drF l t) k)
      have hdr : drF l t k = mV t (at' l k).1 - ((at' l k).2 - (at' l 0).2) := rfl
      obtain ⟨⟨x, u⟩, hx⟩ : ∃ p, at' l k = p := ⟨_, rfl⟩
      rw [hx] at e0 hb hd hdr F1
      simp only at e0 hb hd hdr F1
      rw [HZ.out] at hd hdr
      obtain ⟨m, hmm⟩ : ∃ m, mV t x = m := ⟨_, rfl⟩
      have HW := Lib.hid (show TemP.whE t x = 0 ∧ TemP.whV t x = m by have := TemP.wh_ok (l := t) (t := x) HTC.out hb.1; rw [hmm] at this; exact this)
      rw [hmm] at hd hdr
      obtain ⟨y, hy⟩ : ∃ y, u - z0 = y := ⟨_, rfl⟩
      rw [hy] at hd hdr
      obtain ⟨v, hv⟩ : ∃ v, m - y = v := ⟨_, rfl⟩
      rw [hv] at hdr
      rw [hdr] at hd HST
      have HS2 := Lib.hid (show cellsI (mp (drF l t) (k + 1)) = cellsI (mp (drF l t) k) ++ [.int .i64 v] by rw [HST.out, cellsI_app]; rfl)
      obtain ⟨⟨p1, p2⟩, p3, p4⟩ := hb
      obtain ⟨⟨p5, p6⟩, ⟨p7, p8⟩, p9, p10⟩ := hd
      have i1 : IntKind.i64.wrap (u - z0) = y := (IntWalk.i64_in _ (by omega)).trans hy
      have i2 : IntKind.i64.wrap (m - y) = v := (IntWalk.i64_in _ (by omega)).trans hv
      have hkn : (k : Int) < n := by omega
      have hn0 : (0 : Int) < n := by omega
      have hn00 : 0 < n := by omega
      clear hx hmm hy hv hdr hkl HST
      go_upto_region 12 with (go_at_call 28; refine (TemW.rWhen_at t _ x m 0 _ (Lib.hid (HT.out.own q0)) HW).mono ?_; rintro e w5 ⟨rfl, hg⟩; replace q0 : Own w w5 := q0.trans hg; have HR5 := Lib.hid (row_own HR.out hg); clear hg)
      have c1 := q0.cell F1.out
      have c2 := q0.cell E0.out
      have HSZ := Lib.hid (q0.alloc (.cells #[.int .i64 v] 3)).size
      go_region_held3 (fun w' => w'.cell? ⟨b, off + k * 2 + 1, none⟩ = some (.int .i64 u) ∧ w'.cell? ⟨b, off + 1, none⟩ = some (.int .i64 z0)) (first | go_keep | (exact ⟨q4.cell F1.out, q4.cell E0.out⟩) | (exact ⟨((q0.drew).alloc _).cell F1.out, ((q0.drew).alloc _).cell E0.out⟩) | (exact ⟨((q0.alloc _).drew).cell F1.out, ((q0.alloc _).drew).cell E0.out⟩))
          ((refine step_append_lies _ (by rfl) _ _ _ (by rfl) w.heap.size 3 i0 (.int .i64 0) 1 8 Try.underlying31 HI.out HZ0.out HZ1.out HZ2.out rfl (by omega) _ _ _ (by rfl) ((HR5.out.alloc _).drew) ⟨w5.heap.size, 0, none⟩ 1 1 [.int .i64 v] (by rfl) (by rfl) (World.news_of_block (cs := #[.int .i64 v]) (t := 3) (fr := (0, 0)) (heap_alloc_new w5 _)) (by simp [Value.oneCell']) (by omega) (by unfold maxLen; omega) (by omega) HSZ.out _ rfl ?_; intro gg cap4 w4 hown hgrow hat hlt4; have q4 : Own w w4 := Own.grown ((q0.alloc _).drew) hgrow (fun jj hj => (HR5.out.lt jj hj).1); have HOWN := Lib.hid hown; clear hown hgrow hat hlt4))
      go_wp2
      go_roundw
      case rel => exact ⟨k + 1, _, _, by go_num, hlt, rfl, by rw [HS2.out]; exact HOWN.out, q4⟩
      case measure => simp [intOf]; omega
    · obtain rfl : k = n := by omega
      obtain rfl := HMM.out
      go_wp2
      go_ret2
      exact ⟨_, rfl, by rw [mp_len]; exact HR.out, q0⟩
set_option maxRecDepth 100000 in
set_option maxHeartbeats 2000000 in
theorem rworst_at (l t : List Pt) (sv st : Value) (v f : Int) (w : World) (HP : Hid (Pts w sv l)) (HT : Hid (Pts w st t)) (H : Hid (drE l t = f ∧ woV l t = v)) :
    Calls Try.prog 19 #[sv, st] w fun e w' => e = .returned (.tuple #[.int .i64 v, .int .i64 f]) ∧ Own w w' := by
  have hdr := rdrift_at l t sv st (drV l t) f w HP HT (Lib.hid ⟨H.out.1, rfl⟩)
  have HDR := Lib.hid hdr
  clear hdr
  by_cases h1 : f = 0
  case neg =>
    obtain rfl : 0 = v := by rw [← H.out.2, (dr_none (by rw [H.out.1]; exact h1)).2]
    have d0 : (f != 0) = true := bne_iff_ne.2 h1
    clear H
    go_enter Try.func19, Try.ntmps19
    go_wp2_with (go_at_call 17; refine HDR.out.mono ?_; rintro e w1 ⟨s', rfl, hr, hg⟩)
    go_ret2
    exact ⟨rfl, hg⟩
  subst h1
  obtain ⟨e1, e2⟩ := dr_some H.out.1
  obtain ⟨hm, hmt⟩ := dr_parts H.out.1
  have HB := Lib.hid (fun i (h : i < l.length) => (drF_bd hm hmt h).2.2)
  have HV := Lib.hid (show wsF (drF l t) l.length = v by rw [← e2]; exact H.out.2)
  have n1 := hm.n1
  rw [e1] at HDR
  obtain ⟨F, hF⟩ : ∃ F, drF l t = F := ⟨_, rfl⟩
  obtain ⟨n, hn⟩ : ∃ n, l.length = n := ⟨_, rfl⟩
  rw [hF, hn] at HDR HV HB
  rw [hn] at n1
  clear hF hn e1 e2 hm hmt H
  go_enter Try.func19, Try.ntmps19
  go_wp2_with (go_at_call 17; refine HDR.out.mono ?_; rintro e w1 ⟨s', rfl, hr, hg⟩; rw [mp_len] at hr; have HR := Lib.hid (cel_of_row hr); obtain ⟨A, c, rfl⟩ := rows_shape hr; clear hr)
  have HC := Lib.hid (show 0 < n → ∃ b off : Nat, A = some ⟨b, off, none⟩ ∧ ∀ k, k < n → w1.cell? ⟨b, off + k, none⟩ = some (.int .i64 (F k)) from fun h0 => by
    obtain ⟨A', c', hv, _, _, h4⟩ := HR.out
    injection hv with q1 q2 q3
    subst q1
    obtain ⟨b, off, h5, h6⟩ := h4 (by rw [cellsI_len, mp_len]; exact h0)
    exact ⟨b, off, h5, fun k hk => h6 k _ (by unfold cellsI; rw [List.getElem?_map, mp_at hk]; rfl)⟩)
  clear HR HDR
  obtain ⟨wq, hwq⟩ : ∃ wq, w1 = wq := ⟨_, rfl⟩
  rw [hwq] at HC hg ⊢
  clear hwq
  go_loopw [8, 9] (fun v8 v9 wr => ∃ (k : Nat) (s : Int), v9 = .int .i64 (k : Int) ∧ k ≤ n ∧ v8 = .int .i64 s ∧ wsF F k = s ∧ Own wq wr) (fun _ v9 _ => n - (intOf v9).toNat)
  case atStart => exact ⟨0, 0, rfl, Nat.zero_le _, rfl, rfl, Own.refl wq⟩
  case round =>
    obtain ⟨k, s, rfl, hk, rfl, hs, q0⟩ := hrel
    by_cases hlt : k < n
    · obtain ⟨ab, ao, rfl, hc⟩ := HC.out (by omega)
      have e0 := q0.cell (hc k hlt)
      have hb := HB.out k hlt
      have hsb := wsF_bd (f := F) (B := 1099511627776) (by omega) (n := k) (fun i hi => HB.out i (by omega))
      rw [hs] at hsb
      have HS := Lib.hid (show wsF F (k + 1) = mx s (F k) by show mx (wsF F k) (F k) = _; rw [hs])
      obtain ⟨y, hy⟩ : ∃ y, F k = y := ⟨_, rfl⟩
      rw [hy] at e0 hb HS
      have hmx := fun (w : World) (ts : Array TypeId) (ty : TypeId) => max3_at (P := Try.prog) s y w ts ty
      obtain ⟨z, hz⟩ : ∃ z, mx s y = z := ⟨_, rfl⟩
      rw [hz] at hmx HS
      have i1 : IntKind.i64.wrap (-y) = -y := IntWalk.i64_in _ (by omega)
      have i2 : Go.RowKit.wrap64 (-y) = -y := by unfold Go.RowKit.wrap64; omega
      have hkn : (k : Int) < n := by omega
      clear hc hy hz hs
      go_upto_region 8 with (fail)
      go_quiet (fail)
      go_wp2
      go_roundw
      case rel => exact ⟨k + 1, z, by go_num, hlt, rfl, HS.out, q0.drewN _⟩
      case measure => simp [intOf]; omega
    · obtain rfl : k = n := by omega
      obtain rfl : s = v := by rw [← hs]; exact HV.out
      go_wp2
      go_ret2
      exact ⟨rfl, hg.trans q0⟩
end Go.Proofs.Ytlepcahangkmiaa.CueW
