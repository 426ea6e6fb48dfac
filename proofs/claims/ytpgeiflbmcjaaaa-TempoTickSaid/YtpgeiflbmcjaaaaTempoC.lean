/-
  Walks of the specification of package tempo: Same, Norm, Scaled, Ramp. Condition: none.
-/
import Derived.Test.YtpgeiflbmcjaaaaTempoA
import Derived.Test.YtpgeiflbmcjaaaaTempoMemC
import Derived.Test.YtpgeiflbmcjaaaaNumE
namespace Go.Proofs.Ytpgeiflbmcjaaaa.TemW
open Go.ChangeShapes Go.WideShapes Go.ChangeAt Go.RowKit
open PairW CelW RowA NumP TemP
/-- Whether two pairs are the same. -/
def ptB (a b c d : Int) : Bool := (a == c) && (b == d)
theorem ptB_self (a b : Int) : ptB a b a b = true := by unfold ptB; simp
theorem te_under : Try.prog.underlying 38 = some (.struct (Try.prog.fieldsOf 38)) := by kernel_rfl
theorem te_stood : Try.prog.stoodInHeld 38 = false := by kernel_rfl
theorem te_guards : Try.prog.eqGuardType Try.prog.depth 38 = false := by kernel_rfl
@[go_sem high] theorem te_guard (op : BinOp) (x y : Operand) (xs ys : Array Value) (W : World) : (eqGuard op 38 x y (.agg xs) (.agg ys)).run Try.prog W = .ok () W := run_eqGuard_agg W op 38 x y xs ys te_guards
theorem te_eq (a b c d : Int) (W : World) : (Op.equalIn 10000 38 (.agg #[.int .i64 a, .int .i64 b]) (.agg #[.int .i64 c, .int .i64 d])).run Try.prog W = .ok (ptB a b c d) W := by
  rw [run_equalIn_agg W 9999 38 _ _ te_under te_stood]
  unfold ptB
  simp [go_sem, Op.eqFields, part, Program.fieldsOf, Try.underlying38, Try.underlying3]
  by_cases h1 : a = c <;> by_cases h2 : b = d <;> simp [h1, h2]
@[go_sem high] theorem te_eql (a b c d : Int) (W : World) : (binOp .eql 38 (.agg #[.int .i64 a, .int .i64 b]) (.agg #[.int .i64 c, .int .i64 d])).run Try.prog W = .ok (.bool (ptB a b c d)) W := by
  rw [run_eql_struct, te_eq]
  rfl
@[go_sem high] theorem te_neq (a b c d : Int) (W : World) : (binOp .neq 38 (.agg #[.int .i64 a, .int .i64 b]) (.agg #[.int .i64 c, .int .i64 d])).run Try.prog W = .ok (.bool (!ptB a b c d)) W := by
  rw [run_neq_struct, te_eq]
  rfl
theorem own_num2 {a b : World} (h : NumW.Drew a b) : Own a b := by
  obtain ⟨n, rfl⟩ := h
  exact (Own.refl a).drewN n
set_option maxRecDepth 100000 in
set_option maxHeartbeats 1000000 in
theorem rsame_yes (l : List Pt) (va vb : Value) (w : World) (HA : Hid (Pts w va l)) (HB : Hid (Pts w vb l)) :
    Calls Try.prog 22 #[va, vb] w fun e w' => e = .returned (.bool true) ∧ Own w w' := by
  obtain ⟨A, ca, rfl, a1, a2, a3⟩ := HA.out.open
  obtain ⟨B, cb, rfl, b1, b2, b3⟩ := HB.out.open
  unfold maxLen at a2 b2
  have HCA := Lib.hid a3
  have HCB := Lib.hid b3
  obtain ⟨n, hn⟩ : ∃ n, l.length = n := ⟨_, rfl⟩
  rw [hn] at a1 b1 HCA HCB ⊢
  clear a3 b3 HA HB hn
  go_enter Try.func22, Try.ntmps22
  go_wp2
  go_loopw [5] (fun i wr => ∃ k : Nat, i = .int .i64 k ∧ k ≤ n ∧ Own w wr) (fun i _ => n - (intOf i).toNat)
  case atStart => exact ⟨0, rfl, Nat.zero_le _, Own.refl w⟩
  case round =>
    obtain ⟨k, rfl, hk, q⟩ := hrel
    by_cases hlt : k < n
    · obtain ⟨g, off, rfl, hc⟩ := HCA.out (by omega)
      obtain ⟨g2, off2, rfl, hc2⟩ := HCB.out (by omega)
      have c0 := q.cell (hc k hlt).1
      have c1 := q.cell (hc k hlt).2
      have c2 := q.cell (hc2 k hlt).1
      have c3 := q.cell (hc2 k hlt).2
      obtain ⟨⟨x, y⟩, hp⟩ : ∃ p, at' l k = p := ⟨_, rfl⟩
      rw [hp] at c0 c1 c2 c3
      simp only at c0 c1 c2 c3
      clear hc hc2 hp
      have hkn : (k : Int) < n := by omega
      have hzz : ptB x y x y = true := ptB_self x y
      go_upto_region 6 with (fail)
      go_quiet (fail)
      go_wp2
      go_roundw
      case rel => exact ⟨k + 1, by go_num, hlt, q.drewN _⟩
      case measure => simp [intOf]; omega
    · obtain rfl : k = n := by omega
      go_wp2
      go_ret
      exact ⟨rfl, q⟩
theorem rround_at (a b v f : Int) (w : World) (H : Hid (roundV a b = v ∧ roundE a b = f)) :
    Calls Try.prog 44 #[.int .i64 a, .int .i64 b] w fun e w' => e = .returned (.tuple #[.int .i64 v, .int .i64 f]) ∧ Own w w' := by
  obtain ⟨rfl, rfl⟩ := H.out
  refine (NumW.rround_any a b w).mono ?_
  rintro e w' ⟨h1, h2⟩
  exact ⟨h1, own_num2 h2⟩
theorem rlerp_at (a b k d v f : Int) (w : World) (H : Hid (lerpV a b k d = v ∧ lerpE a b k d = f)) :
    Calls Try.prog 43 #[.int .i64 a, .int .i64 b, .int .i64 k, .int .i64 d] w fun e w' => e = .returned (.tuple #[.int .i64 v, .int .i64 f]) ∧ Own w w' := by
  obtain ⟨rfl, rfl⟩ := H.out
  refine (NumW.rlerp_any a b k d w).mono ?_
  rintro e w' ⟨h1, h2⟩
  exact ⟨h1, own_num2 h2⟩
set_option maxRecDepth 100000 in
set_option maxHeartbeats 1000000 in
theorem rnorm_at (l : List Pt) (sv : Value) (M : List Pt) (f : Int) (w : World) (HP : Hid (Pts w sv l)) (H : Hid (chkE l = f ∧ nmV l = M)) :
    Calls Try.prog 23 #[sv] w fun e w' => ∃ s', e = .returned (.tuple #[s', .int .i64 f]) ∧ w'.ownsRow w.heap.size 38 2 s' M.length (cellsP M) ∧ Own w w' := by
  obtain ⟨i0, hi, hz0, hz1, hz2⟩ := info_parts (show (Try.prog.info? 38).map (fun i => (i.zero, i.size, i.bytes)) = some (some (.agg #[.int .i64 0, .int .i64 0]), 2, 16) by kernel_rfl)
  have HI := Lib.hid hi
  have HZ0 := Lib.hid hz0
  have HZ1 := Lib.hid hz1
  have HZ2 := Lib.hid hz2
  clear hi hz0 hz1 hz2
  have HC := Lib.hid H.out.1
  have g0 := Own.refl w
  by_cases h0 : f = 0
  · subst h0
    have hm := chk_map.1 HC.out
    obtain ⟨A0, cap, rfl, ha1, ha2, ha⟩ := HP.out.open
    obtain ⟨b, off, rfl, hcc⟩ := ha hm.n0
    unfold maxLen at ha2
    obtain ⟨n, hn⟩ : ∃ n, l.length = n := ⟨_, rfl⟩
    have HN := Lib.hid hn
    have hn0 : 0 < n := by rw [← hn]; exact hm.n0
    have hn1 : n ≤ 64 := hn ▸ hm.n1
    have HM := Lib.hid (show nrm l n = M by rw [← H.out.2, nm_ok HC.out, hn])
    rw [hn] at hcc ha1 HP ⊢
    have HCC := Lib.hid hcc
    clear ha hcc hn hm H
    go_enter Try.func23, Try.ntmps23
    go_wp2_with (go_at_call 11; refine (rcheck_at l _ 0 _ HP HC).mono ?_; rintro e w1 ⟨rfl, hg⟩; replace g0 : Own w w1 := g0.trans hg; clear hg)
    go_loopw [5, 6] (fun v5 v6 wr => ∃ (k : Nat) (A : Option Addr) (c : Nat), v6 = .int .i64 (k : Int) ∧ k ≤ n ∧ v5 = .slice A (nrm l k).length c ∧ wr.ownsRow w.heap.size 38 2 (.slice A (nrm l k).length c) (nrm l k).length (cellsP (nrm l k)) ∧ Own w wr) (fun _ v6 _ => n - (intOf v6).toNat)
    case atStart => exact ⟨0, none, 0, rfl, Nat.zero_le _, rfl, World.ownsRow_nil _ _ _ _, g0⟩
    case round =>
      obtain ⟨k, A, c, rfl, hk, rfl, hr, q0⟩ := hrel
      have HR := Lib.hid hr
      have hql := nrm_len l k
      clear hr
      by_cases hlt : k < n
      · obtain ⟨⟨x, y⟩, hp⟩ : ∃ p, at' l k = p := ⟨_, rfl⟩
        have e0 := q0.cell (HCC.out k hlt).1
        have e1 := q0.cell (HCC.out k hlt).2
        have HXY := Lib.hid hp
        rw [hp] at e0 e1
        simp only at e0 e1
        clear hp
        have hkn : (k : Int) < n := by omega
        obtain ⟨qs, hqs⟩ : ∃ q, nrm l k = q := ⟨_, rfl⟩
        have HQS := Lib.hid hqs
        rw [hqs] at HR hql
        simp only [hqs]
        obtain ⟨z, hz⟩ : ∃ z, qs.length = z := ⟨_, rfl⟩
        have HQL := Lib.hid hz
        rw [hz] at HR hql
        simp only [hz]
        clear hqs hz
        by_cases hk0 : k = 0
        · have HNX := Lib.hid (show nrm l (k + 1) = qs ++ [(x, y)] by rw [nrm_add (.inl hk0), HQS.out, HXY.out])
          have dk : ((k : Int) == 0) = true := by rw [hk0]; rfl
          clear hk0
          go_upto_region 8 with (fail)
          go_quiet (fail)
          have q1 : Own w (wr.drewN nq) := q0.drewN nq
          have HR1 := Lib.hid (row_own HR.out ((Own.refl wr).drewN nq))
          replace e0 := ((Own.refl wr).drewN nq).cell e0
          replace e1 := ((Own.refl wr).drewN nq).cell e1
          have HB1 : w.heap.size ≤ (wr.drewN nq).heap.size := q1.size
          generalize wr.drewN nq = wq at *
          go_wp2_with (at_builtin; refine wpList_add_pt wq rfl _ _ _ rfl w.heap.size 38 i0 (.agg #[.int .i64 0, .int .i64 0]) Try.underlying22 HI.out HZ0.out HZ1.out HZ2.out rfl A c z qs rfl HR1.out (by omega) x y rfl HB1 ?_; intro A' c' w' hown hadd; have HOWN := Lib.hid hown; have HQ := Lib.hid (hadd w q1 (Nat.le_refl _)); clear hown hadd)
          go_roundw
          case rel => exact ⟨k + 1, A', c', by go_num, hlt, by rw [HNX.out, List.length_append, HQL.out]; rfl, by rw [HNX.out, List.length_append, HQL.out]; exact HOWN.out, HQ.out⟩
          case measure => simp [intOf]; omega
        · obtain ⟨j, hj⟩ : ∃ j, k = j + 1 := ⟨k - 1, by omega⟩
          have dk : ((k : Int) == 0) = false := beq_eq_false_iff_ne.2 (by omega)
          have e2 := q0.cell (HCC.out j (by omega)).2
          obtain ⟨u, hu⟩ : ∃ u, (at' l j).2 = u := ⟨_, rfl⟩
          have HU := Lib.hid hu
          rw [hu] at e2
          have HJ := Lib.hid (show k - 1 = j by omega)
          have i1 : IntKind.i64.wrap ((k : Int) - 1) = (j : Int) := (IntWalk.i64_in _ (by omega)).trans (by omega)
          have d5 : (0 : Int) ≤ (j : Int) := by omega
          have d6 : (j : Int) < n := by omega
          have hk1 : 0 < k := by omega
          clear hu hj hk0
          by_cases hyu : y = u
          · have HNX := Lib.hid (show nrm l (k + 1) = qs by rw [nrm_skip hk1 (by rw [HXY.out, HJ.out, HU.out]; exact hyu), HQS.out])
            have dy : (y != u) = false := by rw [hyu]; simp
            clear hk1 hyu
            go_upto_region 8 with (fail)
            go_quiet (fail)
            go_wp2
            go_roundw
            case rel => exact ⟨k + 1, A, c, by go_num, hlt, by rw [HNX.out, HQL.out], by rw [HNX.out, HQL.out]; exact row_own HR.out ((Own.refl _).drewN _), q0.drewN _⟩
            case measure => simp [intOf]; omega
          · have HNX := Lib.hid (show nrm l (k + 1) = qs ++ [(x, y)] by rw [nrm_add (.inr (by rw [HXY.out, HJ.out, HU.out]; exact hyu)), HQS.out, HXY.out])
            have dy : (y != u) = true := bne_iff_ne.2 hyu
            clear hk1 hyu
            go_upto_region 8 with (fail)
            go_quiet (fail)
            have q1 : Own w (wr.drewN nq) := q0.drewN nq
            have HR1 := Lib.hid (row_own HR.out ((Own.refl wr).drewN nq))
            replace e0 := ((Own.refl wr).drewN nq).cell e0
            replace e1 := ((Own.refl wr).drewN nq).cell e1
            have HB1 : w.heap.size ≤ (wr.drewN nq).heap.size := q1.size
            generalize wr.drewN nq = wq at *
            go_wp2_with (at_builtin; refine wpList_add_pt wq rfl _ _ _ rfl w.heap.size 38 i0 (.agg #[.int .i64 0, .int .i64 0]) Try.underlying22 HI.out HZ0.out HZ1.out HZ2.out rfl A c z qs rfl HR1.out (by omega) x y rfl HB1 ?_; intro A' c' w' hown hadd; have HOWN := Lib.hid hown; have HQ := Lib.hid (hadd w q1 (Nat.le_refl _)); clear hown hadd)
            go_roundw
            case rel => exact ⟨k + 1, A', c', by go_num, hlt, by rw [HNX.out, List.length_append, HQL.out]; rfl, by rw [HNX.out, List.length_append, HQL.out]; exact HOWN.out, HQ.out⟩
            case measure => simp [intOf]; omega
      · obtain rfl : k = n := by omega
        have HR2 := Lib.hid (show wr.ownsRow w.heap.size 38 2 (.slice A (nrm l k).length c) M.length (cellsP M) by rw [← HM.out]; exact HR.out)
        clear HR hql
        generalize (nrm l k).length = z at *
        go_wp2
        go_ret2
        exact ⟨_, rfl, HR2.out, q0⟩
  · obtain rfl : [] = M := by rw [← H.out.2, nm_bad (by rw [HC.out]; exact h0)]
    have d0 : (f != 0) = true := bne_iff_ne.2 h0
    clear H
    go_enter Try.func23, Try.ntmps23
    go_wp2_with (go_at_call 11; refine (rcheck_at l _ f _ HP HC).mono ?_; rintro e w1 ⟨rfl, hg⟩; replace g0 : Own w w1 := g0.trans hg; clear hg)
    go_ret2
    exact ⟨_, rfl, World.ownsRow_nil _ _ _ _, g0⟩
set_option maxRecDepth 100000 in
set_option maxHeartbeats 1000000 in
theorem rscaled_at (l : List Pt) (sv : Value) (p q : Int) (M : List Pt) (f : Int) (w : World) (HP : Hid (Pts w sv l)) (H : Hid (scE l p q = f ∧ scV l p q = M)) :
    Calls Try.prog 24 #[sv, .int .i64 p, .int .i64 q] w fun e w' => ∃ s', e = .returned (.tuple #[s', .int .i64 f]) ∧ w'.ownsRow w.heap.size 38 2 s' M.length (cellsP M) ∧ Own w w' := by
  obtain ⟨i0, hi, hz0, hz1, hz2⟩ := info_parts (show (Try.prog.info? 38).map (fun i => (i.zero, i.size, i.bytes)) = some (some (.agg #[.int .i64 0, .int .i64 0]), 2, 16) by kernel_rfl)
  have HI := Lib.hid hi
  have HZ0 := Lib.hid hz0
  have HZ1 := Lib.hid hz1
  have HZ2 := Lib.hid hz2
  clear hi hz0 hz1 hz2
  obtain ⟨c0, hc⟩ : ∃ c, chkE l = c := ⟨_, rfl⟩
  have HC := Lib.hid hc
  have g0 : Own w w := Own.refl w
  by_cases h0 : c0 = 0
  · subst h0
    by_cases hb : scOk p q = true
    · have hm := chk_map.1 hc
      have HM := Lib.hid hm
      have HOK := Lib.hid hb
      obtain ⟨A0, cap, rfl, ha1, ha2, ha⟩ := HP.out.open
      obtain ⟨b, off, rfl, hcc⟩ := ha hm.n0
      unfold maxLen at ha2
      obtain ⟨n, hn⟩ : ∃ n, l.length = n := ⟨_, rfl⟩
      have HN := Lib.hid hn
      have hn1 : n ≤ 64 := hn ▸ hm.n1
      rw [hn] at hcc ha1 HP ⊢
      have HCC := Lib.hid hcc
      have hpq := (scOk_iff p q).1 hb
      have x1 : ¬ p < 1 := by omega
      have x2 : ¬ 1000 < p := by omega
      have x3 : ¬ q < 1 := by omega
      have x4 : ¬ 1000 < q := by omega
      clear ha hcc hn hm hb hc hpq
      go_enter Try.func24, Try.ntmps24
      go_wp2_with (go_at_call 11; refine (rcheck_at l _ 0 _ HP HC).mono ?_; rintro e w1 ⟨rfl, hg⟩; replace g0 : Own w w1 := g0.trans hg; clear hg)
      go_loopw [9, 10] (fun v9 v10 wr => ∃ (k : Nat) (A : Option Addr) (c : Nat), v10 = .int .i64 (k : Int) ∧ k ≤ n ∧ v9 = .slice A k c ∧ wr.ownsRow w.heap.size 38 2 (.slice A k c) k (cellsP (sc p q (l.take k))) ∧ Own w wr ∧ ∀ i, i < k → nearV ((at' l i).2 * p) q ≤ 4194304) (fun _ v10 _ => n - (intOf v10).toNat)
      case atStart => exact ⟨0, none, 0, rfl, Nat.zero_le _, rfl, World.ownsRow_nil _ _ _ _, g0, fun i hi => absurd hi (Nat.not_lt_zero _)⟩
      case round =>
        obtain ⟨k, A, c, rfl, hk, rfl, hr, q0, hsm⟩ := hrel
        have HR := Lib.hid hr
        have HSM := Lib.hid hsm
        clear hr hsm
        by_cases hlt : k < n
        · obtain ⟨⟨x, y⟩, hp⟩ : ∃ v, at' l k = v := ⟨_, rfl⟩
          have e0 := q0.cell (HCC.out k hlt).1
          have e1 := q0.cell (HCC.out k hlt).2
          have hkl : k < l.length := by rw [HN.out]; exact hlt
          have ho := ok_at HM.out.ok hkl
          have hst := sc_take (p := p) (q := q) hkl
          have HXY := Lib.hid hp
          rw [hp] at e0 e1 ho hst
          simp only at e0 e1 ho hst
          clear hp
          obtain ⟨⟨s1, s2⟩, s3, s4, s5, s6⟩ := sc_bound (x := y) (p := p) (q := q) ho.2 HOK.out
          obtain ⟨v, hv⟩ : ∃ v, nearV (y * p) q = v := ⟨_, rfl⟩
          have HV := Lib.hid hv
          rw [hv] at s4 s5 s6
          have HRD := Lib.hid (And.intro s4 s3)
          have i1 : IntKind.i64.wrap (y * p) = y * p := IntWalk.i64_in _ (by omega)
          have hkn : (k : Int) < n := by omega
          have HB0 : w.heap.size ≤ wr.heap.size := q0.size
          obtain ⟨qs, hqs⟩ : ∃ qs, sc p q (l.take k) = qs := ⟨_, rfl⟩
          rw [hqs] at HR hst
          have HST := Lib.hid hst
          clear hv s1 s2 s3 s4 ho hqs hst
          by_cases hbig : 4194304 < v
          · have e := sc_big (p := p) (q := q) (chk_map.2 HM.out) HOK.out hkl (by rw [HXY.out]; simp only; rw [HV.out]; exact hbig)
            obtain rfl : 1 = f := by rw [← H.out.1, e.1]
            obtain rfl : [] = M := by rw [← H.out.2, e.2]
            have y1 : ¬ v < 1 := by omega
            clear e hkl
            go_wp2_with (go_at_call 44; refine (rround_at _ _ v 0 _ HRD).mono ?_; rintro e w5 ⟨rfl, hg⟩; replace q0 : Own w w5 := q0.trans hg)
            go_ret2
            exact ⟨_, rfl, World.ownsRow_nil _ _ _ _, q0⟩
          · have HSM2 := Lib.hid (show ∀ i, i < k + 1 → nearV ((at' l i).2 * p) q ≤ 4194304 from fun i hi => by
              by_cases e : i = k
              · rw [e, HXY.out]; simp only; rw [HV.out]; omega
              · exact HSM.out i (by omega))
            clear hkl HSM
            by_cases hv1 : v < 1
            · have HS1 := Lib.hid (show scX p q y = 1 by unfold scX; rw [HV.out]; omega)
              go_upto_region 15 with (go_at_call 44; refine (rround_at _ _ v 0 _ HRD).mono ?_; rintro e w5 ⟨rfl, hg⟩; replace q0 : Own w w5 := q0.trans hg; replace e0 := hg.cell e0; replace e1 := hg.cell e1; have HR5 := Lib.hid (row_own HR.out hg); clear hg)
              have HB1 : w.heap.size ≤ w5.heap.size := q0.size
              go_wp2_with (at_builtin; refine wpList_add_pt w5 rfl _ _ _ rfl w.heap.size 38 i0 (.agg #[.int .i64 0, .int .i64 0]) Try.underlying22 HI.out HZ0.out HZ1.out HZ2.out rfl A c k qs rfl HR5.out (by omega) x 1 rfl HB1 ?_; intro A' c' w' hown hadd; have HOWN := Lib.hid hown; have HQ := Lib.hid (hadd w q0 (Nat.le_refl _)); clear hown hadd)
              go_roundw
              case rel => exact ⟨k + 1, A', c', by go_num, hlt, rfl, by rw [HST.out, HS1.out]; exact HOWN.out, HQ.out, HSM2.out⟩
              case measure => simp [intOf]; omega
            · have HS1 := Lib.hid (show scX p q y = v by unfold scX; rw [HV.out]; omega)
              go_upto_region 15 with (go_at_call 44; refine (rround_at _ _ v 0 _ HRD).mono ?_; rintro e w5 ⟨rfl, hg⟩; replace q0 : Own w w5 := q0.trans hg; replace e0 := hg.cell e0; replace e1 := hg.cell e1; have HR5 := Lib.hid (row_own HR.out hg); clear hg)
              have HB1 : w.heap.size ≤ w5.heap.size := q0.size
              go_wp2_with (at_builtin; refine wpList_add_pt w5 rfl _ _ _ rfl w.heap.size 38 i0 (.agg #[.int .i64 0, .int .i64 0]) Try.underlying22 HI.out HZ0.out HZ1.out HZ2.out rfl A c k qs rfl HR5.out (by omega) x v rfl HB1 ?_; intro A' c' w' hown hadd; have HOWN := Lib.hid hown; have HQ := Lib.hid (hadd w q0 (Nat.le_refl _)); clear hown hadd)
              go_roundw
              case rel => exact ⟨k + 1, A', c', by go_num, hlt, rfl, by rw [HST.out, HS1.out]; exact HOWN.out, HQ.out, HSM2.out⟩
              case measure => simp [intOf]; omega
        · obtain rfl : k = n := by omega
          have e := sc_ok (p := p) (q := q) (chk_map.2 HM.out) HOK.out (fun i hi => HSM.out i (by rw [← HN.out]; exact hi))
          obtain rfl : 0 = f := by rw [← H.out.1, e.1]
          have hMM : sc p q l = M := by rw [← H.out.2, e.2]
          have HROW := Lib.hid (show wr.ownsRow w.heap.size 38 2 (.slice A k c) M.length (cellsP M) by
            have hml : M.length = k := by rw [← hMM, sc_len, HN.out]
            rw [hml, ← hMM]
            have := HR.out
            rw [show l.take k = l by rw [← HN.out, List.take_length]] at this
            exact this)
          clear e hMM HR
          go_wp2
          go_ret2
          exact ⟨_, rfl, HROW.out, q0⟩
    · have hb2 : scOk p q = false := Bool.of_not_eq_true hb
      have e := sc_no hc hb2
      obtain rfl : 1 = f := by rw [← H.out.1, e.1]
      obtain rfl : [] = M := by rw [← H.out.2, e.2]
      have hno : p < 1 ∨ ¬ p < 1 ∧ 1000 < p ∨ ¬ p < 1 ∧ ¬ 1000 < p ∧ q < 1 ∨ ¬ p < 1 ∧ ¬ 1000 < p ∧ ¬ q < 1 ∧ 1000 < q := by
        have := mt (scOk_iff p q).2 hb
        omega
      clear hc H e hb hb2
      rcases hno with x1 | ⟨x1, x2⟩ | ⟨x1, x2, x3⟩ | ⟨x1, x2, x3, x4⟩
      all_goals
        go_enter Try.func24, Try.ntmps24
        go_wp2_with (go_at_call 11; refine (rcheck_at l _ 0 _ HP HC).mono ?_; rintro e w1 ⟨rfl, hg⟩; replace g0 : Own w w1 := g0.trans hg; clear hg)
        go_ret2
        exact ⟨_, rfl, World.ownsRow_nil _ _ _ _, g0⟩
  · have e := sc_bad p q (show chkE l ≠ 0 by rw [hc]; exact h0)
    obtain rfl : c0 = f := by rw [← H.out.1, e.1, hc]
    obtain rfl : [] = M := by rw [← H.out.2, e.2]
    have d0 : (c0 != 0) = true := bne_iff_ne.2 h0
    clear hc H e
    go_enter Try.func24, Try.ntmps24
    go_wp2_with (go_at_call 11; refine (rcheck_at l _ c0 _ HP HC).mono ?_; rintro e w1 ⟨rfl, hg⟩; replace g0 : Own w w1 := g0.trans hg; clear hg)
    go_ret2
    exact ⟨_, rfl, World.ownsRow_nil _ _ _ _, g0⟩
set_option maxRecDepth 100000 in
set_option maxHeartbeats 2000000 in
theorem rramp_at (a n e f g : Int) (M : List Pt) (er : Int) (w : World) (H : Hid (rpE a n e f g = er ∧ rpV a n e f g = M)) :
    Calls Try.prog 21 #[.int .i64 a, .int .i64 n, .int .i64 e, .int .i64 f, .int .i64 g] w fun ee w' => ∃ s', ee = .returned (.tuple #[s', .int .i64 er]) ∧ w'.ownsRow w.heap.size 38 2 s' M.length (cellsP M) ∧ Own w w' := by
  obtain ⟨i0, hi, hz0, hz1, hz2⟩ := info_parts (show (Try.prog.info? 38).map (fun i => (i.zero, i.size, i.bytes)) = some (some (.agg #[.int .i64 0, .int .i64 0]), 2, 16) by kernel_rfl)
  have HI := Lib.hid hi
  have HZ0 := Lib.hid hz0
  have HZ1 := Lib.hid hz1
  have HZ2 := Lib.hid hz2
  clear hi hz0 hz1 hz2
  have g0 : Own w w := Own.refl w
  by_cases hok : rpOk a n e f g = true
  · have hh := rp_ok hok
    obtain rfl : 0 = er := by rw [← H.out.1, hh.1]
    have hi := (rpOk_iff ..).1 hok
    obtain ⟨N, rfl⟩ := Int.eq_ofNat_of_zero_le (show 0 ≤ n by omega)
    have HMM := Lib.hid (show rp a N e f g (N + 1) = M by rw [← H.out.2, hh.2]; rfl)
    have HOK := Lib.hid hok
    have m1 := TemP.mul_bd (a := (N : Int)) (b := e) (m := 24) (by omega) hi.2.2.2.2.1.1 hi.2.2.2.2.1.2
    have j1 : IntKind.i64.wrap ((N : Int) * e) = (N : Int) * e := IntWalk.i64_in _ (by omega)
    have j2 : IntKind.i64.wrap (a + (N : Int) * e) = a + (N : Int) * e := IntWalk.i64_in _ (by omega)
    have x1 : ¬ a < 0 := by omega
    have x2 : ¬ 8192 < a := by omega
    have x3 : ¬ f < 1 := by omega
    have x4 : ¬ 1048576 < f := by omega
    have x5 : ¬ g < 1 := by omega
    have x6 : ¬ 1048576 < g := by omega
    have x7 : ¬ (N : Int) < 1 := by omega
    have x8 : ¬ 63 < (N : Int) := by omega
    have x9 : ¬ e < 1 := by omega
    have xa : ¬ 24 < e := by omega
    have xb : ¬ 8192 < a + (N : Int) * e := by omega
    have hN : N ≤ 63 := by omega
    clear H hh hok hi m1
    go_enter Try.func21, Try.ntmps21
    go_wp2
    go_loopw [12, 13] (fun v12 v13 wr => ∃ (k : Nat) (A : Option Addr) (c : Nat), v13 = .int .i64 (k : Int) ∧ k ≤ N ∧ v12 = .slice A k c ∧ wr.ownsRow w.heap.size 38 2 (.slice A k c) k (cellsP (rp a N e f g k)) ∧ Own w wr) (fun _ v13 _ => N - (intOf v13).toNat)
    case atStart => exact ⟨0, none, 0, rfl, Nat.zero_le _, rfl, World.ownsRow_nil _ _ _ _, g0⟩
    case round =>
      obtain ⟨k, A, c, rfl, hk, rfl, hr, q0⟩ := hrel
      have HR := Lib.hid hr
      clear hr
      obtain ⟨qs, hqs⟩ : ∃ qs, rp a N e f g k = qs := ⟨_, rfl⟩
      have HST := Lib.hid (rp_snoc a N e f g k)
      rw [hqs] at HR HST
      clear hqs
      have HB0 : w.heap.size ≤ wr.heap.size := q0.size
      by_cases hlt : k < N
      · have hkn : (k : Int) ≤ (N : Int) := by omega
        have hkK : (k : Int) < N := by omega
        obtain ⟨v, hv⟩ : ∃ v, lerpV f g k N = v := ⟨_, rfl⟩
        have HL := Lib.hid (And.intro hv (rp_lerp HOK.out hkn))
        obtain ⟨p1, p2⟩ := rp_step HOK.out hkn
        obtain ⟨y, hy⟩ : ∃ y, (k : Int) * e = y := ⟨_, rfl⟩
        rw [hy] at p1 p2
        have i1 : IntKind.i64.wrap ((k : Int) * e) = y := by rw [hy]; exact IntWalk.i64_in _ (by omega)
        have i2 : IntKind.i64.wrap (a + y) = a + y := IntWalk.i64_in _ (by omega)
        have HPT := Lib.hid (show rpAt a N e f g k = (a + y, v) by unfold rpAt; rw [hy, hv])
        clear hv hy
        go_upto_region 10 with (go_at_call 43; refine (rlerp_at _ _ _ _ v 0 _ HL).mono ?_; rintro e w5 ⟨rfl, hg⟩; replace q0 : Own w w5 := q0.trans hg; have HR5 := Lib.hid (row_own HR.out hg); clear hg)
        have HB1 : w.heap.size ≤ w5.heap.size := q0.size
        go_wp2_with (at_builtin; refine wpList_add_pt w5 rfl _ _ _ rfl w.heap.size 38 i0 (.agg #[.int .i64 0, .int .i64 0]) Try.underlying22 HI.out HZ0.out HZ1.out HZ2.out rfl A c k qs rfl HR5.out (by omega) (a + y) v rfl HB1 ?_; intro A' c' w' hown hadd; have HOWN := Lib.hid hown; have HQ := Lib.hid (hadd w q0 (Nat.le_refl _)); clear hown hadd)
        go_roundw
        case rel => exact ⟨k + 1, A', c', by go_num, hlt, rfl, by rw [HST.out, HPT.out]; exact HOWN.out, HQ.out⟩
        case measure => simp [intOf]; omega
      · obtain rfl : k = N := by omega
        have HPT := Lib.hid (show M = qs ++ [(a + (k : Int) * e, g)] by rw [← HMM.out, HST.out, rp_last HOK.out rfl])
        have HML := Lib.hid (show M.length = k + 1 by rw [← HMM.out, rp_len])
        go_wp2_with (at_builtin; refine wpList_add_pt wr rfl _ _ _ rfl w.heap.size 38 i0 (.agg #[.int .i64 0, .int .i64 0]) Try.underlying22 HI.out HZ0.out HZ1.out HZ2.out rfl A c k qs rfl HR.out (by omega) (a + (k : Int) * e) g rfl HB0 ?_; intro A' c' w' hown hadd; have HOWN := Lib.hid hown; have HQ := Lib.hid (hadd w q0 (Nat.le_refl _)); clear hown hadd)
        go_ret2
        rw [HML.out]
        exact ⟨_, rfl, by rw [HPT.out]; exact HOWN.out, HQ.out⟩
  · have hb2 : rpOk a n e f g = false := Bool.of_not_eq_true hok
    have hh := rp_no hb2
    obtain rfl : 1 = er := by rw [← H.out.1, hh.1]
    obtain rfl : [] = M := by rw [← H.out.2, hh.2]
    have hno := rp_not hb2
    clear H hh hok hb2
    by_cases x1 : a < 0
    · go_enter Try.func21, Try.ntmps21
      go_wp2
      go_ret2
      exact ⟨_, rfl, World.ownsRow_nil _ _ _ _, g0⟩
    by_cases x2 : 8192 < a
    · go_enter Try.func21, Try.ntmps21
      go_wp2
      go_ret2
      exact ⟨_, rfl, World.ownsRow_nil _ _ _ _, g0⟩
    by_cases x3 : f < 1
    · go_enter Try.func21, Try.ntmps21
      go_wp2
      go_ret2
      exact ⟨_, rfl, World.ownsRow_nil _ _ _ _, g0⟩
    by_cases x4 : 1048576 < f
    · go_enter Try.func21, Try.ntmps21
      go_wp2
      go_ret2
      exact ⟨_, rfl, World.ownsRow_nil _ _ _ _, g0⟩
    by_cases x5 : g < 1
    · go_enter Try.func21, Try.ntmps21
      go_wp2
      go_ret2
      exact ⟨_, rfl, World.ownsRow_nil _ _ _ _, g0⟩
    by_cases x6 : 1048576 < g
    · go_enter Try.func21, Try.ntmps21
      go_wp2
      go_ret2
      exact ⟨_, rfl, World.ownsRow_nil _ _ _ _, g0⟩
    by_cases x7 : n < 1
    · go_enter Try.func21, Try.ntmps21
      go_wp2
      go_ret2
      exact ⟨_, rfl, World.ownsRow_nil _ _ _ _, g0⟩
    by_cases x8 : 63 < n
    · go_enter Try.func21, Try.ntmps21
      go_wp2
      go_ret2
      exact ⟨_, rfl, World.ownsRow_nil _ _ _ _, g0⟩
    by_cases x9 : e < 1
    · go_enter Try.func21, Try.ntmps21
      go_wp2
      go_ret2
      exact ⟨_, rfl, World.ownsRow_nil _ _ _ _, g0⟩
    by_cases xa : 24 < e
    · go_enter Try.func21, Try.ntmps21
      go_wp2
      go_ret2
      exact ⟨_, rfl, World.ownsRow_nil _ _ _ _, g0⟩
    have xb : 8192 < a + n * e := by omega
    have m1 := TemP.mul_bd (a := n) (b := e) (m := 24) (by omega) (by omega) (by omega)
    have j1 : IntKind.i64.wrap (n * e) = n * e := IntWalk.i64_in _ (by omega)
    have j2 : IntKind.i64.wrap (a + n * e) = a + n * e := IntWalk.i64_in _ (by omega)
    clear m1 hno
    go_enter Try.func21, Try.ntmps21
    go_wp2
    go_ret2
    exact ⟨_, rfl, World.ownsRow_nil _ _ _ _, g0⟩
end Go.Proofs.Ytpgeiflbmcjaaaa.TemW
