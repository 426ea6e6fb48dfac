/-
  Walks of the specification of package assign: Cost. Condition: none.
-/
import Derived.Test.YtfhdoeajoeaddaaAssignB
namespace Go.Proofs.Ytfhdoeajoeaddaa.AsgW
open Go.ChangeShapes Go.WideShapes Go.ChangeAt Go.RowKit
open PairW CelW TabW MchW AsgP
set_option maxRecDepth 100000 in
set_option maxHeartbeats 2000000 in
theorem racost_at (c : Tb) (l : List Int) (vc vl : Value) (m f : Int) (w : World) (HT : Hid (Cels w vc (cellsG c))) (HL : Hid (Cel w vl (cellsI l))) (HM : Hid (coV c l = m)) (HF : Hid (coE c l = f)) :
    Calls Try.prog 21 #[vc, vl] w fun e w' => e = .returned (.tuple #[.int .i64 m, .int .i64 f]) ∧ Own w w' := by
  obtain ⟨h, hh⟩ : ∃ h, chA c = h := ⟨_, rfl⟩
  have HH := Lib.hid hh
  clear hh
  have hcall := racheck_at c vc h w HT HH
  by_cases h0 : h = 0
  · subst h0
    obtain ⟨b1, b2, b3⟩ := chA_ok HH.out
    obtain ⟨n, hn⟩ : ∃ n, c.length = n := ⟨_, rfl⟩
    rw [hn] at b1
    have HN := Lib.hid hn
    have HS := Lib.hid b2
    have HR := Lib.hid b3
    clear hn b2 b3
    obtain ⟨b, hb⟩ : ∃ b, asgV n l = b := ⟨_, rfl⟩
    have HB := Lib.hid hb
    clear hb
    have hasg := raasg_at l vl n b w HL b1 HB
    obtain ⟨AC, capc, rfl, t1, t2, _⟩ := gt_open HT.out
    rw [HN.out] at t1 HT hcall ⊢
    unfold maxLen at t2
    cases b with
    | false =>
      obtain rfl : 0 = m := by
        rw [← HM.out]
        unfold coV
        rw [HN.out, HB.out, if_neg (by simp)]
      obtain rfl : 2 = f := by
        rw [← HF.out]
        unfold coE
        rw [if_pos HH.out, HN.out, HB.out, if_neg (by simp)]
      go_enter Try.func21, Try.ntmps21
      go_wp2_with (first
        | (go_at_call 11; refine hcall.mono ?_; rintro e w1 ⟨rfl, rfl⟩)
        | (go_at_call 28; refine hasg.mono ?_; rintro e w2 ⟨rfl, q2⟩; have HQ2 := Lib.hid q2; clear q2))
      go_ret2
      exact ⟨rfl, HQ2.out⟩
    | true =>
      have hA := asgV_iff.1 HB.out
      have HA := Lib.hid hA
      obtain rfl : cost c l = m := by
        rw [← HM.out]
        unfold coV
        rw [if_pos ⟨HH.out, by rw [HN.out]; exact HB.out⟩]
      obtain rfl : 0 = f := by
        rw [← HF.out]
        unfold coE
        rw [if_pos HH.out, HN.out, HB.out, if_pos rfl]
      have hll := hA.len
      have HLL := Lib.hid hll
      obtain ⟨AL, capl, rfl, l1, l2, l3⟩ := cel_int HL.out
      unfold maxLen at l2
      rw [hll] at l1 l3 hasg ⊢
      have H3 := Lib.hid l3
      clear l3 hll hA
      go_enter Try.func21, Try.ntmps21
      go_wp2_with (first
        | (go_at_call 11; refine hcall.mono ?_; rintro e w1 ⟨rfl, rfl⟩)
        | (go_at_call 28; refine hasg.mono ?_; rintro e w2 ⟨rfl, q2⟩; have HQ2 := Lib.hid q2; clear q2))
      clear hcall hasg
      go_loopw [7, 8] (fun vt vi wr => ∃ (i : Nat) (t : Int), vt = .int .i64 t ∧ vi = .int .i64 (i : Int) ∧ i ≤ n ∧ Own w wr ∧ costK c l i = t) (fun _ vi _ => n - (intOf vi).toNat)
      case atStart => exact ⟨0, 0, rfl, rfl, Nat.zero_le _, HQ2.out, rfl⟩
      case round =>
        clear HQ2
        obtain ⟨i, t, rfl, rfl, hi, q, ht⟩ := hrel
        have HQ := Lib.hid q
        have HTT := Lib.hid ht
        have tb := costK_bound HR.out l i
        rw [ht] at tb
        obtain ⟨tb1, tb2⟩ := tb
        clear q ht
        generalize wr = w5 at *
        by_cases hlt : i < n
        · have hin : (i : Int) < n := by omega
          have tb3 : t ≤ 17592186044416 := by omega
          obtain ⟨g, off, rfl, h4⟩ := H3.out (by omega)
          obtain ⟨x, hx⟩ : ∃ x, cl l i = x := ⟨_, rfl⟩
          have hxn := HA.out.lt hlt
          rw [hx] at hxn
          have hxz : (x : Int) < n := by omega
          have e0 := HQ.out.cell (h4 i _ (getD_at (by rw [HLL.out]; exact hlt)))
          rw [show l.getD i 0 = (x : Int) by rw [← hx]; unfold cl; have := (HA.out.at hlt).1; omega] at e0
          have HTX := Lib.hid (HT.out.own HQ.out)
          obtain ⟨gl, ol, cpl, gr, og, cr, he, _, _, e1, h5, h6, hcell⟩ := gt_row HTX.out HS.out HN.out hlt
          injection he with ea eb ec
          subst ea
          subst ec
          unfold maxLen at h6
          have e2 := hcell x hxn
          obtain ⟨u, hu⟩ : ∃ u, ct c i x = u := ⟨_, rfl⟩
          rw [hu] at e2
          have hub := okc_of HR.out i x
          rw [hu] at hub
          obtain ⟨hub1, hub2⟩ := hub
          have HNX := Lib.hid (show costK c l (i + 1) = t + u by
            have e : costK c l (i + 1) = costK c l i + ct c i (cl l i) := rfl
            rw [e, HTT.out, hx, hu])
          clear hcell h4 eb hx hu tb2
          go_upto_region 10 with (fail)
          go_quiet (fail)
          go_wp2
          go_roundw
          case rel => exact ⟨i + 1, t + u, by go_num, by go_num, hlt, HQ.out.drewN _, HNX.out⟩
          case measure => simp [intOf]; omega
        · obtain rfl : n = i := by omega
          obtain rfl : cost c l = t := by rw [← HTT.out]; unfold cost; rw [HN.out]
          go_wp2
          go_ret2
          exact ⟨rfl, HQ.out⟩
  · obtain rfl : 0 = m := by
      rw [← HM.out]
      unfold coV
      rw [if_neg fun q => h0 (by rw [← HH.out]; exact q.1)]
    obtain rfl : h = f := by
      rw [← HF.out]
      unfold coE
      rw [HH.out, if_neg h0]
    have d1 : (h == 0) = false := beq_eq_false_iff_ne.2 h0
    have d2 : (h != 0) = true := bne_iff_ne.2 h0
    go_enter Try.func21, Try.ntmps21
    go_wp2_with (go_at_call 11; refine hcall.mono ?_; rintro e w1 ⟨rfl, rfl⟩)
    go_ret2
    exact ⟨rfl, Own.refl _⟩
end Go.Proofs.Ytfhdoeajoeaddaa.AsgW
