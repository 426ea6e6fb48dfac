/-
  Walks of the laws TempoSame and TempoTimes. Condition: none.
-/
import Derived.Test.YtpgeiflbmcjaaaaTempoT
namespace Go.Proofs.Ytpgeiflbmcjaaaa.TemW
open Go.ChangeShapes Go.WideShapes Go.ChangeAt Go.RowKit
open PairW CelW TemP
set_option maxRecDepth 100000 in
set_option maxHeartbeats 2000000 in
theorem lsame_at (l : List Pt) (sv : Value) (t : Int) (w : World) (HP : Hid (Pts w sv l)) :
    Calls Try.prog 9 #[sv, .int .i64 t] w fun e w' => e = .returned (.bool true) ∧ Own w w' := by
  obtain ⟨c, hc⟩ : ∃ c, chkE l = c := ⟨_, rfl⟩
  have HC := Lib.hid hc
  have g0 := Own.refl w
  by_cases h0 : c = 0
  case neg =>
    have d0 : (c != 0) = true := bne_iff_ne.2 h0
    clear hc
    go_enter Try.func9, Try.ntmps9
    go_wp2_with (first
      | (go_at_call 12; refine (pcheck_at l _ c _ (Lib.hid (HP.out.own g0)) HC).mono ?_; rintro e w1 ⟨rfl, hg⟩; replace g0 : Own w w1 := g0.trans hg; clear hg)
      | (go_at_call 13; refine (awake_any _).mono ?_; rintro e w1 ⟨rfl, hg⟩; replace g0 : Own w w1 := g0.trans hg; clear hg))
    go_ret
    exact ⟨rfl, g0⟩
  subst h0
  by_cases h1 : t < 0
  case pos =>
    clear hc
    go_enter Try.func9, Try.ntmps9
    go_wp2_with (first
      | (go_at_call 12; refine (pcheck_at l _ 0 _ (Lib.hid (HP.out.own g0)) HC).mono ?_; rintro e w1 ⟨rfl, hg⟩; replace g0 : Own w w1 := g0.trans hg; clear hg)
      | (go_at_call 13; refine (awake_any _).mono ?_; rintro e w1 ⟨rfl, hg⟩; replace g0 : Own w w1 := g0.trans hg; clear hg))
    go_ret
    exact ⟨rfl, g0⟩
  by_cases h2 : 8192 < t
  case pos =>
    clear hc
    go_enter Try.func9, Try.ntmps9
    go_wp2_with (first
      | (go_at_call 12; refine (pcheck_at l _ 0 _ (Lib.hid (HP.out.own g0)) HC).mono ?_; rintro e w1 ⟨rfl, hg⟩; replace g0 : Own w w1 := g0.trans hg; clear hg)
      | (go_at_call 13; refine (awake_any _).mono ?_; rintro e w1 ⟨rfl, hg⟩; replace g0 : Own w w1 := g0.trans hg; clear hg))
    go_ret
    exact ⟨rfl, g0⟩
  have hm := chk_map.1 hc
  obtain ⟨M, hM⟩ : ∃ M, nmV l = M := ⟨_, rfl⟩
  have hq := nm_map hc
  have hql := nm_len l
  rw [hM] at hq hql
  obtain ⟨hqm, hqs, hqt⟩ := hq
  obtain ⟨m, hmm⟩ : ∃ m, mV l t = m := ⟨_, rfl⟩
  have HNM := Lib.hid (show chkE l = 0 ∧ nmV l = M from ⟨hc, hM⟩)
  have HCM := Lib.hid (show chkE M = 0 from chk_map.2 hqm)
  have HW := Lib.hid (show whE l t = 0 ∧ whV l t = m by have := wh_ok (t := t) hc (by omega); rw [hmm] at this; exact this)
  have HWM := Lib.hid (show chkE M = 0 ∧ (0 ≤ t ∧ t ≤ 8192) ∧ mV M t = m from ⟨chk_map.2 hqm, by omega, by rw [hqt t (by omega)]; exact hmm⟩)
  have HQS := Lib.hid hqs
  obtain ⟨A, cap, rfl, ha1, ha2, _⟩ := HP.out.open
  unfold maxLen at ha2
  obtain ⟨K, hK⟩ : ∃ K, l.length = K := ⟨_, rfl⟩
  obtain ⟨z, hz⟩ : ∃ z, M.length = z := ⟨_, rfl⟩
  have hz0 : 0 < z := by rw [← hz]; exact hqm.n0
  have hz1 : z ≤ 64 := by rw [← hz]; exact hqm.n1
  have HZ := Lib.hid hz
  rw [hK] at ha1 HP hql ⊢
  rw [hz] at hql
  have x1 : ¬ (K : Int) < z := by omega
  clear hc hm hM hmm hqm hqs hqt hK hz
  go_enter Try.func9, Try.ntmps9
  go_upto_region 4 with (first
    | (go_at_call 12; refine (pcheck_at l _ 0 _ (Lib.hid (HP.out.own g0)) HC).mono ?_; rintro e w1 ⟨rfl, hg⟩; replace g0 : Own w w1 := g0.trans hg; clear hg)
    | (go_at_call 16; refine (pnorm_at l _ M 0 _ (Lib.hid (HP.out.own g0)) HNM).mono ?_; rintro e w1 ⟨s1, rfl, hr, hg⟩; have HX := Lib.hid (pts_of_row hr); rw [HZ.out] at hr; obtain ⟨A1, c1, rfl⟩ := pair_shape hr; replace g0 : Own w w1 := g0.trans hg; clear hg hr))
  obtain ⟨A2, c2, hv, hb1, hb2, hcc⟩ := HX.out.open
  rw [HZ.out] at hv hb1 hcc
  injection hv with e1 e2 e3
  subst e1
  subst e3
  clear e2
  obtain ⟨b, off, rfl, hc2⟩ := hcc hz0
  unfold maxLen at hb2
  have HCC := Lib.hid hc2
  clear hcc hc2
  obtain ⟨wq, hwq⟩ : ∃ wq, w1 = wq := ⟨_, rfl⟩
  rw [hwq] at HX HCC g0 ⊢
  clear hwq
  have q0 := Own.refl wq
  go_wp2_with (go_at_call 12; refine (pcheck_at M _ 0 _ HX HCM).mono ?_; rintro e w2 ⟨rfl, hg⟩; replace q0 : Own wq w2 := q0.trans hg; clear hg)
  go_loopw [7] (fun vi wr => ∃ k : Nat, vi = .int .i64 (k : Int) ∧ 1 ≤ k ∧ k ≤ z ∧ Own wq wr) (fun vi _ => z - (intOf vi).toNat)
  case atStart => exact ⟨1, rfl, Nat.le_refl _, by omega, q0⟩
  case round =>
    obtain ⟨k, rfl, hk1, hk, q1⟩ := hrel
    by_cases hlt : k < z
    · obtain ⟨j, hj⟩ : ∃ j, k = j + 1 := ⟨k - 1, by omega⟩
      have e0 := q1.cell (HCC.out k hlt).2
      have e1 := q1.cell (HCC.out j (by omega)).2
      have hne := HQS.out j (by rw [HZ.out]; omega)
      rw [← hj] at hne
      obtain ⟨x, hx⟩ : ∃ x, (at' M k).2 = x := ⟨_, rfl⟩
      obtain ⟨y, hy⟩ : ∃ x, (at' M j).2 = x := ⟨_, rfl⟩
      rw [hx] at e0 hne
      rw [hy] at e1 hne
      have hkn : (k : Int) < z := by omega
      have i1 : IntKind.i64.wrap ((k : Int) - 1) = (j : Int) := (IntWalk.i64_in _ (by omega)).trans (by omega)
      have d5 : (0 : Int) ≤ (j : Int) := by omega
      have d6 : (j : Int) < z := by omega
      have d7 : (x == y) = false := beq_eq_false_iff_ne.2 hne
      clear hx hy hj hne
      go_upto_region 9 with (fail)
      go_quiet (fail)
      go_wp2
      go_roundw
      case rel => exact ⟨k + 1, by go_num, by omega, hlt, q1.drewN _⟩
      case measure => simp [intOf]; omega
    · obtain rfl : k = z := by omega
      have q2 := g0.trans q1
      have HX2 := Lib.hid (HX.out.own q1)
      go_wp2_with (first
        | (go_at_call 14; refine (pWhen_at l _ t m 0 _ (Lib.hid (HP.out.own q2)) HW).mono ?_; rintro e w1 ⟨rfl, hg⟩; replace HX2 := Lib.hid (HX2.out.own hg); replace q2 : Own w w1 := q2.trans hg; clear hg)
        | (go_at_call 26; refine (when_at M _ t m _ HX2 HWM).mono ?_; rintro e w1 ⟨rfl, hg⟩; replace q2 : Own w w1 := q2.trans hg; clear hg)
        | (go_at_call 13; refine (awake_any _).mono ?_; rintro e w1 ⟨rfl, hg⟩; replace q2 : Own w w1 := q2.trans hg; clear hg))
      go_ret
      exact ⟨rfl, q2⟩
set_option maxRecDepth 100000 in
set_option maxHeartbeats 2000000 in
theorem ltimes_at (l : List Pt) (sv : Value) (p t : Int) (w : World) (HP : Hid (Pts w sv l)) :
    Calls Try.prog 10 #[sv, .int .i64 p, .int .i64 t] w fun e w' => e = .returned (.bool true) ∧ Own w w' := by
  obtain ⟨c, hc⟩ : ∃ c, chkE l = c := ⟨_, rfl⟩
  have HC := Lib.hid hc
  have g0 := Own.refl w
  by_cases h0 : c = 0
  case neg =>
    have d0 : (c != 0) = true := bne_iff_ne.2 h0
    clear hc
    go_enter Try.func10, Try.ntmps10
    go_wp2_with (first
      | (go_at_call 12; refine (pcheck_at l _ c _ (Lib.hid (HP.out.own g0)) HC).mono ?_; rintro e w1 ⟨rfl, hg⟩; replace g0 : Own w w1 := g0.trans hg; clear hg)
      | (go_at_call 13; refine (awake_any _).mono ?_; rintro e w1 ⟨rfl, hg⟩; replace g0 : Own w w1 := g0.trans hg; clear hg))
    go_ret
    exact ⟨rfl, g0⟩
  subst h0
  by_cases h1 : p < 1
  case pos =>
    clear hc
    go_enter Try.func10, Try.ntmps10
    go_wp2_with (first
      | (go_at_call 12; refine (pcheck_at l _ 0 _ (Lib.hid (HP.out.own g0)) HC).mono ?_; rintro e w1 ⟨rfl, hg⟩; replace g0 : Own w w1 := g0.trans hg; clear hg)
      | (go_at_call 13; refine (awake_any _).mono ?_; rintro e w1 ⟨rfl, hg⟩; replace g0 : Own w w1 := g0.trans hg; clear hg))
    go_ret
    exact ⟨rfl, g0⟩
  by_cases h2 : 1000 < p
  case pos =>
    clear hc
    go_enter Try.func10, Try.ntmps10
    go_wp2_with (first
      | (go_at_call 12; refine (pcheck_at l _ 0 _ (Lib.hid (HP.out.own g0)) HC).mono ?_; rintro e w1 ⟨rfl, hg⟩; replace g0 : Own w w1 := g0.trans hg; clear hg)
      | (go_at_call 13; refine (awake_any _).mono ?_; rintro e w1 ⟨rfl, hg⟩; replace g0 : Own w w1 := g0.trans hg; clear hg))
    go_ret
    exact ⟨rfl, g0⟩
  by_cases h3 : t < 0
  case pos =>
    clear hc
    go_enter Try.func10, Try.ntmps10
    go_wp2_with (first
      | (go_at_call 12; refine (pcheck_at l _ 0 _ (Lib.hid (HP.out.own g0)) HC).mono ?_; rintro e w1 ⟨rfl, hg⟩; replace g0 : Own w w1 := g0.trans hg; clear hg)
      | (go_at_call 13; refine (awake_any _).mono ?_; rintro e w1 ⟨rfl, hg⟩; replace g0 : Own w w1 := g0.trans hg; clear hg))
    go_ret
    exact ⟨rfl, g0⟩
  by_cases h4 : 8192 < t
  case pos =>
    clear hc
    go_enter Try.func10, Try.ntmps10
    go_wp2_with (first
      | (go_at_call 12; refine (pcheck_at l _ 0 _ (Lib.hid (HP.out.own g0)) HC).mono ?_; rintro e w1 ⟨rfl, hg⟩; replace g0 : Own w w1 := g0.trans hg; clear hg)
      | (go_at_call 13; refine (awake_any _).mono ?_; rintro e w1 ⟨rfl, hg⟩; replace g0 : Own w w1 := g0.trans hg; clear hg))
    go_ret
    exact ⟨rfl, g0⟩
  have hm := chk_map.1 hc
  have HM := Lib.hid hm
  have hp : 1 ≤ p ∧ p ≤ 1000 := by omega
  have HPP := Lib.hid hp
  obtain ⟨m, hmm⟩ : ∃ m, mV l t = m := ⟨_, rfl⟩
  have hmb := mV_bound hm (t := t) (by omega)
  rw [hmm] at hmb
  have mb := TemP.mul_bd (a := m) (b := p) (m := 1000) (by omega) hp.1 hp.2
  have i1 : IntKind.i64.wrap (m * p) = m * p := IntWalk.i64_in _ (by omega)
  have HSS := Lib.hid (sc_same hc hp)
  have HTI := Lib.hid (fun hb => sc_times hc hp hb)
  have HOV := Lib.hid (fun k hk hb => sc_over hc hp (k := k) hk hb)
  obtain ⟨f, hf⟩ : ∃ f, scE l p 1 = f := ⟨_, rfl⟩
  obtain ⟨M, hM⟩ : ∃ M, scV l p 1 = M := ⟨_, rfl⟩
  have HS1 := Lib.hid (And.intro hf hM)
  have HW := Lib.hid (show whE l t = 0 ∧ whV l t = m by have := wh_ok (t := t) hc (by omega); rw [hmm] at this; exact this)
  have HMM := Lib.hid hmm
  obtain ⟨A, cap, rfl, ha1, ha2, ha⟩ := HP.out.open
  obtain ⟨b, off, rfl, hcc⟩ := ha hm.n0
  unfold maxLen at ha2
  obtain ⟨K, hK⟩ : ∃ K, l.length = K := ⟨_, rfl⟩
  have HK := Lib.hid hK
  obtain ⟨z, hz⟩ : ∃ z, M.length = z := ⟨_, rfl⟩
  have HZ := Lib.hid hz
  rw [hK] at hcc ha1 HP ⊢
  have HCC := Lib.hid hcc
  have tok1 : True := trivial
  clear hc hm hmm hmb mb hf hM ha hcc hK hz hp
  go_enter Try.func10, Try.ntmps10
  go_wp2_with (first
    | (go_at_call 12; refine (pcheck_at l _ 0 _ (Lib.hid (HP.out.own g0)) HC).mono ?_; rintro e w1 ⟨rfl, hg⟩; replace g0 : Own w w1 := g0.trans hg; clear hg)
    | (go_at_call 17; have _t := tok1; refine (pscaled_at l _ p p l 0 _ (Lib.hid (HP.out.own g0)) HSS).mono ?_; rintro e w1 ⟨s1, rfl, hr, hg⟩; have HX := Lib.hid (pts_of_row hr); replace g0 : Own w w1 := g0.trans hg; clear hg hr tok1)
    | (go_at_call 22; refine (rsame_yes l _ _ _ HX (Lib.hid (HP.out.own g0))).mono ?_; rintro e w1 ⟨rfl, hg⟩; replace g0 : Own w w1 := g0.trans hg; clear hg HX)
    | (go_at_call 17; refine (pscaled_at l _ p 1 M f _ (Lib.hid (HP.out.own g0)) HS1).mono ?_; rintro e w1 ⟨s2, rfl, hr, hg⟩; have HY := Lib.hid (pts_of_row hr); rw [HZ.out] at hr; obtain ⟨A1, c1, rfl⟩ := pair_shape hr; replace g0 : Own w w1 := g0.trans hg; clear hg hr))
  obtain ⟨wq, hwq⟩ : ∃ wq, w1 = wq := ⟨_, rfl⟩
  rw [hwq] at HY g0 ⊢
  clear hwq
  go_loopw [11] (fun vi wr => ∃ k : Nat, vi = .int .i64 (k : Int) ∧ k ≤ K ∧ Own wq wr ∧ ∀ i, i < k → (at' l i).2 * p ≤ 4194304) (fun vi _ => K - (intOf vi).toNat)
  case atStart => exact ⟨0, rfl, Nat.zero_le _, Own.refl wq, fun i hi => absurd hi (Nat.not_lt_zero _)⟩
  case round =>
    obtain ⟨k, rfl, hk, q1, hsm⟩ := hrel
    have HSM := Lib.hid hsm
    clear hsm
    by_cases hlt : k < K
    · have e0 := (g0.trans q1).cell (HCC.out k hlt).2
      have hkl : k < l.length := by rw [HK.out]; exact hlt
      have ho := ok_at HM.out.ok hkl
      obtain ⟨x, hx⟩ : ∃ x, (at' l k).2 = x := ⟨_, rfl⟩
      have HX := Lib.hid hx
      rw [hx] at e0 ho
      have b1 := TemP.mul_bd (a := x) (b := p) (m := 1000) (by omega) HPP.out.1 HPP.out.2
      have i2 : IntKind.i64.wrap (x * p) = x * p := IntWalk.i64_in _ (by omega)
      have hkn : (k : Int) < K := by omega
      clear hx ho b1
      by_cases hb : 4194304 < x * p
      · obtain ⟨f1, f2⟩ := HOV.out k hkl (by rw [HX.out]; exact hb)
        obtain rfl : 1 = f := f1.symm.trans HS1.out.1
        obtain rfl : 0 = z := by rw [← HZ.out, ← HS1.out.2, f2]; rfl
        have q2 := g0.trans q1
        clear hkl f1 f2
        go_wp2_with (go_at_call 13; refine (awake_any _).mono ?_; rintro e w1 ⟨rfl, hg⟩; replace q2 : Own w w1 := q2.trans hg; clear hg)
        go_ret
        exact ⟨rfl, q2⟩
      · go_wp2
        go_roundw
        case rel => exact ⟨k + 1, by go_num, hlt, q1, fun i hi => by
          by_cases e : i = k
          · rw [e, HX.out]; omega
          · exact HSM.out i (by omega)⟩
        case measure => simp [intOf]; omega
    · obtain rfl : k = K := by omega
      obtain ⟨f1, f2, f3, f4⟩ := HTI.out (fun i hi => HSM.out i (by rw [← HK.out]; exact hi))
      obtain rfl : 0 = f := f1.symm.trans HS1.out.1
      have hMM : sc p 1 l = M := f2.symm.trans HS1.out.2
      have HWM := Lib.hid (show chkE M = 0 ∧ (0 ≤ t ∧ t ≤ 8192) ∧ mV M t = m * p from ⟨by rw [← hMM]; exact chk_map.2 f3, by omega, by rw [← hMM, f4 t (by omega), HMM.out]⟩)
      have HY2 := Lib.hid (HY.out.own q1)
      have q2 := g0.trans q1
      clear f1 f2 f3 f4 hMM
      go_wp2_with (first
        | (go_at_call 14; refine (pWhen_at l _ t m 0 _ (Lib.hid (HP.out.own q2)) HW).mono ?_; rintro e w1 ⟨rfl, hg⟩; replace HY2 := Lib.hid (HY2.out.own hg); replace q2 : Own w w1 := q2.trans hg; clear hg)
        | (go_at_call 26; refine (when_at M _ t (m * p) _ HY2 HWM).mono ?_; rintro e w1 ⟨rfl, hg⟩; replace q2 : Own w w1 := q2.trans hg; clear hg)
        | (go_at_call 13; refine (awake_any _).mono ?_; rintro e w1 ⟨rfl, hg⟩; replace q2 : Own w w1 := q2.trans hg; clear hg))
      go_ret
      exact ⟨rfl, q2⟩
end Go.Proofs.Ytpgeiflbmcjaaaa.TemW
