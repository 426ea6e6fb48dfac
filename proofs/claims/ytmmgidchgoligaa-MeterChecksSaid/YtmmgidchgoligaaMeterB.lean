/-
  Walk of Where of the specification of package meter. Condition: none.
-/
import Derived.Test.YtmmgidchgoligaaMeterA
namespace Go.Proofs.Ytmmgidchgoligaa.MetW
open Go.ChangeShapes Go.WideShapes Go.ChangeAt Go.RowKit
open PairW MetP
theorem beat_div {ρ b u r : Int} (h : ρ = b * u + r) (b0 : 0 ≤ b) (r0 : 0 ≤ r) (hr : r < u) : ρ.tdiv u = b ∧ ρ.tmod u = r := by
  subst h
  have hu : 0 < u := by omega
  have hp : 0 ≤ b * u := Int.mul_nonneg b0 (by omega)
  refine ⟨?_, ?_⟩
  · rw [Int.tdiv_eq_ediv_of_nonneg (by omega), Int.add_comm, Int.add_mul_ediv_right _ _ (by omega), Int.ediv_eq_zero_of_lt r0 hr, Int.zero_add]
  · rw [Int.tmod_eq_emod_of_nonneg (by omega), Int.add_comm, Int.add_mul_emod_self_right, Int.emod_eq_of_lt r0 hr]
set_option maxRecDepth 100000 in
set_option maxHeartbeats 1000000 in
theorem rwhere_at (l : List Pt) (sv : Value) (t a b r : Int) (f : Int) (w : World) (HP : Hid (Pts w sv l)) (H : Hid (wE l t = f ∧ wV l t = (a, b, r))) :
    Calls Try.prog 18 #[sv, .int .i64 t] w fun e w' => e = .returned (.tuple #[.int .i64 a, .int .i64 b, .int .i64 r, .int .i64 f]) ∧ Own w w' := by
  obtain ⟨c, hc⟩ : ∃ c, chkE l = c := ⟨_, rfl⟩
  have HC := Lib.hid hc
  by_cases h0 : c = 0
  · subst h0
    obtain ⟨_, hl, ho, h4⟩ := chk_zero.1 hc
    obtain ⟨v, hv⟩ : ∃ v, tot l = v := ⟨_, rfl⟩
    have HV := Lib.hid hv
    have HO := Lib.hid ho
    by_cases h1 : 0 ≤ t ∧ t < v
    · obtain ⟨k1, b1, r1, hw, his⟩ := wV_is (wE_ok hc (by rw [hv]; exact h1))
      obtain rfl : 0 = f := by rw [← H.out.1, wE_ok hc (by rw [hv]; exact h1)]
      obtain ⟨rfl, rfl, rfl⟩ : (k1 : Int) = a ∧ b1 = b ∧ r1 = r := by
        have := hw.symm.trans H.out.2
        injection this with e1 e2
        injection e2 with e2 e3
        exact ⟨e1, e2, e3⟩
      have HIS := Lib.hid his
      have HLN := Lib.hid hl
      have hk1 := his.hk
      obtain ⟨s1, hs1⟩ : ∃ s, tot (l.take k1) = s := ⟨_, rfl⟩
      have HS1 := Lib.hid hs1
      have hs1b := tot_le ho k1
      rw [hs1, hv] at hs1b
      have hin := isW_in ho his
      rw [hs1] at hin
      obtain ⟨A, cap, rfl, ha1, ha2, ha⟩ := HP.out.open
      unfold maxLen at ha2
      obtain ⟨n, hn⟩ : ∃ n, l.length = n := ⟨_, rfl⟩
      rw [hn] at ha ha1 HP hk1 hl ⊢
      have HN := Lib.hid hn
      obtain ⟨bb, off, rfl, hcl⟩ := ha (by omega)
      have e1 := (hcl k1 hk1).2
      obtain ⟨⟨x, y⟩, hp⟩ : ∃ p, at' l k1 = p := ⟨_, rfl⟩
      obtain ⟨ρ, hρ⟩ : ∃ ρ, t - s1 = ρ := ⟨_, rfl⟩
      have hat := ok_at ho his.hk
      rw [hp] at e1 hat
      simp only at e1 hat
      have hd : ρ.tdiv y = b1 ∧ ρ.tmod y = r1 := by
        have w3 := his.ht
        have w4 := his.hr
        rw [hp] at w3 w4
        simp only at w3 w4
        exact beat_div (u := y) (by omega) his.b0 his.r0 w4
      obtain ⟨q1, q2⟩ := hd
      have q3 : b1 ≤ 16 := by have := his.hb; rw [hp] at this; simp only at this; omega
      have q4 : 0 ≤ b1 := his.b0
      have q5 : 0 ≤ r1 := his.r0
      have q6 : r1 < 96 := by have := his.hr; rw [hp] at this; simp only at this; omega
      have hyn : ¬ y = 0 := by omega
      have d1 : ¬ t < 0 := by omega
      have d2 : decide (v ≤ t) = false := decide_eq_false (by omega)
      have hv2 : v ≤ 8192 := by omega
      have i2 : IntKind.i64.wrap (t - s1) = ρ := by rw [hρ]; exact IntWalk.i64_in _ (by omega)
      have i3 : IntKind.i64.wrap b1 = b1 := IntWalk.i64_in _ (by omega)
      have i4 : IntKind.i64.wrap r1 = r1 := IntWalk.i64_in _ (by omega)
      have hl0 : l.length ≤ 128 := HLN.out
      have HTH := Lib.hid hin.1
      clear hc hv hw his ho ha hcl hn h4 H hs1 hin hp
      go_enter Try.func18, Try.ntmps18
      go_upto_region 6 with (first | (go_at_call 13; refine (rcheck_at l _ 0 _ HP HC).mono ?_; rintro e w1 ⟨rfl, g0⟩) | (go_at_call 28; refine (rtotal_at l _ v _ (Lib.hid (HP.out.own g0)) HO hl0 HV).mono ?_; rintro e w2 ⟨rfl, g2⟩))
      have g3 := g0.trans g2
      clear g0 g2
      go_wp2
      go_loopw [9] (fun v9 wr => ∃ k : Nat, v9 = .int .i64 (k : Int) ∧ k ≤ k1 ∧ Own w2 wr) (fun v9 _ => n - (intOf v9).toNat)
      case atStart => exact ⟨0, rfl, Nat.zero_le _, Own.refl w2⟩
      case round =>
        obtain ⟨k, rfl, hk, q0⟩ := hrel
        have hkn : k < n := by omega
        obtain ⟨s2, hs2⟩ : ∃ s, tot (l.take (k + 1)) = s := ⟨_, rfl⟩
        have HS2 := Lib.hid hs2
        have HO2 := Lib.hid (ok_take HO.out (k + 1))
        have hl2 : (l.take (k + 1)).length ≤ 128 := by rw [List.length_take]; have := HLN.out; omega
        have HT2 := Lib.hid ((pts_take HP.out (k := k + 1) (by rw [HN.out]; omega)).own (g3.trans q0))
        have j1 : IntKind.i64.wrap ((k : Int) + 1) = (k : Int) + 1 := IntWalk.i64_in _ (by omega)
        have j2 : 0 ≤ (k : Int) + 1 := by omega
        have j3 : ((k : Int) + 1).toNat = k + 1 := by omega
        have j4 : (k : Int) + 1 ≤ cap := by omega
        by_cases hts : s2 ≤ t
        · have hkk : k < k1 := by
            rcases Nat.lt_or_eq_of_le hk with e | e
            · exact e
            · subst e
              have := isW_in HO.out HIS.out
              omega
          clear hs2
          go_wp2_with (go_at_call 28; refine (rtotal_at (l.take (k + 1)) _ s2 _ HT2 HO2 hl2 HS2).mono ?_; rintro e w4 ⟨rfl, g4⟩)
          go_roundw
          case rel => exact ⟨k + 1, by go_num, hkk, q0.trans g4⟩
          case measure => simp [intOf]; omega
        · have hkk : k = k1 := by
            rcases Nat.lt_or_eq_of_le hk with e | e
            · have := tot_mono HO.out (i := k + 1) (j := k1) e
              have h5 := HS1.out
              have h6 := HTH.out
              omega
            · exact e
          subst hkk
          have HO1 := Lib.hid (ok_take HO.out k)
          have hl1 : (l.take k).length ≤ 128 := by rw [List.length_take]; have := HLN.out; omega
          have HT1 := Lib.hid ((pts_take HP.out (k := k) (by rw [HN.out]; omega)).own (g3.trans q0))
          have j5 : 0 ≤ (k : Int) := by omega
          have j6 : (k : Int) ≤ cap := by omega
          have j7 : (k : Int) < n := by omega
          have e2 := (g3.trans q0).cell e1
          have j8 : decide (s2 ≤ t) = false := decide_eq_false hts
          clear hs2
          go_upto_region 10 with (go_at_call 28; (first | (with_reducible refine (rtotal_at (l.take (k + 1)) _ s2 _ HT2 HO2 hl2 HS2).mono ?_; rintro e w4 ⟨rfl, g4⟩) | (with_reducible refine (rtotal_at (l.take k) _ s1 _ (Lib.hid (HT1.out.own g4)) HO1 hl1 HS1).mono ?_; rintro e w5 ⟨rfl, g5⟩; replace e2 := (g4.trans g5).cell e2)))
          go_quiet (fail)
          go_wp2
          exact bodyPost_ret (v := .tuple #[.int .i64 (k : Int), .int .i64 b1, .int .i64 r1, .int .i64 0]) (by simp [results, Try.results18, go_sem]) rfl ⟨rfl, ((g3.trans q0).trans (g4.trans g5)).drewN _⟩
    · obtain rfl : 1 = f := by rw [← H.out.1, wE_no hc (by rw [hv]; exact h1)]
      obtain ⟨rfl, rfl, rfl⟩ : 0 = a ∧ 0 = b ∧ 0 = r := by
        have := (wV_none (l := l) (i := t) (by rw [H.out.1]; decide)).symm.trans H.out.2
        injection this with e1 e2
        injection e2 with e2 e3
        exact ⟨e1, e2, e3⟩
      by_cases h : t < 0
      · clear hc hv h1 H ho
        go_enter Try.func18, Try.ntmps18
        go_wp2_with (go_at_call 13; refine (rcheck_at l _ 0 _ HP HC).mono ?_; rintro e w1 ⟨rfl, g0⟩)
        exact bodyPost_ret (v := .tuple #[.int .i64 0, .int .i64 0, .int .i64 0, .int .i64 1]) (by simp [results, Try.results18, go_sem]) rfl ⟨rfl, g0⟩
      · have h2 : v ≤ t := by omega
        clear hc hv h1 H ho
        go_enter Try.func18, Try.ntmps18
        go_wp2_with (first | (go_at_call 13; refine (rcheck_at l _ 0 _ HP HC).mono ?_; rintro e w1 ⟨rfl, g0⟩) | (go_at_call 28; refine (rtotal_at l _ v _ (Lib.hid (HP.out.own g0)) HO hl HV).mono ?_; rintro e w2 ⟨rfl, g2⟩))
        exact bodyPost_ret (v := .tuple #[.int .i64 0, .int .i64 0, .int .i64 0, .int .i64 1]) (by simp [results, Try.results18, go_sem]) rfl ⟨rfl, g0.trans g2⟩
  · obtain rfl : c = f := by rw [← H.out.1, wE_bad t (by rw [hc]; exact h0), hc]
    obtain ⟨rfl, rfl, rfl⟩ : 0 = a ∧ 0 = b ∧ 0 = r := by
      have := (wV_none (l := l) (i := t) (by rw [H.out.1]; exact h0)).symm.trans H.out.2
      injection this with e1 e2
      injection e2 with e2 e3
      exact ⟨e1, e2, e3⟩
    have d0 : (c != 0) = true := bne_iff_ne.2 h0
    clear hc H
    go_enter Try.func18, Try.ntmps18
    go_wp2_with (go_at_call 13; refine (rcheck_at l _ c _ HP HC).mono ?_; rintro e w1 ⟨rfl, g0⟩)
    exact bodyPost_ret (v := .tuple #[.int .i64 0, .int .i64 0, .int .i64 0, .int .i64 c]) (by simp [results, Try.results18, go_sem]) rfl ⟨rfl, g0⟩
end Go.Proofs.Ytmmgidchgoligaa.MetW
