/-
  Walk of the law CueExact. Condition: none.
-/
import Derived.Test.YtlepcahangkmiaaCueT
namespace Go.Proofs.Ytlepcahangkmiaa.CueW
open Go.ChangeShapes Go.WideShapes Go.ChangeAt Go.RowKit
open PairW CelW CueP
open TemP (mV Map whE whV)
set_option maxRecDepth 100000 in
set_option maxHeartbeats 2000000 in
theorem lexact_at (l : List Pt) (sv : Value) (w : World) (HP : Hid (Pts w sv l)) :
    Calls Try.prog 6 #[sv] w fun e w' => e = .returned (.bool true) ∧ PairW.Own w w' := by
  obtain ⟨A, cap, rfl, ha1, ha2, ha⟩ := HP.out.open
  unfold maxLen at ha2
  obtain ⟨n, hn⟩ : ∃ n, l.length = n := ⟨_, rfl⟩
  have HN := Lib.hid hn
  rw [hn] at ha1 ha HP ⊢
  have HA := Lib.hid ha
  obtain ⟨c, hc⟩ : ∃ c, fiE l = c := ⟨_, rfl⟩
  obtain ⟨M, hM⟩ : ∃ c, fiV l = c := ⟨_, rfl⟩
  have HF := Lib.hid (And.intro hc hM)
  have g0 := PairW.Own.refl w
  clear hn hc hM ha
  by_cases h1 : 80 < n
  · have d1 : (80 : Int) < n := by omega
    go_enter Try.func6, Try.ntmps6
    go_wp2_with (go_at_call 12; refine (awake_at _).mono ?_; rintro e w1 ⟨rfl, hg⟩; replace g0 : PairW.Own w w1 := g0.trans hg; clear hg)
    go_ret
    exact ⟨rfl, g0⟩
  have d1 : ¬ (80 : Int) < n := by omega
  by_cases h2 : c = 0
  case neg =>
    have d2 : (c != 0) = true := bne_iff_ne.2 h2
    obtain rfl : [] = M := by rw [← HF.out.2, fi_none (by rw [HF.out.1]; exact h2)]
    clear h2
    go_enter Try.func6, Try.ntmps6
    go_wp2_with (first
      | (go_at_call 13; refine (pfit_at l _ [] c _ (Lib.hid (HP.out.own g0)) HF).mono ?_; rintro e w1 ⟨s1, rfl, hr, hg⟩; obtain ⟨A1, c1, rfl⟩ := TemW.pair_shape hr; replace g0 : PairW.Own w w1 := g0.trans hg; clear hg hr)
      | (go_at_call 12; refine (awake_at _).mono ?_; rintro e w1 ⟨rfl, hg⟩; replace g0 : PairW.Own w w1 := g0.trans hg; clear hg))
    go_ret
    exact ⟨rfl, g0⟩
  subst h2
  obtain ⟨r1, r2, r3⟩ := fi_drift HF.out.1
  have hex := fun i (hi : i < l.length) => fi_exact HF.out.1 hi
  have hcu := cc_cues.1 (fi_parts HF.out.1).1
  have hmt := fi_map HF.out.1
  rw [HF.out.2] at r1 r2 r3 hex hmt
  have HEX := Lib.hid hex
  have HCU := Lib.hid hcu
  have HZERO := Lib.hid r2
  have HTC := Lib.hid (TemP.chk_map.2 hmt)
  have HD := Lib.hid (show drE l M = 0 ∧ drV l M = mp (drF l M) n from ⟨r1, by rw [(dr_some r1).1, HN.out]⟩)
  have HW := Lib.hid (show drE l M = 0 ∧ woV l M = 0 from ⟨r1, r3⟩)
  have hn0 : 2 ≤ n := by rw [← HN.out]; exact hcu.n0
  obtain ⟨sb, so, rfl, hcc⟩ := HA.out (by omega)
  have HCC := Lib.hid hcc
  obtain ⟨z0, hz0⟩ : ∃ z, (at' l 0).2 = z := ⟨_, rfl⟩
  have HZ := Lib.hid hz0
  have E0 := Lib.hid (show w.cell? ⟨sb, so + 1, none⟩ = some (.int .i64 z0) by have := (hcc 0 (by omega)).2; rw [hz0] at this; simpa using this)
  obtain ⟨D, hD⟩ : ∃ D, drF l M = D := ⟨_, rfl⟩
  rw [hD] at HD HZERO
  have hnn : (0 : Int) < n := by omega
  clear r1 r2 r3 hex hcu hmt hcc hz0 hD HA
  go_enter Try.func6, Try.ntmps6
  go_wp2_with (first
    | (go_at_call 13; refine (pfit_at l _ M 0 _ (Lib.hid (HP.out.own g0)) HF).mono ?_; rintro e w1 ⟨s1, rfl, hr, hg⟩; have HX := Lib.hid (pts_of_row hr); replace g0 : PairW.Own w w1 := g0.trans hg; clear hg hr)
    | (go_at_call 16; refine (pdrift_at l M _ _ _ 0 _ (Lib.hid (HP.out.own g0)) HX HD).mono ?_; rintro e w2 ⟨s2, rfl, hr, hg⟩; rw [mp_len] at hr; have HY := Lib.hid (cel_of_row hr); obtain ⟨A2, c2, rfl⟩ := rows_shape hr; replace HX := Lib.hid (HX.out.own hg); replace g0 : PairW.Own w w2 := g0.trans hg; clear hg hr)
    | (go_at_call 18; refine (pworst_at l M _ _ 0 0 _ (Lib.hid (HP.out.own g0)) HX HW).mono ?_; rintro e w3 ⟨rfl, hg⟩; replace HX := Lib.hid (HX.out.own hg); replace HY := Lib.hid (HY.out.own hg); replace g0 : PairW.Own w w3 := g0.trans hg; clear hg))
  obtain ⟨db, do', rfl, hdc⟩ := ints_at HY.out (by omega)
  have HDC := Lib.hid (fun k (hk : k < n) => show w3.cell? ⟨db, do' + k, none⟩ = some (.int .i64 0) by rw [hdc k hk, HZERO.out k (by rw [HN.out]; exact hk)])
  obtain ⟨wq, hwq⟩ : ∃ wq, w3 = wq := ⟨_, rfl⟩
  rw [hwq] at HDC HX g0 ⊢
  clear hwq hdc HY
  go_loopw [9] (fun vi wr => ∃ k : Nat, vi = .int .i64 (k : Int) ∧ k ≤ n ∧ PairW.Own wq wr) (fun vi _ => n - (intOf vi).toNat)
  case atStart => exact ⟨0, rfl, Nat.zero_le _, PairW.Own.refl wq⟩
  case round =>
    obtain ⟨k, rfl, hk, q0⟩ := hrel
    have q1 := g0.trans q0
    by_cases hlt : k < n
    · have hkl : k < l.length := by rw [HN.out]; exact hlt
      have hb := HCU.out.bd hkl
      have hb0 := HCU.out.bd (i := 0) (by omega)
      have hex := HEX.out k hkl
      have c0 := q1.cell (HCC.out k hlt).1
      have F1 := Lib.hid (HCC.out k hlt).2
      have F2 := Lib.hid (HDC.out k hlt)
      obtain ⟨⟨x, u⟩, hx⟩ : ∃ p, at' l k = p := ⟨_, rfl⟩
      rw [hx] at c0 hb hex F1
      rw [HZ.out] at hex hb0
      simp only at c0 hb hex F1
      obtain ⟨m, hmm⟩ : ∃ m, u - z0 = m := ⟨_, rfl⟩
      rw [hmm] at hex
      have HWH := Lib.hid (show whE M x = 0 ∧ whV M x = m by have := TemP.wh_ok (l := M) (t := x) HTC.out hb.1; rw [hex] at this; exact this)
      obtain ⟨⟨p1, p2⟩, p3, p4⟩ := hb
      obtain ⟨-, p5, p6⟩ := hb0
      have i1 : IntKind.i64.wrap (u - z0) = m := (IntWalk.i64_in _ (by omega)).trans hmm
      have i2 : (m != m) = false := by simp
      have hkn : (k : Int) < n := by omega
      have hn00 : 0 < n := by omega
      clear hx hmm hex hkl
      go_upto_region 14 with (go_at_call 21; refine (TemW.pWhen_at M _ x m 0 _ (Lib.hid (HX.out.own q0)) HWH).mono ?_; rintro e w5 ⟨rfl, hg⟩; replace q0 := q0.trans hg; replace q1 := q1.trans hg; clear hg)
      have c1 := q1.cell F1.out
      have c2 := q1.cell E0.out
      have c3 := q0.cell F2.out
      go_quiet (fail)
      go_wp2
      go_roundw
      case rel => exact ⟨k + 1, by go_num, hlt, q0.drewN _⟩
      case measure => simp [intOf]; omega
    · obtain rfl : k = n := by omega
      go_wp2_with (go_at_call 12; refine (awake_at _).mono ?_; rintro e w1 ⟨rfl, hg⟩; replace q1 : PairW.Own w w1 := q1.trans hg; clear hg)
      go_ret
      exact ⟨rfl, q1⟩
end Go.Proofs.Ytlepcahangkmiaa.CueW
