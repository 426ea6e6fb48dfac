/-
  Walks of the specification of layer aim: Of, Mirror, Notate, Vector. Condition: none.
-/
import Derived.Test.YtneobaininejaaaDoorAimA
import Derived.Test.YtneobaininejaaaDoorAimPC
import Derived.Test.YtneobaininejaaaDoorDirA
namespace Go.Proofs.YtneobaininejaaaDoor.AimW
open Go.ChangeShapes Go.WideShapes Go.ChangeAt Go.RowKit
open PairW AimP BlkW
set_option maxRecDepth 100000 in
set_option maxHeartbeats 2000000 in
theorem rof_at (l d v b x y u c : Int) (w : World) (H : Hid (ofZ l d v b = x ∧ ofL l d v b = y ∧ ofB l d v b = u ∧ ofE l d v b = c)) :
    Calls Tryd.prog 29 #[.int .i64 l, .agg #[.int .i64 d, .int .i64 v, .int .i64 b]] w fun r w' => r = .returned (.tuple #[.agg #[.int .i64 x, .int .i64 y, .int .i64 u], .int .i64 c]) ∧ Own w w' := by
  obtain ⟨h1, h2, h3, h4⟩ := H.out
  clear H
  by_cases k1 : 0 ≤ l ∧ l ≤ 5
  · have HL := Lib.hid ((limb_iff l).2 k1)
    by_cases k2 : (0 ≤ d ∧ d ≤ 8) ∧ -1 ≤ v ∧ v ≤ 1
    · have HK := Lib.hid (show DirP.chk d v = 0 from if_pos k2)
      by_cases k3 : 0 ≤ b ∧ b ≤ 6
      · have d0 : decide (b < 0) = false := decide_eq_false (by omega)
        have d1 : decide (6 < b) = false := decide_eq_false (by omega)
        by_cases k4 : d = 0
        · subst k4
          have t : v = 0 ∨ v = -1 ∨ v = 1 := by omega
          rcases t with rfl | rfl | rfl
          · have e0 : ofE l 0 0 b = 18 := by unfold ofE; rw [if_pos k1, if_pos k2, if_pos k3, if_pos ⟨rfl, Or.inl rfl⟩]
            obtain rfl : 18 = c := e0.symm.trans h4
            obtain ⟨n1, n2, n3⟩ := of_nul (l := l) (d := 0) (v := 0) (b := b) (by rw [e0]; decide)
            obtain rfl := n1.symm.trans h1
            obtain rfl := n2.symm.trans h2
            obtain rfl := n3.symm.trans h3
            clear h1 h2 h3 h4 n1 n2 n3 e0
            clear k1 k2 k3
            go_enter Tryd.func29, Tryd.ntmps29
            go_wp2_with (first | (go_at_call 63; with_reducible refine (ril_at l true _ HL).mono ?_; rintro r w1 ⟨rfl, rfl⟩) | (go_at_call 64; with_reducible refine (DirW.rcheck_at _ _ 0 _ HK).mono ?_; rintro r w1 ⟨rfl, rfl⟩))
            exact bodyPost_ret (v := .tuple #[.agg #[.int .i64 0, .int .i64 0, .int .i64 0], .int .i64 18]) (by simp [results, Tryd.results29, go_sem]) rfl ⟨rfl, by repeat (first | exact Own.refl w | apply Own.alloc | refine Own.setCell ?_ (by simp) _)⟩
          · by_cases k5 : l = 2 ∨ l = 5
            · have e0 : ofE l 0 (-1) b = 18 := by unfold ofE; rw [if_pos k1, if_pos k2, if_pos k3, if_pos ⟨rfl, Or.inr ⟨rfl, k5⟩⟩]
              obtain rfl : 18 = c := e0.symm.trans h4
              obtain ⟨n1, n2, n3⟩ := of_nul (l := l) (d := 0) (v := (-1)) (b := b) (by rw [e0]; decide)
              obtain rfl := n1.symm.trans h1
              obtain rfl := n2.symm.trans h2
              obtain rfl := n3.symm.trans h3
              clear h1 h2 h3 h4 n1 n2 n3 e0
              clear k1 k2 k3
              rcases k5 with rfl | rfl
              all_goals
                go_enter Tryd.func29, Tryd.ntmps29
                go_wp2_with (first | (go_at_call 63; with_reducible refine (ril_at _ true _ HL).mono ?_; rintro r w1 ⟨rfl, rfl⟩) | (go_at_call 64; with_reducible refine (DirW.rcheck_at _ _ 0 _ HK).mono ?_; rintro r w1 ⟨rfl, rfl⟩))
                exact bodyPost_ret (v := .tuple #[.agg #[.int .i64 0, .int .i64 0, .int .i64 0], .int .i64 18]) (by simp [results, Tryd.results29, go_sem]) rfl ⟨rfl, by repeat (first | exact Own.refl w | apply Own.alloc | refine Own.setCell ?_ (by simp) _)⟩
            · have e0 : ofE l 0 (-1) b = 0 := of_ok k1 k2 k3 (fun _ => ⟨Or.inr rfl, fun _ => by omega⟩)
              have l2 : (l == 2) = false := beq_eq_false_iff_ne.2 (by omega)
              have l5 : (l == 5) = false := beq_eq_false_iff_ne.2 (by omega)
              obtain ⟨n1, n2, n3⟩ := of_vals e0
              obtain rfl : 0 = c := e0.symm.trans h4
              obtain rfl : 0 = x := n1.symm.trans h1
              obtain rfl : -64 = y := n2.symm.trans h2
              obtain rfl := n3.symm.trans h3
              clear h1 h2 h3 h4 n1 n2 n3 e0
              clear k1 k2 k3 k5
              go_enter Tryd.func29, Tryd.ntmps29
              go_wp2_with (first | (go_at_call 63; with_reducible refine (ril_at l true _ HL).mono ?_; rintro r w1 ⟨rfl, rfl⟩) | (go_at_call 64; with_reducible refine (DirW.rcheck_at _ _ 0 _ HK).mono ?_; rintro r w1 ⟨rfl, rfl⟩))
              exact bodyPost_ret (v := .tuple #[.agg #[.int .i64 0, .int .i64 (-64), .int .i64 b], .int .i64 0]) (by simp [results, Tryd.results29, go_sem]) rfl ⟨rfl, by repeat (first | exact Own.refl w | apply Own.alloc | refine Own.setCell ?_ (by simp) _)⟩
          · have e0 : ofE l 0 1 b = 0 := of_ok k1 k2 k3 (fun _ => ⟨Or.inl rfl, fun x => absurd x (by decide)⟩)
            obtain ⟨n1, n2, n3⟩ := of_vals e0
            obtain rfl : 0 = c := e0.symm.trans h4
            obtain rfl : 0 = x := n1.symm.trans h1
            obtain rfl : 64 = y := n2.symm.trans h2
            obtain rfl := n3.symm.trans h3
            clear h1 h2 h3 h4 n1 n2 n3 e0
            clear k1 k2 k3
            go_enter Tryd.func29, Tryd.ntmps29
            go_wp2_with (first | (go_at_call 63; with_reducible refine (ril_at l true _ HL).mono ?_; rintro r w1 ⟨rfl, rfl⟩) | (go_at_call 64; with_reducible refine (DirW.rcheck_at _ _ 0 _ HK).mono ?_; rintro r w1 ⟨rfl, rfl⟩))
            exact bodyPost_ret (v := .tuple #[.agg #[.int .i64 0, .int .i64 64, .int .i64 b], .int .i64 0]) (by simp [results, Tryd.results29, go_sem]) rfl ⟨rfl, by repeat (first | exact Own.refl w | apply Own.alloc | refine Own.setCell ?_ (by simp) _)⟩
        · have e0 : ofE l d v b = 0 := of_ok k1 k2 k3 (fun x => absurd x k4)
          obtain ⟨n1, n2, n3⟩ := of_vals e0
          rw [if_neg k4] at n1 n2
          obtain rfl : 0 = c := e0.symm.trans h4
          obtain ⟨q, hq⟩ : ∃ q, d - 1 = q := ⟨_, rfl⟩
          rw [hq] at n1
          have HQ := Lib.hid (show DirP.eigV d = q ∧ DirP.eigE d = 0 by rw [← hq]; unfold DirP.eigV DirP.eigE; rw [if_pos (by omega), if_pos k2.1, if_neg k4]; exact ⟨rfl, rfl⟩)
          have hq1 : 0 ≤ q ∧ q ≤ 7 := by omega
          have j1 : IntKind.i64.wrap (32 * q) = x := by rw [IntWalk.i64_in _ (by omega)]; exact n1.symm.trans h1
          have j2 : IntKind.i64.wrap (32 * v) = y := by rw [IntWalk.i64_in _ (by omega)]; exact n2.symm.trans h2
          obtain rfl := n3.symm.trans h3
          have kd : (d != 0) = true := bne_iff_ne.2 k4
          clear h1 h2 h3 h4 k1 k2 k3 k4 n1 n2 n3 e0 hq hq1
          go_enter Tryd.func29, Tryd.ntmps29
          go_wp2_with (first | (go_at_call 63; with_reducible refine (ril_at l true _ HL).mono ?_; rintro r w1 ⟨rfl, rfl⟩) | (go_at_call 64; with_reducible refine (DirW.rcheck_at _ _ 0 _ HK).mono ?_; rintro r w1 ⟨rfl, rfl⟩) | (go_at_call 65; with_reducible refine (DirW.reighth_at d q 0 _ HQ).mono ?_; rintro r w1 ⟨rfl, rfl⟩))
          exact bodyPost_ret (v := .tuple #[.agg #[.int .i64 x, .int .i64 y, .int .i64 b], .int .i64 0]) (by simp [results, Tryd.results29, go_sem]) rfl ⟨rfl, by repeat (first | exact Own.refl w | apply Own.alloc | refine Own.setCell ?_ (by simp) _)⟩
      · have e0 : ofE l d v b = 1 := by unfold ofE; rw [if_pos k1, if_pos k2, if_neg k3]
        obtain rfl : 1 = c := e0.symm.trans h4
        obtain ⟨n1, n2, n3⟩ := of_nul (l := l) (d := d) (v := v) (b := b) (by rw [e0]; decide)
        obtain rfl := n1.symm.trans h1
        obtain rfl := n2.symm.trans h2
        obtain rfl := n3.symm.trans h3
        clear h1 h2 h3 h4 n1 n2 n3 e0
        by_cases k4 : b < 0
        · have d0 : decide (b < 0) = true := decide_eq_true k4
          clear k1 k2 k3
          go_enter Tryd.func29, Tryd.ntmps29
          go_wp2_with (first | (go_at_call 63; with_reducible refine (ril_at l true _ HL).mono ?_; rintro r w1 ⟨rfl, rfl⟩) | (go_at_call 64; with_reducible refine (DirW.rcheck_at _ _ 0 _ HK).mono ?_; rintro r w1 ⟨rfl, rfl⟩))
          exact bodyPost_ret (v := .tuple #[.agg #[.int .i64 0, .int .i64 0, .int .i64 0], .int .i64 1]) (by simp [results, Tryd.results29, go_sem]) rfl ⟨rfl, by repeat (first | exact Own.refl w | apply Own.alloc | refine Own.setCell ?_ (by simp) _)⟩
        · have d0 : decide (b < 0) = false := decide_eq_false k4
          have d1 : decide (6 < b) = true := decide_eq_true (by omega)
          clear k1 k2 k3
          go_enter Tryd.func29, Tryd.ntmps29
          go_wp2_with (first | (go_at_call 63; with_reducible refine (ril_at l true _ HL).mono ?_; rintro r w1 ⟨rfl, rfl⟩) | (go_at_call 64; with_reducible refine (DirW.rcheck_at _ _ 0 _ HK).mono ?_; rintro r w1 ⟨rfl, rfl⟩))
          exact bodyPost_ret (v := .tuple #[.agg #[.int .i64 0, .int .i64 0, .int .i64 0], .int .i64 1]) (by simp [results, Tryd.results29, go_sem]) rfl ⟨rfl, by repeat (first | exact Own.refl w | apply Own.alloc | refine Own.setCell ?_ (by simp) _)⟩
    · have HK := Lib.hid (show DirP.chk d v = 1 from if_neg k2)
      have e0 : ofE l d v b = 1 := by unfold ofE; rw [if_pos k1, if_neg k2]
      obtain rfl : 1 = c := e0.symm.trans h4
      obtain ⟨n1, n2, n3⟩ := of_nul (l := l) (d := d) (v := v) (b := b) (by rw [e0]; decide)
      obtain rfl := n1.symm.trans h1
      obtain rfl := n2.symm.trans h2
      obtain rfl := n3.symm.trans h3
      clear h1 h2 h3 h4 n1 n2 n3 e0
      clear k1 k2
      go_enter Tryd.func29, Tryd.ntmps29
      go_wp2_with (first | (go_at_call 63; with_reducible refine (ril_at l true _ HL).mono ?_; rintro r w1 ⟨rfl, rfl⟩) | (go_at_call 64; with_reducible refine (DirW.rcheck_at _ _ 1 _ HK).mono ?_; rintro r w1 ⟨rfl, rfl⟩))
      exact bodyPost_ret (v := .tuple #[.agg #[.int .i64 0, .int .i64 0, .int .i64 0], .int .i64 1]) (by simp [results, Tryd.results29, go_sem]) rfl ⟨rfl, by repeat (first | exact Own.refl w | apply Own.alloc | refine Own.setCell ?_ (by simp) _)⟩
  · have HL := Lib.hid ((limb_no l).2 (by omega))
    have e0 : ofE l d v b = 9 := by unfold ofE; rw [if_neg k1]
    obtain rfl : 9 = c := e0.symm.trans h4
    obtain ⟨n1, n2, n3⟩ := of_nul (l := l) (d := d) (v := v) (b := b) (by rw [e0]; decide)
    obtain rfl := n1.symm.trans h1
    obtain rfl := n2.symm.trans h2
    obtain rfl := n3.symm.trans h3
    clear h1 h2 h3 h4 n1 n2 n3 e0
    clear k1
    go_enter Tryd.func29, Tryd.ntmps29
    go_wp2_with (go_at_call 63; with_reducible refine (ril_at l false _ HL).mono ?_; rintro r w1 ⟨rfl, rfl⟩)
    exact bodyPost_ret (v := .tuple #[.agg #[.int .i64 0, .int .i64 0, .int .i64 0], .int .i64 9]) (by simp [results, Tryd.results29, go_sem]) rfl ⟨rfl, by repeat (first | exact Own.refl w | apply Own.alloc | refine Own.setCell ?_ (by simp) _)⟩
theorem rmr_at (a v : Int) (w : World) (H : Hid ((-a) % 256 = v)) :
    Calls Tryd.prog 55 #[.int .i64 a] w fun r w' => r = .returned (.int .i64 v) ∧ w = w' := by
  obtain ⟨n, hn⟩ : ∃ n, a % 256 = n := ⟨_, rfl⟩
  have HN := Lib.hid hn
  have h1 : 0 ≤ n ∧ n ≤ 255 := by omega
  have HV := Lib.hid (show (256 - n) % 256 = v by rw [← H.out, ← hn]; omega)
  clear hn H
  go_enter Tryd.func55, Tryd.ntmps55
  go_wp2_with (first | (go_at_call 76; with_reducible refine (AngW.rnorm_at a n _ HN).mono ?_; rintro r w1 ⟨rfl, rfl⟩) | (go_at_call 76; with_reducible refine (AngW.rnorm_at (256 - n) v _ HV).mono ?_; rintro r w1 ⟨rfl, rfl⟩))
  go_ret
  exact ⟨rfl, rfl⟩
set_option maxRecDepth 100000 in
set_option maxHeartbeats 2000000 in
theorem rmir_at (l z e b x y u c : Int) (w : World) (H : Hid (mirZ l z e b = x ∧ mirL l z e b = y ∧ mirB l z e b = u ∧ chk l z e b = c)) :
    Calls Tryd.prog 56 #[.int .i64 l, .agg #[.int .i64 z, .int .i64 e, .int .i64 b]] w fun r w' => r = .returned (.tuple #[.agg #[.int .i64 x, .int .i64 y, .int .i64 u], .int .i64 c]) ∧ Own w w' := by
  obtain ⟨h1, h2, h3, h4⟩ := H.out
  clear H
  have HC := Lib.hid h4
  by_cases k : c = 0
  · subst k
    obtain ⟨e1, e2, e3⟩ := mir_yes h4
    obtain rfl := e2.symm.trans h2
    obtain rfl := e3.symm.trans h3
    have HM := Lib.hid (e1.symm.trans h1)
    clear h1 h2 h3 h4 e1 e2 e3
    go_enter Tryd.func56, Tryd.ntmps56
    go_upto_region 1 with (fail)
    obtain ⟨W0, B, C, hW, hC, hB, hb, hc, g0, hB0, hC0, hne⟩ := two_new w (#[.int .i64 z, .int .i64 e, .int .i64 b]) 30 (#[.int .i64 0, .int .i64 0, .int .i64 0]) 30
    rw [hW, hC, hB]
    have HB := Lib.hid hb
    have HP := Lib.hid hc
    have HNE := Lib.hid hne
    clear hW hC hB hb hc hne
    go_upto_region 4 with (first | ((with_reducible show wpList _ _ _ (⟨_, .load 30 (.tmp 3), _, _, _, none⟩ :: _) _ _); refine wpList_load_row rfl 30 (.tmp 3) rfl B rfl 30 _ (0, 0) _ HB.out.raw Tryd.underlying30 rfl infoA ?_) | (go_at_call 45; with_reducible refine (rcheck_at l z e b 0 _ HC).mono ?_; rintro r w1 ⟨rfl, hg⟩; replace g0 : Own w w1 := g0.trans hg; replace HB := Lib.hid (HB.out.own hg); replace HP := Lib.hid (HP.out.own hg); obtain ⟨k0, k1, k2⟩ := HB.out.three; obtain ⟨r0, r1, r2⟩ := HP.out.three; have f0 := HP.out.frozen 0; have f1 := HP.out.frozen 1; have f2 := HP.out.frozen 2; clear hg))
    go_region_with (go_at_call 55; with_reducible refine (rmr_at _ x _ HM).mono ?_; rintro r w2 ⟨rfl, rfl⟩)
    all_goals
      go_wp2
      first
        | exact bodyPost_ret (blk_results rfl rfl rfl ((Blk.drew HP.out).set3 (.int .i64 x) (.int .i64 e) (.int .i64 b)) Tryd.underlying30 rfl infoA) rfl ⟨rfl, own_set3 g0.drew hC0 _ _ _⟩
        | exact bodyPost_ret (blk_results rfl rfl rfl (HP.out.set3 (.int .i64 x) (.int .i64 e) (.int .i64 b)) Tryd.underlying30 rfl infoA) rfl ⟨rfl, own_set3 g0 hC0 _ _ _⟩
  · have kc : (c != 0) = true := bne_iff_ne.2 k
    obtain ⟨e1, e2, e3⟩ := mir_nul (l := l) (z := z) (e := e) (b := b) (by rw [h4]; exact k)
    obtain rfl := e1.symm.trans h1
    obtain rfl := e2.symm.trans h2
    obtain rfl := e3.symm.trans h3
    clear h1 h2 h3 h4 e1 e2 e3 k
    go_enter Tryd.func56, Tryd.ntmps56
    go_upto_region 1 with (fail)
    obtain ⟨W0, B, C, hW, hC, hB, hb, hc, g0, hB0, hC0, hne⟩ := two_new w (#[.int .i64 z, .int .i64 e, .int .i64 b]) 30 (#[.int .i64 0, .int .i64 0, .int .i64 0]) 30
    rw [hW, hC, hB]
    have HB := Lib.hid hb
    have HP := Lib.hid hc
    have HNE := Lib.hid hne
    clear hW hC hB hb hc hne
    go_wp2_with (first | ((with_reducible show wpList _ _ _ (⟨_, .load 30 (.tmp 3), _, _, _, none⟩ :: _) _ _); refine wpList_load_row rfl 30 (.tmp 3) rfl B rfl 30 _ (0, 0) _ HB.out.raw Tryd.underlying30 rfl infoA ?_) | (go_at_call 45; with_reducible refine (rcheck_at l z e b c _ HC).mono ?_; rintro r w1 ⟨rfl, hg⟩; replace g0 : Own w w1 := g0.trans hg; replace HB := Lib.hid (HB.out.own hg); replace HP := Lib.hid (HP.out.own hg); clear hg) | ((with_reducible show wpList _ _ _ (⟨_, .store 30 (.tmp 4) (.tmp 12), _, _, _, none⟩ :: _) _ _); refine wpList_store_row rfl 30 (.tmp 4) (.tmp 12) rfl C #[.int .i64 0, .int .i64 0, .int .i64 0] rfl rfl 30 _ HP.out.raw infoA rfl (by simp [Value.oneCell']) ?_))
    have hp := HP.out.row #[.int .i64 0, .int .i64 0, .int .i64 0]
    exact bodyPost_ret (blk_results rfl rfl rfl hp Tryd.underlying30 rfl infoA) rfl ⟨rfl, own_setRow g0 hC0 _⟩
set_option maxRecDepth 100000 in
set_option maxHeartbeats 4000000 in
theorem rnot_at (l z e b d v s c0 : Int) (w : World) (H : Hid (Nt l z e b d v s c0)) :
    Calls Tryd.prog 41 #[.int .i64 l, .agg #[.int .i64 z, .int .i64 e, .int .i64 b]] w fun r w' => r = .returned (.tuple #[.agg #[.int .i64 d, .int .i64 v, .int .i64 s], .int .i64 c0]) ∧ Own w w' := by
  by_cases k : chk l z e b = 0
  · have HC := Lib.hid k
    clear k
    go_enter Tryd.func41, Tryd.ntmps41
    go_upto_region 1 with (fail)
    obtain ⟨W0, B, C, hW, hC, hB, hb, hc, g0, hB0, hC0, hne⟩ := two_new w (#[.int .i64 z, .int .i64 e, .int .i64 b]) 30 (#[.int .i64 0, .int .i64 0, .int .i64 0]) 25
    rw [hW, hC, hB]
    have HB := Lib.hid hb
    have HP := Lib.hid hc
    have HNE := Lib.hid hne
    clear hW hC hB hb hc hne
    go_wp2_with (first | ((with_reducible show wpList _ _ _ (⟨_, .load 30 (.tmp 3), _, _, _, none⟩ :: _) _ _); refine wpList_load_row rfl 30 (.tmp 3) rfl B rfl 30 _ (0, 0) _ HB.out.raw Tryd.underlying30 rfl infoA ?_) | (go_at_call 45; with_reducible refine (rcheck_at l z e b 0 _ HC).mono ?_; rintro r w1 ⟨rfl, hg⟩; replace g0 : Own w w1 := g0.trans hg; replace HB := Lib.hid (HB.out.own hg); replace HP := Lib.hid (HP.out.own hg); clear hg))
    go_loopw [7] (fun vi wr => ∃ k : Nat, vi = .int .i64 (k : Int) ∧ k ≤ 9 ∧ Own w wr ∧ Blk wr B #[.int .i64 z, .int .i64 e, .int .i64 b] 30 ∧ Blk wr C #[.int .i64 0, .int .i64 0, .int .i64 0] 25 ∧ ∀ p, p < 3 * k → ¬ Hit l z e b p) (fun vi _ => 9 - (intOf vi).toNat)
    case atStart => exact ⟨0, rfl, by decide, g0, HB.out, HP.out, fun p h => absurd h (by omega)⟩
    case round =>
      obtain ⟨k, rfl, hk, q, hb, hp, hno⟩ := hrel
      clear g0 HB HP
      have HNO := Lib.hid hno
      have HQ := Lib.hid q
      have HB := Lib.hid hb
      have HP := Lib.hid hp
      clear hno q hb hp
      by_cases hlt : k < 9
      · have c1 : (k : Int) ≤ 8 := by omega
        generalize wr = wa at *
        go_wp2
        go_loopw [8] (fun vj wr => ∃ j : Nat, vj = .int .i64 ((j : Int) - 1) ∧ j ≤ 3 ∧ Own w wr ∧ Blk wr B #[.int .i64 z, .int .i64 e, .int .i64 b] 30 ∧ Blk wr C #[.int .i64 0, .int .i64 0, .int .i64 0] 25 ∧ ∀ p, p < 3 * k + j → ¬ Hit l z e b p) (fun vj _ => 3 - ((intOf vj) + 1).toNat)
        case atStart => exact ⟨0, rfl, by decide, HQ.out, HB.out, HP.out, HNO.out⟩
        case round =>
          obtain ⟨j, rfl, hj, q2, hb2, hp2, hno2⟩ := hrel
          have HNO2 := Lib.hid hno2
          have HQ2 := Lib.hid q2
          have HB2 := Lib.hid hb2
          have HP2 := Lib.hid hp2
          clear hno2 q2 hb2 hp2
          by_cases hlj : j < 3
          · have c2 : (j : Int) - 1 ≤ 1 := by omega
            have e1 : DirP.pD (3 * k + j) = k := by unfold DirP.pD; omega
            have e2 : DirP.pL (3 * k + j) = (j : Int) - 1 := by unfold DirP.pL; omega
            obtain ⟨x, hx⟩ : ∃ x, ofZ l (k : Int) ((j : Int) - 1) b = x := ⟨_, rfl⟩
            obtain ⟨y, hy⟩ : ∃ y, ofL l (k : Int) ((j : Int) - 1) b = y := ⟨_, rfl⟩
            obtain ⟨u, hu⟩ : ∃ u, ofB l (k : Int) ((j : Int) - 1) b = u := ⟨_, rfl⟩
            obtain ⟨c, hc⟩ : ∃ c, ofE l (k : Int) ((j : Int) - 1) b = c := ⟨_, rfl⟩
            have HO := Lib.hid (And.intro hx (And.intro hy (And.intro hu hc)))
            have HH := Lib.hid (show Hit l z e b (3 * k + j) = (c = 0 ∧ x = z ∧ y = e) by unfold Hit; rw [e1, e2, hx, hy, hc])
            have HU := Lib.hid (show c = 0 → b = u from fun h0 => by rw [← hu]; exact (of_vals (hc.trans h0)).2.2.symm)
            have HE1 := Lib.hid e1
            have HE2 := Lib.hid e2
            have i1 : IntKind.i64.wrap ((j : Int) - 1 + 1) = ((j + 1 : Nat) : Int) - 1 := by rw [IntKind.wrap_i64]; omega
            generalize wr = wb at *
            have k2 := HB2.out.three.2.2
            clear e1 e2 hx hy hu hc HNO HQ HB HP
            by_cases z0 : c = 0
            · subst z0
              obtain rfl := HU.out rfl
              by_cases zx : z = x
              · subst zx
                by_cases zy : e = y
                · subst zy
                  obtain ⟨p1, p2, p3, p4⟩ := nt_hit H.out HC.out (p := 3 * k + j) (by omega) (by rw [HH.out]; exact ⟨rfl, rfl, rfl⟩)
                  have HP1 := Lib.hid (p1.trans HE1.out)
                  have HP2' := Lib.hid (p2.trans HE2.out)
                  have HP3' := Lib.hid p3
                  have HP4 := Lib.hid p4
                  clear p1 p2 p3 p4 H HH HE1 HE2 HNO2 i1
                  go_upto_region 12 with (go_at_call 29; with_reducible refine (rof_at l k _ b _ _ _ _ _ HO).mono ?_; rintro r w2 ⟨rfl, hg⟩; have q2 := (HQ2.out.alloc (.cells #[.int .i64 k, .int .i64 ((j:Int)-1), .int .i64 b] 25)).trans hg; have ht : Blk w2 wb.heap.size #[.int .i64 k, .int .i64 ((j:Int)-1), .int .i64 b] 25 := (Blk.new wb _ _).own hg; have hb2 := (HB2.out.own ((Own.refl wb).alloc _)).own hg; have hp2 := (HP2.out.own ((Own.refl wb).alloc _)).own hg; clear hg k2)
                  obtain ⟨w3, D, hW3, hD, hd, g3, -⟩ := blk_new w2 #[.int .i64 z, .int .i64 e, .int .i64 b] 30
                  rw [hW3, hD]
                  have HQ3 := Lib.hid (q2.trans g3)
                  have HB3 := Lib.hid (hb2.own g3)
                  have HP3 := Lib.hid (hp2.own g3)
                  have HT3 := Lib.hid (ht.own g3)
                  have HD3 := Lib.hid hd
                  clear hW3 hD hd g3 q2 hb2 hp2 ht
                  obtain ⟨d0, d1, d2⟩ := HD3.out.three
                  obtain ⟨k0, k1, k2⟩ := HB3.out.three
                  go_wp2_with (first | ((with_reducible show wpList _ _ _ (⟨_, .load 25 (.tmp 9), _, _, _, none⟩ :: _) _ _); refine wpList_load_row rfl 25 (.tmp 9) rfl wb.heap.size rfl 25 _ (0, 0) _ HT3.out.raw Tryd.underlying25 rfl infoT ?_) | ((with_reducible show wpList _ _ _ (⟨_, .store 25 (.tmp 4) (.tmp 45), _, _, _, none⟩ :: _) _ _); refine wpList_store_row rfl 25 (.tmp 4) (.tmp 45) rfl C #[.int .i64 k, .int .i64 ((j:Int)-1), .int .i64 b] rfl rfl 25 _ HP3.out.raw infoT rfl (by simp [Value.oneCell']) ?_))
                  have hp := HP3.out.row #[.int .i64 k, .int .i64 ((j:Int)-1), .int .i64 b]
                  exact bodyPost_ret (blk_results rfl rfl rfl hp Tryd.underlying25 rfl infoT) rfl ⟨by rw [HP1.out, HP2'.out, HP3'.out, HP4.out]; rfl, own_setRow HQ3.out hC0 _⟩
                · have n1 : (y == e) = false := beq_eq_false_iff_ne.2 (fun h => zy h.symm)
                  have HN := Lib.hid (show ¬ ((0 : Int) = 0 ∧ z = z ∧ y = e) from fun h => zy h.2.2.symm)
                  clear zy H
                  go_upto_region 12 with (go_at_call 29; with_reducible refine (rof_at l k _ b _ _ _ _ _ HO).mono ?_; rintro r w2 ⟨rfl, hg⟩; have q2 := (HQ2.out.alloc (.cells #[.int .i64 k, .int .i64 ((j:Int)-1), .int .i64 b] 25)).trans hg; have ht : Blk w2 wb.heap.size #[.int .i64 k, .int .i64 ((j:Int)-1), .int .i64 b] 25 := (Blk.new wb _ _).own hg; have hb2 := (HB2.out.own ((Own.refl wb).alloc _)).own hg; have hp2 := (HP2.out.own ((Own.refl wb).alloc _)).own hg; clear hg k2)
                  obtain ⟨w3, D, hW3, hD, hd, g3, -⟩ := blk_new w2 #[.int .i64 z, .int .i64 y, .int .i64 b] 30
                  rw [hW3, hD]
                  have HQ3 := Lib.hid (q2.trans g3)
                  have HB3 := Lib.hid (hb2.own g3)
                  have HP3 := Lib.hid (hp2.own g3)
                  have HT3 := Lib.hid (ht.own g3)
                  have HD3 := Lib.hid hd
                  clear hW3 hD hd g3 q2 hb2 hp2 ht
                  obtain ⟨d0, d1, d2⟩ := HD3.out.three
                  obtain ⟨k0, k1, k2⟩ := HB3.out.three
                  go_wp2
                  go_roundw
                  case rel => exact ⟨j + 1, by first | go_num | (congr 1; omega), hlj, HQ3.out, HB3.out, HP3.out, fun p hp => by
                    by_cases ep : p = 3 * k + j
                    · rw [ep, HH.out]; exact HN.out
                    · exact HNO2.out p (by omega)⟩
                  case measure => simp [intOf]; omega
              · have n1 : (x == z) = false := beq_eq_false_iff_ne.2 (fun h => zx h.symm)
                have HN := Lib.hid (show ¬ ((0 : Int) = 0 ∧ x = z ∧ y = e) from fun h => zx h.2.1.symm)
                clear zx H
                go_upto_region 12 with (go_at_call 29; with_reducible refine (rof_at l k _ b _ _ _ _ _ HO).mono ?_; rintro r w2 ⟨rfl, hg⟩; have q2 := (HQ2.out.alloc (.cells #[.int .i64 k, .int .i64 ((j:Int)-1), .int .i64 b] 25)).trans hg; have ht : Blk w2 wb.heap.size #[.int .i64 k, .int .i64 ((j:Int)-1), .int .i64 b] 25 := (Blk.new wb _ _).own hg; have hb2 := (HB2.out.own ((Own.refl wb).alloc _)).own hg; have hp2 := (HP2.out.own ((Own.refl wb).alloc _)).own hg; clear hg k2)
                obtain ⟨w3, D, hW3, hD, hd, g3, -⟩ := blk_new w2 #[.int .i64 x, .int .i64 y, .int .i64 b] 30
                rw [hW3, hD]
                have HQ3 := Lib.hid (q2.trans g3)
                have HB3 := Lib.hid (hb2.own g3)
                have HP3 := Lib.hid (hp2.own g3)
                have HT3 := Lib.hid (ht.own g3)
                have HD3 := Lib.hid hd
                clear hW3 hD hd g3 q2 hb2 hp2 ht
                obtain ⟨d0, d1, d2⟩ := HD3.out.three
                obtain ⟨k0, k1, k2⟩ := HB3.out.three
                go_wp2
                go_roundw
                case rel => exact ⟨j + 1, by first | go_num | (congr 1; omega), hlj, HQ3.out, HB3.out, HP3.out, fun p hp => by
                  by_cases ep : p = 3 * k + j
                  · rw [ep, HH.out]; exact HN.out
                  · exact HNO2.out p (by omega)⟩
                case measure => simp [intOf]; omega
            · have n1 : (c == 0) = false := beq_eq_false_iff_ne.2 z0
              have HN := Lib.hid (show ¬ (c = 0 ∧ x = z ∧ y = e) from fun h => z0 h.1)
              clear z0 H
              go_upto_region 12 with (go_at_call 29; with_reducible refine (rof_at l k _ b _ _ _ _ _ HO).mono ?_; rintro r w2 ⟨rfl, hg⟩; have q2 := (HQ2.out.alloc (.cells #[.int .i64 k, .int .i64 ((j:Int)-1), .int .i64 b] 25)).trans hg; have ht : Blk w2 wb.heap.size #[.int .i64 k, .int .i64 ((j:Int)-1), .int .i64 b] 25 := (Blk.new wb _ _).own hg; have hb2 := (HB2.out.own ((Own.refl wb).alloc _)).own hg; have hp2 := (HP2.out.own ((Own.refl wb).alloc _)).own hg; clear hg k2)
              obtain ⟨w3, D, hW3, hD, hd, g3, -⟩ := blk_new w2 #[.int .i64 x, .int .i64 y, .int .i64 u] 30
              rw [hW3, hD]
              have HQ3 := Lib.hid (q2.trans g3)
              have HB3 := Lib.hid (hb2.own g3)
              have HP3 := Lib.hid (hp2.own g3)
              have HT3 := Lib.hid (ht.own g3)
              have HD3 := Lib.hid hd
              clear hW3 hD hd g3 q2 hb2 hp2 ht
              obtain ⟨d0, d1, d2⟩ := HD3.out.three
              obtain ⟨k0, k1, k2⟩ := HB3.out.three
              go_wp2
              go_roundw
              case rel => exact ⟨j + 1, by first | go_num | (congr 1; omega), hlj, HQ3.out, HB3.out, HP3.out, fun p hp => by
                by_cases ep : p = 3 * k + j
                · rw [ep, HH.out]; exact HN.out
                · exact HNO2.out p (by omega)⟩
              case measure => simp [intOf]; omega
          · obtain rfl : j = 3 := by omega
            have i1 : IntKind.i64.wrap ((k : Int) + 1) = ((k + 1 : Nat) : Int) := by rw [IntKind.wrap_i64]; omega
            clear HNO HQ HB HP
            generalize wr = wb at *
            go_wp2
            go_roundw
            case rel => exact ⟨k + 1, by first | go_num | (congr 1; omega), hlt, HQ2.out, HB2.out, HP2.out, fun p hp => HNO2.out p (by omega)⟩
            case measure => simp [intOf]; omega
      · obtain rfl : k = 9 := by omega
        obtain ⟨rfl, rfl, rfl, rfl⟩ := nt_none H.out HC.out fun p hp => HNO.out p (by omega)
        clear H
        generalize wr = wa at *
        go_wp2_with ((with_reducible show wpList _ _ _ (⟨_, .store 25 (.tmp 4) (.tmp 46), _, _, _, none⟩ :: _) _ _); refine wpList_store_row rfl 25 (.tmp 4) (.tmp 46) rfl C #[.int .i64 0, .int .i64 0, .int .i64 0] rfl rfl 25 _ HP.out.raw infoT rfl (by simp [Value.oneCell']) ?_)
        have hp := HP.out.row #[.int .i64 0, .int .i64 0, .int .i64 0]
        exact bodyPost_ret (blk_results rfl rfl rfl hp Tryd.underlying25 rfl infoT) rfl ⟨rfl, own_setRow HQ.out hC0 _⟩
  · have kc := Lib.hid k
    obtain ⟨rfl, rfl, rfl, h4⟩ := nt_bad H.out k
    have HC := Lib.hid h4.symm
    have k0 : (c0 != 0) = true := bne_iff_ne.2 (by rw [h4]; exact k)
    clear k h4 H
    go_enter Tryd.func41, Tryd.ntmps41
    go_upto_region 1 with (fail)
    obtain ⟨W0, B, C, hW, hC, hB, hb, hc, g0, hB0, hC0, hne⟩ := two_new w (#[.int .i64 z, .int .i64 e, .int .i64 b]) 30 (#[.int .i64 0, .int .i64 0, .int .i64 0]) 25
    rw [hW, hC, hB]
    have HB := Lib.hid hb
    have HP := Lib.hid hc
    have HNE := Lib.hid hne
    clear hW hC hB hb hc hne
    go_wp2_with (first | ((with_reducible show wpList _ _ _ (⟨_, .load 30 (.tmp 3), _, _, _, none⟩ :: _) _ _); refine wpList_load_row rfl 30 (.tmp 3) rfl B rfl 30 _ (0, 0) _ HB.out.raw Tryd.underlying30 rfl infoA ?_) | (go_at_call 45; with_reducible refine (rcheck_at l z e b c0 _ HC).mono ?_; rintro r w1 ⟨rfl, hg⟩; replace g0 : Own w w1 := g0.trans hg; replace HB := Lib.hid (HB.out.own hg); replace HP := Lib.hid (HP.out.own hg); clear hg) | ((with_reducible show wpList _ _ _ (⟨_, .store 25 (.tmp 4) (.tmp 17), _, _, _, none⟩ :: _) _ _); refine wpList_store_row rfl 25 (.tmp 4) (.tmp 17) rfl C #[.int .i64 0, .int .i64 0, .int .i64 0] rfl rfl 25 _ HP.out.raw infoT rfl (by simp [Value.oneCell']) ?_))
    have hp := HP.out.row #[.int .i64 0, .int .i64 0, .int .i64 0]
    exact bodyPost_ret (blk_results rfl rfl rfl hp Tryd.underlying25 rfl infoT) rfl ⟨rfl, own_setRow g0 hC0 _⟩
end Go.Proofs.YtneobaininejaaaDoor.AimW
