/-
  Walks of the program of package limits: Check, Allows. Condition: none.
-/
import Derived.Test.YtmjokgddhainlaaLimitsPB
namespace Go.Proofs.Ytmjokgddhainlaa.LimW
open Go.ChangeShapes Go.WideShapes Go.ChangeAt Go.RowKit
open PairW AimP AimW BlkW PrtW PstP PstW RegD LimP
set_option maxRecDepth 100000 in
set_option maxHeartbeats 2000000 in
theorem lck_at (l : Vl) (c : Int) (w : World) (H : Hid (chE l = c)) :
    Calls Try.prog 14 #[.agg (lz l)] w fun r w' => r = .returned (.int .i64 c) ∧ Own w w' := by
  have HX := Lib.hid (fun (k : Nat) (h : k < 6) => idxL l h)
  go_enter Try.func14, Try.ntmps14
  go_upto_region 1 with (fail)
  obtain ⟨W0, B, hW, hBq, hb, g0, hB0B⟩ := blk_new w (lz l) 26
  rw [hW, hBq]
  have HB := Lib.hid hb
  clear hW hBq hb
  have HALL := Lib.hid (lb_all HB.out)
  go_upto_region 2 with ((with_reducible show wpList _ _ _ (⟨_, .load 24 (.tmp 5), _, _, _, none⟩ :: _) _ _); refine wpList_load_lie rfl 24 (.tmp 5) rfl B (0) rfl (cz 36 l) HALL.out _ Try.underlying24 rfl infoL6 ?_)
  generalize cz 36 l = TT at *
  go_wp2
  go_loopw [4, 7] (fun _ vi wr => ∃ k : Nat, vi = .int .i64 (k : Int) ∧ k ≤ 6 ∧ (∀ i, i < k → okX (lim l i)) ∧ Own w wr ∧ Blk wr B (lz l) 26) (fun _ vi _ => 6 - (intOf vi).toNat)
  case atStart => exact ⟨0, rfl, by omega, fun i hi => absurd hi (by omega), g0, HB.out⟩
  case round =>
    clear g0 HB HALL
    obtain ⟨k, rfl, hk, hz, g0, hb⟩ := hrel
    have HZ := Lib.hid hz
    have HB := Lib.hid hb
    clear hz hb
    by_cases hlt : k < 6
    · have ix := HX.out k hlt
      have hkn : (k : Int) < 6 := by omega
      generalize hx : lim l k = x at ix
      by_cases ho : okX x
      · have HO := Lib.hid (decide_eq_true ho)
        go_upto_region 4 with ((with_reducible show wpList _ _ _ (⟨_, .store 23 (.tmp 4) (.tmp 9), _, _, _, none⟩ :: _) _ _); refine wpList_store_row rfl 23 (.tmp 4) (.tmp 9) rfl _ (cz 6 (x)) rfl rfl 23 _ (heap_new _ _) infoL rfl (cz_one _ _) ?_; rw [World.setRow_alloc_new])
        obtain ⟨w1, E, hW, hBq, hb, hg, Eg⟩ := blk_new wr (cz 6 x) 23
        rw [hW, hBq]
        have HE := Lib.hid hb
        replace g0 := g0.trans hg
        replace HB := Lib.hid (HB.out.own hg)
        clear hW hBq hb hg
        go_wp2_with (first | ((with_reducible show wpList _ _ _ (⟨_, .load 23 (.tmp 4), _, _, _, none⟩ :: _) _ _); refine wpList_load_row rfl 23 (.tmp 4) rfl E rfl 23 _ (0, 0) _ HE.out.raw Try.underlying23 rfl infoL ?_) | (go_at_call 31; with_reducible refine (lil_at x true _ HO).mono ?_; rintro r w2 ⟨rfl, hg⟩; replace g0 := g0.trans hg; replace HB := Lib.hid (HB.out.own hg); clear hg))
        go_roundw
        case rel =>
          refine ⟨k + 1, by go_num, hlt, fun i hi => ?_, g0, HB.out⟩
          by_cases e : i = k
          · rw [e, hx]; exact ho
          · exact HZ.out i (by omega)
        case measure => simp [intOf]; omega
      · have HO := Lib.hid (decide_eq_false ho)
        obtain rfl : 1 = c := (ch_lim hlt (by rw [hx]; exact ho)).symm.trans H.out
        clear H HZ HX ho hx
        go_upto_region 4 with ((with_reducible show wpList _ _ _ (⟨_, .store 23 (.tmp 4) (.tmp 9), _, _, _, none⟩ :: _) _ _); refine wpList_store_row rfl 23 (.tmp 4) (.tmp 9) rfl _ (cz 6 (x)) rfl rfl 23 _ (heap_new _ _) infoL rfl (cz_one _ _) ?_; rw [World.setRow_alloc_new])
        obtain ⟨w1, E, hW, hBq, hb, hg, Eg⟩ := blk_new wr (cz 6 x) 23
        rw [hW, hBq]
        have HE := Lib.hid hb
        replace g0 := g0.trans hg
        replace HB := Lib.hid (HB.out.own hg)
        clear hW hBq hb hg
        go_wp2_with (first | ((with_reducible show wpList _ _ _ (⟨_, .load 23 (.tmp 4), _, _, _, none⟩ :: _) _ _); refine wpList_load_row rfl 23 (.tmp 4) rfl E rfl 23 _ (0, 0) _ HE.out.raw Try.underlying23 rfl infoL ?_) | (go_at_call 31; with_reducible refine (lil_at x false _ HO).mono ?_; rintro r w2 ⟨rfl, hg⟩; replace g0 := g0.trans hg; replace HB := Lib.hid (HB.out.own hg); clear hg))
        go_ret
        exact ⟨rfl, g0⟩
    · obtain rfl : k = 6 := by omega
      have k38 := lb_num HB.out (i := 38) (by omega) (by omega)
      have k39 := lb_num HB.out (i := 39) (by omega) (by omega)
      by_cases h1 : 0 ≤ l 38 ∧ l 38 ≤ 8192
      · have HA := Lib.hid ((ai_iff (l 38)).2 h1)
        by_cases h2 : 1 ≤ l 39 ∧ l 39 ≤ 128
        · obtain rfl : 0 = c := (ch_ok HZ.out ⟨h1, h2⟩).symm.trans H.out
          have HP := Lib.hid ((pa_iff (l 39)).2 h2)
          clear H HZ HX h1 h2
          go_wp2_with (first | (go_at_call 32; with_reducible refine (lir_at _ true _ HA).mono ?_; rintro r w1 ⟨rfl, rfl⟩) | (go_at_call 33; with_reducible refine (lip_at _ true _ HP).mono ?_; rintro r w1 ⟨rfl, rfl⟩))
          go_ret
          exact ⟨rfl, g0⟩
        · obtain rfl : 1 = c := (ch_tail (fun h => h2 h.2)).symm.trans H.out
          have HP := Lib.hid ((pa_no (l 39)).2 (by omega))
          clear H HZ HX h1 h2
          go_wp2_with (first | (go_at_call 32; with_reducible refine (lir_at _ true _ HA).mono ?_; rintro r w1 ⟨rfl, rfl⟩) | (go_at_call 33; with_reducible refine (lip_at _ false _ HP).mono ?_; rintro r w1 ⟨rfl, rfl⟩))
          go_ret
          exact ⟨rfl, g0⟩
      · obtain rfl : 1 = c := (ch_tail (fun h => h1 h.1)).symm.trans H.out
        have HA := Lib.hid ((ai_no (l 38)).2 (by omega))
        clear H HZ HX h1
        go_wp2_with (go_at_call 32; with_reducible refine (lir_at _ false _ HA).mono ?_; rintro r w1 ⟨rfl, rfl⟩)
        go_ret
        exact ⟨rfl, g0⟩
set_option maxRecDepth 100000 in
set_option maxHeartbeats 2000000 in
theorem lal2_at (l : Vl) (k z e b : Int) (t : Bool) (c : Int) (w : World) (H : Hid (alV l k z e b = t ∧ alE l k z e b = c)) :
    Calls Try.prog 17 #[.agg (lz l), .int .i64 k, .agg #[.int .i64 z, .int .i64 e, .int .i64 b]] w fun r w' => r = .returned (.tuple #[.bool t, .int .i64 c]) ∧ Own w w' := by
  obtain ⟨ht, hc⟩ := H.out
  clear H
  by_cases h1 : chE l = 0
  · have HC0 := Lib.hid h1
    by_cases h2 : chk k z e b = 0
    · have HK := Lib.hid h2
      obtain ⟨hk, hz', -⟩ := chk_yes h2
      obtain ⟨a1, a2⟩ := al_ok h1 h2
      obtain rfl : 0 = c := a1.symm.trans hc
      obtain ⟨n, rfl⟩ : ∃ n : Nat, k = n := ⟨k.toNat, by omega⟩
      have hn6 : n < 6 := by omega
      rw [Int.toNat_natCast] at a2
      have hx := ((ch_yes h1).1 n hn6).2.1
      have hz : 0 ≤ z ∧ z ≤ 511 := by omega
      have HM0 := Lib.hid (a2.symm.trans ht)
      have hn1 : (n : Int) < 6 := by omega
      clear ht hc a1 a2 h1 h2 hk hz'
      go_enter Try.func17, Try.ntmps17
      go_upto_region 1 with (fail)
      obtain ⟨W0, B, C, hW, hC, hB, hb, hc, g0, hB0B, hB0C, hneBC⟩ := two_new w (lz l) 26 (#[.int .i64 z, .int .i64 e, .int .i64 b]) 34
      rw [hW, hC, hB]
      have HB := Lib.hid hb
      have HC := Lib.hid hc
      clear hW hC hB hb hc
      go_upto_region 7 with (first | ((with_reducible show wpList _ _ _ (⟨_, .load 26 (.tmp 3), _, _, _, none⟩ :: _) _ _); refine wpList_load_row rfl 26 (.tmp 3) rfl B rfl 26 _ (0, 0) _ HB.out.raw Try.underlying26 rfl infoLs ?_) | (go_at_call 14; with_reducible refine (lck_at l 0 _ HC0).mono ?_; rintro r w1 ⟨rfl, hg⟩; replace g0 := g0.trans hg; replace HB := Lib.hid (HB.out.own hg); replace HC := Lib.hid (HC.out.own hg); clear hg) | ((with_reducible show wpList _ _ _ (⟨_, .load 34 (.tmp 5), _, _, _, none⟩ :: _) _ _); refine wpList_load_row rfl 34 (.tmp 5) rfl C rfl 34 _ (0, 0) _ HC.out.raw Try.underlying34 rfl infoA ?_) | (go_at_call 36; with_reducible refine (pcheck_at n z e b 0 _ HK).mono ?_; rintro r w2 ⟨rfl, hg⟩; replace g0 := g0.trans hg; replace HB := Lib.hid (HB.out.own hg); replace HC := Lib.hid (HC.out.own hg); clear hg))
      have HLIM := Lib.hid (lb_lim HB.out hn6)
      generalize lim l n = x at *
      have HM := Lib.hid HM0.out
      clear HM0
      refine RegD.region_duty [21, 22, 23, 24, 25, 26, 6, 7] (RegI.upd (RegI.upd (RegI.upd (RegI.upd (RegI.upd (RegI.upd (RegI.upd (RegI.upd (fun _ => undef) 21 (.int .i64 (n : Int))) 22 (.pointer (some ⟨B, 0, none⟩))) 23 (.pointer (some ⟨B, n * 6, none⟩))) 24 (.agg (cz 6 x))) 25 (.agg #[.int .i64 z, .int .i64 e, .int .i64 b])) 26 (.bool t)) 6 (.bool t)) 7 (.int .i64 0)) (by kernel_rfl) (by kernel_rfl) (by intro d hd; simp at hd; simp; omega) ?_
      simp only [RegD.FF, RegI.FX, RegI.upd, List.foldl_cons, List.foldl_nil, List.not_mem_nil, if_true, if_false, Nat.reduceEqDiff]
      simp only [List.setIfInBounds_toArray, List.set_cons_succ, List.set_cons_zero]
      refine And.intro ?hs1 ?he1
      case hs1 =>
        refine And.intro ?s1_0 (And.intro ?s1_1 (And.intro ?s1_2 (And.intro ?s1_3 (And.intro ?s1_4 (And.intro ?s1_5 (And.intro ?s1_6 (And.intro ?s1_7 (trivial))))))))
        case s1_0 =>
          intro u w1 hO
          go_wp2
          exact ⟨rfl, rfl, rfl, Own.refl _⟩
        case s1_1 =>
          intro u w1 hO
          go_wp2
          exact ⟨rfl, rfl, rfl, Own.refl _⟩
        case s1_2 =>
          intro u w1 hO
          go_wp2
          exact ⟨rfl, rfl, rfl, Own.refl _⟩
        case s1_3 =>
          intro u w1 hO
          have HB9 := Lib.hid (HLIM.out.own hO)
          go_wp2_with ((with_reducible show wpList _ _ _ (⟨_, .load 23 (.tmp 23), _, _, _, none⟩ :: _) _ _); refine wpList_load_lie rfl 23 (.tmp 23) rfl B (n * 6) rfl (cz 6 x) HB9.out _ Try.underlying23 rfl infoL ?_)
          exact ⟨rfl, rfl, rfl, Own.refl _⟩
        case s1_4 =>
          intro u w1 hO
          have HB9 := Lib.hid (HC.out.own hO)
          go_wp2_with ((with_reducible show wpList _ _ _ (⟨_, .load 34 (.tmp 5), _, _, _, none⟩ :: _) _ _); refine wpList_load_row rfl 34 (.tmp 5) rfl C rfl 34 _ (0, 0) _ HB9.out.raw Try.underlying34 rfl infoA ?_)
          exact ⟨rfl, rfl, rfl, Own.refl _⟩
        case s1_5 =>
          intro u w1 hO
          go_wp2_with (go_at_call 37; with_reducible refine (lal_at x z e b t _ hx hz HM).mono ?_; rintro r w2 ⟨rfl, hg⟩)
          exact ⟨rfl, rfl, rfl, hg⟩
        case s1_6 =>
          intro u w1 hO
          go_wp2
          exact ⟨rfl, rfl, rfl, Own.refl _⟩
        case s1_7 =>
          intro u w1 hO
          go_wp2
          exact ⟨rfl, rfl, rfl, Own.refl _⟩
      intro u w9 hO
      replace g0 := g0.trans hO
      clear hO HB HC HM HLIM HK HC0
      go_wp2
      go_ret2
      exact ⟨rfl, g0⟩
    · obtain ⟨d, hd⟩ : ∃ d, chk k z e b = d := ⟨_, rfl⟩
      have e1 : alE l k z e b = d := by unfold alE; rw [if_pos h1]; exact hd
      rw [hd] at h2
      have e2 := al_no (l := l) (k := k) (z := z) (e := e) (b := b) (by rw [e1]; exact h2)
      obtain rfl : d = c := e1.symm.trans hc
      obtain rfl : false = t := e2.symm.trans ht
      have HK := Lib.hid hd
      have kd : (d != 0) = true := bne_iff_ne.2 h2
      clear ht hc e1 e2 h1 hd h2
      go_enter Try.func17, Try.ntmps17
      go_upto_region 1 with (fail)
      obtain ⟨W0, B, C, hW, hC, hB, hb, hc, g0, hB0B, hB0C, hneBC⟩ := two_new w (lz l) 26 (#[.int .i64 z, .int .i64 e, .int .i64 b]) 34
      rw [hW, hC, hB]
      have HB := Lib.hid hb
      have HC := Lib.hid hc
      clear hW hC hB hb hc
      go_wp2_with (first | ((with_reducible show wpList _ _ _ (⟨_, .load 26 (.tmp 3), _, _, _, none⟩ :: _) _ _); refine wpList_load_row rfl 26 (.tmp 3) rfl B rfl 26 _ (0, 0) _ HB.out.raw Try.underlying26 rfl infoLs ?_) | (go_at_call 14; with_reducible refine (lck_at l 0 _ HC0).mono ?_; rintro r w1 ⟨rfl, hg⟩; replace g0 := g0.trans hg; replace HB := Lib.hid (HB.out.own hg); replace HC := Lib.hid (HC.out.own hg); clear hg) | ((with_reducible show wpList _ _ _ (⟨_, .load 34 (.tmp 5), _, _, _, none⟩ :: _) _ _); refine wpList_load_row rfl 34 (.tmp 5) rfl C rfl 34 _ (0, 0) _ HC.out.raw Try.underlying34 rfl infoA ?_) | (go_at_call 36; with_reducible refine (pcheck_at k z e b d _ HK).mono ?_; rintro r w2 ⟨rfl, hg⟩; replace g0 := g0.trans hg; replace HB := Lib.hid (HB.out.own hg); replace HC := Lib.hid (HC.out.own hg); clear hg))
      go_ret2
      exact ⟨rfl, g0⟩
  · obtain ⟨d, hd⟩ : ∃ d, chE l = d := ⟨_, rfl⟩
    have e1 : alE l k z e b = d := by unfold alE; rw [if_neg h1]; exact hd
    rw [hd] at h1
    have e2 := al_no (l := l) (k := k) (z := z) (e := e) (b := b) (by rw [e1]; exact h1)
    obtain rfl : d = c := e1.symm.trans hc
    obtain rfl : false = t := e2.symm.trans ht
    have HC0 := Lib.hid hd
    have kd : (d != 0) = true := bne_iff_ne.2 h1
    clear ht hc e1 e2 hd h1
    go_enter Try.func17, Try.ntmps17
    go_upto_region 1 with (fail)
    obtain ⟨W0, B, C, hW, hC, hB, hb, hc, g0, hB0B, hB0C, hneBC⟩ := two_new w (lz l) 26 (#[.int .i64 z, .int .i64 e, .int .i64 b]) 34
    rw [hW, hC, hB]
    have HB := Lib.hid hb
    have HC := Lib.hid hc
    clear hW hC hB hb hc
    go_wp2_with (first | ((with_reducible show wpList _ _ _ (⟨_, .load 26 (.tmp 3), _, _, _, none⟩ :: _) _ _); refine wpList_load_row rfl 26 (.tmp 3) rfl B rfl 26 _ (0, 0) _ HB.out.raw Try.underlying26 rfl infoLs ?_) | (go_at_call 14; with_reducible refine (lck_at l d _ HC0).mono ?_; rintro r w1 ⟨rfl, hg⟩; replace g0 := g0.trans hg; replace HB := Lib.hid (HB.out.own hg); replace HC := Lib.hid (HC.out.own hg); clear hg))
    go_ret2
    exact ⟨rfl, g0⟩
end Go.Proofs.Ytmjokgddhainlaa.LimW
