/-
  Walks of the laws of package limits: LimitsChecks, LimitsAllows, LimitsNarrows, LimitsFirst, LimitsSelf. Condition: none.
-/
import Derived.Test.YtmjokgddhainlaaLimitsU
import Derived.Test.YtmjokgddhainlaaLimitsRC
import Derived.Test.YtmjokgddhainlaaLimitsRD
import Derived.Test.YtmjokgddhainlaaLimitsRG
namespace Go.Proofs.Ytmjokgddhainlaa.LimL
open Go.ChangeShapes Go.WideShapes Go.ChangeAt Go.RowKit
open LimW MovW PairW AimP AimW BlkW PrtW PstP PstW RegD LimP
set_option maxRecDepth 100000 in
set_option maxHeartbeats 16000000 in
theorem lchecks_at (l : Vl) (w : World) :
    Calls Try.prog 3 #[.agg (lz l)] w fun r w' => r = .returned (.bool true) ∧ Own w w' := by
  obtain ⟨r, hr⟩ : ∃ r, mrV l = r := ⟨_, rfl⟩
  obtain ⟨c, hc⟩ : ∃ c, chE l = c := ⟨_, rfl⟩
  have HC0 := Lib.hid hc
  have HMI := Lib.hid (show lz (mrV l) = lz r ∧ chE l = c from ⟨congrArg lz hr, hc⟩)
  clear hr hc
  go_enter Try.func3, Try.ntmps3
  go_upto_region 1 with (fail)
  obtain ⟨W0, B, hW, hBq, hb, g0, hB0B⟩ := blk_new w (lz l) 26
  rw [hW, hBq]
  have HB := Lib.hid hb
  clear hW hBq hb
  go_upto_region 2 with (first | ((with_reducible show wpList _ _ _ (⟨_, .load 26 (.tmp 1), _, _, _, none⟩ :: _) _ _); refine wpList_load_row rfl 26 (.tmp 1) rfl B rfl 26 _ (0, 0) _ HB.out.raw Try.underlying26 rfl infoLs ?_) | (go_at_call 12; with_reducible refine (lmi_at l r c _ HMI).mono ?_; rintro r w1 ⟨rfl, hg⟩; replace g0 := g0.trans hg; replace HB := Lib.hid (HB.out.own hg); clear hg) | ((with_reducible show wpList _ _ _ (⟨_, .store 26 (.tmp 3) (.tmp 10), _, _, _, none⟩ :: _) _ _); refine wpList_store_row rfl 26 (.tmp 3) (.tmp 10) rfl _ (lz (r)) rfl rfl 26 _ (heap_new _ _) infoLs rfl (lz_one _) ?_; rw [World.setRow_alloc_new]))
  obtain ⟨w2, M, hW, hBq, hb, hg, Mg⟩ := blk_new w1 (lz r) 26
  rw [hW, hBq]
  have HM := Lib.hid hb
  replace g0 := g0.trans hg
  replace HB := Lib.hid (HB.out.own hg)
  clear hW hBq hb hg
  clear Mg
  go_upto_region 3 with (first | ((with_reducible show wpList _ _ _ (⟨_, .load 26 (.tmp 1), _, _, _, none⟩ :: _) _ _); refine wpList_load_row rfl 26 (.tmp 1) rfl B rfl 26 _ (0, 0) _ HB.out.raw Try.underlying26 rfl infoLs ?_) | (go_at_call 13; with_reducible refine (rmi_at l r c _ HMI).mono ?_; rintro r w3 ⟨rfl, hg⟩; replace g0 := g0.trans hg; replace HB := Lib.hid (HB.out.own hg); replace HM := Lib.hid (HM.out.own hg); clear hg) | ((with_reducible show wpList _ _ _ (⟨_, .store 26 (.tmp 5) (.tmp 15), _, _, _, none⟩ :: _) _ _); refine wpList_store_row rfl 26 (.tmp 5) (.tmp 15) rfl _ (lz (r)) rfl rfl 26 _ (heap_new _ _) infoLs rfl (lz_one _) ?_; rw [World.setRow_alloc_new]))
  obtain ⟨w4, N, hW, hBq, hb, hg, Ng⟩ := blk_new w3 (lz r) 26
  rw [hW, hBq]
  have HN := Lib.hid hb
  replace g0 := g0.trans hg
  replace HB := Lib.hid (HB.out.own hg)
  replace HM := Lib.hid (HM.out.own hg)
  clear hW hBq hb hg
  clear Ng
  (try go_frame)
  refine RegD.region_duty [17, 18, 19, 20, 21, 22, 23, 24, 25, 26, 27, 28, 29, 30, 31, 32, 33, 34, 2] (RegI.upd (RegI.upd (RegI.upd (RegI.upd (RegI.upd (RegI.upd (RegI.upd (RegI.upd (RegI.upd (RegI.upd (RegI.upd (RegI.upd (RegI.upd (RegI.upd (RegI.upd (RegI.upd (RegI.upd (RegI.upd (RegI.upd (fun _ => undef) 17 (.agg (lz l))) 18 (.int .i64 c)) 19 (.agg (lz l))) 20 (.int .i64 c)) 21 (.bool true)) 22 (.bool true)) 23 (.agg (lz r))) 24 (.agg (lz r))) 25 (.bool true)) 26 (.bool true)) 27 (.bool true)) 28 (.int .i64 c)) 29 (.int .i64 c)) 30 (.bool true)) 31 (.bool true)) 32 (.bool true)) 33 (.bool true)) 34 (.bool true)) 2 (.bool true)) (by kernel_rfl) (by kernel_rfl) (by intro d hd; simp at hd; simp; omega) ?_
  simp only [RegD.FF, RegI.FX, RegI.upd, List.foldl_cons, List.foldl_nil, List.not_mem_nil, if_true, if_false, Nat.reduceEqDiff]
  simp only [List.setIfInBounds_toArray, List.set_cons_succ, List.set_cons_zero]
  refine And.intro ?hs1 ?he1
  case hs1 =>
    refine And.intro ?s1_0 (And.intro ?s1_1 (And.intro ?s1_2 (And.intro ?s1_3 (And.intro ?s1_4 (And.intro ?s1_5 (And.intro ?s1_6 (And.intro ?s1_7 (And.intro ?s1_8 (And.intro ?s1_9 (And.intro ?s1_10 (And.intro ?s1_11 (And.intro ?s1_12 (And.intro ?s1_13 (And.intro ?s1_14 (And.intro ?s1_15 (And.intro ?s1_16 (And.intro ?s1_17 (And.intro ?s1_18 (trivial)))))))))))))))))))
    case s1_0 =>
      intro u w1 hO
      have HB9 := Lib.hid (HB.out.own hO)
      go_wp2_with ((with_reducible show wpList _ _ _ (⟨_, .load 26 (.tmp 1), _, _, _, none⟩ :: _) _ _); refine wpList_load_row rfl 26 (.tmp 1) rfl B rfl 26 _ (0, 0) _ HB9.out.raw Try.underlying26 rfl infoLs ?_)
      exact ⟨rfl, rfl, rfl, Own.refl _⟩
    case s1_1 =>
      intro u w1 hO
      go_wp2_with (go_at_call 14; with_reducible refine (lck_at l c _ HC0).mono ?_; rintro r w2 ⟨rfl, hg⟩)
      exact ⟨rfl, rfl, rfl, hg⟩
    case s1_2 =>
      intro u w1 hO
      have HB9 := Lib.hid (HB.out.own hO)
      go_wp2_with ((with_reducible show wpList _ _ _ (⟨_, .load 26 (.tmp 1), _, _, _, none⟩ :: _) _ _); refine wpList_load_row rfl 26 (.tmp 1) rfl B rfl 26 _ (0, 0) _ HB9.out.raw Try.underlying26 rfl infoLs ?_)
      exact ⟨rfl, rfl, rfl, Own.refl _⟩
    case s1_3 =>
      intro u w1 hO
      go_wp2_with (go_at_call 15; with_reducible refine (rck_at l c _ HC0).mono ?_; rintro r w2 ⟨rfl, hg⟩)
      exact ⟨rfl, rfl, rfl, hg⟩
    case s1_4 =>
      intro u w1 hO
      go_wp2
      exact ⟨rfl, rfl, rfl, Own.refl _⟩
    case s1_5 =>
      intro u w1 hO
      go_wp2
      exact ⟨rfl, rfl, rfl, Own.refl _⟩
    case s1_6 =>
      intro u w1 hO
      have HB9 := Lib.hid (HM.out.own hO)
      go_wp2_with ((with_reducible show wpList _ _ _ (⟨_, .load 26 (.tmp 3), _, _, _, some _⟩ :: _) _ _); refine wpList_load_row_g rfl 26 (.tmp 3) rfl M rfl 26 _ (0, 0) _ HB9.out.raw Try.underlying26 rfl infoLs ?_)
      exact ⟨rfl, rfl, rfl, Own.refl _⟩
    case s1_7 =>
      intro u w1 hO
      have HB9 := Lib.hid (HN.out.own hO)
      go_wp2_with ((with_reducible show wpList _ _ _ (⟨_, .load 26 (.tmp 5), _, _, _, some _⟩ :: _) _ _); refine wpList_load_row_g rfl 26 (.tmp 5) rfl N rfl 26 _ (0, 0) _ HB9.out.raw Try.underlying26 rfl infoLs ?_)
      exact ⟨rfl, rfl, rfl, Own.refl _⟩
    case s1_8 =>
      intro u w1 hO
      go_wp2
      exact ⟨rfl, rfl, rfl, Own.refl _⟩
    case s1_9 =>
      intro u w1 hO
      go_wp2
      exact ⟨rfl, rfl, rfl, Own.refl _⟩
    case s1_10 =>
      intro u w1 hO
      go_wp2
      exact ⟨rfl, rfl, rfl, Own.refl _⟩
    case s1_11 =>
      intro u w1 hO
      go_wp2
      exact ⟨rfl, rfl, rfl, Own.refl _⟩
    case s1_12 =>
      intro u w1 hO
      go_wp2
      exact ⟨rfl, rfl, rfl, Own.refl _⟩
    case s1_13 =>
      intro u w1 hO
      go_wp2
      exact ⟨rfl, rfl, rfl, Own.refl _⟩
    case s1_14 =>
      intro u w1 hO
      go_wp2
      exact ⟨rfl, rfl, rfl, Own.refl _⟩
    case s1_15 =>
      intro u w1 hO
      go_wp2
      exact ⟨rfl, rfl, rfl, Own.refl _⟩
    case s1_16 =>
      intro u w1 hO
      go_wp2_with (go_at_call 16; with_reducible refine (awake_at _).mono ?_; rintro r w2 ⟨rfl, hg⟩)
      exact ⟨rfl, rfl, rfl, hg⟩
    case s1_17 =>
      intro u w1 hO
      go_wp2
      exact ⟨rfl, rfl, rfl, Own.refl _⟩
    case s1_18 =>
      intro u w1 hO
      go_wp2
      exact ⟨rfl, rfl, rfl, Own.refl _⟩
  intro u w5 hO
  replace g0 := g0.trans hO
  clear hO HB HM HN
  go_wp2
  go_ret
  exact ⟨rfl, g0⟩
set_option maxRecDepth 100000 in
set_option maxHeartbeats 16000000 in
theorem lallows_at (l : Vl) (k z e b : Int) (w : World) :
    Calls Try.prog 4 #[.agg (lz l), .int .i64 k, .agg #[.int .i64 z, .int .i64 e, .int .i64 b]] w fun r w' => r = .returned (.bool true) ∧ Own w w' := by
  obtain ⟨t, ht⟩ : ∃ t, alV l k z e b = t := ⟨_, rfl⟩
  obtain ⟨c, hc⟩ : ∃ c, alE l k z e b = c := ⟨_, rfl⟩
  have HA := Lib.hid (show alV l k z e b = t ∧ alE l k z e b = c from ⟨ht, hc⟩)
  clear ht hc
  cases t with
  | true =>
    go_enter Try.func4, Try.ntmps4
    go_upto_region 1 with (fail)
    obtain ⟨W0, B, C, hW, hC, hB, hb, hc, g0, hB0B, hB0C, hneBC⟩ := two_new w (lz l) 26 (#[.int .i64 z, .int .i64 e, .int .i64 b]) 34
    rw [hW, hC, hB]
    have HB := Lib.hid hb
    have HC := Lib.hid hc
    clear hW hC hB hb hc
    go_wp2_with (first | ((with_reducible show wpList _ _ _ (⟨_, .load 26 (.tmp 3), _, _, _, none⟩ :: _) _ _); refine wpList_load_row rfl 26 (.tmp 3) rfl B rfl 26 _ (0, 0) _ HB.out.raw Try.underlying26 rfl infoLs ?_) | ((with_reducible show wpList _ _ _ (⟨_, .load 34 (.tmp 5), _, _, _, none⟩ :: _) _ _); refine wpList_load_row rfl 34 (.tmp 5) rfl C rfl 34 _ (0, 0) _ HC.out.raw Try.underlying34 rfl infoA ?_) | (go_at_call 17; with_reducible refine (lal2_at l k z e b true c _ HA).mono ?_; rintro r w1 ⟨rfl, hg⟩; replace g0 := g0.trans hg; replace HB := Lib.hid (HB.out.own hg); replace HC := Lib.hid (HC.out.own hg); clear hg) | (go_at_call 18; with_reducible refine (ral_at l k z e b true c _ HA).mono ?_; rintro r w2 ⟨rfl, hg⟩; replace g0 := g0.trans hg; replace HB := Lib.hid (HB.out.own hg); replace HC := Lib.hid (HC.out.own hg); clear hg) | (go_at_call 16; with_reducible refine (awake_at _).mono ?_; rintro r w9 ⟨rfl, hg⟩; replace g0 := g0.trans hg; clear hg))
    go_ret
    exact ⟨rfl, g0⟩
  | false =>
    go_enter Try.func4, Try.ntmps4
    go_upto_region 1 with (fail)
    obtain ⟨W0, B, C, hW, hC, hB, hb, hc, g0, hB0B, hB0C, hneBC⟩ := two_new w (lz l) 26 (#[.int .i64 z, .int .i64 e, .int .i64 b]) 34
    rw [hW, hC, hB]
    have HB := Lib.hid hb
    have HC := Lib.hid hc
    clear hW hC hB hb hc
    go_wp2_with (first | ((with_reducible show wpList _ _ _ (⟨_, .load 26 (.tmp 3), _, _, _, none⟩ :: _) _ _); refine wpList_load_row rfl 26 (.tmp 3) rfl B rfl 26 _ (0, 0) _ HB.out.raw Try.underlying26 rfl infoLs ?_) | ((with_reducible show wpList _ _ _ (⟨_, .load 34 (.tmp 5), _, _, _, none⟩ :: _) _ _); refine wpList_load_row rfl 34 (.tmp 5) rfl C rfl 34 _ (0, 0) _ HC.out.raw Try.underlying34 rfl infoA ?_) | (go_at_call 17; with_reducible refine (lal2_at l k z e b false c _ HA).mono ?_; rintro r w1 ⟨rfl, hg⟩; replace g0 := g0.trans hg; replace HB := Lib.hid (HB.out.own hg); replace HC := Lib.hid (HC.out.own hg); clear hg) | (go_at_call 18; with_reducible refine (ral_at l k z e b false c _ HA).mono ?_; rintro r w2 ⟨rfl, hg⟩; replace g0 := g0.trans hg; replace HB := Lib.hid (HB.out.own hg); replace HC := Lib.hid (HC.out.own hg); clear hg) | (go_at_call 16; with_reducible refine (awake_at _).mono ?_; rintro r w9 ⟨rfl, hg⟩; replace g0 := g0.trans hg; clear hg))
    go_ret
    exact ⟨rfl, g0⟩
set_option maxRecDepth 100000 in
set_option maxHeartbeats 16000000 in
theorem lnarrows_at (a b : Vl) (w : World) :
    Calls Try.prog 5 #[.agg (lz a), .agg (lz b)] w fun r w' => r = .returned (.bool true) ∧ Own w w' := by
  obtain ⟨r, hr⟩ : ∃ r, nwV a b = r := ⟨_, rfl⟩
  obtain ⟨c, hc⟩ : ∃ c, nwE a b = c := ⟨_, rfl⟩
  have HN0 := Lib.hid (show lz (nwV a b) = lz r ∧ nwE a b = c from ⟨congrArg lz hr, hc⟩)
  clear hr hc
  go_enter Try.func5, Try.ntmps5
  go_upto_region 1 with (fail)
  obtain ⟨W0, B, C, hW, hC, hB, hb, hc, g0, hB0B, hB0C, hneBC⟩ := two_new w (lz a) 26 (lz b) 26
  rw [hW, hC, hB]
  have HB := Lib.hid hb
  have HC := Lib.hid hc
  clear hW hC hB hb hc
  go_upto_region 2 with (first | ((with_reducible show wpList _ _ _ (⟨_, .load 26 (.tmp 2), _, _, _, none⟩ :: _) _ _); refine wpList_load_row rfl 26 (.tmp 2) rfl B rfl 26 _ (0, 0) _ HB.out.raw Try.underlying26 rfl infoLs ?_) | ((with_reducible show wpList _ _ _ (⟨_, .load 26 (.tmp 3), _, _, _, none⟩ :: _) _ _); refine wpList_load_row rfl 26 (.tmp 3) rfl C rfl 26 _ (0, 0) _ HC.out.raw Try.underlying26 rfl infoLs ?_) | (go_at_call 19; with_reducible refine (lnw_at a b r c _ HN0).mono ?_; rintro r w1 ⟨rfl, hg⟩; replace g0 := g0.trans hg; replace HB := Lib.hid (HB.out.own hg); replace HC := Lib.hid (HC.out.own hg); clear hg) | ((with_reducible show wpList _ _ _ (⟨_, .store 26 (.tmp 5) (.tmp 13), _, _, _, none⟩ :: _) _ _); refine wpList_store_row rfl 26 (.tmp 5) (.tmp 13) rfl _ (lz (r)) rfl rfl 26 _ (heap_new _ _) infoLs rfl (lz_one _) ?_; rw [World.setRow_alloc_new]))
  obtain ⟨w2, M, hW, hBq, hb, hg, Mg⟩ := blk_new w1 (lz r) 26
  rw [hW, hBq]
  have HM := Lib.hid hb
  replace g0 := g0.trans hg
  replace HB := Lib.hid (HB.out.own hg)
  replace HC := Lib.hid (HC.out.own hg)
  clear hW hBq hb hg
  clear Mg
  go_upto_region 3 with (first | ((with_reducible show wpList _ _ _ (⟨_, .load 26 (.tmp 2), _, _, _, none⟩ :: _) _ _); refine wpList_load_row rfl 26 (.tmp 2) rfl B rfl 26 _ (0, 0) _ HB.out.raw Try.underlying26 rfl infoLs ?_) | ((with_reducible show wpList _ _ _ (⟨_, .load 26 (.tmp 3), _, _, _, none⟩ :: _) _ _); refine wpList_load_row rfl 26 (.tmp 3) rfl C rfl 26 _ (0, 0) _ HC.out.raw Try.underlying26 rfl infoLs ?_) | (go_at_call 20; with_reducible refine (rnw_at a b r c _ HN0).mono ?_; rintro r w3 ⟨rfl, hg⟩; replace g0 := g0.trans hg; replace HB := Lib.hid (HB.out.own hg); replace HC := Lib.hid (HC.out.own hg); replace HM := Lib.hid (HM.out.own hg); clear hg) | ((with_reducible show wpList _ _ _ (⟨_, .store 26 (.tmp 7) (.tmp 19), _, _, _, none⟩ :: _) _ _); refine wpList_store_row rfl 26 (.tmp 7) (.tmp 19) rfl _ (lz (r)) rfl rfl 26 _ (heap_new _ _) infoLs rfl (lz_one _) ?_; rw [World.setRow_alloc_new]))
  obtain ⟨w4, N, hW, hBq, hb, hg, Ng⟩ := blk_new w3 (lz r) 26
  rw [hW, hBq]
  have HN := Lib.hid hb
  replace g0 := g0.trans hg
  replace HM := Lib.hid (HM.out.own hg)
  clear hW hBq hb hg
  clear Ng
  go_wp2_with (first | ((with_reducible show wpList _ _ _ (⟨_, .load 26 (.tmp 5), _, _, _, none⟩ :: _) _ _); refine wpList_load_row rfl 26 (.tmp 5) rfl M rfl 26 _ (0, 0) _ HM.out.raw Try.underlying26 rfl infoLs ?_) | ((with_reducible show wpList _ _ _ (⟨_, .load 26 (.tmp 7), _, _, _, none⟩ :: _) _ _); refine wpList_load_row rfl 26 (.tmp 7) rfl N rfl 26 _ (0, 0) _ HN.out.raw Try.underlying26 rfl infoLs ?_) | (go_at_call 16; with_reducible refine (awake_at _).mono ?_; rintro r w9 ⟨rfl, hg⟩; replace g0 := g0.trans hg; clear hg))
  go_ret
  exact ⟨rfl, g0⟩
set_option maxRecDepth 100000 in
set_option maxHeartbeats 16000000 in
theorem lfirst_at (l : Vl) (sv tv : Value) (f : Nat → Vl) (q : Nat → Int) (n m : Nat) (w : World) (HMV : Hid (Mov sv tv f q n m w)) :
    Calls Try.prog 9 #[.agg (lz l), .agg #[sv, tv]] w fun r w' => r = .returned (.bool true) ∧ Own w w' := by
  by_cases hg : (decide (100 < n) || decide (100 < m)) = true
  · have HG := Lib.hid hg
    clear hg
    go_enter Try.func9, Try.ntmps9
    go_upto_region 1 with (fail)
    obtain ⟨W0, B, C, hW, hC, hB, hb, hc, g0, hB0B, hB0C, hneBC⟩ := two_new w (lz l) 26 (#[sv, tv]) 52
    rw [hW, hC, hB]
    have HB := Lib.hid hb
    have HC := Lib.hid hc
    clear hW hC hB hb hc
    go_wp2_with (first | ((with_reducible show wpList _ _ _ (⟨_, .load 52 (.tmp 3), _, _, _, none⟩ :: _) _ _); refine wpList_load_row rfl 52 (.tmp 3) rfl C rfl 52 _ (0, 0) _ HC.out.raw Try.underlying52 rfl infoMv ?_) | (go_at_call 25; with_reducible refine (lgr_at sv tv f q n m true _ (Lib.hid (HMV.out.own g0)) HG).mono ?_; rintro r w1 ⟨rfl, hg⟩; replace g0 := g0.trans hg; replace HB := Lib.hid (HB.out.own hg); replace HC := Lib.hid (HC.out.own hg); clear hg) | (go_at_call 16; with_reducible refine (awake_at _).mono ?_; rintro r w9 ⟨rfl, hg⟩; replace g0 := g0.trans hg; clear hg))
    go_ret
    exact ⟨rfl, g0⟩
  · have HG := Lib.hid (Bool.eq_false_iff.2 hg)
    clear hg
    obtain ⟨ec, hec⟩ : ∃ v, fvE l f q n m = v := ⟨_, rfl⟩
    obtain ⟨et, het⟩ : ∃ v, fvT l f q n m = v := ⟨_, rfl⟩
    obtain ⟨ep, hep⟩ : ∃ v, fvP l f q n m = v := ⟨_, rfl⟩
    obtain ⟨es, hes⟩ : ∃ v, fsE l f n m = v := ⟨_, rfl⟩
    have HF := Lib.hid (show fvE l f q n m = ec ∧ fvT l f q n m = et ∧ fvP l f q n m = ep ∧ fsE l f n m = es from ⟨hec, het, hep, hes⟩)
    clear hec het hep hes
    go_enter Try.func9, Try.ntmps9
    go_upto_region 1 with (fail)
    obtain ⟨W0, B, C, hW, hC, hB, hb, hc, g0, hB0B, hB0C, hneBC⟩ := two_new w (lz l) 26 (#[sv, tv]) 52
    rw [hW, hC, hB]
    have HB := Lib.hid hb
    have HC := Lib.hid hc
    clear hW hC hB hb hc
    go_upto_region 4 with (first | ((with_reducible show wpList _ _ _ (⟨_, .load 26 (.tmp 2), _, _, _, none⟩ :: _) _ _); refine wpList_load_row rfl 26 (.tmp 2) rfl B rfl 26 _ (0, 0) _ HB.out.raw Try.underlying26 rfl infoLs ?_) | ((with_reducible show wpList _ _ _ (⟨_, .load 52 (.tmp 3), _, _, _, none⟩ :: _) _ _); refine wpList_load_row rfl 52 (.tmp 3) rfl C rfl 52 _ (0, 0) _ HC.out.raw Try.underlying52 rfl infoMv ?_) | (go_at_call 25; with_reducible refine (lgr_at sv tv f q n m false _ (Lib.hid (HMV.out.own g0)) HG).mono ?_; rintro r w1 ⟨rfl, hg⟩; replace g0 := g0.trans hg; replace HB := Lib.hid (HB.out.own hg); replace HC := Lib.hid (HC.out.own hg); clear hg) | (go_at_call 26; with_reducible refine (lfi_at l sv tv f q n m ec et ep es _ (Lib.hid (HMV.out.own g0)) HF).mono ?_; rintro r w2 ⟨rfl, hg⟩; replace g0 := g0.trans hg; replace HB := Lib.hid (HB.out.own hg); replace HC := Lib.hid (HC.out.own hg); clear hg) | ((with_reducible show wpList _ _ _ (⟨_, .store 55 (.tmp 5) (.tmp 16), _, _, _, none⟩ :: _) _ _); refine wpList_store_row rfl 55 (.tmp 5) (.tmp 16) rfl _ #[.int .i64 ec, .int .i64 et, .int .i64 ep] rfl rfl 55 _ (heap_new _ _) infoF rfl (by simp [Value.oneCell']) ?_; rw [World.setRow_alloc_new]))
    obtain ⟨w3, Q, hW, hBq, hb, hg, Qg⟩ := blk_new w2 (#[.int .i64 ec, .int .i64 et, .int .i64 ep]) 55
    rw [hW, hBq]
    have HQ := Lib.hid hb
    replace g0 := g0.trans hg
    replace HB := Lib.hid (HB.out.own hg)
    replace HC := Lib.hid (HC.out.own hg)
    clear hW hBq hb hg
    clear Qg
    go_upto_region 5 with (first | ((with_reducible show wpList _ _ _ (⟨_, .load 26 (.tmp 2), _, _, _, none⟩ :: _) _ _); refine wpList_load_row rfl 26 (.tmp 2) rfl B rfl 26 _ (0, 0) _ HB.out.raw Try.underlying26 rfl infoLs ?_) | ((with_reducible show wpList _ _ _ (⟨_, .load 52 (.tmp 3), _, _, _, none⟩ :: _) _ _); refine wpList_load_row rfl 52 (.tmp 3) rfl C rfl 52 _ (0, 0) _ HC.out.raw Try.underlying52 rfl infoMv ?_) | (go_at_call 27; with_reducible refine (rfi_at l sv tv f q n m ec et ep es _ (Lib.hid (HMV.out.own g0)) HF).mono ?_; rintro r w4 ⟨rfl, hg⟩; replace g0 := g0.trans hg; replace HQ := Lib.hid (HQ.out.own hg); clear hg) | ((with_reducible show wpList _ _ _ (⟨_, .store 55 (.tmp 7) (.tmp 22), _, _, _, none⟩ :: _) _ _); refine wpList_store_row rfl 55 (.tmp 7) (.tmp 22) rfl _ #[.int .i64 ec, .int .i64 et, .int .i64 ep] rfl rfl 55 _ (heap_new _ _) infoF rfl (by simp [Value.oneCell']) ?_; rw [World.setRow_alloc_new]))
    obtain ⟨w5, X, hW, hBq, hb, hg, Xg⟩ := blk_new w4 (#[.int .i64 ec, .int .i64 et, .int .i64 ep]) 55
    rw [hW, hBq]
    have HX := Lib.hid hb
    replace g0 := g0.trans hg
    replace HQ := Lib.hid (HQ.out.own hg)
    clear hW hBq hb hg
    clear Xg HB HC
    go_wp2_with (first | ((with_reducible show wpList _ _ _ (⟨_, .load 55 (.tmp 5), _, _, _, none⟩ :: _) _ _); refine wpList_load_row rfl 55 (.tmp 5) rfl Q rfl 55 _ (0, 0) _ HQ.out.raw Try.underlying55 rfl infoF ?_) | ((with_reducible show wpList _ _ _ (⟨_, .load 55 (.tmp 7), _, _, _, none⟩ :: _) _ _); refine wpList_load_row rfl 55 (.tmp 7) rfl X rfl 55 _ (0, 0) _ HX.out.raw Try.underlying55 rfl infoF ?_) | (go_at_call 16; with_reducible refine (awake_at _).mono ?_; rintro r w9 ⟨rfl, hg⟩; replace g0 := g0.trans hg; clear hg))
    go_ret
    exact ⟨rfl, g0⟩
set_option maxRecDepth 100000 in
set_option maxHeartbeats 16000000 in
theorem lself_at (l : Vl) (w : World) :
    Calls Try.prog 8 #[.agg (lz l)] w fun r w' => r = .returned (.bool true) ∧ Own w w' := by
  by_cases h1 : chE l = 0
  · obtain ⟨a1, a2⟩ := nw_self h1
    obtain ⟨b1, b2⟩ := nw_wide h1
    have HN1 := Lib.hid (show lz (nwV l l) = lz l ∧ nwE l l = 0 from ⟨lz_same a2, a1⟩)
    have HN2 := Lib.hid (show lz (nwV l wid) = lz l ∧ nwE l wid = 0 from ⟨lz_same b2, b1⟩)
    have HCK := Lib.hid h1
    clear a1 a2 b1 b2 h1
    go_enter Try.func8, Try.ntmps8
    go_upto_region 1 with (fail)
    obtain ⟨W0, B, hW, hBq, hb, g0, hB0B⟩ := blk_new w (lz l) 26
    rw [hW, hBq]
    have HB := Lib.hid hb
    clear hW hBq hb
    go_upto_region 2 with (first | ((with_reducible show wpList _ _ _ (⟨_, .load 26 (.tmp 1), _, _, _, none⟩ :: _) _ _); refine wpList_load_row rfl 26 (.tmp 1) rfl B rfl 26 _ (0, 0) _ HB.out.raw Try.underlying26 rfl infoLs ?_) | (go_at_call 19; with_reducible refine (lnw_at l l l 0 _ HN1).mono ?_; rintro r w1 ⟨rfl, hg⟩; replace g0 := g0.trans hg; replace HB := Lib.hid (HB.out.own hg); clear hg) | ((with_reducible show wpList _ _ _ (⟨_, .store 26 (.tmp 3) (.tmp 12), _, _, _, none⟩ :: _) _ _); refine wpList_store_row rfl 26 (.tmp 3) (.tmp 12) rfl _ (lz (l)) rfl rfl 26 _ (heap_new _ _) infoLs rfl (lz_one _) ?_; rw [World.setRow_alloc_new]))
    obtain ⟨w2, M, hW, hBq, hb, hg, Mg⟩ := blk_new w1 (lz l) 26
    rw [hW, hBq]
    have HM := Lib.hid hb
    replace g0 := g0.trans hg
    replace HB := Lib.hid (HB.out.own hg)
    clear hW hBq hb hg
    clear Mg
    (try go_frame)
    refine RegD.region_dutyN [15, 16, 17, 14, 18, 19, 5, 6] 5 6 7 (RegI.upd (RegI.upd (RegI.upd (RegI.upd (RegI.upd (RegI.upd (RegI.upd (fun _ => undef) 15 (.agg (lz l))) 16 (.agg (lz wid))) 17 (.tuple #[.agg (lz l), .int .i64 0])) 14 (.tuple #[.agg (lz l), .int .i64 0])) 18 (.agg (lz l))) 19 (.int .i64 0)) 6 (.int .i64 0)) (#[.int .i64 0, .int .i64 0, .int .i64 0, .int .i64 0, .int .i64 0, .int .i64 0, .int .i64 0, .int .i64 0, .int .i64 0, .int .i64 0, .int .i64 0, .int .i64 0, .int .i64 0, .int .i64 0, .int .i64 0, .int .i64 0, .int .i64 0, .int .i64 0, .int .i64 0, .int .i64 0, .int .i64 0, .int .i64 0, .int .i64 0, .int .i64 0, .int .i64 0, .int .i64 0, .int .i64 0, .int .i64 0, .int .i64 0, .int .i64 0, .int .i64 0, .int .i64 0, .int .i64 0, .int .i64 0, .int .i64 0, .int .i64 0, .bool false, .bool false, .int .i64 0, .int .i64 0]) (lz l) 26 (by kernel_rfl) (by kernel_rfl) (by decide) (by intro d hd; simp at hd; simp; omega) ?_
    simp only [RegD.FF, RegI.FX, RegI.upd, List.foldl_cons, List.foldl_nil, List.mem_cons, List.not_mem_nil, if_true, if_false, Nat.reduceEqDiff, or_false]
    simp only [List.setIfInBounds_toArray, List.set_cons_succ, List.set_cons_zero]
    refine And.intro ?hs2 ?he2
    case hs2 =>
      refine And.intro ?s2_0 (And.intro ?s2_1 (And.intro ?s2_2 (And.intro ?s2_3 (And.intro ?s2_4 (And.intro ?s2_5 (And.intro ?s2_6 (And.intro ?s2_7 (And.intro ?s2_8 (trivial)))))))))
      case s2_0 =>
        refine RegD.stepN_det (by decide) (by decide) (by simp) (fun u w1 hO => ?_)
        have HB9 := Lib.hid (HB.out.own hO)
        go_wp2_with ((with_reducible show wpList _ _ _ (⟨_, .load 26 (.tmp 1), _, _, _, none⟩ :: _) _ _); refine wpList_load_row rfl 26 (.tmp 1) rfl B rfl 26 _ (0, 0) _ HB9.out.raw Try.underlying26 rfl infoLs ?_)
        exact ⟨rfl, rfl, rfl, Own.refl _⟩
      case s2_1 =>
        refine RegD.stepN_det (by decide) (by decide) (by simp) (fun u w1 hO => ?_)
        go_wp2_with (go_at_call 24; with_reducible refine (wide_at _).mono ?_; rintro r w2 ⟨rfl, hg⟩)
        exact ⟨rfl, rfl, rfl, hg⟩
      case s2_2 =>
        refine RegD.stepN_det (by decide) (by decide) (by simp) (fun u w1 hO => ?_)
        go_wp2_with (go_at_call 19; with_reducible refine (lnw_at l wid l 0 _ HN2).mono ?_; rintro r w2 ⟨rfl, hg⟩)
        exact ⟨rfl, rfl, rfl, hg⟩
      case s2_3 =>
        refine RegD.stepN_det (by decide) (by decide) (by simp) (fun u w1 hO => ?_)
        go_wp2
        exact ⟨rfl, rfl, rfl, Own.refl _⟩
      case s2_4 =>
        refine RegD.stepN_det (by decide) (by decide) (by simp) (fun u w1 hO => ?_)
        go_wp2
        exact ⟨rfl, rfl, rfl, Own.refl _⟩
      case s2_5 =>
        refine RegD.stepN_det (by decide) (by decide) (by simp) (fun u w1 hO => ?_)
        go_wp2
        exact ⟨rfl, rfl, rfl, Own.refl _⟩
      case s2_6 =>
        refine RegD.stepN_alloc rfl (fun u w1 hO => ?_)
        go_wp2
        exact ⟨rfl, rfl, rfl, rfl⟩
      case s2_7 =>
        refine RegD.stepN_store (by decide) rfl (by kernel_rfl) (fun u w1 N hO hu hN => ?_)
        have HN := Lib.hid hN
        simp only [hu]
        clear hN
        go_wp2_with ((with_reducible show wpList _ _ _ (⟨_, .store 26 (.tmp 5) (.tmp 18), _, _, _, none⟩ :: _) _ _); refine wpList_store_row rfl 26 (.tmp 5) (.tmp 18) rfl N (lz (l)) rfl rfl 26 _ HN.out.raw infoLs rfl (lz_one _) ?_)
        exact ⟨rfl, rfl, rfl⟩
      case s2_8 =>
        refine RegD.stepN_det (by decide) (by decide) (by simp) (fun u w1 hO => ?_)
        go_wp2
        exact ⟨rfl, rfl, rfl, Own.refl _⟩
    intro u w3 N hO hu hN0 hN
    simp only [hu]
    replace g0 := g0.trans hO
    replace HB := Lib.hid (HB.out.own hO)
    replace HM := Lib.hid (HM.out.own hO)
    have HN := Lib.hid hN
    clear hO hu hN0 hN HN1 HN2
    go_wp2_with (first | ((with_reducible show wpList _ _ _ (⟨_, .load 26 (.tmp 1), _, _, _, none⟩ :: _) _ _); refine wpList_load_row rfl 26 (.tmp 1) rfl B rfl 26 _ (0, 0) _ HB.out.raw Try.underlying26 rfl infoLs ?_) | ((with_reducible show wpList _ _ _ (⟨_, .load 26 (.tmp 3), _, _, _, none⟩ :: _) _ _); refine wpList_load_row rfl 26 (.tmp 3) rfl M rfl 26 _ (0, 0) _ HM.out.raw Try.underlying26 rfl infoLs ?_) | ((with_reducible show wpList _ _ _ (⟨_, .load 26 (.tmp 5), _, _, _, some _⟩ :: _) _ _); refine wpList_load_row_g rfl 26 (.tmp 5) rfl N rfl 26 _ (0, 0) _ HN.out.raw Try.underlying26 rfl infoLs ?_) | ((with_reducible show wpList _ _ _ (⟨_, .load 26 (.tmp 1), _, _, _, some _⟩ :: _) _ _); refine wpList_load_row_g rfl 26 (.tmp 1) rfl B rfl 26 _ (0, 0) _ HB.out.raw Try.underlying26 rfl infoLs ?_) | (go_at_call 14; with_reducible refine (lck_at l 0 _ HCK).mono ?_; rintro r w4 ⟨rfl, hg⟩; replace g0 := g0.trans hg; replace HB := Lib.hid (HB.out.own hg); replace HM := Lib.hid (HM.out.own hg); replace HN := Lib.hid (HN.out.own hg); clear hg) | (go_at_call 16; with_reducible refine (awake_at _).mono ?_; rintro r w9 ⟨rfl, hg⟩; replace g0 := g0.trans hg; clear hg))
    go_ret
    exact ⟨rfl, g0⟩
  · obtain ⟨c, hc⟩ : ∃ c, chE l = c := ⟨_, rfl⟩
    have a1 := (nw_fst (b := l) h1).trans hc
    have b1 := (nw_fst (b := wid) h1).trans hc
    rw [hc] at h1
    have HN1 := Lib.hid (show lz (nwV l l) = lz nul ∧ nwE l l = c from ⟨congrArg lz (nw_nul (by rw [a1]; exact h1)), a1⟩)
    have HN2 := Lib.hid (show lz (nwV l wid) = lz nul ∧ nwE l wid = c from ⟨congrArg lz (nw_nul (by rw [b1]; exact h1)), b1⟩)
    have HCK := Lib.hid hc
    have kc : (c != 0) = true := bne_iff_ne.2 h1
    clear a1 b1 h1 hc
    go_enter Try.func8, Try.ntmps8
    go_upto_region 1 with (fail)
    obtain ⟨W0, B, hW, hBq, hb, g0, hB0B⟩ := blk_new w (lz l) 26
    rw [hW, hBq]
    have HB := Lib.hid hb
    clear hW hBq hb
    go_upto_region 2 with (first | ((with_reducible show wpList _ _ _ (⟨_, .load 26 (.tmp 1), _, _, _, none⟩ :: _) _ _); refine wpList_load_row rfl 26 (.tmp 1) rfl B rfl 26 _ (0, 0) _ HB.out.raw Try.underlying26 rfl infoLs ?_) | (go_at_call 19; with_reducible refine (lnw_at l l nul c _ HN1).mono ?_; rintro r w1 ⟨rfl, hg⟩; replace g0 := g0.trans hg; replace HB := Lib.hid (HB.out.own hg); clear hg) | ((with_reducible show wpList _ _ _ (⟨_, .store 26 (.tmp 3) (.tmp 12), _, _, _, none⟩ :: _) _ _); refine wpList_store_row rfl 26 (.tmp 3) (.tmp 12) rfl _ (lz (nul)) rfl rfl 26 _ (heap_new _ _) infoLs rfl (lz_one _) ?_; rw [World.setRow_alloc_new]))
    obtain ⟨w2, M, hW, hBq, hb, hg, Mg⟩ := blk_new w1 (lz nul) 26
    rw [hW, hBq]
    have HM := Lib.hid hb
    replace g0 := g0.trans hg
    replace HB := Lib.hid (HB.out.own hg)
    clear hW hBq hb hg
    clear Mg
    (try go_frame)
    refine RegD.region_dutyN [15, 16, 17, 14, 18, 19, 5, 6] 5 6 7 (RegI.upd (RegI.upd (RegI.upd (RegI.upd (RegI.upd (RegI.upd (RegI.upd (fun _ => undef) 15 (.agg (lz l))) 16 (.agg (lz wid))) 17 (.tuple #[.agg (lz nul), .int .i64 c])) 14 (.tuple #[.agg (lz nul), .int .i64 c])) 18 (.agg (lz nul))) 19 (.int .i64 c)) 6 (.int .i64 c)) (#[.int .i64 0, .int .i64 0, .int .i64 0, .int .i64 0, .int .i64 0, .int .i64 0, .int .i64 0, .int .i64 0, .int .i64 0, .int .i64 0, .int .i64 0, .int .i64 0, .int .i64 0, .int .i64 0, .int .i64 0, .int .i64 0, .int .i64 0, .int .i64 0, .int .i64 0, .int .i64 0, .int .i64 0, .int .i64 0, .int .i64 0, .int .i64 0, .int .i64 0, .int .i64 0, .int .i64 0, .int .i64 0, .int .i64 0, .int .i64 0, .int .i64 0, .int .i64 0, .int .i64 0, .int .i64 0, .int .i64 0, .int .i64 0, .bool false, .bool false, .int .i64 0, .int .i64 0]) (lz nul) 26 (by kernel_rfl) (by kernel_rfl) (by decide) (by intro d hd; simp at hd; simp; omega) ?_
    simp only [RegD.FF, RegI.FX, RegI.upd, List.foldl_cons, List.foldl_nil, List.mem_cons, List.not_mem_nil, if_true, if_false, Nat.reduceEqDiff, or_false]
    simp only [List.setIfInBounds_toArray, List.set_cons_succ, List.set_cons_zero]
    refine And.intro ?hs3 ?he3
    case hs3 =>
      refine And.intro ?s3_0 (And.intro ?s3_1 (And.intro ?s3_2 (And.intro ?s3_3 (And.intro ?s3_4 (And.intro ?s3_5 (And.intro ?s3_6 (And.intro ?s3_7 (And.intro ?s3_8 (trivial)))))))))
      case s3_0 =>
        refine RegD.stepN_det (by decide) (by decide) (by simp) (fun u w1 hO => ?_)
        have HB9 := Lib.hid (HB.out.own hO)
        go_wp2_with ((with_reducible show wpList _ _ _ (⟨_, .load 26 (.tmp 1), _, _, _, none⟩ :: _) _ _); refine wpList_load_row rfl 26 (.tmp 1) rfl B rfl 26 _ (0, 0) _ HB9.out.raw Try.underlying26 rfl infoLs ?_)
        exact ⟨rfl, rfl, rfl, Own.refl _⟩
      case s3_1 =>
        refine RegD.stepN_det (by decide) (by decide) (by simp) (fun u w1 hO => ?_)
        go_wp2_with (go_at_call 24; with_reducible refine (wide_at _).mono ?_; rintro r w2 ⟨rfl, hg⟩)
        exact ⟨rfl, rfl, rfl, hg⟩
      case s3_2 =>
        refine RegD.stepN_det (by decide) (by decide) (by simp) (fun u w1 hO => ?_)
        go_wp2_with (go_at_call 19; with_reducible refine (lnw_at l wid nul c _ HN2).mono ?_; rintro r w2 ⟨rfl, hg⟩)
        exact ⟨rfl, rfl, rfl, hg⟩
      case s3_3 =>
        refine RegD.stepN_det (by decide) (by decide) (by simp) (fun u w1 hO => ?_)
        go_wp2
        exact ⟨rfl, rfl, rfl, Own.refl _⟩
      case s3_4 =>
        refine RegD.stepN_det (by decide) (by decide) (by simp) (fun u w1 hO => ?_)
        go_wp2
        exact ⟨rfl, rfl, rfl, Own.refl _⟩
      case s3_5 =>
        refine RegD.stepN_det (by decide) (by decide) (by simp) (fun u w1 hO => ?_)
        go_wp2
        exact ⟨rfl, rfl, rfl, Own.refl _⟩
      case s3_6 =>
        refine RegD.stepN_alloc rfl (fun u w1 hO => ?_)
        go_wp2
        exact ⟨rfl, rfl, rfl, rfl⟩
      case s3_7 =>
        refine RegD.stepN_store (by decide) rfl (by kernel_rfl) (fun u w1 N hO hu hN => ?_)
        have HN := Lib.hid hN
        simp only [hu]
        clear hN
        go_wp2_with ((with_reducible show wpList _ _ _ (⟨_, .store 26 (.tmp 5) (.tmp 18), _, _, _, none⟩ :: _) _ _); refine wpList_store_row rfl 26 (.tmp 5) (.tmp 18) rfl N (lz (nul)) rfl rfl 26 _ HN.out.raw infoLs rfl (lz_one _) ?_)
        exact ⟨rfl, rfl, rfl⟩
      case s3_8 =>
        refine RegD.stepN_det (by decide) (by decide) (by simp) (fun u w1 hO => ?_)
        go_wp2
        exact ⟨rfl, rfl, rfl, Own.refl _⟩
    intro u w3 N hO hu hN0 hN
    simp only [hu]
    replace g0 := g0.trans hO
    replace HB := Lib.hid (HB.out.own hO)
    replace HM := Lib.hid (HM.out.own hO)
    have HN := Lib.hid hN
    clear hO hu hN0 hN HN1 HN2
    go_wp2_with (first | ((with_reducible show wpList _ _ _ (⟨_, .load 26 (.tmp 1), _, _, _, none⟩ :: _) _ _); refine wpList_load_row rfl 26 (.tmp 1) rfl B rfl 26 _ (0, 0) _ HB.out.raw Try.underlying26 rfl infoLs ?_) | ((with_reducible show wpList _ _ _ (⟨_, .load 26 (.tmp 3), _, _, _, none⟩ :: _) _ _); refine wpList_load_row rfl 26 (.tmp 3) rfl M rfl 26 _ (0, 0) _ HM.out.raw Try.underlying26 rfl infoLs ?_) | ((with_reducible show wpList _ _ _ (⟨_, .load 26 (.tmp 5), _, _, _, some _⟩ :: _) _ _); refine wpList_load_row_g rfl 26 (.tmp 5) rfl N rfl 26 _ (0, 0) _ HN.out.raw Try.underlying26 rfl infoLs ?_) | ((with_reducible show wpList _ _ _ (⟨_, .load 26 (.tmp 1), _, _, _, some _⟩ :: _) _ _); refine wpList_load_row_g rfl 26 (.tmp 1) rfl B rfl 26 _ (0, 0) _ HB.out.raw Try.underlying26 rfl infoLs ?_) | (go_at_call 14; with_reducible refine (lck_at l c _ HCK).mono ?_; rintro r w4 ⟨rfl, hg⟩; replace g0 := g0.trans hg; replace HB := Lib.hid (HB.out.own hg); replace HM := Lib.hid (HM.out.own hg); replace HN := Lib.hid (HN.out.own hg); clear hg) | (go_at_call 16; with_reducible refine (awake_at _).mono ?_; rintro r w9 ⟨rfl, hg⟩; replace g0 := g0.trans hg; clear hg))
    go_ret
    exact ⟨rfl, g0⟩
end Go.Proofs.Ytmjokgddhainlaa.LimL
