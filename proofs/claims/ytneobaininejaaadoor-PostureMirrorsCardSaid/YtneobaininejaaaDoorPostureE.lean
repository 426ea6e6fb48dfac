/-
  Walks of the specification of layer posture: Mirror. Condition: none.
-/
import Derived.Test.YtneobaininejaaaDoorPostureD
import Derived.Test.YtneobaininejaaaDoorRegBase
namespace Go.Proofs.YtneobaininejaaaDoor.PstW
open Go.ChangeShapes Go.WideShapes Go.ChangeAt Go.RowKit
open PairW AimP AimW BlkW PrtW PstP
set_option maxRecDepth 100000 in
set_option maxHeartbeats 2000000 in
theorem rmirror_any (s : Vl) (w : World) :
    Calls Tryd.prog 21 #[.agg (cz 23 s)] w fun r w' => r = .returned (.tuple #[.agg (cz 23 (miV s)), .int .i64 (stE s)]) ∧ Own w w' := by
  by_cases h : stE s = 0
  · obtain ⟨⟨b0, b1, b2, b3, b4⟩, hz, -⟩ := st_yes h
    have b2' : 0 ≤ 8 - s 2 ∧ 8 - s 2 ≤ 8 := by omega
    obtain ⟨f8, hf8⟩ : ∃ x, (8 - s 2) % 8 = x := ⟨_, rfl⟩
    have HF8 := Lib.hid (show (8 - s 2) % 8 = f8 ∧ (-s 2) % 8 = f8 ∧ (8 - s 2).tmod 8 = f8 from ⟨hf8, by omega, by rw [Int.tmod_eq_emod_of_nonneg b2'.1]; exact hf8⟩)
    have HC := Lib.hid h
    obtain ⟨v4, hu⟩ : ∃ x, xch (s 4) = x := ⟨_, rfl⟩
    have HU := Lib.hid hu
    have HZ := Lib.hid hz
    have HVE := Lib.hid (show miV s = miS s from miV_yes h)
    rw [h]
    clear h hu hz hf8
    go_enter Tryd.func21, Tryd.ntmps21
    go_upto_region 1 with (fail)
    obtain ⟨W0, B, P, hW, hP, hB, hb, hp, g0, -, hP0, hne⟩ := two_new w (cz 23 s) 28 (cz 23 nul) 28
    rw [← cz23_nul] at hW
    rw [hW, hP, hB]
    have HB := Lib.hid hb
    have HP := Lib.hid hp
    have HNE := Lib.hid hne
    clear hW hP hB hb hp hne

    go_upto_region 4 with (first | ((with_reducible show wpList _ _ _ (⟨_, .load 28 (.tmp 1), _, _, _, none⟩ :: _) _ _); refine wpList_load_row rfl 28 (.tmp 1) rfl B rfl 28 _ (0, 0) _ HB.out.raw Tryd.underlying28 rfl infoS ?_) | (go_at_call 14; with_reducible refine (rcheck_at s 0 _ HC).mono ?_; rintro r w1 ⟨rfl, hg⟩; replace g0 := g0.trans hg; replace HB := Lib.hid (HB.out.own hg); replace HP := Lib.hid (HP.out.own hg); clear hg))
    refine RegD.region_new [18, 19, 20, 21, 22, 23, 24, 25, 26, 27, 28, 29, 30, 31, 32, 33, 34, 35, 5] 5 18 19 (RegI.upd (RegI.upd (RegI.upd (RegI.upd (RegI.upd (RegI.upd (RegI.upd (RegI.upd (RegI.upd (RegI.upd (RegI.upd (RegI.upd (RegI.upd (RegI.upd (RegI.upd (RegI.upd (RegI.upd (RegI.upd (fun _ => undef) 18 (.pointer (some ⟨B, 0, none⟩))) 19 (.pointer (some ⟨B, 0, none⟩))) 20 (.int .i64 (s 0))) 21 (.int .i64 (-s 0))) 22 (.pointer (some ⟨B, 0, none⟩))) 23 (.pointer (some ⟨B, 1, none⟩))) 24 (.int .i64 (s 1))) 25 (.agg #[.int .i64 (-s 0), .int .i64 (s 1)])) 26 (.pointer (some ⟨B, 2, none⟩))) 27 (.int .i64 (s 2))) 28 (.int .i64 (8 - s 2))) 29 (.int .i64 f8)) 30 (.pointer (some ⟨B, 3, none⟩))) 31 (.int .i64 (s 3))) 32 (.pointer (some ⟨B, 4, none⟩))) 33 (.int .i64 (s 4))) 34 (.int .i64 v4)) 35 (.agg (cz 23 (st5 (-s 0) (s 1) f8 (s 3) v4 nul)))) (cz 23 nul) (cz 23 (st5 (-s 0) (s 1) f8 (s 3) v4 nul)) 28 (by kernel_rfl) (by kernel_rfl) (by decide) (by intro d hd; simp at hd; simp; omega) ?hs ?he
    case hs =>
      refine And.intro ?s0 (And.intro ?s1 (And.intro ?s2 (And.intro ?s3 (And.intro ?s4 (And.intro ?s5 (And.intro ?s6 (And.intro ?s7 (And.intro ?s8 (And.intro ?s9 (And.intro ?s10 (And.intro ?s11 (And.intro ?s12 (And.intro ?s13 (And.intro ?s14 (And.intro ?s15 (And.intro ?s16 (And.intro ?s17 (And.intro ?s18 (And.intro ?s19 (trivial))))))))))))))))))))
      case s0 =>
        refine RegD.det_new (by decide) (by decide) (by simp) (fun u w1 hO => ?_)
        simp only [RegD.FF, RegI.FX, RegI.upd, List.foldl_cons, List.foldl_nil, List.mem_cons, List.not_mem_nil, if_true, if_false, Nat.reduceEqDiff, or_false]
        simp only [List.setIfInBounds_toArray, List.set_cons_succ, List.set_cons_zero]
        go_wp2
        exact ⟨rfl, rfl, rfl, Own.refl _⟩
      case s1 =>
        refine RegD.det_new (by decide) (by decide) (by simp) (fun u w1 hO => ?_)
        simp only [RegD.FF, RegI.FX, RegI.upd, List.foldl_cons, List.foldl_nil, List.mem_cons, List.not_mem_nil, if_true, if_false, Nat.reduceEqDiff, or_false]
        simp only [List.setIfInBounds_toArray, List.set_cons_succ, List.set_cons_zero]
        go_wp2
        exact ⟨rfl, rfl, rfl, Own.refl _⟩
      case s2 =>
        refine RegD.det_new (by decide) (by decide) (by simp) (fun u w1 hO => ?_)
        have k := blk_num (HB.out.own hO) (i := 0) (by omega)
        simp only [RegD.FF, RegI.FX, RegI.upd, List.foldl_cons, List.foldl_nil, List.mem_cons, List.not_mem_nil, if_true, if_false, Nat.reduceEqDiff, or_false]
        simp only [List.setIfInBounds_toArray, List.set_cons_succ, List.set_cons_zero]
        go_wp2
        exact ⟨rfl, rfl, rfl, Own.refl _⟩
      case s3 =>
        refine RegD.det_new (by decide) (by decide) (by simp) (fun u w1 hO => ?_)
        simp only [RegD.FF, RegI.FX, RegI.upd, List.foldl_cons, List.foldl_nil, List.mem_cons, List.not_mem_nil, if_true, if_false, Nat.reduceEqDiff, or_false]
        simp only [List.setIfInBounds_toArray, List.set_cons_succ, List.set_cons_zero]
        go_wp2
        exact ⟨rfl, rfl, rfl, Own.refl _⟩
      case s4 =>
        refine RegD.det_new (by decide) (by decide) (by simp) (fun u w1 hO => ?_)
        simp only [RegD.FF, RegI.FX, RegI.upd, List.foldl_cons, List.foldl_nil, List.mem_cons, List.not_mem_nil, if_true, if_false, Nat.reduceEqDiff, or_false]
        simp only [List.setIfInBounds_toArray, List.set_cons_succ, List.set_cons_zero]
        go_wp2
        exact ⟨rfl, rfl, rfl, Own.refl _⟩
      case s5 =>
        refine RegD.det_new (by decide) (by decide) (by simp) (fun u w1 hO => ?_)
        simp only [RegD.FF, RegI.FX, RegI.upd, List.foldl_cons, List.foldl_nil, List.mem_cons, List.not_mem_nil, if_true, if_false, Nat.reduceEqDiff, or_false]
        simp only [List.setIfInBounds_toArray, List.set_cons_succ, List.set_cons_zero]
        go_wp2
        exact ⟨rfl, rfl, rfl, Own.refl _⟩
      case s6 =>
        refine RegD.det_new (by decide) (by decide) (by simp) (fun u w1 hO => ?_)
        have k := blk_num (HB.out.own hO) (i := 1) (by omega)
        simp only [RegD.FF, RegI.FX, RegI.upd, List.foldl_cons, List.foldl_nil, List.mem_cons, List.not_mem_nil, if_true, if_false, Nat.reduceEqDiff, or_false]
        simp only [List.setIfInBounds_toArray, List.set_cons_succ, List.set_cons_zero]
        go_wp2
        exact ⟨rfl, rfl, rfl, Own.refl _⟩
      case s7 =>
        refine RegD.det_new (by decide) (by decide) (by simp) (fun u w1 hO => ?_)
        simp only [RegD.FF, RegI.FX, RegI.upd, List.foldl_cons, List.foldl_nil, List.mem_cons, List.not_mem_nil, if_true, if_false, Nat.reduceEqDiff, or_false]
        simp only [List.setIfInBounds_toArray, List.set_cons_succ, List.set_cons_zero]
        go_wp2
        exact ⟨rfl, rfl, rfl, Own.refl _⟩
      case s8 =>
        refine RegD.det_new (by decide) (by decide) (by simp) (fun u w1 hO => ?_)
        simp only [RegD.FF, RegI.FX, RegI.upd, List.foldl_cons, List.foldl_nil, List.mem_cons, List.not_mem_nil, if_true, if_false, Nat.reduceEqDiff, or_false]
        simp only [List.setIfInBounds_toArray, List.set_cons_succ, List.set_cons_zero]
        go_wp2
        exact ⟨rfl, rfl, rfl, Own.refl _⟩
      case s9 =>
        refine RegD.det_new (by decide) (by decide) (by simp) (fun u w1 hO => ?_)
        have k := blk_num (HB.out.own hO) (i := 2) (by omega)
        simp only [RegD.FF, RegI.FX, RegI.upd, List.foldl_cons, List.foldl_nil, List.mem_cons, List.not_mem_nil, if_true, if_false, Nat.reduceEqDiff, or_false]
        simp only [List.setIfInBounds_toArray, List.set_cons_succ, List.set_cons_zero]
        go_wp2
        exact ⟨rfl, rfl, rfl, Own.refl _⟩
      case s10 =>
        refine RegD.det_new (by decide) (by decide) (by simp) (fun u w1 hO => ?_)
        simp only [RegD.FF, RegI.FX, RegI.upd, List.foldl_cons, List.foldl_nil, List.mem_cons, List.not_mem_nil, if_true, if_false, Nat.reduceEqDiff, or_false]
        simp only [List.setIfInBounds_toArray, List.set_cons_succ, List.set_cons_zero]
        go_wp2
        exact ⟨rfl, rfl, rfl, Own.refl _⟩
      case s11 =>
        refine RegD.det_new (by decide) (by decide) (by simp) (fun u w1 hO => ?_)
        have e1 := HF8.out.1
        have e2 := HF8.out.2.1
        have e3 := HF8.out.2.2
        simp only [RegD.FF, RegI.FX, RegI.upd, List.foldl_cons, List.foldl_nil, List.mem_cons, List.not_mem_nil, if_true, if_false, Nat.reduceEqDiff, or_false]
        simp only [List.setIfInBounds_toArray, List.set_cons_succ, List.set_cons_zero]
        go_wp2
        exact ⟨rfl, rfl, rfl, Own.refl _⟩
      case s12 =>
        refine RegD.det_new (by decide) (by decide) (by simp) (fun u w1 hO => ?_)
        simp only [RegD.FF, RegI.FX, RegI.upd, List.foldl_cons, List.foldl_nil, List.mem_cons, List.not_mem_nil, if_true, if_false, Nat.reduceEqDiff, or_false]
        simp only [List.setIfInBounds_toArray, List.set_cons_succ, List.set_cons_zero]
        go_wp2
        exact ⟨rfl, rfl, rfl, Own.refl _⟩
      case s13 =>
        refine RegD.det_new (by decide) (by decide) (by simp) (fun u w1 hO => ?_)
        have k := blk_num (HB.out.own hO) (i := 3) (by omega)
        simp only [RegD.FF, RegI.FX, RegI.upd, List.foldl_cons, List.foldl_nil, List.mem_cons, List.not_mem_nil, if_true, if_false, Nat.reduceEqDiff, or_false]
        simp only [List.setIfInBounds_toArray, List.set_cons_succ, List.set_cons_zero]
        go_wp2
        exact ⟨rfl, rfl, rfl, Own.refl _⟩
      case s14 =>
        refine RegD.det_new (by decide) (by decide) (by simp) (fun u w1 hO => ?_)
        simp only [RegD.FF, RegI.FX, RegI.upd, List.foldl_cons, List.foldl_nil, List.mem_cons, List.not_mem_nil, if_true, if_false, Nat.reduceEqDiff, or_false]
        simp only [List.setIfInBounds_toArray, List.set_cons_succ, List.set_cons_zero]
        go_wp2
        exact ⟨rfl, rfl, rfl, Own.refl _⟩
      case s15 =>
        refine RegD.det_new (by decide) (by decide) (by simp) (fun u w1 hO => ?_)
        have k := blk_num (HB.out.own hO) (i := 4) (by omega)
        simp only [RegD.FF, RegI.FX, RegI.upd, List.foldl_cons, List.foldl_nil, List.mem_cons, List.not_mem_nil, if_true, if_false, Nat.reduceEqDiff, or_false]
        simp only [List.setIfInBounds_toArray, List.set_cons_succ, List.set_cons_zero]
        go_wp2
        exact ⟨rfl, rfl, rfl, Own.refl _⟩
      case s16 =>
        refine RegD.det_new (by decide) (by decide) (by simp) (fun u w1 hO => ?_)
        simp only [RegD.FF, RegI.FX, RegI.upd, List.foldl_cons, List.foldl_nil, List.mem_cons, List.not_mem_nil, if_true, if_false, Nat.reduceEqDiff, or_false]
        simp only [List.setIfInBounds_toArray, List.set_cons_succ, List.set_cons_zero]
        go_wp2_with (go_at_call 50; with_reducible refine (rexc_at (s 4) v4 _ b4 HU).mono ?_; rintro r w1 ⟨rfl, rfl⟩)
        exact ⟨rfl, rfl, rfl, Own.refl _⟩
      case s17 =>
        refine RegD.det_new (by decide) (by decide) (by simp) (fun u w1 hO => ?_)
        simp only [RegD.FF, RegI.FX, RegI.upd, List.foldl_cons, List.foldl_nil, List.mem_cons, List.not_mem_nil, if_true, if_false, Nat.reduceEqDiff, or_false]
        simp only [List.setIfInBounds_toArray, List.set_cons_succ, List.set_cons_zero]
        go_wp2_with ((with_reducible show wpList _ _ _ (⟨_, .build 28 _, _, _, _, _⟩ :: _) _ _); refine wpList_build_as rfl 28 [(0, .tmp 25), (1, .tmp 29), (2, .tmp 31), (3, .tmp 34)] rfl [(0, .agg #[.int .i64 (-s 0), .int .i64 (s 1)]), (1, .int .i64 f8), (2, .int .i64 (s 3)), (3, .int .i64 v4)] rfl (cz 23 (st5 (-s 0) (s 1) f8 (s 3) v4 nul)) (bld_start4r _ _ _ _ _) ?_)
        exact ⟨rfl, rfl, rfl, Own.refl _⟩
      case s18 =>
        refine RegD.alloc_new (by decide) rfl (fun u w1 hO => ?_)
        simp only [RegD.FF, RegI.FX, RegI.upd, List.foldl_cons, List.foldl_nil, List.mem_cons, List.not_mem_nil, if_true, if_false, Nat.reduceEqDiff, or_false]
        simp only [List.setIfInBounds_toArray, List.set_cons_succ, List.set_cons_zero]
        go_wp2
        exact ⟨rfl, rfl, rfl, rfl⟩
      case s19 =>
        refine RegD.store_new (by decide) rfl (by kernel_rfl) (fun u w1 N hO hu hN => ?_)
        have HN := Lib.hid hN
        simp only [RegD.FF, RegI.FX, RegI.upd, List.foldl_cons, List.foldl_nil, List.mem_cons, List.not_mem_nil, if_true, if_false, Nat.reduceEqDiff, or_false, hu]
        simp only [List.setIfInBounds_toArray, List.set_cons_succ, List.set_cons_zero]
        clear hN
        go_wp2_with ((with_reducible show wpList _ _ _ (⟨_, .store 28 (.tmp 5) (.tmp 35), _, _, _, none⟩ :: _) _ _); refine wpList_store_row rfl 28 (.tmp 5) (.tmp 35) rfl N (cz 23 (st5 (-s 0) (s 1) f8 (s 3) v4 nul)) rfl rfl 28 _ HN.out.raw infoS rfl (cz_one _ _) ?_)
        exact ⟨rfl, rfl, rfl⟩
    case he =>
      have hBN := HB.out.lt
      intro u w2 N g1 hu hn hN
      replace hBN := Lib.hid (Nat.ne_of_lt (Nat.lt_of_lt_of_le hBN hn))
      have hPN := Lib.hid (Nat.ne_of_lt (Nat.lt_of_lt_of_le HP.out.lt hn))
      have hN0 : w.heap.size ≤ N := Nat.le_trans g0.size hn
      replace g0 := g0.trans g1
      replace HB := Lib.hid (HB.out.own g1)
      replace HP := Lib.hid (HP.out.own g1)
      have HN := Lib.hid hN
      simp only [RegD.FF, RegI.FX, RegI.upd, List.foldl_cons, List.foldl_nil, List.mem_cons, List.not_mem_nil, if_true, if_false, Nat.reduceEqDiff, or_false, hu]
      simp only [List.setIfInBounds_toArray, List.set_cons_succ, List.set_cons_zero]
      clear g1 hn hN hu

      go_wp2
      go_loopw [6, 7, 8, 9, 10, 11] (fun vi _ _ _ _ _ wr => ∃ k : Nat, vi = .int .i64 (k : Int) ∧ k ≤ 6 ∧ Own w wr ∧ Blk wr B (cz 23 s) 28 ∧ Blk wr P (cz 23 nul) 28 ∧ ∃ f, Blk wr N (cz 23 f) 28 ∧ ∀ j, j < 5 + k * 3 → f j = miS s j) (fun vi _ _ _ _ _ _ => 6 - (intOf vi).toNat)
      case atStart =>
        refine ⟨0, rfl, by omega, g0, HB.out, HP.out, _, HN.out, fun j hj => ?_⟩
        rw [← HU.out, ← HF8.out.1]
        have t : j = 0 ∨ j = 1 ∨ j = 2 ∨ j = 3 ∨ j = 4 := by omega
        rcases t with rfl | rfl | rfl | rfl | rfl <;> rfl
      case round =>
        clear HP HN HB g0
        obtain ⟨k, rfl, hk, g0, hb, hp, f, hn, hf⟩ := hrel
        have HB := Lib.hid hb
        have HP := Lib.hid hp
        have HN := Lib.hid hn
        have HF := Lib.hid hf
        clear hb hp hn hf
        by_cases hlt : k < 6
        · obtain ⟨m, hm⟩ : ∃ m, swN k = m := ⟨_, rfl⟩
          have bm : m < 6 := by rw [← hm]; exact swN_lt hlt
          have HSW := Lib.hid (show swp (k : Int) = (m : Int) ∧ swE (k : Int) = 0 from ⟨by rw [swp_nat hlt, hm], if_pos (by omega)⟩)
          have hd := (of_yes (HZ.out m bm)).2.1.1
          obtain ⟨d1, hd1⟩ : ∃ x, miD s k = x := ⟨_, rfl⟩
          have HMD := Lib.hid (show DirP.mirV (s (5 + m * 3)) = d1 ∧ DirP.dirE (s (5 + m * 3)) = 0 from ⟨by rw [← hd1, ← hm]; rfl, if_pos hd⟩)
          have HO := Lib.hid (show miD s k = d1 ∧ miL s k = s (5 + m * 3 + 1) ∧ miB s k = s (5 + m * 3 + 2) from ⟨hd1, by rw [← hm]; rfl, by rw [← hm]; rfl⟩)
          have hkn : (k : Int) < 6 := by omega
          have hmn : (m : Int) < 6 := by omega
          clear hm hd hd1
          go_upto_region 10 with (first | (go_at_call 51; with_reducible refine (rswap_at k m 0 _ HSW).mono ?_; rintro r w1 ⟨rfl, rfl⟩) | ((with_reducible show wpList _ _ _ (⟨_, .load 25 (.tmp 47), _, _, _, none⟩ :: _) _ _); refine wpList_load_part rfl 25 (.tmp 47) rfl B (5 + m * 3) rfl 3 HB.out (by omega) (#[.int .i64 (s (5 + m * 3)), .int .i64 (s (5 + m * 3 + 1)), .int .i64 (s (5 + m * 3 + 2))]) rfl _ Tryd.underlying25 rfl infoT ?_) | ((with_reducible show wpList _ _ _ (⟨_, .store 25 (.tmp 9) (.tmp 48), _, _, _, none⟩ :: _) _ _); refine wpList_store_row rfl 25 (.tmp 9) (.tmp 48) rfl _ #[.int .i64 (s (5 + m * 3)), .int .i64 (s (5 + m * 3 + 1)), .int .i64 (s (5 + m * 3 + 2))] rfl rfl 25 _ (heap_new _ _) infoT rfl (by simp [Value.oneCell']) ?_; rw [World.setRow_alloc_new]))
          obtain ⟨w3, G, hW, hBq, hb, hg, Gg⟩ := blk_new wr (#[.int .i64 (s (5 + m * 3)), .int .i64 (s (5 + m * 3 + 1)), .int .i64 (s (5 + m * 3 + 2))]) 25
          rw [hW, hBq]
          have HG := Lib.hid hb
          replace g0 := g0.trans hg
          replace HB := Lib.hid (HB.out.own hg)
          replace HP := Lib.hid (HP.out.own hg)
          replace HN := Lib.hid (HN.out.own hg)
          clear hW hBq hb hg
          have k0 := HG.out.three.1
          have k1 := HG.out.three.2.1
          have k2 := HG.out.three.2.2
          go_upto_region 7 with (first | (go_at_call 52; with_reducible refine (DirW.rmirror_at _ d1 0 _ HMD).mono ?_; rintro r w1 ⟨rfl, rfl⟩) | ((with_reducible show wpList _ _ _ (⟨_, .store 25 (.tmp 63) (.tmp 61), _, _, _, none⟩ :: _) _ _); refine wpList_store_part rfl 25 (.tmp 63) (.tmp 61) rfl N (5 + k * 3) 3 (l3 d1 (s (5 + m * 3 + 1)) (s (5 + m * 3 + 2))) rfl (#[.int .i64 d1, .int .i64 (s (5 + m * 3 + 1)), .int .i64 (s (5 + m * 3 + 2))]) rfl rfl HN.out (by omega) infoT ?_))
          have hn := HN.out.row (cz 23 (put f (5 + k * 3) 3 (l3 d1 (s (5 + m * 3 + 1)) (s (5 + m * 3 + 2)))))
          have hp := HP.out.rowfar hPN.out (cz 23 (put f (5 + k * 3) 3 (l3 d1 (s (5 + m * 3 + 1)) (s (5 + m * 3 + 2)))))
          have hb := HB.out.rowfar hBN.out (cz 23 (put f (5 + k * 3) 3 (l3 d1 (s (5 + m * 3 + 1)) (s (5 + m * 3 + 2)))))
          replace g0 := own_setRow g0 hN0 (cz 23 (put f (5 + k * 3) 3 (l3 d1 (s (5 + m * 3 + 1)) (s (5 + m * 3 + 2)))))
          clear HP HN HB HG Gg k0 k1 k2
          generalize w3.setRow N (cz 23 (put f (5 + k * 3) 3 (l3 d1 (s (5 + m * 3 + 1)) (s (5 + m * 3 + 2))))) = w5 at *
          have HR := Lib.hid (And.intro hb (And.intro hp hn))
          clear hp hn hb
          go_wp2
          go_roundw
          case rel =>
            refine ⟨k + 1, by go_num, hlt, g0, HR.out.1, HR.out.2.1, _, HR.out.2.2, fun j hj => ?_⟩
            obtain ⟨o1, o2, o3⟩ := HO.out
            obtain ⟨n1, n2, n3⟩ := mi_cells s k
            exact put_next (g := miS s) HF.out (n1.trans o1) (n2.trans o2) (n3.trans o3) j (by omega)
          case measure => simp [intOf]; omega
        · obtain rfl : k = 6 := by omega
          have HV := Lib.hid (show cz 23 f = cz 23 (miV s) by rw [HVE.out]; exact cz_congr HF.out)
          clear HF HVE HZ
          go_wp2_with (first | ((with_reducible show wpList _ _ _ (⟨_, .load 28 (.tmp 5), _, _, _, none⟩ :: _) _ _); refine wpList_load_row rfl 28 (.tmp 5) rfl N rfl 28 _ (0, 0) _ HN.out.raw Tryd.underlying28 rfl infoS ?_) | ((with_reducible show wpList _ _ _ (⟨_, .store 28 (.tmp 2) (.tmp 64), _, _, _, none⟩ :: _) _ _); refine wpList_store_row rfl 28 (.tmp 2) (.tmp 64) rfl P (cz 23 (f)) rfl rfl 28 _ HP.out.raw infoS rfl (cz_one _ _) ?_))
          have hp := HP.out.row (cz 23 f)
          rw [← HV.out]
          exact bodyPost_ret (blk_results rfl rfl rfl hp Tryd.underlying28 rfl infoS) rfl ⟨rfl, own_setRow g0 hP0 _⟩
  · obtain ⟨c, hc⟩ : ∃ c, stE s = c := ⟨_, rfl⟩
    rw [miV_no h, hc]
    rw [hc] at h
    have kc : (c != 0) = true := bne_iff_ne.2 h
    have HC := Lib.hid hc
    clear h hc
    go_enter Tryd.func21, Tryd.ntmps21
    go_upto_region 1 with (fail)
    obtain ⟨W0, B, P, hW, hP, hB, hb, hp, g0, -, hP0, hne⟩ := two_new w (cz 23 s) 28 (cz 23 nul) 28
    rw [← cz23_nul] at hW
    rw [hW, hP, hB]
    have HB := Lib.hid hb
    have HP := Lib.hid hp
    have HNE := Lib.hid hne
    clear hW hP hB hb hp hne

    go_wp2_with (first | ((with_reducible show wpList _ _ _ (⟨_, .load 28 (.tmp 1), _, _, _, none⟩ :: _) _ _); refine wpList_load_row rfl 28 (.tmp 1) rfl B rfl 28 _ (0, 0) _ HB.out.raw Tryd.underlying28 rfl infoS ?_) | (go_at_call 14; with_reducible refine (rcheck_at s c _ HC).mono ?_; rintro r w1 ⟨rfl, hg⟩; replace g0 := g0.trans hg; replace HB := Lib.hid (HB.out.own hg); replace HP := Lib.hid (HP.out.own hg); clear hg) | ((with_reducible show wpList _ _ _ (⟨_, .store 28 (.tmp 2) (.tmp 16), _, _, _, none⟩ :: _) _ _); refine wpList_store_row rfl 28 (.tmp 2) (.tmp 16) rfl P (cz 23 (nul)) rfl rfl 28 _ HP.out.raw infoS rfl (cz_one _ _) ?_))
    have hp := HP.out.row (cz 23 nul)
    exact bodyPost_ret (blk_results rfl rfl rfl hp Tryd.underlying28 rfl infoS) rfl ⟨rfl, own_setRow g0 hP0 _⟩
theorem rmirror_at (s m : Vl) (c : Int) (w : World) (H : Hid (cz 23 (miV s) = cz 23 m ∧ stE s = c)) :
    Calls Tryd.prog 21 #[.agg (cz 23 s)] w fun r w' => r = .returned (.tuple #[.agg (cz 23 m), .int .i64 c]) ∧ Own w w' := by
  rw [← H.out.1, ← H.out.2]
  exact rmirror_any s w
end Go.Proofs.YtneobaininejaaaDoor.PstW
