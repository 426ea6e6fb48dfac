/-
  Walks of the program of package posture: mirrored, otherFeet, Mirror. Condition: the target straight down lies in memory (Dn).
-/
import Derived.Test.YtneobaininejaaaDoorPosturePD
import Derived.Test.YtneobaininejaaaDoorRegBase
namespace Go.Proofs.YtneobaininejaaaDoor.PstW
open Go.ChangeShapes Go.WideShapes Go.ChangeAt Go.RowKit
open PairW AimP AimW BlkW PrtW PstP
theorem qmp_at (x y : Int) (w : World) (hx : -32768 ≤ x ∧ x ≤ 32768) :
    Calls Tryd.prog 46 #[.agg #[.int .i64 x, .int .i64 y]] w fun r w' => r = .returned (.agg #[.int .i64 (-x), .int .i64 y]) ∧ Own w w' := by
  go_enter Tryd.func46, Tryd.ntmps46
  go_upto_region 1 with (fail)
  obtain ⟨W0, B, P, hW, hP, hB, hb, hp, g0, -, hP0, -⟩ := two_new w (#[.int .i64 x, .int .i64 y]) 23 (#[.int .i64 0, .int .i64 0]) 23
  rw [hW, hP, hB]
  have k0 := hb.cell 0
  have k1 := hb.cell 1
  have HP := Lib.hid hp
  clear hW hP hB hb hp
  go_wp2_with ((with_reducible show wpList _ _ _ (⟨_, .store 23 (.tmp 2) (.tmp 8), _, _, _, none⟩ :: _) _ _); refine wpList_store_row rfl 23 (.tmp 2) (.tmp 8) rfl P #[.int .i64 (-x), .int .i64 y] rfl rfl 23 _ HP.out.raw infoPt rfl (by simp [Value.oneCell']) ?_)
  have hp := HP.out.row #[.int .i64 (-x), .int .i64 y]
  exact bodyPost_ret (blk_result rfl rfl hp Tryd.underlying23 rfl infoPt) rfl ⟨rfl, own_setRow g0 hP0 _⟩
theorem qof_at (u v : Int) (w : World) (H : Hid (xch u = v)) :
    Calls Tryd.prog 47 #[.int .i64 u] w fun r w' => r = .returned (.int .i64 v) ∧ w = w' := by
  by_cases h1 : u = 1
  · subst h1
    obtain rfl : 2 = v := H.out
    clear H
    go_enter Tryd.func47, Tryd.ntmps47
    go_wp2
    go_ret
    exact ⟨rfl, rfl⟩
  · by_cases h2 : u = 2
    · subst h2
      obtain rfl : 1 = v := H.out
      clear H
      go_enter Tryd.func47, Tryd.ntmps47
      go_wp2
      go_ret
      exact ⟨rfl, rfl⟩
    · obtain rfl : u = v := by
        have := H.out
        unfold xch at this
        rwa [if_neg h1, if_neg h2] at this
      clear H
      have k1 : (u == 1) = false := beq_eq_false_iff_ne.2 h1
      have k2 : (u == 2) = false := beq_eq_false_iff_ne.2 h2
      clear h1 h2
      go_enter Tryd.func47, Tryd.ntmps47
      go_wp2
      go_ret
      exact ⟨rfl, rfl⟩
theorem swN_inj {i k : Nat} (hi : i < 6) (hk : k < 6) (h : swN i = swN k) : i = k := by rw [← swN_swN hi, h, swN_swN hk]
set_option maxRecDepth 100000 in
set_option maxHeartbeats 2000000 in
theorem qmirror_any (s : Vl) (w : World) (HD : Hid (Dn w)) :
    Calls Tryd.prog 20 #[.agg (cz 23 s)] w fun r w' => r = .returned (.tuple #[.agg (cz 23 (miV s)), .int .i64 (stE s)]) ∧ Own w w' := by
  by_cases h : stE s = 0
  · obtain ⟨⟨b0, b1, b2, b3, b4⟩, hz, -⟩ := st_yes h
    have b2' : 0 ≤ 8 - s 2 ∧ 8 - s 2 ≤ 8 := by omega
    have HC := Lib.hid h
    obtain ⟨v4, hu⟩ : ∃ x, xch (s 4) = x := ⟨_, rfl⟩
    have HU := Lib.hid hu
    have HZ := Lib.hid hz
    have HVE := Lib.hid (show miV s = miS s from miV_yes h)
    have HX := Lib.hid (fun (k : Nat) (h : k < 6) => idxT s h)
    rw [h]
    clear h hu hz
    go_enter Tryd.func20, Tryd.ntmps20
    go_upto_region 1 with (fail)
    obtain ⟨W0, B, P, hW, hP, hB, hb, hp, g0, -, hP0, hne⟩ := two_new w (cz 23 s) 28 (cz 23 nul) 28
    rw [← cz23_nul] at hW
    rw [hW, hP, hB]
    have HB := Lib.hid hb
    have HP := Lib.hid hp
    have HNE := Lib.hid hne
    clear hW hP hB hb hp hne

    go_upto_region 4 with (first | ((with_reducible show wpList _ _ _ (⟨_, .load 28 (.tmp 1), _, _, _, none⟩ :: _) _ _); refine wpList_load_row rfl 28 (.tmp 1) rfl B rfl 28 _ (0, 0) _ HB.out.raw Tryd.underlying28 rfl infoS ?_) | (go_at_call 13; with_reducible refine (pcheck_at s 0 _ (Lib.hid (HD.out.own g0)) HC).mono ?_; rintro r w1 ⟨rfl, hg⟩; replace g0 := g0.trans hg; replace HB := Lib.hid (HB.out.own hg); replace HP := Lib.hid (HP.out.own hg); clear hg))
    refine RegD.region_new [16, 17, 18, 19, 20, 21, 22, 23, 24, 25, 26, 27, 28, 5] 5 13 14 (RegI.upd (RegI.upd (RegI.upd (RegI.upd (RegI.upd (RegI.upd (RegI.upd (RegI.upd (RegI.upd (RegI.upd (RegI.upd (RegI.upd (RegI.upd (fun _ => undef) 16 (.pointer (some ⟨B, 0, none⟩))) 17 (.agg #[.int .i64 (s 0), .int .i64 (s 1)])) 18 (.agg #[.int .i64 (-s 0), .int .i64 (s 1)])) 19 (.pointer (some ⟨B, 2, none⟩))) 20 (.int .i64 (s 2))) 21 (.int .i64 (8 - s 2))) 22 (.int .i64 ((8 - s 2) % 8))) 23 (.pointer (some ⟨B, 3, none⟩))) 24 (.int .i64 (s 3))) 25 (.pointer (some ⟨B, 4, none⟩))) 26 (.int .i64 (s 4))) 27 (.int .i64 v4)) 28 (.agg (cz 23 (st5 (-s 0) (s 1) ((8 - s 2) % 8) (s 3) v4 nul)))) (cz 23 nul) (cz 23 (st5 (-s 0) (s 1) ((8 - s 2) % 8) (s 3) v4 nul)) 28 (by kernel_rfl) (by kernel_rfl) (by decide) (by intro d hd; simp at hd; simp; omega) ?hs ?he
    case hs =>
      refine And.intro ?s0 (And.intro ?s1 (And.intro ?s2 (And.intro ?s3 (And.intro ?s4 (And.intro ?s5 (And.intro ?s6 (And.intro ?s7 (And.intro ?s8 (And.intro ?s9 (And.intro ?s10 (And.intro ?s11 (And.intro ?s12 (And.intro ?s13 (And.intro ?s14 (trivial)))))))))))))))
      case s0 =>
        refine RegD.det_new (by decide) (by decide) (by simp) (fun u w1 hO => ?_)
        simp only [RegD.FF, RegI.FX, RegI.upd, List.foldl_cons, List.foldl_nil, List.mem_cons, List.not_mem_nil, if_true, if_false, Nat.reduceEqDiff, or_false]
        simp only [List.setIfInBounds_toArray, List.set_cons_succ, List.set_cons_zero]
        go_wp2
        exact ⟨rfl, rfl, rfl, Own.refl _⟩
      case s1 =>
        refine RegD.det_new (by decide) (by decide) (by simp) (fun u w1 hO => ?_)
        have HB9 := Lib.hid (HB.out.own hO)
        simp only [RegD.FF, RegI.FX, RegI.upd, List.foldl_cons, List.foldl_nil, List.mem_cons, List.not_mem_nil, if_true, if_false, Nat.reduceEqDiff, or_false]
        simp only [List.setIfInBounds_toArray, List.set_cons_succ, List.set_cons_zero]
        go_wp2_with ((with_reducible show wpList _ _ _ (⟨_, .load 23 (.tmp 16), _, _, _, none⟩ :: _) _ _); refine wpList_load_part rfl 23 (.tmp 16) rfl B (0) rfl 2 HB9.out (by omega) (#[.int .i64 (s 0), .int .i64 (s 1)]) rfl _ Tryd.underlying23 rfl infoPt ?_)
        exact ⟨rfl, rfl, rfl, Own.refl _⟩
      case s2 =>
        refine RegD.det_new (by decide) (by decide) (by simp) (fun u w1 hO => ?_)
        simp only [RegD.FF, RegI.FX, RegI.upd, List.foldl_cons, List.foldl_nil, List.mem_cons, List.not_mem_nil, if_true, if_false, Nat.reduceEqDiff, or_false]
        simp only [List.setIfInBounds_toArray, List.set_cons_succ, List.set_cons_zero]
        go_wp2_with (go_at_call 46; with_reducible refine (qmp_at (s 0) (s 1) _ b0).mono ?_; rintro r w2 ⟨rfl, hg⟩)
        exact ⟨rfl, rfl, rfl, hg⟩
      case s3 =>
        refine RegD.det_new (by decide) (by decide) (by simp) (fun u w1 hO => ?_)
        simp only [RegD.FF, RegI.FX, RegI.upd, List.foldl_cons, List.foldl_nil, List.mem_cons, List.not_mem_nil, if_true, if_false, Nat.reduceEqDiff, or_false]
        simp only [List.setIfInBounds_toArray, List.set_cons_succ, List.set_cons_zero]
        go_wp2
        exact ⟨rfl, rfl, rfl, Own.refl _⟩
      case s4 =>
        refine RegD.det_new (by decide) (by decide) (by simp) (fun u w1 hO => ?_)
        have k := blk_num (HB.out.own hO) (i := 2) (by omega)
        simp only [RegD.FF, RegI.FX, RegI.upd, List.foldl_cons, List.foldl_nil, List.mem_cons, List.not_mem_nil, if_true, if_false, Nat.reduceEqDiff, or_false]
        simp only [List.setIfInBounds_toArray, List.set_cons_succ, List.set_cons_zero]
        go_wp2
        exact ⟨rfl, rfl, rfl, Own.refl _⟩
      case s5 =>
        refine RegD.det_new (by decide) (by decide) (by simp) (fun u w1 hO => ?_)
        simp only [RegD.FF, RegI.FX, RegI.upd, List.foldl_cons, List.foldl_nil, List.mem_cons, List.not_mem_nil, if_true, if_false, Nat.reduceEqDiff, or_false]
        simp only [List.setIfInBounds_toArray, List.set_cons_succ, List.set_cons_zero]
        go_wp2
        exact ⟨rfl, rfl, rfl, Own.refl _⟩
      case s6 =>
        refine RegD.det_new (by decide) (by decide) (by simp) (fun u w1 hO => ?_)
        simp only [RegD.FF, RegI.FX, RegI.upd, List.foldl_cons, List.foldl_nil, List.mem_cons, List.not_mem_nil, if_true, if_false, Nat.reduceEqDiff, or_false]
        simp only [List.setIfInBounds_toArray, List.set_cons_succ, List.set_cons_zero]
        go_wp2
        exact ⟨rfl, rfl, rfl, Own.refl _⟩
      case s7 =>
        refine RegD.det_new (by decide) (by decide) (by simp) (fun u w1 hO => ?_)
        simp only [RegD.FF, RegI.FX, RegI.upd, List.foldl_cons, List.foldl_nil, List.mem_cons, List.not_mem_nil, if_true, if_false, Nat.reduceEqDiff, or_false]
        simp only [List.setIfInBounds_toArray, List.set_cons_succ, List.set_cons_zero]
        go_wp2
        exact ⟨rfl, rfl, rfl, Own.refl _⟩
      case s8 =>
        refine RegD.det_new (by decide) (by decide) (by simp) (fun u w1 hO => ?_)
        have k := blk_num (HB.out.own hO) (i := 3) (by omega)
        simp only [RegD.FF, RegI.FX, RegI.upd, List.foldl_cons, List.foldl_nil, List.mem_cons, List.not_mem_nil, if_true, if_false, Nat.reduceEqDiff, or_false]
        simp only [List.setIfInBounds_toArray, List.set_cons_succ, List.set_cons_zero]
        go_wp2
        exact ⟨rfl, rfl, rfl, Own.refl _⟩
      case s9 =>
        refine RegD.det_new (by decide) (by decide) (by simp) (fun u w1 hO => ?_)
        simp only [RegD.FF, RegI.FX, RegI.upd, List.foldl_cons, List.foldl_nil, List.mem_cons, List.not_mem_nil, if_true, if_false, Nat.reduceEqDiff, or_false]
        simp only [List.setIfInBounds_toArray, List.set_cons_succ, List.set_cons_zero]
        go_wp2
        exact ⟨rfl, rfl, rfl, Own.refl _⟩
      case s10 =>
        refine RegD.det_new (by decide) (by decide) (by simp) (fun u w1 hO => ?_)
        have k := blk_num (HB.out.own hO) (i := 4) (by omega)
        simp only [RegD.FF, RegI.FX, RegI.upd, List.foldl_cons, List.foldl_nil, List.mem_cons, List.not_mem_nil, if_true, if_false, Nat.reduceEqDiff, or_false]
        simp only [List.setIfInBounds_toArray, List.set_cons_succ, List.set_cons_zero]
        go_wp2
        exact ⟨rfl, rfl, rfl, Own.refl _⟩
      case s11 =>
        refine RegD.det_new (by decide) (by decide) (by simp) (fun u w1 hO => ?_)
        simp only [RegD.FF, RegI.FX, RegI.upd, List.foldl_cons, List.foldl_nil, List.mem_cons, List.not_mem_nil, if_true, if_false, Nat.reduceEqDiff, or_false]
        simp only [List.setIfInBounds_toArray, List.set_cons_succ, List.set_cons_zero]
        go_wp2_with (go_at_call 47; with_reducible refine (qof_at (s 4) v4 _ HU).mono ?_; rintro r w1 ⟨rfl, rfl⟩)
        exact ⟨rfl, rfl, rfl, Own.refl _⟩
      case s12 =>
        refine RegD.det_new (by decide) (by decide) (by simp) (fun u w1 hO => ?_)
        simp only [RegD.FF, RegI.FX, RegI.upd, List.foldl_cons, List.foldl_nil, List.mem_cons, List.not_mem_nil, if_true, if_false, Nat.reduceEqDiff, or_false]
        simp only [List.setIfInBounds_toArray, List.set_cons_succ, List.set_cons_zero]
        go_wp2_with ((with_reducible show wpList _ _ _ (⟨_, .build 28 _, _, _, _, _⟩ :: _) _ _); refine wpList_build_as rfl 28 [(0, .tmp 18), (1, .tmp 22), (2, .tmp 24), (3, .tmp 27)] rfl [(0, .agg #[.int .i64 (-s 0), .int .i64 (s 1)]), (1, .int .i64 ((8 - s 2) % 8)), (2, .int .i64 (s 3)), (3, .int .i64 v4)] rfl (cz 23 (st5 (-s 0) (s 1) ((8 - s 2) % 8) (s 3) v4 nul)) (bld_start4 _ _ _ _ _) ?_)
        exact ⟨rfl, rfl, rfl, Own.refl _⟩
      case s13 =>
        refine RegD.alloc_new (by decide) rfl (fun u w1 hO => ?_)
        simp only [RegD.FF, RegI.FX, RegI.upd, List.foldl_cons, List.foldl_nil, List.mem_cons, List.not_mem_nil, if_true, if_false, Nat.reduceEqDiff, or_false]
        simp only [List.setIfInBounds_toArray, List.set_cons_succ, List.set_cons_zero]
        go_wp2
        exact ⟨rfl, rfl, rfl, rfl⟩
      case s14 =>
        refine RegD.store_new (by decide) rfl (by kernel_rfl) (fun u w1 N hO hu hN => ?_)
        have HN := Lib.hid hN
        simp only [RegD.FF, RegI.FX, RegI.upd, List.foldl_cons, List.foldl_nil, List.mem_cons, List.not_mem_nil, if_true, if_false, Nat.reduceEqDiff, or_false, hu]
        simp only [List.setIfInBounds_toArray, List.set_cons_succ, List.set_cons_zero]
        clear hN
        go_wp2_with ((with_reducible show wpList _ _ _ (⟨_, .store 28 (.tmp 5) (.tmp 28), _, _, _, none⟩ :: _) _ _); refine wpList_store_row rfl 28 (.tmp 5) (.tmp 28) rfl N (cz 23 (st5 (-s 0) (s 1) ((8 - s 2) % 8) (s 3) v4 nul)) rfl rfl 28 _ HN.out.raw infoS rfl (cz_one _ _) ?_)
        exact ⟨rfl, rfl, rfl⟩
    case he =>
      intro u w2 N g1 hu hn hN
      have hPN := Lib.hid (Nat.ne_of_lt (Nat.lt_of_lt_of_le HP.out.lt hn))
      have hN0 : w.heap.size ≤ N := Nat.le_trans g0.size hn
      replace g0 := g0.trans g1
      replace HB := Lib.hid (HB.out.own g1)
      replace HP := Lib.hid (HP.out.own g1)
      have HN := Lib.hid hN
      simp only [RegD.FF, RegI.FX, RegI.upd, List.foldl_cons, List.foldl_nil, List.mem_cons, List.not_mem_nil, if_true, if_false, Nat.reduceEqDiff, or_false, hu]
      simp only [List.setIfInBounds_toArray, List.set_cons_succ, List.set_cons_zero]
      clear g1 hn hN hu

      go_wp2_with ((with_reducible show wpList _ _ _ (⟨_, .load 26 (.tmp 29), _, _, _, none⟩ :: _) _ _); refine wpList_load_part rfl 26 (.tmp 29) rfl B (5) rfl 18 HB.out (by omega) (cz 18 (fun j => s (5 + j))) rfl _ Tryd.underlying26 rfl infoT6 ?_)
      generalize cz 18 (fun j => s (5 + j)) = TT at *
      clear HB
      go_loopw [6, 7, 8, 9, 31] (fun _ _ _ _ vi wr => ∃ k : Nat, vi = .int .i64 (k : Int) ∧ k ≤ 6 ∧ Own w wr ∧ Blk wr P (cz 23 nul) 28 ∧ ∃ f, Blk wr N (cz 23 f) 28 ∧ (∀ j, j < 5 → f j = miS s j) ∧ ∀ i, i < k → f (5 + swN i * 3) = miD s (swN i) ∧ f (5 + swN i * 3 + 1) = miL s (swN i) ∧ f (5 + swN i * 3 + 2) = miB s (swN i)) (fun _ _ _ _ vi _ => 6 - (intOf vi).toNat)
      case atStart =>
        refine ⟨0, rfl, by omega, g0, HP.out, _, HN.out, fun j hj => ?_, fun i hi => absurd hi (by omega)⟩
        rw [← HU.out]
        have t : j = 0 ∨ j = 1 ∨ j = 2 ∨ j = 3 ∨ j = 4 := by omega
        rcases t with rfl | rfl | rfl | rfl | rfl <;> rfl
      case round =>
        clear HP HN g0
        obtain ⟨k, rfl, hk, g0, hp, f, hn, hf, hF⟩ := hrel
        have HP := Lib.hid hp
        have HN := Lib.hid hn
        have HF := Lib.hid (And.intro hf hF)
        clear hp hn hf hF
        by_cases hlt : k < 6
        · have ix := HX.out k hlt
          obtain ⟨m, hm⟩ : ∃ m, swN k = m := ⟨_, rfl⟩
          have bm : m < 6 := by rw [← hm]; exact swN_lt hlt
          have HM := Lib.hid hm
          have HSW := Lib.hid (show swp (k : Int) = (m : Int) ∧ swE (k : Int) = 0 from ⟨by rw [swp_nat hlt, hm], if_pos (by omega)⟩)
          have hd := (of_yes (HZ.out k hlt)).2.1.1
          have HMD := Lib.hid (show DirP.mirV (s (5 + k * 3)) = miD s m ∧ DirP.dirE (s (5 + k * 3)) = 0 from ⟨by unfold miD; rw [← hm, swN_swN hlt], if_pos hd⟩)
          have HMB := Lib.hid (show s (5 + k * 3 + 1) = miL s m ∧ s (5 + k * 3 + 2) = miB s m from ⟨by unfold miL; rw [← hm, swN_swN hlt], by unfold miB; rw [← hm, swN_swN hlt]⟩)
          obtain ⟨d1, hd1⟩ : ∃ x, miD s m = x := ⟨_, rfl⟩
          rw [hd1] at HMD
          have HD1 := Lib.hid hd1
          have hkn : (k : Int) < 6 := by omega
          have hmn : (m : Int) < 6 := by omega
          clear hm hd hd1
          generalize s (5 + k * 3) = d0 at ix HMD
          generalize s (5 + k * 3 + 1) = v0 at ix HMB
          generalize s (5 + k * 3 + 2) = b0' at ix HMB
          go_upto_region 8 with (fail)
          obtain ⟨w3, G, hW, hBq, hb, hg, Gg⟩ := blk_new wr (#[.int .i64 d0, .int .i64 v0, .int .i64 b0']) 25
          have hNG := Lib.hid (Nat.ne_of_lt (Nat.lt_of_lt_of_le HN.out.lt Gg))
          have hPG := Lib.hid (Nat.ne_of_lt (Nat.lt_of_lt_of_le HP.out.lt Gg))
          have hG0 : w.heap.size ≤ G := Nat.le_trans g0.size Gg
          rw [hW, hBq]
          have HG := Lib.hid hb
          replace g0 := g0.trans hg
          replace HP := Lib.hid (HP.out.own hg)
          replace HN := Lib.hid (HN.out.own hg)
          clear hW hBq hb hg
          have k0 := HG.out.three.1
          have f0 := HG.out.frozen 0
          go_upto_region 10 with (first | (go_at_call 48; with_reducible refine (pswap_at k m 0 _ HSW).mono ?_; rintro r w1 ⟨rfl, rfl⟩) | (go_at_call 49; with_reducible refine (DirW.pmirror_at d0 d1 0 _ HMD).mono ?_; rintro r w1 ⟨rfl, rfl⟩))
          have hg : Blk (w3.setCell ⟨G, 0, none⟩ (.int .i64 d1)) G #[.int .i64 d1, .int .i64 v0, .int .i64 b0'] 25 := HG.out.put 0 (.int .i64 d1)
          have hp := HP.out.far (p := ⟨G, 0, none⟩) hPG.out (.int .i64 d1)
          have hn := HN.out.far (p := ⟨G, 0, none⟩) hNG.out (.int .i64 d1)
          replace g0 := g0.setCell (p := ⟨G, 0, none⟩) hG0 (.int .i64 d1)
          clear HG HP HN k0 f0 Gg
          generalize w3.setCell ⟨G, 0, none⟩ (.int .i64 d1) = w4 at *
          have HG := Lib.hid hg
          have HP := Lib.hid hp
          have HN := Lib.hid hn
          clear hg hp hn
          go_upto_region 11 with (first | ((with_reducible show wpList _ _ _ (⟨_, .load 25 (.tmp 7), _, _, _, none⟩ :: _) _ _); refine wpList_load_row rfl 25 (.tmp 7) rfl G rfl 25 _ (0, 0) _ HG.out.raw Tryd.underlying25 rfl infoT ?_) | ((with_reducible show wpList _ _ _ (⟨_, .store 25 (.tmp 50) (.tmp 48), _, _, _, none⟩ :: _) _ _); refine wpList_store_part rfl 25 (.tmp 50) (.tmp 48) rfl N (5 + m * 3) 3 (l3 d1 v0 b0') rfl (#[.int .i64 d1, .int .i64 v0, .int .i64 b0']) rfl rfl HN.out (by omega) infoT ?_))
          have hn := HN.out.row (cz 23 (put f (5 + m * 3) 3 (l3 d1 v0 b0')))
          have hp := HP.out.rowfar hPN.out (cz 23 (put f (5 + m * 3) 3 (l3 d1 v0 b0')))
          replace g0 := own_setRow g0 hN0 (cz 23 (put f (5 + m * 3) 3 (l3 d1 v0 b0')))
          clear HP HN HG
          generalize w4.setRow N (cz 23 (put f (5 + m * 3) 3 (l3 d1 v0 b0'))) = w5 at *
          have HR := Lib.hid (And.intro hp hn)
          clear hp hn
          go_wp2
          go_roundw
          case rel =>
            refine ⟨k + 1, by go_num, hlt, g0, HR.out.1, _, HR.out.2, fun j hj => ?_, fun i hi => ?_⟩
            · rw [put_out _ _ (by omega)]; exact HF.out.1 j hj
            · by_cases e : i = k
              · have hm := HM.out
                rw [e, hm]
                have q0 := put_in f (k := 5 + m * 3) (m := 3) (j := 0) (l3 d1 v0 b0') (by omega)
                have q1 := put_in f (k := 5 + m * 3) (m := 3) (j := 1) (l3 d1 v0 b0') (by omega)
                have q2 := put_in f (k := 5 + m * 3) (m := 3) (j := 2) (l3 d1 v0 b0') (by omega)
                exact ⟨q0.trans HD1.out.symm, q1.trans HMB.out.1, q2.trans HMB.out.2⟩
              · have hi6 : i < 6 := by omega
                have hne : swN i ≠ m := fun x => e (swN_inj hi6 hlt (x.trans HM.out.symm))
                obtain ⟨q0, q1, q2⟩ := HF.out.2 i (by omega)
                rw [put_out _ _ (by omega), put_out _ _ (by omega), put_out _ _ (by omega)]
                exact ⟨q0, q1, q2⟩
          case measure => simp [intOf]; omega
        · obtain rfl : k = 6 := by omega
          have HV := Lib.hid (show cz 23 f = cz 23 (miV s) by
            rw [HVE.out]
            refine cz_congr fun i hi => ?_
            obtain ⟨h1, h2⟩ := HF.out
            by_cases e : i < 5
            · exact h1 i e
            · obtain ⟨j, rfl⟩ : ∃ j, i = 5 + j := ⟨i - 5, by omega⟩
              have hk6 : j / 3 < 6 := by omega
              have hs := swN_swN hk6
              obtain ⟨q0, q1, q2⟩ := h2 (swN (j / 3)) (swN_lt hk6)
              rw [hs] at q0 q1 q2
              obtain ⟨z0, z1, z2⟩ := mi_cells s (j / 3)
              have t : j = j / 3 * 3 ∨ j = j / 3 * 3 + 1 ∨ j = j / 3 * 3 + 2 := by omega
              rcases t with t | t | t
              · rw [t]; exact q0.trans z0.symm
              · rw [t, ← Nat.add_assoc]; exact q1.trans z1.symm
              · rw [t, ← Nat.add_assoc]; exact q2.trans z2.symm)
          clear HF HZ HX HVE
          go_wp2_with (first | ((with_reducible show wpList _ _ _ (⟨_, .load 28 (.tmp 5), _, _, _, none⟩ :: _) _ _); refine wpList_load_row rfl 28 (.tmp 5) rfl N rfl 28 _ (0, 0) _ HN.out.raw Tryd.underlying28 rfl infoS ?_) | ((with_reducible show wpList _ _ _ (⟨_, .store 28 (.tmp 2) (.tmp 52), _, _, _, none⟩ :: _) _ _); refine wpList_store_row rfl 28 (.tmp 2) (.tmp 52) rfl P (cz 23 (f)) rfl rfl 28 _ HP.out.raw infoS rfl (cz_one _ _) ?_))
          have hp := HP.out.row (cz 23 f)
          rw [← HV.out]
          exact bodyPost_ret (blk_results rfl rfl rfl hp Tryd.underlying28 rfl infoS) rfl ⟨rfl, own_setRow g0 hP0 _⟩
  · obtain ⟨c, hc⟩ : ∃ c, stE s = c := ⟨_, rfl⟩
    rw [miV_no h, hc]
    rw [hc] at h
    have kc : (c != 0) = true := bne_iff_ne.2 h
    have HC := Lib.hid hc
    clear h hc
    go_enter Tryd.func20, Tryd.ntmps20
    go_upto_region 1 with (fail)
    obtain ⟨W0, B, P, hW, hP, hB, hb, hp, g0, -, hP0, hne⟩ := two_new w (cz 23 s) 28 (cz 23 nul) 28
    rw [← cz23_nul] at hW
    rw [hW, hP, hB]
    have HB := Lib.hid hb
    have HP := Lib.hid hp
    have HNE := Lib.hid hne
    clear hW hP hB hb hp hne

    go_wp2_with (first | ((with_reducible show wpList _ _ _ (⟨_, .load 28 (.tmp 1), _, _, _, none⟩ :: _) _ _); refine wpList_load_row rfl 28 (.tmp 1) rfl B rfl 28 _ (0, 0) _ HB.out.raw Tryd.underlying28 rfl infoS ?_) | (go_at_call 13; with_reducible refine (pcheck_at s c _ (Lib.hid (HD.out.own g0)) HC).mono ?_; rintro r w1 ⟨rfl, hg⟩; replace g0 := g0.trans hg; replace HB := Lib.hid (HB.out.own hg); replace HP := Lib.hid (HP.out.own hg); clear hg) | ((with_reducible show wpList _ _ _ (⟨_, .store 28 (.tmp 2) (.tmp 14), _, _, _, none⟩ :: _) _ _); refine wpList_store_row rfl 28 (.tmp 2) (.tmp 14) rfl P (cz 23 (nul)) rfl rfl 28 _ HP.out.raw infoS rfl (cz_one _ _) ?_))
    have hp := HP.out.row (cz 23 nul)
    exact bodyPost_ret (blk_results rfl rfl rfl hp Tryd.underlying28 rfl infoS) rfl ⟨rfl, own_setRow g0 hP0 _⟩
theorem qmirror_at (s m : Vl) (c : Int) (w : World) (HD : Hid (Dn w)) (H : Hid (cz 23 (miV s) = cz 23 m ∧ stE s = c)) :
    Calls Tryd.prog 20 #[.agg (cz 23 s)] w fun r w' => r = .returned (.tuple #[.agg (cz 23 m), .int .i64 c]) ∧ Own w w' := by
  rw [← H.out.1, ← H.out.2]
  exact qmirror_any s w HD
end Go.Proofs.YtneobaininejaaaDoor.PstW
