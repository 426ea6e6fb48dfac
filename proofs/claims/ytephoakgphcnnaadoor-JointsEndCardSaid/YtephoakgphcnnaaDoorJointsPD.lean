/-
  Walks of the program of package joints: ends, End, Dist2, Low. Condition: the numbers of both sides lie in memory (Sds).
-/
import Derived.Test.YtephoakgphcnnaaDoorJointsPC
import Derived.Test.YtephoakgphcnnaaDoorPartB
namespace Go.Proofs.YtephoakgphcnnaaDoor.JntW
open Go.ChangeShapes Go.WideShapes Go.ChangeAt Go.RowKit
open PairW AimP AimW BlkW PrtW PstP PstW JntP RegD
theorem infoV6 : (Tryd.prog.info? 75).map (·.size) = some 18 := by kernel_rfl
theorem cz18_nul : (#[.int .i64 0, .int .i64 0, .int .i64 0, .int .i64 0, .int .i64 0, .int .i64 0, .int .i64 0, .int .i64 0, .int .i64 0, .int .i64 0, .int .i64 0, .int .i64 0, .int .i64 0, .int .i64 0, .int .i64 0, .int .i64 0, .int .i64 0, .int .i64 0] : Array Value) = cz 18 nul := rfl
theorem bld_ends (a b c d e f : Int) : Tryd.prog.built 75 [(2, .agg #[.int .i64 a, .int .i64 b, .int .i64 c]), (5, .agg #[.int .i64 d, .int .i64 e, .int .i64 f])] = some (cz 18 (put (put nul 6 3 (l3 a b c)) 15 3 (l3 d e f))) := by kernel_rfl
/-- What stands among the ends before round k. -/
structure Ek (j : Vl) (k : Nat) (f : Vl) : Prop where
  neck : Pt f 6 (j 3) (j 4) (j 5)
  head : Pt f 15 (j 6) (j 7) (j 8)
  sides : ∀ i, i < k → Pt f (i * 3) (j (27 + i * 3)) (j (27 + i * 3 + 1)) (j (27 + i * 3 + 2)) ∧ Pt f (9 + i * 3) (j (21 + i * 3)) (j (21 + i * 3 + 1)) (j (21 + i * 3 + 2))
theorem ek_start (j : Vl) : Ek j 0 (put (put nul 6 3 (l3 (j 3) (j 4) (j 5))) 15 3 (l3 (j 6) (j 7) (j 8))) := ⟨pt_far (pt_put ..) _ (by omega), pt_put .., fun i hi => absurd hi (by omega)⟩
theorem Ek.next {j : Vl} {k m : Nat} {f : Vl} (h : Ek j k f) (hk : k < 2) (hm : m = 3 + k) : Ek j (k + 1) (put (put f (k * 3) 3 (l3 (j (27 + k * 3)) (j (27 + k * 3 + 1)) (j (27 + k * 3 + 2)))) (m * 3) 3 (l3 (j (21 + k * 3)) (j (21 + k * 3 + 1)) (j (21 + k * 3 + 2)))) := by
  subst hm
  refine ⟨pt_far (pt_far h.neck _ (by omega)) _ (by omega), pt_far (pt_far h.head _ (by omega)) _ (by omega), fun i hi => ?_⟩
  by_cases e : i = k
  · subst e
    refine ⟨pt_far (pt_put ..) _ (by omega), ?_⟩
    rw [show 9 + i * 3 = (3 + i) * 3 by omega]
    exact pt_put ..
  · obtain ⟨g1, g2⟩ := h.sides i (by omega)
    exact ⟨pt_far (pt_far g1 _ (by omega)) _ (by omega), pt_far (pt_far g2 _ (by omega)) _ (by omega)⟩
theorem Ek.done {j : Vl} {f : Vl} (h : Ek j 2 f) : cz 18 f = cz 18 (ens j) := by
  obtain ⟨a1, a2, a3⟩ := (h.sides 0 (by omega)).1
  obtain ⟨b1, b2, b3⟩ := (h.sides 0 (by omega)).2
  obtain ⟨c1, c2, c3⟩ := (h.sides 1 (by omega)).1
  obtain ⟨d1, d2, d3⟩ := (h.sides 1 (by omega)).2
  obtain ⟨e1, e2, e3⟩ := h.neck
  obtain ⟨g1, g2, g3⟩ := h.head
  refine cz_congr fun i hi => ?_
  match i, hi with
  | 0, _ => exact a1
  | 1, _ => exact a2
  | 2, _ => exact a3
  | 3, _ => exact c1
  | 4, _ => exact c2
  | 5, _ => exact c3
  | 6, _ => exact e1
  | 7, _ => exact e2
  | 8, _ => exact e3
  | 9, _ => exact b1
  | 10, _ => exact b2
  | 11, _ => exact b3
  | 12, _ => exact d1
  | 13, _ => exact d2
  | 14, _ => exact d3
  | 15, _ => exact g1
  | 16, _ => exact g2
  | 17, _ => exact g3
  | n + 18, h => omega
set_option maxRecDepth 100000 in
set_option maxHeartbeats 2000000 in
theorem jends_at (j : Vl) (w : World) (HS : Hid (Sds w)) :
    Calls Tryd.prog 46 #[.agg (cz 33 j)] w fun r w' => r = .returned (.agg (cz 18 (ens j))) ∧ Own w w' := by
  go_enter Tryd.func46, Tryd.ntmps46
  go_upto_region 1 with (fail)
  obtain ⟨W0, B, R, hW, hR, hB, hb1, hr1, g0, -, hR0, -⟩ := two_new w (cz 33 j) 36 (cz 18 nul) 75
  rw [← cz18_nul] at hW
  rw [hW, hR, hB]
  have HB := Lib.hid hb1
  have HR := Lib.hid hr1
  clear hW hR hB hb1 hr1
  go_upto_region 2 with (first | ((with_reducible show wpList _ _ _ (⟨_, .load 33 (.tmp 6), _, _, _, none⟩ :: _) _ _); refine wpList_load_part rfl 33 (.tmp 6) rfl B (3) rfl 3 HB.out (by omega) (#[.int .i64 (j 3), .int .i64 (j 4), .int .i64 (j 5)]) rfl _ Tryd.underlying33 rfl infoV ?_) | ((with_reducible show wpList _ _ _ (⟨_, .load 33 (.tmp 8), _, _, _, none⟩ :: _) _ _); refine wpList_load_part rfl 33 (.tmp 8) rfl B (6) rfl 3 HB.out (by omega) (#[.int .i64 (j 6), .int .i64 (j 7), .int .i64 (j 8)]) rfl _ Tryd.underlying33 rfl infoV ?_) | ((with_reducible show wpList _ _ _ (⟨_, .build 75 _, _, _, _, _⟩ :: _) _ _); refine wpList_build_as rfl 75 [(2, .tmp 7), (5, .tmp 9)] rfl [(2, .agg #[.int .i64 (j 3), .int .i64 (j 4), .int .i64 (j 5)]), (5, .agg #[.int .i64 (j 6), .int .i64 (j 7), .int .i64 (j 8)])] rfl (cz 18 (put (put nul 6 3 (l3 (j 3) (j 4) (j 5))) 15 3 (l3 (j 6) (j 7) (j 8)))) (bld_ends _ _ _ _ _ _) ?_) | ((with_reducible show wpList _ _ _ (⟨_, .store 75 (.tmp 3) (.tmp 10), _, _, _, none⟩ :: _) _ _); refine wpList_store_row rfl 75 (.tmp 3) (.tmp 10) rfl _ (cz 18 (put (put nul 6 3 (l3 (j 3) (j 4) (j 5))) 15 3 (l3 (j 6) (j 7) (j 8)))) rfl rfl 75 _ (heap_new _ _) infoV6 rfl (cz_one _ _) ?_; rw [World.setRow_alloc_new]))
  obtain ⟨w2, A, hW, hBq, hb, hg, Ag⟩ := blk_new W0 (cz 18 (put (put nul 6 3 (l3 (j 3) (j 4) (j 5))) 15 3 (l3 (j 6) (j 7) (j 8)))) 75
  have HNE := Lib.hid (show B ≠ A ∧ R ≠ A from ⟨Nat.ne_of_lt (Nat.lt_of_lt_of_le HB.out.lt Ag), Nat.ne_of_lt (Nat.lt_of_lt_of_le HR.out.lt Ag)⟩)
  have hA0 : w.heap.size ≤ A := Nat.le_trans g0.size Ag
  rw [hW, hBq]
  have HA := Lib.hid hb
  replace g0 := g0.trans hg
  replace HB := Lib.hid (HB.out.own hg)
  replace HR := Lib.hid (HR.out.own hg)
  clear hW hBq hb hg
  clear Ag
  have s0 : w2.cell? ⟨0, 0, none⟩ = some (.int .i64 (-1)) := (HS.out.own g0).at_ 0 (by omega)
  have s1 : w2.cell? ⟨0, 1, none⟩ = some (.int .i64 0) := (HS.out.own g0).at_ 1 (by omega)
  have s2 : w2.cell? ⟨0, 2, none⟩ = some (.int .i64 3) := (HS.out.own g0).at_ 2 (by omega)
  have s3 : w2.cell? ⟨0, 3, none⟩ = some (.int .i64 1) := (HS.out.own g0).at_ 3 (by omega)
  have s4 : w2.cell? ⟨0, 4, none⟩ = some (.int .i64 1) := (HS.out.own g0).at_ 4 (by omega)
  have s5 : w2.cell? ⟨0, 5, none⟩ = some (.int .i64 1) := (HS.out.own g0).at_ 5 (by omega)
  have s6 : w2.cell? ⟨0, 6, none⟩ = some (.int .i64 4) := (HS.out.own g0).at_ 6 (by omega)
  have s7 : w2.cell? ⟨0, 7, none⟩ = some (.int .i64 2) := (HS.out.own g0).at_ 7 (by omega)
  have HF := Lib.hid (ek_start j)
  go_wp2
  have HX := Lib.hid (fun (k : Nat) (h : k < 2) => idxS h)
  generalize (#[.int .i64 (-1), .int .i64 0, .int .i64 3, .int .i64 1, .int .i64 1, .int .i64 1, .int .i64 4, .int .i64 2] : Array Value) = TT at *
  clear s0 s1 s2 s3 s4 s5 s6 s7
  go_loopw [4, 5, 12] (fun _ _ vi wr => ∃ k : Nat, vi = .int .i64 (k : Int) ∧ k ≤ 2 ∧ Own w wr ∧ Blk wr B (cz 33 j) 36 ∧ Blk wr R (cz 18 nul) 75 ∧ ∃ f, Blk wr A (cz 18 f) 75 ∧ Ek j k f) (fun _ _ vi _ => 2 - (intOf vi).toNat)
  case atStart => exact ⟨0, rfl, by omega, g0, HB.out, HR.out, _, HA.out, HF.out⟩
  case round =>
    clear HB HR HA HF g0
    obtain ⟨k, rfl, hk, g0, hb1, hr1, f, ha1, hf1⟩ := hrel
    have HB := Lib.hid hb1
    have HR := Lib.hid hr1
    have HA := Lib.hid ha1
    have HF := Lib.hid hf1
    clear hb1 hr1 ha1 hf1
    by_cases hlt : k < 2
    · have ix := HX.out k hlt
      obtain ⟨m, hm⟩ : ∃ m, 3 + k = m := ⟨_, rfl⟩
      have hmn : (m : Int) < 6 := by omega
      have hkn : (k : Int) < 2 := by omega
      have hk6 : (k : Int) < 6 := by omega
      obtain ⟨fo, hfo⟩ : ∃ x : Int, ((1 + k : Nat) : Int) = x := ⟨_, rfl⟩
      obtain ⟨sk, hsk⟩ : ∃ x, sg k = x := ⟨_, rfl⟩
      rw [hm, hfo, hsk] at ix
      have hbm : m < 6 := by omega
      have hm3 : 3 ≤ m := by omega
      have HM := Lib.hid hm.symm
      clear hsk hfo hm
      go_upto_region 5 with (fail)
      obtain ⟨w1, E, hW, hBq, hb, hg, Eg⟩ := blk_new wr (#[.int .i64 sk, .int .i64 (k : Int), .int .i64 (m : Int), .int .i64 fo]) 63
      have hEA : E ≠ A := Nat.ne_of_gt (Nat.lt_of_lt_of_le HA.out.lt Eg)
      rw [hW, hBq]
      have HE := Lib.hid hb
      replace g0 := g0.trans hg
      replace HB := Lib.hid (HB.out.own hg)
      replace HR := Lib.hid (HR.out.own hg)
      replace HA := Lib.hid (HA.out.own hg)
      clear hW hBq hb hg
      clear Eg ix
      refine RegD.region_dutyK [16, 17, 18, 19, 20, 21, 22, 23, 24, 25, 26, 27, 28, 29] 13 15 18 3 (k * 3) (m * 3) (f) (l3 (j (27 + k * 3)) (j (27 + k * 3 + 1)) (j (27 + k * 3 + 2))) (l3 (j (21 + k * 3)) (j (21 + k * 3 + 1)) (j (21 + k * 3 + 2))) (RegI.upd (RegI.upd (RegI.upd (RegI.upd (RegI.upd (RegI.upd (RegI.upd (RegI.upd (RegI.upd (RegI.upd (RegI.upd (RegI.upd (RegI.upd (RegI.upd (fun _ => undef) 16 (.pointer (some ⟨E, 1, none⟩))) 17 (.int .i64 (k : Int))) 18 (.pointer (some ⟨E, 2, none⟩))) 19 (.int .i64 (m : Int))) 20 (.int .i64 (k : Int))) 21 (.pointer (some ⟨B, 27, none⟩))) 22 (.pointer (some ⟨B, 27 + k * 3, none⟩))) 23 (.agg #[.int .i64 (j (27 + k * 3)), .int .i64 (j (27 + k * 3 + 1)), .int .i64 (j (27 + k * 3 + 2))])) 24 (.int .i64 (k : Int))) 25 (.pointer (some ⟨B, 21, none⟩))) 26 (.pointer (some ⟨B, 21 + k * 3, none⟩))) 27 (.agg #[.int .i64 (j (21 + k * 3)), .int .i64 (j (21 + k * 3 + 1)), .int .i64 (j (21 + k * 3 + 2))])) 28 (.pointer (some ⟨A, k * 3, none⟩))) 29 (.pointer (some ⟨A, m * 3, none⟩))) A 75 (by kernel_rfl) (by kernel_rfl) (by decide) (by intro d hd; simp at hd; simp; omega) (by omega) HA.out ?_
      simp only [RegD.FF, RegI.FX, RegI.upd, List.foldl_cons, List.foldl_nil, List.not_mem_nil, if_true, if_false, Nat.reduceEqDiff]
      simp only [List.setIfInBounds_toArray, List.set_cons_succ, List.set_cons_zero]
      refine And.intro ?hs1 ?he1
      case hs1 =>
        refine And.intro ?s1_0 (And.intro ?s1_1 (And.intro ?s1_2 (And.intro ?s1_3 (And.intro ?s1_4 (And.intro ?s1_5 (And.intro ?s1_6 (And.intro ?s1_7 (And.intro ?s1_8 (And.intro ?s1_9 (And.intro ?s1_10 (And.intro ?s1_11 (And.intro ?s1_12 (And.intro ?s1_13 (And.intro ?s1_14 (And.intro ?s1_15 (trivial))))))))))))))))
        case s1_0 =>
          refine RegD.stepK_det (by decide) (by decide) (fun u w1 hO => ?_)
          go_wp2
          exact ⟨rfl, rfl, rfl, Own.refl _⟩
        case s1_1 =>
          refine RegD.stepK_det (by decide) (by decide) (fun u w1 hO => ?_)
          have kk := (HE.out.ownx hO hEA).cell 1
          go_wp2
          exact ⟨rfl, rfl, rfl, Own.refl _⟩
        case s1_2 =>
          refine RegD.stepK_det (by decide) (by decide) (fun u w1 hO => ?_)
          go_wp2
          exact ⟨rfl, rfl, rfl, Own.refl _⟩
        case s1_3 =>
          refine RegD.stepK_det (by decide) (by decide) (fun u w1 hO => ?_)
          have kk := (HE.out.ownx hO hEA).cell 2
          go_wp2
          exact ⟨rfl, rfl, rfl, Own.refl _⟩
        case s1_4 =>
          refine RegD.stepK_det (by decide) (by decide) (fun u w1 hO => ?_)
          go_wp2
          exact ⟨rfl, rfl, rfl, Own.refl _⟩
        case s1_5 =>
          refine RegD.stepK_det (by decide) (by decide) (fun u w1 hO => ?_)
          go_wp2
          exact ⟨rfl, rfl, rfl, Own.refl _⟩
        case s1_6 =>
          refine RegD.stepK_det (by decide) (by decide) (fun u w1 hO => ?_)
          go_wp2
          exact ⟨rfl, rfl, rfl, Own.refl _⟩
        case s1_7 =>
          refine RegD.stepK_det (by decide) (by decide) (fun u w1 hO => ?_)
          have HB9 := Lib.hid (HB.out.ownx hO HNE.out.1)
          go_wp2_with ((with_reducible show wpList _ _ _ (⟨_, .load 33 (.tmp 22), _, _, _, none⟩ :: _) _ _); refine wpList_load_part rfl 33 (.tmp 22) rfl B (27 + k * 3) rfl 3 HB9.out (by omega) (#[.int .i64 (j (27 + k * 3)), .int .i64 (j (27 + k * 3 + 1)), .int .i64 (j (27 + k * 3 + 2))]) rfl _ Tryd.underlying33 rfl infoV ?_)
          exact ⟨rfl, rfl, rfl, Own.refl _⟩
        case s1_8 =>
          refine RegD.stepK_det (by decide) (by decide) (fun u w1 hO => ?_)
          go_wp2
          exact ⟨rfl, rfl, rfl, Own.refl _⟩
        case s1_9 =>
          refine RegD.stepK_det (by decide) (by decide) (fun u w1 hO => ?_)
          go_wp2
          exact ⟨rfl, rfl, rfl, Own.refl _⟩
        case s1_10 =>
          refine RegD.stepK_det (by decide) (by decide) (fun u w1 hO => ?_)
          go_wp2
          exact ⟨rfl, rfl, rfl, Own.refl _⟩
        case s1_11 =>
          refine RegD.stepK_det (by decide) (by decide) (fun u w1 hO => ?_)
          have HB9 := Lib.hid (HB.out.ownx hO HNE.out.1)
          go_wp2_with ((with_reducible show wpList _ _ _ (⟨_, .load 33 (.tmp 26), _, _, _, none⟩ :: _) _ _); refine wpList_load_part rfl 33 (.tmp 26) rfl B (21 + k * 3) rfl 3 HB9.out (by omega) (#[.int .i64 (j (21 + k * 3)), .int .i64 (j (21 + k * 3 + 1)), .int .i64 (j (21 + k * 3 + 2))]) rfl _ Tryd.underlying33 rfl infoV ?_)
          exact ⟨rfl, rfl, rfl, Own.refl _⟩
        case s1_12 =>
          refine RegD.stepK_det (by decide) (by decide) (fun u w1 hO => ?_)
          go_wp2
          exact ⟨rfl, rfl, rfl, Own.refl _⟩
        case s1_13 =>
          refine RegD.stepK_one rfl (fun u w1 h hO hJ => ?_)
          have HN := Lib.hid hJ
          clear hJ
          go_wp2_with ((with_reducible show wpList _ _ _ (⟨_, .store 33 (.tmp 28) (.tmp 23), _, _, _, none⟩ :: _) _ _); refine wpList_store_part rfl 33 (.tmp 28) (.tmp 23) rfl A (k * 3) 3 (l3 (j (27 + k * 3)) (j (27 + k * 3 + 1)) (j (27 + k * 3 + 2))) rfl (#[.int .i64 (j (27 + k * 3)), .int .i64 (j (27 + k * 3 + 1)), .int .i64 (j (27 + k * 3 + 2))]) rfl rfl HN.out (by omega) infoV ?_)
          exact ⟨rfl, rfl, rfl⟩
        case s1_14 =>
          refine RegD.stepK_det (by decide) (by decide) (fun u w1 hO => ?_)
          go_wp2
          exact ⟨rfl, rfl, rfl, Own.refl _⟩
        case s1_15 =>
          refine RegD.stepK_two (by decide) rfl (fun u w1 h hO hJ => ?_)
          have HN := Lib.hid hJ
          clear hJ
          go_wp2_with ((with_reducible show wpList _ _ _ (⟨_, .store 33 (.tmp 29) (.tmp 27), _, _, _, none⟩ :: _) _ _); refine wpList_store_part rfl 33 (.tmp 29) (.tmp 27) rfl A (m * 3) 3 (l3 (j (21 + k * 3)) (j (21 + k * 3 + 1)) (j (21 + k * 3 + 2))) rfl (#[.int .i64 (j (21 + k * 3)), .int .i64 (j (21 + k * 3 + 1)), .int .i64 (j (21 + k * 3 + 2))]) rfl rfl HN.out (by omega) infoV ?_)
          exact ⟨rfl, rfl, rfl⟩
      intro u w3 hO hj
      replace g0 := own_x g0 hA0 hO
      replace HB := Lib.hid (HB.out.ownx hO HNE.out.1)
      replace HR := Lib.hid (HR.out.ownx hO HNE.out.2)
      clear HA
      have HA := Lib.hid hj
      clear hj hO

      have HN := Lib.hid (HF.out.next hlt HM.out)
      clear HE hEA
      go_wp2
      go_roundw
      case rel => exact ⟨k + 1, by go_num, hlt, g0, HB.out, HR.out, _, HA.out, HN.out⟩
      case measure => simp [intOf]; omega
    · obtain rfl : k = 2 := by omega
      have HV2 := Lib.hid HF.out.done
      go_wp2_with (first | ((with_reducible show wpList _ _ _ (⟨_, .load 75 (.tmp 3), _, _, _, none⟩ :: _) _ _); refine wpList_load_row rfl 75 (.tmp 3) rfl A rfl 75 _ (0, 0) _ HA.out.raw Tryd.underlying75 rfl infoV6 ?_) | ((with_reducible show wpList _ _ _ (⟨_, .store 75 (.tmp 2) (.tmp 31), _, _, _, none⟩ :: _) _ _); refine wpList_store_row rfl 75 (.tmp 2) (.tmp 31) rfl R (cz 18 (f)) rfl rfl 75 _ HR.out.raw infoV6 rfl (cz_one _ _) ?_))
      have hr := HR.out.row (cz 18 f)
      rw [← HV2.out]
      exact bodyPost_ret (blk_result rfl rfl hr Tryd.underlying75 rfl infoV6) rfl ⟨rfl, own_setRow g0 hR0 _⟩
theorem idxE (j : Vl) {k : Nat} (hk : k < 6) (w : World) : (Instr.index 75 (.agg (cz 18 (ens j))) (.int .i64 (k : Int))).run Tryd.prog w = .ok (.agg #[.int .i64 (j (pe k * 3)), .int .i64 (j (pe k * 3 + 1)), .int .i64 (j (pe k * 3 + 2))]) w := by
  have h := index_num (n := 6) (m := 3) Tryd.underlying75 (fun w => by go_simp) (fun w => by go_simp) hk (ens j) w
  rw [show cz 3 (fun i => ens j (k * 3 + i)) = #[.int .i64 (j (pe k * 3)), .int .i64 (j (pe k * 3 + 1)), .int .i64 (j (pe k * 3 + 2))] from (pt_cz (ens_at j k)).symm] at h
  exact h
set_option maxRecDepth 100000 in
set_option maxHeartbeats 2000000 in
theorem jend_at (j : Vl) (l x y z c : Int) (w : World) (HS : Hid (Sds w)) (H : Hid (enX j l = x ∧ enY j l = y ∧ enZ j l = z ∧ enE l = c)) :
    Calls Tryd.prog 24 #[.agg (cz 33 j), .int .i64 l] w fun r w' => r = .returned (.tuple #[.agg #[.int .i64 x, .int .i64 y, .int .i64 z], .int .i64 c]) ∧ Own w w' := by
  obtain ⟨h1, h2, h3, h4⟩ := H.out
  unfold enX at h1
  unfold enY at h2
  unfold enZ at h3
  unfold enE at h4
  clear H
  by_cases hl : 0 ≤ l ∧ l < 6
  · rw [if_pos hl] at h1 h2 h3 h4
    subst h4
    obtain ⟨k, rfl⟩ : ∃ k : Nat, l = (k : Int) := ⟨l.toNat, by omega⟩
    have hk : k < 6 := by omega
    have ix := fun w => idxE j hk w
    rw [Int.toNat_natCast] at h1 h2 h3
    rw [h1, h2, h3] at ix
    have HX := Lib.hid ix
    have hkn : (k : Int) < 6 := by omega
    clear h1 h2 h3 hl ix
    go_enter Tryd.func24, Tryd.ntmps24
    go_upto_region 1 with (fail)
    obtain ⟨W0, B, R, hW, hR, hB, hb1, hr1, g0, -, hR0, -⟩ := two_new w (cz 33 j) 36 (#[.int .i64 0, .int .i64 0, .int .i64 0]) 33
    rw [hW, hR, hB]
    have HB := Lib.hid hb1
    have HR := Lib.hid hr1
    clear hW hR hB hb1 hr1
    go_wp2_with (first | ((with_reducible show wpList _ _ _ (⟨_, .load 36 (.tmp 2), _, _, _, none⟩ :: _) _ _); refine wpList_load_row rfl 36 (.tmp 2) rfl B rfl 36 _ (0, 0) _ HB.out.raw Tryd.underlying36 rfl infoJ ?_) | (go_at_call 46; with_reducible refine (jends_at j _ (Lib.hid (HS.out.own g0))).mono ?_; rintro r w1 ⟨rfl, hg⟩; replace g0 : Own w w1 := g0.trans hg; replace HR := Lib.hid (HR.out.own hg); clear hg; have ix := HX.out; clear HX; generalize cz 18 (ens j) = TT at *) | ((with_reducible show wpList _ _ _ (⟨_, .store 33 (.tmp 4) (.tmp 16), _, _, _, none⟩ :: _) _ _); refine wpList_store_row rfl 33 (.tmp 4) (.tmp 16) rfl R #[.int .i64 x, .int .i64 y, .int .i64 z] rfl rfl 33 _ HR.out.raw infoV rfl (by simp [Value.oneCell']) ?_))
    have hp := HR.out.row #[.int .i64 x, .int .i64 y, .int .i64 z]
    exact bodyPost_ret (blk_results rfl rfl rfl hp Tryd.underlying33 rfl infoV) rfl ⟨rfl, own_setRow g0 hR0 _⟩
  · rw [if_neg hl] at h1 h2 h3 h4
    subst h1
    subst h2
    subst h3
    subst h4
    by_cases h0 : l < 0
    · have d0 : decide (l < 0) = true := decide_eq_true h0
      clear hl
      go_enter Tryd.func24, Tryd.ntmps24
      go_upto_region 1 with (fail)
      obtain ⟨W0, B, R, hW, hR, hB, hb1, hr1, g0, -, hR0, -⟩ := two_new w (cz 33 j) 36 (#[.int .i64 0, .int .i64 0, .int .i64 0]) 33
      rw [hW, hR, hB]
      have HB := Lib.hid hb1
      have HR := Lib.hid hr1
      clear hW hR hB hb1 hr1
      go_wp2_with ((with_reducible show wpList _ _ _ (⟨_, .store 33 (.tmp 4) (.tmp 12), _, _, _, none⟩ :: _) _ _); refine wpList_store_row rfl 33 (.tmp 4) (.tmp 12) rfl R #[.int .i64 0, .int .i64 0, .int .i64 0] rfl rfl 33 _ HR.out.raw infoV rfl (by simp [Value.oneCell']) ?_)
      have hp := HR.out.row #[.int .i64 0, .int .i64 0, .int .i64 0]
      exact bodyPost_ret (blk_results rfl rfl rfl hp Tryd.underlying33 rfl infoV) rfl ⟨rfl, own_setRow g0 hR0 _⟩
    · have d0 : decide (l < 0) = false := decide_eq_false h0
      have d1 : decide (6 ≤ l) = true := decide_eq_true (by omega)
      clear hl h0
      go_enter Tryd.func24, Tryd.ntmps24
      go_upto_region 1 with (fail)
      obtain ⟨W0, B, R, hW, hR, hB, hb1, hr1, g0, -, hR0, -⟩ := two_new w (cz 33 j) 36 (#[.int .i64 0, .int .i64 0, .int .i64 0]) 33
      rw [hW, hR, hB]
      have HB := Lib.hid hb1
      have HR := Lib.hid hr1
      clear hW hR hB hb1 hr1
      go_wp2_with ((with_reducible show wpList _ _ _ (⟨_, .store 33 (.tmp 4) (.tmp 12), _, _, _, none⟩ :: _) _ _); refine wpList_store_row rfl 33 (.tmp 4) (.tmp 12) rfl R #[.int .i64 0, .int .i64 0, .int .i64 0] rfl rfl 33 _ HR.out.raw infoV rfl (by simp [Value.oneCell']) ?_)
      have hp := HR.out.row #[.int .i64 0, .int .i64 0, .int .i64 0]
      exact bodyPost_ret (blk_results rfl rfl rfl hp Tryd.underlying33 rfl infoV) rfl ⟨rfl, own_setRow g0 hR0 _⟩
set_option maxRecDepth 100000 in
set_option maxHeartbeats 2000000 in
theorem jds_at (x y z u v t m c : Int) (w : World) (H : Hid (dsV x y z u v t = m ∧ dsE x y z u v t = c)) :
    Calls Tryd.prog 23 #[.agg #[.int .i64 x, .int .i64 y, .int .i64 z], .agg #[.int .i64 u, .int .i64 v, .int .i64 t]] w fun r w' => r = .returned (.tuple #[.int .i64 m, .int .i64 c]) ∧ Own w w' := by
  obtain ⟨h1, h2⟩ := H.out
  clear H
  by_cases ha : nearV3 x y z
  · have HA := Lib.hid ((nr3_iff x y z).2 ha)
    by_cases hb : nearV3 u v t
    · have HBB := Lib.hid ((nr3_iff u v t).2 hb)
      rw [(ds_yes ha hb).2] at h1
      rw [(ds_yes ha hb).1] at h2
      subst h2
      obtain ⟨a1, a2, a3⟩ := ha
      obtain ⟨b1, b2, b3⟩ := hb
      have i1 : IntKind.i64.wrap (x - u) = x - u := IntWalk.i64_in _ (by omega)
      have i2 : IntKind.i64.wrap (y - v) = y - v := IntWalk.i64_in _ (by omega)
      have i3 : IntKind.i64.wrap (z - t) = z - t := IntWalk.i64_in _ (by omega)
      have hd1 : -131072 ≤ x - u ∧ x - u ≤ 131072 := by omega
      have hd2 : -131072 ≤ y - v ∧ y - v ≤ 131072 := by omega
      have hd3 : -131072 ≤ z - t ∧ z - t ≤ 131072 := by omega
      obtain ⟨d1, e1⟩ : ∃ d, x - u = d := ⟨_, rfl⟩
      obtain ⟨d2, e2⟩ : ∃ d, y - v = d := ⟨_, rfl⟩
      obtain ⟨d3, e3⟩ : ∃ d, z - t = d := ⟨_, rfl⟩
      rw [e1, e2, e3] at h1
      replace i1 := i1.trans e1
      replace i2 := i2.trans e2
      replace i3 := i3.trans e3
      rw [e1] at hd1
      rw [e2] at hd2
      rw [e3] at hd3
      have q1 := sq_bd hd1
      have q2 := sq_bd hd2
      have q3 := sq_bd hd3
      have i4 : IntKind.i64.wrap (d1 * d1 + d2 * d2) = d1 * d1 + d2 * d2 := IntWalk.i64_in _ (by omega)
      have i5 : IntKind.i64.wrap (d1 * d1 + d2 * d2 + d3 * d3) = m := by rw [← h1]; exact IntWalk.i64_in _ (by omega)
      clear a1 a2 a3 b1 b2 b3 q1 q2 q3 h1 e1 e2 e3
      go_enter Tryd.func23, Tryd.ntmps23
      go_upto_region 1 with (fail)
      obtain ⟨W0, B, C, hW, hC, hB, hb1, hc1, g0, -, -, -⟩ := two_new w (#[.int .i64 x, .int .i64 y, .int .i64 z]) 33 (#[.int .i64 u, .int .i64 v, .int .i64 t]) 33
      rw [hW, hC, hB]
      have HB := Lib.hid hb1
      have HC := Lib.hid hc1
      clear hW hC hB hb1 hc1

      go_upto_region 3 with (first | ((with_reducible show wpList _ _ _ (⟨_, .load 33 (.tmp 2), _, _, _, none⟩ :: _) _ _); refine wpList_load_row rfl 33 (.tmp 2) rfl B rfl 33 _ (0, 0) _ HB.out.raw Tryd.underlying33 rfl infoV ?_) | ((with_reducible show wpList _ _ _ (⟨_, .load 33 (.tmp 3), _, _, _, none⟩ :: _) _ _); refine wpList_load_row rfl 33 (.tmp 3) rfl C rfl 33 _ (0, 0) _ HC.out.raw Tryd.underlying33 rfl infoV ?_) | ((with_reducible show wpList _ _ _ (⟨_, .load 33 (.tmp 3), _, _, _, some _⟩ :: _) _ _); refine wpList_load_row_g rfl 33 (.tmp 3) rfl C rfl 33 _ (0, 0) _ HC.out.raw Tryd.underlying33 rfl infoV ?_) | (go_at_call 55; with_reducible refine (jpl_at x y z true _ HA).mono ?_; rintro r w1 ⟨rfl, hg⟩; replace g0 := g0.trans hg; replace HB := Lib.hid (HB.out.own hg); replace HC := Lib.hid (HC.out.own hg); clear hg) | (go_at_call 55; with_reducible refine (jpl_at u v t true _ HBB).mono ?_; rintro r w1 ⟨rfl, hg⟩; replace g0 := g0.trans hg; replace HB := Lib.hid (HB.out.own hg); replace HC := Lib.hid (HC.out.own hg); clear hg))
      refine RegD.region_duty [14, 15, 16, 17, 18, 19, 20, 21, 22, 23, 24, 25, 26, 27, 28, 29, 30, 31, 32, 33, 4, 5] (RegI.upd (RegI.upd (RegI.upd (RegI.upd (RegI.upd (RegI.upd (RegI.upd (RegI.upd (RegI.upd (RegI.upd (RegI.upd (RegI.upd (RegI.upd (RegI.upd (RegI.upd (RegI.upd (RegI.upd (RegI.upd (RegI.upd (RegI.upd (RegI.upd (RegI.upd (fun _ => undef) 14 (.pointer (some ⟨B, 0, none⟩))) 15 (.int .i64 x)) 16 (.pointer (some ⟨C, 0, none⟩))) 17 (.int .i64 u)) 18 (.int .i64 d1)) 19 (.int .i64 (d1 * d1))) 20 (.pointer (some ⟨B, 1, none⟩))) 21 (.int .i64 y)) 22 (.pointer (some ⟨C, 1, none⟩))) 23 (.int .i64 v)) 24 (.int .i64 d2)) 25 (.int .i64 (d2 * d2))) 26 (.int .i64 (d1 * d1 + d2 * d2))) 27 (.pointer (some ⟨B, 2, none⟩))) 28 (.int .i64 z)) 29 (.pointer (some ⟨C, 2, none⟩))) 30 (.int .i64 t)) 31 (.int .i64 d3)) 32 (.int .i64 (d3 * d3))) 33 (.int .i64 m)) 4 (.int .i64 m)) 5 (.int .i64 0)) (by kernel_rfl) (by kernel_rfl) (by intro d hd; simp at hd; simp; omega) ?_
      simp only [RegD.FF, RegI.FX, RegI.upd, List.foldl_cons, List.foldl_nil, List.not_mem_nil, if_true, if_false, Nat.reduceEqDiff]
      simp only [List.setIfInBounds_toArray, List.set_cons_succ, List.set_cons_zero]
      refine And.intro ?hs2 ?he2
      case hs2 =>
        refine And.intro ?s2_0 (And.intro ?s2_1 (And.intro ?s2_2 (And.intro ?s2_3 (And.intro ?s2_4 (And.intro ?s2_5 (And.intro ?s2_6 (And.intro ?s2_7 (And.intro ?s2_8 (And.intro ?s2_9 (And.intro ?s2_10 (And.intro ?s2_11 (And.intro ?s2_12 (And.intro ?s2_13 (And.intro ?s2_14 (And.intro ?s2_15 (And.intro ?s2_16 (And.intro ?s2_17 (And.intro ?s2_18 (And.intro ?s2_19 (And.intro ?s2_20 (And.intro ?s2_21 (trivial))))))))))))))))))))))
        case s2_0 =>
          intro u w1 hO
          go_wp2
          exact ⟨rfl, rfl, rfl, Own.refl _⟩
        case s2_1 =>
          intro u w1 hO
          have kk := (HB.out.own hO).cell 0
          go_wp2
          exact ⟨rfl, rfl, rfl, Own.refl _⟩
        case s2_2 =>
          intro u w1 hO
          go_wp2
          exact ⟨rfl, rfl, rfl, Own.refl _⟩
        case s2_3 =>
          intro u w1 hO
          have kk := (HC.out.own hO).cell 0
          go_wp2
          exact ⟨rfl, rfl, rfl, Own.refl _⟩
        case s2_4 =>
          intro u w1 hO
          go_wp2
          exact ⟨rfl, rfl, rfl, Own.refl _⟩
        case s2_5 =>
          intro u w1 hO
          go_wp2_with (go_at_call 56; with_reducible refine (jsq_at d1 _ hd1).mono ?_; rintro r w1 ⟨rfl, rfl⟩)
          exact ⟨rfl, rfl, rfl, Own.refl _⟩
        case s2_6 =>
          intro u w1 hO
          go_wp2
          exact ⟨rfl, rfl, rfl, Own.refl _⟩
        case s2_7 =>
          intro u w1 hO
          have kk := (HB.out.own hO).cell 1
          go_wp2
          exact ⟨rfl, rfl, rfl, Own.refl _⟩
        case s2_8 =>
          intro u w1 hO
          go_wp2
          exact ⟨rfl, rfl, rfl, Own.refl _⟩
        case s2_9 =>
          intro u w1 hO
          have kk := (HC.out.own hO).cell 1
          go_wp2
          exact ⟨rfl, rfl, rfl, Own.refl _⟩
        case s2_10 =>
          intro u w1 hO
          go_wp2
          exact ⟨rfl, rfl, rfl, Own.refl _⟩
        case s2_11 =>
          intro u w1 hO
          go_wp2_with (go_at_call 56; with_reducible refine (jsq_at d2 _ hd2).mono ?_; rintro r w1 ⟨rfl, rfl⟩)
          exact ⟨rfl, rfl, rfl, Own.refl _⟩
        case s2_12 =>
          intro u w1 hO
          go_wp2
          exact ⟨rfl, rfl, rfl, Own.refl _⟩
        case s2_13 =>
          intro u w1 hO
          go_wp2
          exact ⟨rfl, rfl, rfl, Own.refl _⟩
        case s2_14 =>
          intro u w1 hO
          have kk := (HB.out.own hO).cell 2
          go_wp2
          exact ⟨rfl, rfl, rfl, Own.refl _⟩
        case s2_15 =>
          intro u w1 hO
          go_wp2
          exact ⟨rfl, rfl, rfl, Own.refl _⟩
        case s2_16 =>
          intro u w1 hO
          have kk := (HC.out.own hO).cell 2
          go_wp2
          exact ⟨rfl, rfl, rfl, Own.refl _⟩
        case s2_17 =>
          intro u w1 hO
          go_wp2
          exact ⟨rfl, rfl, rfl, Own.refl _⟩
        case s2_18 =>
          intro u w1 hO
          go_wp2_with (go_at_call 56; with_reducible refine (jsq_at d3 _ hd3).mono ?_; rintro r w1 ⟨rfl, rfl⟩)
          exact ⟨rfl, rfl, rfl, Own.refl _⟩
        case s2_19 =>
          intro u w1 hO
          go_wp2
          exact ⟨rfl, rfl, rfl, Own.refl _⟩
        case s2_20 =>
          intro u w1 hO
          go_wp2
          exact ⟨rfl, rfl, rfl, Own.refl _⟩
        case s2_21 =>
          intro u w1 hO
          go_wp2
          exact ⟨rfl, rfl, rfl, Own.refl _⟩
      intro u9 w9 hO
      replace g0 := g0.trans hO
      go_wp2
      go_ret2
      exact ⟨rfl, g0⟩
    · have HBB := Lib.hid (nr3_no hb)
      rw [(ds_no (fun x => hb x.2)).2] at h1
      rw [(ds_no (fun x => hb x.2)).1] at h2
      subst h1
      subst h2
      clear ha hb
      go_enter Tryd.func23, Tryd.ntmps23
      go_upto_region 1 with (fail)
      obtain ⟨W0, B, C, hW, hC, hB, hb1, hc1, g0, -, -, -⟩ := two_new w (#[.int .i64 x, .int .i64 y, .int .i64 z]) 33 (#[.int .i64 u, .int .i64 v, .int .i64 t]) 33
      rw [hW, hC, hB]
      have HB := Lib.hid hb1
      have HC := Lib.hid hc1
      clear hW hC hB hb1 hc1
      go_wp2_with (first | ((with_reducible show wpList _ _ _ (⟨_, .load 33 (.tmp 2), _, _, _, none⟩ :: _) _ _); refine wpList_load_row rfl 33 (.tmp 2) rfl B rfl 33 _ (0, 0) _ HB.out.raw Tryd.underlying33 rfl infoV ?_) | ((with_reducible show wpList _ _ _ (⟨_, .load 33 (.tmp 3), _, _, _, none⟩ :: _) _ _); refine wpList_load_row rfl 33 (.tmp 3) rfl C rfl 33 _ (0, 0) _ HC.out.raw Tryd.underlying33 rfl infoV ?_) | ((with_reducible show wpList _ _ _ (⟨_, .load 33 (.tmp 3), _, _, _, some _⟩ :: _) _ _); refine wpList_load_row_g rfl 33 (.tmp 3) rfl C rfl 33 _ (0, 0) _ HC.out.raw Tryd.underlying33 rfl infoV ?_) | (go_at_call 55; with_reducible refine (jpl_at x y z true _ HA).mono ?_; rintro r w1 ⟨rfl, hg⟩; replace g0 := g0.trans hg; replace HB := Lib.hid (HB.out.own hg); replace HC := Lib.hid (HC.out.own hg); clear hg) | (go_at_call 55; with_reducible refine (jpl_at u v t false _ HBB).mono ?_; rintro r w1 ⟨rfl, hg⟩; replace g0 := g0.trans hg; replace HB := Lib.hid (HB.out.own hg); replace HC := Lib.hid (HC.out.own hg); clear hg))
      go_ret2
      exact ⟨rfl, g0⟩
  · have HA := Lib.hid (nr3_no ha)
    rw [(ds_no (fun x => ha x.1)).2] at h1
    rw [(ds_no (fun x => ha x.1)).1] at h2
    subst h1
    subst h2
    clear ha
    go_enter Tryd.func23, Tryd.ntmps23
    go_upto_region 1 with (fail)
    obtain ⟨W0, B, C, hW, hC, hB, hb1, hc1, g0, -, -, -⟩ := two_new w (#[.int .i64 x, .int .i64 y, .int .i64 z]) 33 (#[.int .i64 u, .int .i64 v, .int .i64 t]) 33
    rw [hW, hC, hB]
    have HB := Lib.hid hb1
    have HC := Lib.hid hc1
    clear hW hC hB hb1 hc1
    go_wp2_with (first | ((with_reducible show wpList _ _ _ (⟨_, .load 33 (.tmp 2), _, _, _, none⟩ :: _) _ _); refine wpList_load_row rfl 33 (.tmp 2) rfl B rfl 33 _ (0, 0) _ HB.out.raw Tryd.underlying33 rfl infoV ?_) | ((with_reducible show wpList _ _ _ (⟨_, .load 33 (.tmp 3), _, _, _, none⟩ :: _) _ _); refine wpList_load_row rfl 33 (.tmp 3) rfl C rfl 33 _ (0, 0) _ HC.out.raw Tryd.underlying33 rfl infoV ?_) | ((with_reducible show wpList _ _ _ (⟨_, .load 33 (.tmp 3), _, _, _, some _⟩ :: _) _ _); refine wpList_load_row_g rfl 33 (.tmp 3) rfl C rfl 33 _ (0, 0) _ HC.out.raw Tryd.underlying33 rfl infoV ?_) | (go_at_call 55; with_reducible refine (jpl_at x y z false _ HA).mono ?_; rintro r w1 ⟨rfl, hg⟩; replace g0 := g0.trans hg; replace HB := Lib.hid (HB.out.own hg); replace HC := Lib.hid (HC.out.own hg); clear hg))
    go_ret2
    exact ⟨rfl, g0⟩
theorem min2_at {P : Program} (x y : Int) (w : World) (ts : Array TypeId) (t : TypeId) : (Builtin.min_ ts t #[.int .i64 x, .int .i64 y]).run P w = .ok (.int .i64 (min x y)) w := by
  simp [Builtin.min_, Builtin.min2]
  split <;> omega
set_option maxRecDepth 100000 in
set_option maxHeartbeats 2000000 in
theorem jlow_at (j : Vl) (z : Int) (w : World) (HS : Hid (Sds w)) (H : Hid (loZ j = z)) :
    Calls Tryd.prog 16 #[.agg (cz 33 j)] w fun r w' => r = .returned (.int .i64 z) ∧ Own w w' := by
  have HX := Lib.hid (fun (k : Nat) (h : k < 6) => idxE j h)
  go_enter Tryd.func16, Tryd.ntmps16
  go_upto_region 1 with (fail)
  obtain ⟨W0, B, hW, hBq, hb1, g0, -⟩ := blk_new w (cz 33 j) 36
  rw [hW, hBq]
  have HB := Lib.hid hb1
  have k8 := blk_num hb1 (i := 8) (by omega)
  clear hW hBq hb1
  go_wp2_with (first | ((with_reducible show wpList _ _ _ (⟨_, .load 36 (.tmp 1), _, _, _, none⟩ :: _) _ _); refine wpList_load_row rfl 36 (.tmp 1) rfl B rfl 36 _ (0, 0) _ HB.out.raw Tryd.underlying36 rfl infoJ ?_) | (go_at_call 46; with_reducible refine (jends_at j _ (Lib.hid (HS.out.own g0))).mono ?_; rintro r w1 ⟨rfl, hg⟩; replace g0 : Own w w1 := g0.trans hg; clear hg k8 HB))
  generalize cz 18 (ens j) = TT at *
  go_loopw [3, 5, 11] (fun v _ vi wr => ∃ k : Nat, vi = .int .i64 (k : Int) ∧ k ≤ 6 ∧ v = .int .i64 (mn j k) ∧ Own w wr) (fun _ _ vi _ => 6 - (intOf vi).toNat)
  case atStart => exact ⟨0, rfl, by omega, rfl, g0⟩
  case round =>
    clear g0
    obtain ⟨k, rfl, hk, rfl, g0⟩ := hrel
    by_cases hlt : k < 6
    · have ix := HX.out k hlt
      have hkn : (k : Int) < 6 := by omega
      have HMN := Lib.hid (show mn j (k + 1) = min (mn j k) (j (pe k * 3 + 2)) by
        show min (mn j k) (ens j (k * 3 + 2)) = _
        rw [(ens_at j k).2.2])
      generalize j (pe k * 3) = x0 at ix
      generalize j (pe k * 3 + 1) = y0 at ix
      generalize j (pe k * 3 + 2) = z0 at ix HMN
      generalize mn j k = mk at HMN ⊢
      obtain ⟨mr, hmr⟩ : ∃ m, min mk z0 = m := ⟨_, rfl⟩
      have hmn := fun (w : World) (ts : Array TypeId) (t : TypeId) => min2_at (P := Tryd.prog) mk z0 w ts t
      rw [hmr] at hmn HMN
      clear hmr
      go_upto_region 5 with (fail)
      obtain ⟨w1, E, hW, hBq, hb, hg, Eg⟩ := blk_new wr (#[.int .i64 x0, .int .i64 y0, .int .i64 z0]) 33
      rw [hW, hBq]
      have HE := Lib.hid hb
      replace g0 := g0.trans hg
      clear hW hBq hb hg
      have e2 := HE.out.cell 2
      clear Eg HE ix
      go_wp2
      go_roundw
      case rel => exact ⟨k + 1, by go_num, hlt, by rw [HMN.out], g0⟩
      case measure => simp [intOf]; omega
    · obtain rfl : k = 6 := by omega
      have HV := Lib.hid (show mn j 6 = z from H.out)
      generalize mn j 6 = mk at HV ⊢
      go_wp2
      go_ret
      exact ⟨ret_int HV.out, g0⟩
end Go.Proofs.YtephoakgphcnnaaDoor.JntW
