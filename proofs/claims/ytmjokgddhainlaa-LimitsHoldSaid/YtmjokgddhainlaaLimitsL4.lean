/-
  Walk of a law of package limits: LimitsHold. Condition: none.
-/
import Derived.Test.YtmjokgddhainlaaLimitsU
namespace Go.Proofs.Ytmjokgddhainlaa.LimL
open Go.ChangeShapes Go.WideShapes Go.ChangeAt Go.RowKit
open LimW MovW PairW AimP AimW BlkW PrtW PstP PstW RegD LimP
set_option maxRecDepth 100000 in
set_option maxHeartbeats 16000000 in
theorem lhold_at (l : Vl) (sv tv : Value) (f : Nat → Vl) (q : Nat → Int) (n m : Nat) (k zt et9 ut : Int) (w : World) (HMV : Hid (Mov sv tv f q n m w)) :
    Calls Try.prog 10 #[.agg (lz l), .agg #[sv, tv], .agg #[.int .i64 k, .int .i64 zt, .int .i64 et9, .int .i64 ut]] w fun r w' => r = .returned (.bool true) ∧ Own w w' := by
  by_cases hg : (decide (100 < n) || decide (100 < m)) = true
  · have HG := Lib.hid hg
    clear hg
    go_enter Try.func10, Try.ntmps10
    go_upto_region 1 with (fail)
    obtain ⟨W0, B, C, D, hW, hD, hC, hB, hb, hc, hd, g0, -⟩ := three_new w (lz l) 26 (#[sv, tv]) 52 (#[.int .i64 k, .int .i64 zt, .int .i64 et9, .int .i64 ut]) 41
    rw [hW, hD, hC, hB]
    have HB := Lib.hid hb
    have HC := Lib.hid hc
    have HD := Lib.hid hd
    clear hW hD hC hB hb hc hd
    go_wp2_with (first | ((with_reducible show wpList _ _ _ (⟨_, .load 52 (.tmp 4), _, _, _, none⟩ :: _) _ _); refine wpList_load_row rfl 52 (.tmp 4) rfl C rfl 52 _ (0, 0) _ HC.out.raw Try.underlying52 rfl infoMv ?_) | (go_at_call 25; with_reducible refine (lgr_at sv tv f q n m true _ (Lib.hid (HMV.out.own g0)) HG).mono ?_; rintro r w1 ⟨rfl, hg⟩; replace g0 := g0.trans hg; replace HB := Lib.hid (HB.out.own hg); replace HC := Lib.hid (HC.out.own hg); replace HD := Lib.hid (HD.out.own hg); clear hg) | (go_at_call 16; with_reducible refine (awake_at _).mono ?_; rintro r w9 ⟨rfl, hg⟩; replace g0 := g0.trans hg; clear hg))
    go_ret
    exact ⟨rfl, g0⟩
  · have HG := Lib.hid (Bool.eq_false_iff.2 hg)
    clear hg
    obtain ⟨ec, hec⟩ : ∃ v, fvE l f q n m = v := ⟨_, rfl⟩
    obtain ⟨et, het⟩ : ∃ v, fvT l f q n m = v := ⟨_, rfl⟩
    obtain ⟨ep, hep⟩ : ∃ v, fvP l f q n m = v := ⟨_, rfl⟩
    obtain ⟨es, hes⟩ : ∃ v, fsE l f n m = v := ⟨_, rfl⟩
    have HF := Lib.hid (show fvE l f q n m = ec ∧ fvT l f q n m = et ∧ fvP l f q n m = ep ∧ fsE l f n m = es from ⟨hec, het, hep, hes⟩)
    by_cases h0 : es = 0
    · by_cases h1 : ec = 0
      · by_cases h2 : 0 ≤ k ∧ k ≤ 5
        · obtain ⟨j, rfl⟩ : ∃ j : Nat, k = j := ⟨k.toNat, by omega⟩
          have hj6 : j < 6 := by omega
          have hj1 : (j : Int) < 6 := by omega
          have dj : decide ((j : Int) < 0) = false := decide_eq_false (by omega)
          have dj2 : decide ((6 : Int) ≤ (j : Int)) = false := decide_eq_false (by omega)
          rw [h0] at hes
          rw [h1] at hec
          have HFS := Lib.hid hes
          have HFE := Lib.hid hec
          have het0 : fvT l f q n m = 0 := if_pos hec
          have hep0 : fvP l f q n m = 0 := if_pos hec
          replace HF := Lib.hid (show fvE l f q n m = 0 ∧ fvT l f q n m = 0 ∧ fvP l f q n m = 0 ∧ fsE l f n m = 0 from ⟨hec, het0, hep0, hes⟩)
          clear hes hec het hep het0 hep0 h0 h1 h2
          have HVV := Lib.hid (fs_yes HFS.out).2.2.2
          have HCL := Lib.hid (fs_yes HFS.out).1
          have HNM := Lib.hid (fs_yes HFS.out).2.2.1
          have HM0 := Lib.hid (fs_yes HFS.out).2.1
          have HEA := Lib.hid (fun k (hk : k < n) => ti_ok HCL.out (HVV.out k hk) (fv_each HFS.out HFE.out k hk))
          have hm0 : 0 < m := Nat.pos_of_ne_zero HM0.out
          have hn0 : 0 < n := by have := HNM.out; omega
          have HMV2 := HMV
          obtain ⟨⟨A, ca, rfl, hps⟩, ⟨A2, cb, rfl, hss⟩, hnl, hml⟩ := HMV2.out
          obtain ⟨pb, po, rfl, hpl⟩ := hps (by omega)
          obtain ⟨sb, so, rfl, hsl⟩ := hss (by omega)
          have HPL := Lib.hid hpl
          have HSL := Lib.hid hsl
          unfold maxLen at hnl hml
          have i1 : IntKind.i64.wrap ((m : Int) + 1) = (n : Int) := (IntWalk.i64_in _ (by have := HNM.out; omega)).trans (by have := HNM.out; omega)
          clear hps hss hpl hsl HMV2
          go_enter Try.func10, Try.ntmps10
          go_upto_region 1 with (fail)
          obtain ⟨W0, B, C, D, hW, hD, hC, hB, hb, hc, hd, g0, -⟩ := three_new w (lz l) 26 (#[.slice (some ⟨pb, po, none⟩) n ca, .slice (some ⟨sb, so, none⟩) m cb]) 52 (#[.int .i64 (j : Int), .int .i64 zt, .int .i64 et9, .int .i64 ut]) 41
          rw [hW, hD, hC, hB]
          have HB := Lib.hid hb
          have HC := Lib.hid hc
          have HD := Lib.hid hd
          clear hW hD hC hB hb hc hd
          go_upto_region 4 with (first | ((with_reducible show wpList _ _ _ (⟨_, .load 26 (.tmp 3), _, _, _, none⟩ :: _) _ _); refine wpList_load_row rfl 26 (.tmp 3) rfl B rfl 26 _ (0, 0) _ HB.out.raw Try.underlying26 rfl infoLs ?_) | ((with_reducible show wpList _ _ _ (⟨_, .load 52 (.tmp 4), _, _, _, none⟩ :: _) _ _); refine wpList_load_row rfl 52 (.tmp 4) rfl C rfl 52 _ (0, 0) _ HC.out.raw Try.underlying52 rfl infoMv ?_) | (go_at_call 25; with_reducible refine (lgr_at (.slice (some ⟨pb, po, none⟩) n ca) (.slice (some ⟨sb, so, none⟩) m cb) f q n m false _ (Lib.hid (HMV.out.own g0)) HG).mono ?_; rintro r w1 ⟨rfl, hg⟩; replace g0 := g0.trans hg; replace HB := Lib.hid (HB.out.own hg); replace HC := Lib.hid (HC.out.own hg); replace HD := Lib.hid (HD.out.own hg); clear hg) | (go_at_call 26; with_reducible refine (lfi_at l (.slice (some ⟨pb, po, none⟩) n ca) (.slice (some ⟨sb, so, none⟩) m cb) f q n m 0 0 0 0 _ (Lib.hid (HMV.out.own g0)) HF).mono ?_; rintro r w2 ⟨rfl, hg⟩; replace g0 := g0.trans hg; replace HB := Lib.hid (HB.out.own hg); replace HC := Lib.hid (HC.out.own hg); replace HD := Lib.hid (HD.out.own hg); clear hg) | ((with_reducible show wpList _ _ _ (⟨_, .store 55 (.tmp 7) (.tmp 21), _, _, _, none⟩ :: _) _ _); refine wpList_store_row rfl 55 (.tmp 7) (.tmp 21) rfl _ #[.int .i64 0, .int .i64 0, .int .i64 0] rfl rfl 55 _ (heap_new _ _) infoF rfl (by simp [Value.oneCell']) ?_; rw [World.setRow_alloc_new]))
          obtain ⟨w3, Q, hW, hBq, hb, hg, Qg⟩ := blk_new w2 (#[.int .i64 0, .int .i64 0, .int .i64 0]) 55
          rw [hW, hBq]
          have HQ := Lib.hid hb
          replace g0 := g0.trans hg
          replace HB := Lib.hid (HB.out.own hg)
          replace HC := Lib.hid (HC.out.own hg)
          replace HD := Lib.hid (HD.out.own hg)
          clear hW hBq hb hg
          clear Qg
          have a0 := HQ.out.cell 0
          have t0 := HD.out.cell 0

          have m0 := HC.out.cell 0
          have m1 := HC.out.cell 1
          go_wp2
          clear i1 m0 m1 a0 t0 HG
          go_loopw [9, 10, 11, 12, 13] (fun vi _ _ _ _ wr => ∃ k : Nat, vi = .int .i64 (k : Int) ∧ k ≤ n ∧ Own w wr ∧ Blk wr B (lz l) 26 ∧ Blk wr C #[.slice (some ⟨pb, po, none⟩) n ca, .slice (some ⟨sb, so, none⟩) m cb] 52 ∧ Blk wr D (#[.int .i64 (j : Int), .int .i64 zt, .int .i64 et9, .int .i64 ut]) 41) (fun vi _ _ _ _ _ => n - (intOf vi).toNat)
          case atStart => exact ⟨0, rfl, by omega, g0, HB.out, HC.out, HD.out⟩
          case round =>
            clear g0 HB HC HD HQ
            obtain ⟨k, rfl, hk, g0, hb, hc, hd⟩ := hrel
            have HB := Lib.hid hb
            have HC := Lib.hid hc
            have HD := Lib.hid hd
            have m0 := hc.cell 0
            clear hb hc hd
            by_cases hlt : k < n
            · have hkn : (k : Int) < n := by omega
              obtain ⟨hal, hlo, hri, hai⟩ := HEA.out k hlt
              obtain ⟨al1, al2, sp1, sp2⟩ := hal j hj6
              have HPK := Lib.hid ((HPL.out k hlt).own g0)
              have HAD := Lib.hid (lie_aim2 HPK.out hj6)
              have HEC := Lib.hid (chk_yes ((va_yes (HVV.out k hlt)).2 j hj6)).2.2.1
              have HEP := Lib.hid (chk_yes ((va_yes (HVV.out (k - 1) (by omega))).2 j hj6)).2.2.1
              obtain ⟨lf, hlf⟩ : ∃ v, f k 3 = v := ⟨_, rfl⟩
              rw [hlf] at hlo hri
              have HLFV := Lib.hid (show lf = f k 3 from hlf.symm)
              obtain ⟨e0, he0⟩ : ∃ v, f (k - 1) (4 + j * 3 + 1) = v := ⟨_, rfl⟩
              have hpe := lie_num (HPL.out (k - 1) (by omega)) (i := 4 + j * 3 + 1) (by omega)
              rw [he0] at hpe
              have HPE := Lib.hid hpe
              replace HEP := Lib.hid (show -64 ≤ e0 ∧ e0 ≤ 64 by rw [← he0]; exact HEP.out)
              replace sp1 : f k (4 + j * 3 + 1) - f (k - 1) (4 + j * 3 + 1) ≤ l (j * 6 + 5) := sp1
              replace sp2 : -(f k (4 + j * 3 + 1) - f (k - 1) (4 + j * 3 + 1)) ≤ l (j * 6 + 5) := sp2
              rw [he0] at sp1 sp2
              have HAL := Lib.hid (show alV l j (f k (4 + j * 3)) (f k (4 + j * 3 + 1)) (f k (4 + j * 3 + 2)) = true ∧ alE l j (f k (4 + j * 3)) (f k (4 + j * 3 + 1)) (f k (4 + j * 3 + 2)) = 0 from ⟨al2, al1⟩)
              replace HEC := Lib.hid (show -64 ≤ f k (4 + j * 3 + 1) ∧ f k (4 + j * 3 + 1) ≤ 64 from HEC.out)
              clear al1 al2 hal hlf he0 hpe
              generalize f k (4 + j * 3) = z at HAD HAL
              generalize f k (4 + j * 3 + 1) = e at HAD HAL HEC sp1 sp2
              generalize f k (4 + j * 3 + 2) = bb at HAD HAL
              have HSP := Lib.hid (And.intro sp1 sp2)
              have HAI := Lib.hid hai
              have HLO := Lib.hid hlo
              have HRI := Lib.hid hri
              clear sp1 sp2 hai hlo hri
              go_upto_region 11 with (fail)
              refine RegD.region_dutyN [65, 66, 67, 68, 69, 70, 71, 72, 73, 10] 10 9 10 (RegI.upd (RegI.upd (RegI.upd (RegI.upd (RegI.upd (RegI.upd (RegI.upd (RegI.upd (RegI.upd (fun _ => undef) 65 (.pointer (some ⟨C, 0, none⟩))) 66 (.slice (some ⟨pb, po, none⟩) n ca)) 67 (.int .i64 (k : Int))) 68 (.pointer (some ⟨D, 0, none⟩))) 69 (.int .i64 (j : Int))) 70 (.pointer (some ⟨pb, po + k * 22, none⟩))) 71 (.pointer (some ⟨pb, po + k * 22 + 4, none⟩))) 72 (.pointer (some ⟨pb, po + k * 22 + 4 + j * 3, none⟩))) 73 (.agg #[.int .i64 z, .int .i64 e, .int .i64 bb])) (#[.int .i64 0, .int .i64 0, .int .i64 0]) (#[.int .i64 z, .int .i64 e, .int .i64 bb]) 34 (by kernel_rfl) (by kernel_rfl) (by decide) (by intro d hd; simp at hd; simp; omega) ?_
              simp only [RegD.FF, RegI.FX, RegI.upd, List.foldl_cons, List.foldl_nil, List.mem_cons, List.not_mem_nil, if_true, if_false, Nat.reduceEqDiff, or_false]
              simp only [List.setIfInBounds_toArray, List.set_cons_succ, List.set_cons_zero]
              refine And.intro ?hs1 ?he1
              case hs1 =>
                refine And.intro ?s1_0 (And.intro ?s1_1 (And.intro ?s1_2 (And.intro ?s1_3 (And.intro ?s1_4 (And.intro ?s1_5 (And.intro ?s1_6 (And.intro ?s1_7 (And.intro ?s1_8 (And.intro ?s1_9 (And.intro ?s1_10 (trivial)))))))))))
                case s1_0 =>
                  refine RegD.stepN_det (by decide) (by decide) (by simp) (fun u w1 hO => ?_)
                  go_wp2
                  exact ⟨rfl, rfl, rfl, Own.refl _⟩
                case s1_1 =>
                  refine RegD.stepN_det (by decide) (by decide) (by simp) (fun u w1 hO => ?_)
                  have kk := (HC.out.own hO).cell 0
                  go_wp2
                  exact ⟨rfl, rfl, rfl, Own.refl _⟩
                case s1_2 =>
                  refine RegD.stepN_det (by decide) (by decide) (by simp) (fun u w1 hO => ?_)
                  go_wp2
                  exact ⟨rfl, rfl, rfl, Own.refl _⟩
                case s1_3 =>
                  refine RegD.stepN_det (by decide) (by decide) (by simp) (fun u w1 hO => ?_)
                  go_wp2
                  exact ⟨rfl, rfl, rfl, Own.refl _⟩
                case s1_4 =>
                  refine RegD.stepN_det (by decide) (by decide) (by simp) (fun u w1 hO => ?_)
                  have kk := (HD.out.own hO).cell 0
                  go_wp2
                  exact ⟨rfl, rfl, rfl, Own.refl _⟩
                case s1_5 =>
                  refine RegD.stepN_det (by decide) (by decide) (by simp) (fun u w1 hO => ?_)
                  go_wp2
                  exact ⟨rfl, rfl, rfl, Own.refl _⟩
                case s1_6 =>
                  refine RegD.stepN_det (by decide) (by decide) (by simp) (fun u w1 hO => ?_)
                  go_wp2
                  exact ⟨rfl, rfl, rfl, Own.refl _⟩
                case s1_7 =>
                  refine RegD.stepN_det (by decide) (by decide) (by simp) (fun u w1 hO => ?_)
                  go_wp2
                  exact ⟨rfl, rfl, rfl, Own.refl _⟩
                case s1_8 =>
                  refine RegD.stepN_det (by decide) (by decide) (by simp) (fun u w1 hO => ?_)
                  have HB9 := Lib.hid (HAD.out.own hO)
                  go_wp2_with ((with_reducible show wpList _ _ _ (⟨_, .load 34 (.tmp 72), _, _, _, none⟩ :: _) _ _); refine wpList_load_lie rfl 34 (.tmp 72) rfl pb (po + k * 22 + 4 + j * 3) rfl (#[.int .i64 z, .int .i64 e, .int .i64 bb]) HB9.out _ Try.underlying34 rfl infoA ?_)
                  exact ⟨rfl, rfl, rfl, Own.refl _⟩
                case s1_9 =>
                  refine RegD.stepN_alloc rfl (fun u w1 hO => ?_)
                  go_wp2
                  exact ⟨rfl, rfl, rfl, rfl⟩
                case s1_10 =>
                  refine RegD.stepN_store (by decide) rfl (by kernel_rfl) (fun u w1 N hO hu hN => ?_)
                  have HN := Lib.hid hN
                  simp only [hu]
                  clear hN
                  go_wp2_with ((with_reducible show wpList _ _ _ (⟨_, .store 34 (.tmp 10) (.tmp 73), _, _, _, none⟩ :: _) _ _); refine wpList_store_row rfl 34 (.tmp 10) (.tmp 73) rfl N #[.int .i64 z, .int .i64 e, .int .i64 bb] rfl rfl 34 _ HN.out.raw infoA rfl (by simp [Value.oneCell']) ?_)
                  exact ⟨rfl, rfl, rfl⟩
              intro u9 w5 N hO hu hN0 hN
              simp only [hu]
              replace g0 := g0.trans hO
              replace HB := Lib.hid (HB.out.own hO)
              replace HC := Lib.hid (HC.out.own hO)
              replace HD := Lib.hid (HD.out.own hO)
              have HA := Lib.hid hN
              have t0 := HD.out.cell 0
              clear hO hu hN0 hN HAD HPK m0
              go_upto_region 13 with (first | ((with_reducible show wpList _ _ _ (⟨_, .load 26 (.tmp 3), _, _, _, none⟩ :: _) _ _); refine wpList_load_row rfl 26 (.tmp 3) rfl B rfl 26 _ (0, 0) _ HB.out.raw Try.underlying26 rfl infoLs ?_) | ((with_reducible show wpList _ _ _ (⟨_, .load 34 (.tmp 10), _, _, _, none⟩ :: _) _ _); refine wpList_load_row rfl 34 (.tmp 10) rfl N rfl 34 _ (0, 0) _ HA.out.raw Try.underlying34 rfl infoA ?_) | (go_at_call 17; with_reducible refine (lal2_at l j z e bb true 0 _ HAL).mono ?_; rintro r w6 ⟨rfl, hg⟩; replace g0 := g0.trans hg; replace HB := Lib.hid (HB.out.own hg); replace HC := Lib.hid (HC.out.own hg); replace HD := Lib.hid (HD.out.own hg); replace HA := Lib.hid (HA.out.own hg); clear hg))
              go_cut [115] (fun s wx => s = .bool false ∧ w6 = wx)
              case first =>
                have m0 := HC.out.cell 0
                have k36 := lb_low HB.out
                have k37 := lb_rise HB.out
                have k3 : w6.cell? ⟨pb, po + k * 22 + 3, none⟩ = some (.int .i64 lf) := g0.cell (show w.cell? ⟨pb, po + k * 22 + 3, none⟩ = some (.int .i64 lf) by
                  have := lie_num (HPL.out k hlt) (i := 3) (by omega)
                  rw [this, HLFV.out])
                clear HB HC HD HA t0
                by_cases c1 : lf < 0
                · have d1 : decide (lf < 0) = true := decide_eq_true c1
                  have d2 : decide (0 < lf) = false := decide_eq_false (by omega)
                  rw [decide_eq_true (HLO.out c1)] at k36
                  clear c1
                  go_wp2
                  all_goals (go_meet; exact ⟨rfl, rfl⟩)
                · have d1 : decide (lf < 0) = false := decide_eq_false c1
                  by_cases c2 : 0 < lf
                  · have d2 : decide (0 < lf) = true := decide_eq_true c2
                    rw [decide_eq_true (HRI.out c2)] at k37
                    clear c1 c2
                    go_wp2
                    all_goals (go_meet; exact ⟨rfl, rfl⟩)
                  · have d2 : decide (0 < lf) = false := decide_eq_false c2
                    clear c1 c2
                    go_wp2
                    all_goals (go_meet; exact ⟨rfl, rfl⟩)
              case rest =>
                obtain ⟨rfl, rfl⟩ := hcut
                by_cases hk0 : k = 0
                · have dk : ((k : Int) == 0) = true := beq_iff_eq.2 (by omega)
                  have dk2 : decide ((k : Int) = 0) = true := decide_eq_true (by omega)
                  clear hk0
                  go_wp2
                  go_roundw
                  case rel => exact ⟨k + 1, by go_num, hlt, g0, HB.out, HC.out, HD.out⟩
                  case measure => simp [intOf]; omega
                · obtain ⟨kp, hkp⟩ : ∃ kp, k - 1 = kp := ⟨_, rfl⟩
                  have HE0 := Lib.hid (show w6.cell? ⟨pb, po + kp * 22 + 4 + j * 3 + 1, none⟩ = some (.int .i64 e0) by
                    have := g0.cell HPE.out
                    rw [hkp] at this
                    rw [← this]
                    congr 2
                    omega)
                  have i2 : IntKind.i64.wrap ((k : Int) - 1) = (kp : Int) := (IntWalk.i64_in _ (by omega)).trans (by omega)
                  have hkp1 : (kp : Int) < n := by omega
                  have hkm : (kp : Int) < m := by have := HNM.out; omega
                  have dk : ((k : Int) == 0) = false := beq_eq_false_iff_ne.2 (by omega)
                  have dk2 : decide ((k : Int) = 0) = false := decide_eq_false (by omega)
                  obtain ⟨dd, hdd⟩ : ∃ v, e - e0 = v := ⟨_, rfl⟩
                  have hec := HEC.out
                  have hep := HEP.out
                  obtain ⟨hs1, hs2⟩ := HSP.out
                  have i3 : IntKind.i64.wrap (e - e0) = dd := (IntWalk.i64_in _ (by omega)).trans hdd
                  have i4 : IntKind.i64.wrap (-dd) = -dd := IntWalk.i64_in _ (by omega)
                  have d1 : decide (l (j * 6 + 5) < dd) = false := decide_eq_false (by omega)
                  have d2 : decide (l (j * 6 + 5) < -dd) = false := decide_eq_false (by omega)
                  have eq0 := g0.cell (HSL.out kp (by omega))
                  have hq := HAI.out hk0
                  rw [hkp] at hq
                  clear hkp hdd hec hep hs1 hs2 hk0
                  go_upto_region 16 with (fail)
                  refine RegD.region_duty [118, 119, 120, 121, 122, 123, 124, 125, 126, 127, 128, 129, 130, 131, 13] (RegI.upd (RegI.upd (RegI.upd (RegI.upd (RegI.upd (RegI.upd (RegI.upd (RegI.upd (RegI.upd (RegI.upd (RegI.upd (RegI.upd (RegI.upd (RegI.upd (RegI.upd (fun _ => undef) 118 (.pointer (some ⟨N, 1, none⟩))) 119 (.int .i64 e)) 120 (.pointer (some ⟨C, 0, none⟩))) 121 (.slice (some ⟨pb, po, none⟩) n ca)) 122 (.int .i64 (k : Int))) 123 (.int .i64 (kp : Int))) 124 (.pointer (some ⟨D, 0, none⟩))) 125 (.int .i64 (j : Int))) 126 (.pointer (some ⟨pb, po + kp * 22, none⟩))) 127 (.pointer (some ⟨pb, po + kp * 22 + 4, none⟩))) 128 (.pointer (some ⟨pb, po + kp * 22 + 4 + j * 3, none⟩))) 129 (.pointer (some ⟨pb, po + kp * 22 + 4 + j * 3 + 1, none⟩))) 130 (.int .i64 e0)) 131 (.int .i64 dd)) 13 (.int .i64 dd)) (by kernel_rfl) (by kernel_rfl) (by intro d hd; simp at hd; simp; omega) ?_
                  simp only [RegD.FF, RegI.FX, RegI.upd, List.foldl_cons, List.foldl_nil, List.not_mem_nil, if_true, if_false, Nat.reduceEqDiff]
                  simp only [List.setIfInBounds_toArray, List.set_cons_succ, List.set_cons_zero]
                  refine And.intro ?hs2 ?he2
                  case hs2 =>
                    refine And.intro ?s2_0 (And.intro ?s2_1 (And.intro ?s2_2 (And.intro ?s2_3 (And.intro ?s2_4 (And.intro ?s2_5 (And.intro ?s2_6 (And.intro ?s2_7 (And.intro ?s2_8 (And.intro ?s2_9 (And.intro ?s2_10 (And.intro ?s2_11 (And.intro ?s2_12 (And.intro ?s2_13 (And.intro ?s2_14 (trivial)))))))))))))))
                    case s2_0 =>
                      intro u w1 hO
                      go_wp2
                      exact ⟨rfl, rfl, rfl, Own.refl _⟩
                    case s2_1 =>
                      intro u w1 hO
                      have kk := (HA.out.own hO).cell 1
                      go_wp2
                      exact ⟨rfl, rfl, rfl, Own.refl _⟩
                    case s2_2 =>
                      intro u w1 hO
                      go_wp2
                      exact ⟨rfl, rfl, rfl, Own.refl _⟩
                    case s2_3 =>
                      intro u w1 hO
                      have kk := (HC.out.own hO).cell 0
                      go_wp2
                      exact ⟨rfl, rfl, rfl, Own.refl _⟩
                    case s2_4 =>
                      intro u w1 hO
                      go_wp2
                      exact ⟨rfl, rfl, rfl, Own.refl _⟩
                    case s2_5 =>
                      intro u w1 hO
                      go_wp2
                      exact ⟨rfl, rfl, rfl, Own.refl _⟩
                    case s2_6 =>
                      intro u w1 hO
                      go_wp2
                      exact ⟨rfl, rfl, rfl, Own.refl _⟩
                    case s2_7 =>
                      intro u w1 hO
                      have kk := (HD.out.own hO).cell 0
                      go_wp2
                      exact ⟨rfl, rfl, rfl, Own.refl _⟩
                    case s2_8 =>
                      intro u w1 hO
                      go_wp2
                      exact ⟨rfl, rfl, rfl, Own.refl _⟩
                    case s2_9 =>
                      intro u w1 hO
                      go_wp2
                      exact ⟨rfl, rfl, rfl, Own.refl _⟩
                    case s2_10 =>
                      intro u w1 hO
                      go_wp2
                      exact ⟨rfl, rfl, rfl, Own.refl _⟩
                    case s2_11 =>
                      intro u w1 hO
                      go_wp2
                      exact ⟨rfl, rfl, rfl, Own.refl _⟩
                    case s2_12 =>
                      intro u w1 hO
                      have kk := hO.cell HE0.out
                      go_wp2
                      exact ⟨rfl, rfl, rfl, Own.refl _⟩
                    case s2_13 =>
                      intro u w1 hO
                      go_wp2
                      exact ⟨rfl, rfl, rfl, Own.refl _⟩
                    case s2_14 =>
                      intro u w1 hO
                      go_wp2
                      exact ⟨rfl, rfl, rfl, Own.refl _⟩
                  intro u8 w7 hO
                  replace g0 := g0.trans hO
                  replace HB := Lib.hid (HB.out.own hO)
                  replace HC := Lib.hid (HC.out.own hO)
                  replace HD := Lib.hid (HD.out.own hO)
                  replace eq0 := hO.cell eq0
                  clear hO HA HE0 i3 t0
                  go_upto_region 17 with (fail)
                  go_cut [164] (fun s wx => s = .bool false ∧ w7 = wx)
                  case first =>
                    have t0 := HD.out.cell 0
                    have m1 := HC.out.cell 1
                    have k5 := lb_num HB.out (i := j * 6 + 5) (by omega) (by omega)
                    have k38 := lb_num HB.out (i := 38) (by omega) (by omega)
                    obtain ⟨qv, hqv⟩ : ∃ v, q kp = v := ⟨_, rfl⟩
                    rw [hqv] at eq0 hq
                    clear HB HC HD hqv
                    by_cases c1 : l 38 = 0
                    · have d3 : (l 38 == 0) = true := beq_iff_eq.2 c1
                      have d4 : (qv == 0) = false := beq_eq_false_iff_ne.2 (hq c1)
                      clear c1 hq
                      go_wp2
                      all_goals (go_meet; exact ⟨rfl, rfl⟩)
                    · have d3 : (l 38 == 0) = false := beq_eq_false_iff_ne.2 c1
                      clear c1 hq
                      go_wp2
                      all_goals (go_meet; exact ⟨rfl, rfl⟩)
                  case rest =>
                    obtain ⟨rfl, rfl⟩ := hcut
                    clear eq0 hq
                    go_wp2
                    go_roundw
                    case rel => exact ⟨k + 1, by go_num, hlt, g0, HB.out, HC.out, HD.out⟩
                    case measure => simp [intOf]; omega
            · obtain rfl : k = n := by omega
              go_wp2_with (go_at_call 16; with_reducible refine (awake_at _).mono ?_; rintro r w9 ⟨rfl, hg⟩; replace g0 := g0.trans hg; clear hg)
              go_ret
              exact ⟨rfl, g0⟩

        · subst h0
          subst h1
          clear hes hec het hep
          by_cases h3 : k < 0
          · have d3 : decide (k < 0) = true := decide_eq_true h3
            clear h2 h3
            go_enter Try.func10, Try.ntmps10
            go_upto_region 1 with (fail)
            obtain ⟨W0, B, C, D, hW, hD, hC, hB, hb, hc, hd, g0, -⟩ := three_new w (lz l) 26 (#[sv, tv]) 52 (#[.int .i64 k, .int .i64 zt, .int .i64 et9, .int .i64 ut]) 41
            rw [hW, hD, hC, hB]
            have HB := Lib.hid hb
            have HC := Lib.hid hc
            have HD := Lib.hid hd
            clear hW hD hC hB hb hc hd
            go_upto_region 4 with (first | ((with_reducible show wpList _ _ _ (⟨_, .load 26 (.tmp 3), _, _, _, none⟩ :: _) _ _); refine wpList_load_row rfl 26 (.tmp 3) rfl B rfl 26 _ (0, 0) _ HB.out.raw Try.underlying26 rfl infoLs ?_) | ((with_reducible show wpList _ _ _ (⟨_, .load 52 (.tmp 4), _, _, _, none⟩ :: _) _ _); refine wpList_load_row rfl 52 (.tmp 4) rfl C rfl 52 _ (0, 0) _ HC.out.raw Try.underlying52 rfl infoMv ?_) | (go_at_call 25; with_reducible refine (lgr_at (sv) (tv) f q n m false _ (Lib.hid (HMV.out.own g0)) HG).mono ?_; rintro r w1 ⟨rfl, hg⟩; replace g0 := g0.trans hg; replace HB := Lib.hid (HB.out.own hg); replace HC := Lib.hid (HC.out.own hg); replace HD := Lib.hid (HD.out.own hg); clear hg) | (go_at_call 26; with_reducible refine (lfi_at l (sv) (tv) f q n m 0 et ep 0 _ (Lib.hid (HMV.out.own g0)) HF).mono ?_; rintro r w2 ⟨rfl, hg⟩; replace g0 := g0.trans hg; replace HB := Lib.hid (HB.out.own hg); replace HC := Lib.hid (HC.out.own hg); replace HD := Lib.hid (HD.out.own hg); clear hg) | ((with_reducible show wpList _ _ _ (⟨_, .store 55 (.tmp 7) (.tmp 21), _, _, _, none⟩ :: _) _ _); refine wpList_store_row rfl 55 (.tmp 7) (.tmp 21) rfl _ #[.int .i64 0, .int .i64 et, .int .i64 ep] rfl rfl 55 _ (heap_new _ _) infoF rfl (by simp [Value.oneCell']) ?_; rw [World.setRow_alloc_new]))
            obtain ⟨w3, Q, hW, hBq, hb, hg, Qg⟩ := blk_new w2 (#[.int .i64 0, .int .i64 et, .int .i64 ep]) 55
            rw [hW, hBq]
            have HQ := Lib.hid hb
            replace g0 := g0.trans hg
            replace HB := Lib.hid (HB.out.own hg)
            replace HC := Lib.hid (HC.out.own hg)
            replace HD := Lib.hid (HD.out.own hg)
            clear hW hBq hb hg
            clear Qg
            have a0 := HQ.out.cell 0
            have t0 := HD.out.cell 0
            go_wp2_with (first | ((with_reducible show wpList _ _ _ (⟨_, .load 55 (.tmp 7), _, _, _, some _⟩ :: _) _ _); refine wpList_load_row_g rfl 55 (.tmp 7) rfl Q rfl 55 _ (0, 0) _ HQ.out.raw Try.underlying55 rfl infoF ?_) | (go_at_call 16; with_reducible refine (awake_at _).mono ?_; rintro r w9 ⟨rfl, hg⟩; replace g0 := g0.trans hg; clear hg))
            go_ret
            exact ⟨rfl, g0⟩
          · have d3 : decide (k < 0) = false := decide_eq_false h3
            have d4 : decide ((6 : Int) ≤ k) = true := decide_eq_true (by omega)
            clear h2 h3
            go_enter Try.func10, Try.ntmps10
            go_upto_region 1 with (fail)
            obtain ⟨W0, B, C, D, hW, hD, hC, hB, hb, hc, hd, g0, -⟩ := three_new w (lz l) 26 (#[sv, tv]) 52 (#[.int .i64 k, .int .i64 zt, .int .i64 et9, .int .i64 ut]) 41
            rw [hW, hD, hC, hB]
            have HB := Lib.hid hb
            have HC := Lib.hid hc
            have HD := Lib.hid hd
            clear hW hD hC hB hb hc hd
            go_upto_region 4 with (first | ((with_reducible show wpList _ _ _ (⟨_, .load 26 (.tmp 3), _, _, _, none⟩ :: _) _ _); refine wpList_load_row rfl 26 (.tmp 3) rfl B rfl 26 _ (0, 0) _ HB.out.raw Try.underlying26 rfl infoLs ?_) | ((with_reducible show wpList _ _ _ (⟨_, .load 52 (.tmp 4), _, _, _, none⟩ :: _) _ _); refine wpList_load_row rfl 52 (.tmp 4) rfl C rfl 52 _ (0, 0) _ HC.out.raw Try.underlying52 rfl infoMv ?_) | (go_at_call 25; with_reducible refine (lgr_at (sv) (tv) f q n m false _ (Lib.hid (HMV.out.own g0)) HG).mono ?_; rintro r w1 ⟨rfl, hg⟩; replace g0 := g0.trans hg; replace HB := Lib.hid (HB.out.own hg); replace HC := Lib.hid (HC.out.own hg); replace HD := Lib.hid (HD.out.own hg); clear hg) | (go_at_call 26; with_reducible refine (lfi_at l (sv) (tv) f q n m 0 et ep 0 _ (Lib.hid (HMV.out.own g0)) HF).mono ?_; rintro r w2 ⟨rfl, hg⟩; replace g0 := g0.trans hg; replace HB := Lib.hid (HB.out.own hg); replace HC := Lib.hid (HC.out.own hg); replace HD := Lib.hid (HD.out.own hg); clear hg) | ((with_reducible show wpList _ _ _ (⟨_, .store 55 (.tmp 7) (.tmp 21), _, _, _, none⟩ :: _) _ _); refine wpList_store_row rfl 55 (.tmp 7) (.tmp 21) rfl _ #[.int .i64 0, .int .i64 et, .int .i64 ep] rfl rfl 55 _ (heap_new _ _) infoF rfl (by simp [Value.oneCell']) ?_; rw [World.setRow_alloc_new]))
            obtain ⟨w3, Q, hW, hBq, hb, hg, Qg⟩ := blk_new w2 (#[.int .i64 0, .int .i64 et, .int .i64 ep]) 55
            rw [hW, hBq]
            have HQ := Lib.hid hb
            replace g0 := g0.trans hg
            replace HB := Lib.hid (HB.out.own hg)
            replace HC := Lib.hid (HC.out.own hg)
            replace HD := Lib.hid (HD.out.own hg)
            clear hW hBq hb hg
            clear Qg
            have a0 := HQ.out.cell 0
            have t0 := HD.out.cell 0
            go_wp2_with (first | ((with_reducible show wpList _ _ _ (⟨_, .load 55 (.tmp 7), _, _, _, some _⟩ :: _) _ _); refine wpList_load_row_g rfl 55 (.tmp 7) rfl Q rfl 55 _ (0, 0) _ HQ.out.raw Try.underlying55 rfl infoF ?_) | (go_at_call 16; with_reducible refine (awake_at _).mono ?_; rintro r w9 ⟨rfl, hg⟩; replace g0 := g0.trans hg; clear hg))
            go_ret
            exact ⟨rfl, g0⟩
      · subst h0
        have kc : (ec != 0) = true := bne_iff_ne.2 h1
        clear hes hec het hep h1
        go_enter Try.func10, Try.ntmps10
        go_upto_region 1 with (fail)
        obtain ⟨W0, B, C, D, hW, hD, hC, hB, hb, hc, hd, g0, -⟩ := three_new w (lz l) 26 (#[sv, tv]) 52 (#[.int .i64 k, .int .i64 zt, .int .i64 et9, .int .i64 ut]) 41
        rw [hW, hD, hC, hB]
        have HB := Lib.hid hb
        have HC := Lib.hid hc
        have HD := Lib.hid hd
        clear hW hD hC hB hb hc hd
        go_upto_region 4 with (first | ((with_reducible show wpList _ _ _ (⟨_, .load 26 (.tmp 3), _, _, _, none⟩ :: _) _ _); refine wpList_load_row rfl 26 (.tmp 3) rfl B rfl 26 _ (0, 0) _ HB.out.raw Try.underlying26 rfl infoLs ?_) | ((with_reducible show wpList _ _ _ (⟨_, .load 52 (.tmp 4), _, _, _, none⟩ :: _) _ _); refine wpList_load_row rfl 52 (.tmp 4) rfl C rfl 52 _ (0, 0) _ HC.out.raw Try.underlying52 rfl infoMv ?_) | (go_at_call 25; with_reducible refine (lgr_at (sv) (tv) f q n m false _ (Lib.hid (HMV.out.own g0)) HG).mono ?_; rintro r w1 ⟨rfl, hg⟩; replace g0 := g0.trans hg; replace HB := Lib.hid (HB.out.own hg); replace HC := Lib.hid (HC.out.own hg); replace HD := Lib.hid (HD.out.own hg); clear hg) | (go_at_call 26; with_reducible refine (lfi_at l (sv) (tv) f q n m ec et ep 0 _ (Lib.hid (HMV.out.own g0)) HF).mono ?_; rintro r w2 ⟨rfl, hg⟩; replace g0 := g0.trans hg; replace HB := Lib.hid (HB.out.own hg); replace HC := Lib.hid (HC.out.own hg); replace HD := Lib.hid (HD.out.own hg); clear hg) | ((with_reducible show wpList _ _ _ (⟨_, .store 55 (.tmp 7) (.tmp 21), _, _, _, none⟩ :: _) _ _); refine wpList_store_row rfl 55 (.tmp 7) (.tmp 21) rfl _ #[.int .i64 ec, .int .i64 et, .int .i64 ep] rfl rfl 55 _ (heap_new _ _) infoF rfl (by simp [Value.oneCell']) ?_; rw [World.setRow_alloc_new]))
        obtain ⟨w3, Q, hW, hBq, hb, hg, Qg⟩ := blk_new w2 (#[.int .i64 ec, .int .i64 et, .int .i64 ep]) 55
        rw [hW, hBq]
        have HQ := Lib.hid hb
        replace g0 := g0.trans hg
        replace HB := Lib.hid (HB.out.own hg)
        replace HC := Lib.hid (HC.out.own hg)
        replace HD := Lib.hid (HD.out.own hg)
        clear hW hBq hb hg
        clear Qg
        have a0 := HQ.out.cell 0
        have t0 := HD.out.cell 0
        go_wp2_with (first | ((with_reducible show wpList _ _ _ (⟨_, .load 55 (.tmp 7), _, _, _, some _⟩ :: _) _ _); refine wpList_load_row_g rfl 55 (.tmp 7) rfl Q rfl 55 _ (0, 0) _ HQ.out.raw Try.underlying55 rfl infoF ?_) | (go_at_call 16; with_reducible refine (awake_at _).mono ?_; rintro r w9 ⟨rfl, hg⟩; replace g0 := g0.trans hg; clear hg))
        go_ret
        exact ⟨rfl, g0⟩
    · obtain ⟨g1, g2, g3⟩ := fv_nul (q := q) (l := l) (f := f) (n := n) (m := m) (by rw [hes]; exact h0)
      replace HF := Lib.hid (show fvE l f q n m = 0 ∧ fvT l f q n m = 0 ∧ fvP l f q n m = 0 ∧ fsE l f n m = es from ⟨g1, g2, g3, hes⟩)
      have kc : (es != 0) = true := bne_iff_ne.2 h0
      have kd : (es == 0) = false := beq_eq_false_iff_ne.2 h0
      have hfa : fa3 0 0 0 = true := rfl
      clear g1 g2 g3 hes hec het hep h0
      go_enter Try.func10, Try.ntmps10
      go_upto_region 1 with (fail)
      obtain ⟨W0, B, C, D, hW, hD, hC, hB, hb, hc, hd, g0, -⟩ := three_new w (lz l) 26 (#[sv, tv]) 52 (#[.int .i64 k, .int .i64 zt, .int .i64 et9, .int .i64 ut]) 41
      rw [hW, hD, hC, hB]
      have HB := Lib.hid hb
      have HC := Lib.hid hc
      have HD := Lib.hid hd
      clear hW hD hC hB hb hc hd
      go_upto_region 4 with (first | ((with_reducible show wpList _ _ _ (⟨_, .load 26 (.tmp 3), _, _, _, none⟩ :: _) _ _); refine wpList_load_row rfl 26 (.tmp 3) rfl B rfl 26 _ (0, 0) _ HB.out.raw Try.underlying26 rfl infoLs ?_) | ((with_reducible show wpList _ _ _ (⟨_, .load 52 (.tmp 4), _, _, _, none⟩ :: _) _ _); refine wpList_load_row rfl 52 (.tmp 4) rfl C rfl 52 _ (0, 0) _ HC.out.raw Try.underlying52 rfl infoMv ?_) | (go_at_call 25; with_reducible refine (lgr_at (sv) (tv) f q n m false _ (Lib.hid (HMV.out.own g0)) HG).mono ?_; rintro r w1 ⟨rfl, hg⟩; replace g0 := g0.trans hg; replace HB := Lib.hid (HB.out.own hg); replace HC := Lib.hid (HC.out.own hg); replace HD := Lib.hid (HD.out.own hg); clear hg) | (go_at_call 26; with_reducible refine (lfi_at l (sv) (tv) f q n m 0 0 0 es _ (Lib.hid (HMV.out.own g0)) HF).mono ?_; rintro r w2 ⟨rfl, hg⟩; replace g0 := g0.trans hg; replace HB := Lib.hid (HB.out.own hg); replace HC := Lib.hid (HC.out.own hg); replace HD := Lib.hid (HD.out.own hg); clear hg) | ((with_reducible show wpList _ _ _ (⟨_, .store 55 (.tmp 7) (.tmp 21), _, _, _, none⟩ :: _) _ _); refine wpList_store_row rfl 55 (.tmp 7) (.tmp 21) rfl _ #[.int .i64 0, .int .i64 0, .int .i64 0] rfl rfl 55 _ (heap_new _ _) infoF rfl (by simp [Value.oneCell']) ?_; rw [World.setRow_alloc_new]))
      obtain ⟨w3, Q, hW, hBq, hb, hg, Qg⟩ := blk_new w2 (#[.int .i64 0, .int .i64 0, .int .i64 0]) 55
      rw [hW, hBq]
      have HQ := Lib.hid hb
      replace g0 := g0.trans hg
      replace HB := Lib.hid (HB.out.own hg)
      replace HC := Lib.hid (HC.out.own hg)
      replace HD := Lib.hid (HD.out.own hg)
      clear hW hBq hb hg
      clear Qg
      have a0 := HQ.out.cell 0
      have t0 := HD.out.cell 0
      go_wp2_with (first | ((with_reducible show wpList _ _ _ (⟨_, .load 55 (.tmp 7), _, _, _, some _⟩ :: _) _ _); refine wpList_load_row_g rfl 55 (.tmp 7) rfl Q rfl 55 _ (0, 0) _ HQ.out.raw Try.underlying55 rfl infoF ?_) | (go_at_call 16; with_reducible refine (awake_at _).mono ?_; rintro r w9 ⟨rfl, hg⟩; replace g0 := g0.trans hg; clear hg))
      go_ret
      exact ⟨rfl, g0⟩
end Go.Proofs.Ytmjokgddhainlaa.LimL
