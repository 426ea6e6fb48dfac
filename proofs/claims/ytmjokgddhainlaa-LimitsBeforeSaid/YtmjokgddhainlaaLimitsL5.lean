/-
  Walk of a law of package limits: LimitsBefore. Condition: none.
-/
import Derived.Test.YtmjokgddhainlaaLimitsU
namespace Go.Proofs.Ytmjokgddhainlaa.LimL
open Go.ChangeShapes Go.WideShapes Go.ChangeAt Go.RowKit
open LimW MovW PairW AimP AimW BlkW PrtW PstP PstW RegD LimP
set_option maxRecDepth 100000 in
set_option maxHeartbeats 16000000 in
theorem lbefore_at (l : Vl) (sv tv : Value) (f : Nat → Vl) (q : Nat → Int) (n m : Nat) (w : World) (HMV : Hid (Mov sv tv f q n m w)) (HCP : Hid ((∀ A c, sv = .slice A n c → n ≤ c) ∧ ∀ A c, tv = .slice A m c → m ≤ c)) :
    Calls Try.prog 11 #[.agg (lz l), .agg #[sv, tv]] w fun r w' => r = .returned (.bool true) ∧ Own w w' := by
  by_cases hg : (decide (100 < n) || decide (100 < m)) = true
  · have HG := Lib.hid hg
    clear hg
    go_enter Try.func11, Try.ntmps11
    go_upto_region 1 with (fail)
    obtain ⟨W0, B, C, hW, hC, hB, hb, hc, g0, hB0B, hB0C, hneBC⟩ := two_new w (lz l) 26 (#[sv, tv]) 52
    rw [hW, hC, hB]
    have HB := Lib.hid hb
    have HC := Lib.hid hc
    clear hW hC hB hb hc
    go_wp2_with (first | ((with_reducible show wpList _ _ _ (⟨_, .load 52 (.tmp 3), _, _, _, none⟩ :: _) _ _); refine wpList_load_row rfl 52 (.tmp 3) rfl C rfl 52 _ (0, 0) _ HC.out.raw Try.underlying52 rfl infoMv ?_) | (go_at_call 25; with_reducible refine (lgr_at (sv) (tv) f q n m true _ (Lib.hid (HMV.out.own g0)) HG).mono ?_; rintro r w1 ⟨rfl, hg⟩; replace g0 := g0.trans hg; replace HB := Lib.hid (HB.out.own hg); replace HC := Lib.hid (HC.out.own hg); clear hg) | (go_at_call 16; with_reducible refine (awake_at _).mono ?_; rintro r w9 ⟨rfl, hg⟩; replace g0 := g0.trans hg; clear hg))
    go_ret
    exact ⟨rfl, g0⟩
  · have HG := Lib.hid (Bool.eq_false_iff.2 hg)
    clear hg
    obtain ⟨ec, hec⟩ : ∃ v, fvE l f q n m = v := ⟨_, rfl⟩
    obtain ⟨et, het⟩ : ∃ v, fvT l f q n m = v := ⟨_, rfl⟩
    obtain ⟨ep, hep⟩ : ∃ v, fvP l f q n m = v := ⟨_, rfl⟩
    obtain ⟨es, hes⟩ : ∃ v, fsE l f n m = v := ⟨_, rfl⟩
    have HF := Lib.hid (show fvE l f q n m = ec ∧ fvT l f q n m = et ∧ fvP l f q n m = ep ∧ fsE l f n m = es from ⟨hec, het, hep, hes⟩)
    by_cases h0 : es = 0
    · by_cases h1 : ec = 0
      · subst h0
        subst h1
        have het0 : fvT l f q n m = 0 := if_pos hec
        have hep0 : fvP l f q n m = 0 := if_pos hec
        replace HF := Lib.hid (show fvE l f q n m = 0 ∧ fvT l f q n m = 0 ∧ fvP l f q n m = 0 ∧ fsE l f n m = 0 from ⟨hec, het0, hep0, hes⟩)
        clear hes hec het hep het0 hep0
        go_enter Try.func11, Try.ntmps11
        go_upto_region 1 with (fail)
        obtain ⟨W0, B, C, hW, hC, hB, hb, hc, g0, hB0B, hB0C, hneBC⟩ := two_new w (lz l) 26 (#[sv, tv]) 52
        rw [hW, hC, hB]
        have HB := Lib.hid hb
        have HC := Lib.hid hc
        clear hW hC hB hb hc
        go_upto_region 4 with (first | ((with_reducible show wpList _ _ _ (⟨_, .load 26 (.tmp 2), _, _, _, none⟩ :: _) _ _); refine wpList_load_row rfl 26 (.tmp 2) rfl B rfl 26 _ (0, 0) _ HB.out.raw Try.underlying26 rfl infoLs ?_) | ((with_reducible show wpList _ _ _ (⟨_, .load 52 (.tmp 3), _, _, _, none⟩ :: _) _ _); refine wpList_load_row rfl 52 (.tmp 3) rfl C rfl 52 _ (0, 0) _ HC.out.raw Try.underlying52 rfl infoMv ?_) | (go_at_call 25; with_reducible refine (lgr_at (sv) (tv) f q n m false _ (Lib.hid (HMV.out.own g0)) HG).mono ?_; rintro r w1 ⟨rfl, hg⟩; replace g0 := g0.trans hg; replace HB := Lib.hid (HB.out.own hg); replace HC := Lib.hid (HC.out.own hg); clear hg) | (go_at_call 26; with_reducible refine (lfi_at l (sv) (tv) f q n m 0 0 0 0 _ (Lib.hid (HMV.out.own g0)) HF).mono ?_; rintro r w2 ⟨rfl, hg⟩; replace g0 := g0.trans hg; replace HB := Lib.hid (HB.out.own hg); replace HC := Lib.hid (HC.out.own hg); clear hg) | ((with_reducible show wpList _ _ _ (⟨_, .store 55 (.tmp 5) (.tmp 15), _, _, _, none⟩ :: _) _ _); refine wpList_store_row rfl 55 (.tmp 5) (.tmp 15) rfl _ #[.int .i64 0, .int .i64 0, .int .i64 0] rfl rfl 55 _ (heap_new _ _) infoF rfl (by simp [Value.oneCell']) ?_; rw [World.setRow_alloc_new]))
        obtain ⟨w3, Q, hW, hBq, hb, hg, Qg⟩ := blk_new w2 (#[.int .i64 0, .int .i64 0, .int .i64 0]) 55
        rw [hW, hBq]
        have HQ := Lib.hid hb
        replace g0 := g0.trans hg
        replace HB := Lib.hid (HB.out.own hg)
        replace HC := Lib.hid (HC.out.own hg)
        clear hW hBq hb hg
        clear Qg
        have a0 := HQ.out.cell 0
        have hfa : fa3 0 0 0 = true := rfl
        go_wp2_with (first | ((with_reducible show wpList _ _ _ (⟨_, .load 55 (.tmp 5), _, _, _, none⟩ :: _) _ _); refine wpList_load_row rfl 55 (.tmp 5) rfl Q rfl 55 _ (0, 0) _ HQ.out.raw Try.underlying55 rfl infoF ?_) | (go_at_call 16; with_reducible refine (awake_at _).mono ?_; rintro r w9 ⟨rfl, hg⟩; replace g0 := g0.trans hg; clear hg))
        go_ret
        exact ⟨rfl, g0⟩
      · subst h0
        obtain ⟨t1, ⟨t2, t3⟩, j, t4, t5, t6, t7⟩ := fv_in (l := l) (f := f) (q := q) (n := n) (m := m) (by rw [hec]; exact h1)
        obtain rfl : (j : Int) = et := t4.symm.trans het
        have HPR := Lib.hid t7
        have hm0 := (fs_yes hes).2.1
        obtain ⟨⟨A, ca, rfl, hps⟩, ⟨A2, cb, rfl, hss⟩, hnl, hml⟩ := HMV.out
        obtain ⟨pb, po, rfl, hpl⟩ := hps (by omega)
        obtain ⟨sb, so, rfl, hsl⟩ := hss (by omega)
        have HPL := Lib.hid hpl
        have HSL := Lib.hid hsl
        unfold maxLen at hnl hml
        have hca : n ≤ ca := HCP.out.1 _ _ rfl
        have hcb : m ≤ cb := HCP.out.2 _ _ rfl
        rw [hec] at t1
        rw [hep] at t2 t3
        have hjn : (j : Int) < n := by omega
        have hjm1 : (j : Int) ≤ m := by omega
        have e1 : decide ((m : Int) < (j : Int)) = false := decide_eq_false (by omega)
        have e2 : decide ((n : Int) ≤ (j : Int)) = false := decide_eq_false (by omega)
        have e3 : decide (ep < 0) = false := decide_eq_false (by omega)
        have e4 : decide ((6 : Int) < ep) = false := decide_eq_false (by omega)
        have e5 : decide ((j : Int) < 0) = false := decide_eq_false (by omega)
        have e6 : ¬ n ≤ j := by omega
        have e7 : ¬ m < j := by omega
        have HNM := Lib.hid t6
        clear hps hss hpl hsl hes hec het hep h1 t2 t3 t4 t7 HCP hm0
        rcases t1 with rfl | rfl | rfl
        · clear t5 t6
          go_enter Try.func11, Try.ntmps11
          go_upto_region 1 with (fail)
          obtain ⟨W0, B, C, hW, hC, hB, hb, hc, g0, hB0B, hB0C, hneBC⟩ := two_new w (lz l) 26 (#[.slice (some ⟨pb, po, none⟩) n ca, .slice (some ⟨sb, so, none⟩) m cb]) 52
          rw [hW, hC, hB]
          have HB := Lib.hid hb
          have HC := Lib.hid hc
          clear hW hC hB hb hc
          go_upto_region 4 with (first | ((with_reducible show wpList _ _ _ (⟨_, .load 26 (.tmp 2), _, _, _, none⟩ :: _) _ _); refine wpList_load_row rfl 26 (.tmp 2) rfl B rfl 26 _ (0, 0) _ HB.out.raw Try.underlying26 rfl infoLs ?_) | ((with_reducible show wpList _ _ _ (⟨_, .load 52 (.tmp 3), _, _, _, none⟩ :: _) _ _); refine wpList_load_row rfl 52 (.tmp 3) rfl C rfl 52 _ (0, 0) _ HC.out.raw Try.underlying52 rfl infoMv ?_) | (go_at_call 25; with_reducible refine (lgr_at (.slice (some ⟨pb, po, none⟩) n ca) (.slice (some ⟨sb, so, none⟩) m cb) f q n m false _ (Lib.hid (HMV.out.own g0)) HG).mono ?_; rintro r w1 ⟨rfl, hg⟩; replace g0 := g0.trans hg; replace HB := Lib.hid (HB.out.own hg); replace HC := Lib.hid (HC.out.own hg); clear hg) | (go_at_call 26; with_reducible refine (lfi_at l (.slice (some ⟨pb, po, none⟩) n ca) (.slice (some ⟨sb, so, none⟩) m cb) f q n m 25 (j : Int) ep 0 _ (Lib.hid (HMV.out.own g0)) HF).mono ?_; rintro r w2 ⟨rfl, hg⟩; replace g0 := g0.trans hg; replace HB := Lib.hid (HB.out.own hg); replace HC := Lib.hid (HC.out.own hg); clear hg) | ((with_reducible show wpList _ _ _ (⟨_, .store 55 (.tmp 5) (.tmp 15), _, _, _, none⟩ :: _) _ _); refine wpList_store_row rfl 55 (.tmp 5) (.tmp 15) rfl _ #[.int .i64 25, .int .i64 (j : Int), .int .i64 ep] rfl rfl 55 _ (heap_new _ _) infoF rfl (by simp [Value.oneCell']) ?_; rw [World.setRow_alloc_new]))
          obtain ⟨w3, Q, hW, hBq, hb, hg, Qg⟩ := blk_new w2 (#[.int .i64 25, .int .i64 (j : Int), .int .i64 ep]) 55
          rw [hW, hBq]
          have HQ := Lib.hid hb
          replace g0 := g0.trans hg
          replace HB := Lib.hid (HB.out.own hg)
          replace HC := Lib.hid (HC.out.own hg)
          clear hW hBq hb hg
          clear Qg
          have a0 := HQ.out.cell 0

          have a1 := HQ.out.cell 1
          have a2 := HQ.out.cell 2
          have m0 := HC.out.cell 0
          have m1 := HC.out.cell 1
          by_cases hj2 : j < 2
          · have d5 : decide ((j : Int) < 2) = true := decide_eq_true (by omega)
            have d6 : j < 2 := hj2
            clear hj2
            go_wp2_with (go_at_call 16; with_reducible refine (awake_at _).mono ?_; rintro r w9 ⟨rfl, hg⟩; replace g0 := g0.trans hg; clear hg)
            go_ret
            exact ⟨rfl, g0⟩
          · have d5 : decide ((j : Int) < 2) = false := decide_eq_false (by omega)
            have d6 : ¬ j < 2 := hj2
            have hnm := HNM.out
            obtain ⟨f1, f2, f3, f4⟩ := HPR.out (by omega) f q (fun _ _ => rfl) (fun _ _ => rfl)
            obtain ⟨jm, hjm⟩ : ∃ v, j - 1 = v := ⟨_, rfl⟩
            rw [hjm] at f1 f2 f3 f4
            have HF2 := Lib.hid (show fvE l f q j jm = 0 ∧ fvT l f q j jm = 0 ∧ fvP l f q j jm = 0 ∧ fsE l f j jm = 0 from ⟨f2, f3, f4, f1⟩)
            have i2 : IntKind.i64.wrap ((j : Int) - 1) = (jm : Int) := (IntWalk.i64_in _ (by omega)).trans (by omega)
            have HM2 := Lib.hid (show Mov (.slice (some ⟨pb, po, none⟩) j ca) (.slice (some ⟨sb, so, none⟩) jm cb) f q j jm w from ⟨⟨_, _, rfl, fun _ => ⟨pb, po, rfl, fun i hi => HPL.out i (by omega)⟩⟩, ⟨_, _, rfl, fun _ => ⟨sb, so, rfl, fun i hi => HSL.out i (by omega)⟩⟩, by unfold maxLen; omega, by unfold maxLen; omega⟩)
            have hs1 : (j : Int) ≤ ca := by omega
            have hs2 : (jm : Int) ≤ cb := by omega
            have hs3 : (0 : Int) ≤ j := by omega
            have hs4 : (0 : Int) ≤ jm := by omega
            have hs5 : j ≤ ca := by omega
            have hs6 : jm ≤ cb := by omega
            have hs7 : ¬ ca = 0 := by omega
            have hs8 : ¬ cb = 0 := by omega
            clear f1 f2 f3 f4 hjm hj2 hnm
            go_upto_region 10 with (fail)
            clear a0 a1 a2 m0 m1
            refine RegD.region_dutyN [79, 80, 81, 82, 83, 84, 85, 86, 87, 88, 89, 90, 91, 92, 78, 93, 94, 7, 6] 7 17 18 (RegI.upd (RegI.upd (RegI.upd (RegI.upd (RegI.upd (RegI.upd (RegI.upd (RegI.upd (RegI.upd (RegI.upd (RegI.upd (RegI.upd (RegI.upd (RegI.upd (RegI.upd (RegI.upd (RegI.upd (RegI.upd (fun _ => undef) 79 (.agg (lz l))) 80 (.pointer (some ⟨C, 0, none⟩))) 81 (.slice (some ⟨pb, po, none⟩) n ca)) 82 (.pointer (some ⟨Q, 1, none⟩))) 83 (.int .i64 (j : Int))) 84 (.slice (some ⟨pb, po, none⟩) j ca)) 85 (.pointer (some ⟨C, 1, none⟩))) 86 (.slice (some ⟨sb, so, none⟩) m cb)) 87 (.pointer (some ⟨Q, 1, none⟩))) 88 (.int .i64 (j : Int))) 89 (.int .i64 (jm : Int))) 90 (.slice (some ⟨sb, so, none⟩) jm cb)) 91 (.agg #[.slice (some ⟨pb, po, none⟩) j ca, .slice (some ⟨sb, so, none⟩) jm cb])) 92 (.tuple #[.agg #[.int .i64 0, .int .i64 0, .int .i64 0], .int .i64 0])) 78 (.tuple #[.agg #[.int .i64 0, .int .i64 0, .int .i64 0], .int .i64 0])) 93 (.agg #[.int .i64 0, .int .i64 0, .int .i64 0])) 94 (.int .i64 0)) 6 (.int .i64 0)) (#[.int .i64 0, .int .i64 0, .int .i64 0]) (#[.int .i64 0, .int .i64 0, .int .i64 0]) 55 (by kernel_rfl) (by kernel_rfl) (by decide) (by intro d hd; simp at hd; simp; omega) ?_
            simp only [RegD.FF, RegI.FX, RegI.upd, List.foldl_cons, List.foldl_nil, List.mem_cons, List.not_mem_nil, if_true, if_false, Nat.reduceEqDiff, or_false]
            simp only [List.setIfInBounds_toArray, List.set_cons_succ, List.set_cons_zero]
            refine And.intro ?hs1 ?he1
            case hs1 =>
              refine And.intro ?s1_0 (And.intro ?s1_1 (And.intro ?s1_2 (And.intro ?s1_3 (And.intro ?s1_4 (And.intro ?s1_5 (And.intro ?s1_6 (And.intro ?s1_7 (And.intro ?s1_8 (And.intro ?s1_9 (And.intro ?s1_10 (And.intro ?s1_11 (And.intro ?s1_12 (And.intro ?s1_13 (And.intro ?s1_14 (And.intro ?s1_15 (And.intro ?s1_16 (And.intro ?s1_17 (And.intro ?s1_18 (And.intro ?s1_19 (trivial))))))))))))))))))))
              case s1_0 =>
                refine RegD.stepN_det (by decide) (by decide) (by simp) (fun u w1 hO => ?_)
                have HB9 := Lib.hid (HB.out.own hO)
                go_wp2_with ((with_reducible show wpList _ _ _ (⟨_, .load 26 (.tmp 2), _, _, _, none⟩ :: _) _ _); refine wpList_load_row rfl 26 (.tmp 2) rfl B rfl 26 _ (0, 0) _ HB9.out.raw Try.underlying26 rfl infoLs ?_)
                exact ⟨rfl, rfl, rfl, Own.refl _⟩
              case s1_1 =>
                refine RegD.stepN_det (by decide) (by decide) (by simp) (fun u w1 hO => ?_)
                go_wp2
                exact ⟨rfl, rfl, rfl, Own.refl _⟩
              case s1_2 =>
                refine RegD.stepN_det (by decide) (by decide) (by simp) (fun u w1 hO => ?_)
                have kk := (HC.out.own hO).cell 0
                go_wp2
                exact ⟨rfl, rfl, rfl, Own.refl _⟩
              case s1_3 =>
                refine RegD.stepN_det (by decide) (by decide) (by simp) (fun u w1 hO => ?_)
                go_wp2
                exact ⟨rfl, rfl, rfl, Own.refl _⟩
              case s1_4 =>
                refine RegD.stepN_det (by decide) (by decide) (by simp) (fun u w1 hO => ?_)
                have kk := (HQ.out.own hO).cell 1
                go_wp2
                exact ⟨rfl, rfl, rfl, Own.refl _⟩
              case s1_5 =>
                refine RegD.stepN_det (by decide) (by decide) (by simp) (fun u w1 hO => ?_)
                go_wp2
                exact ⟨rfl, rfl, rfl, Own.refl _⟩
              case s1_6 =>
                refine RegD.stepN_det (by decide) (by decide) (by simp) (fun u w1 hO => ?_)
                go_wp2
                exact ⟨rfl, rfl, rfl, Own.refl _⟩
              case s1_7 =>
                refine RegD.stepN_det (by decide) (by decide) (by simp) (fun u w1 hO => ?_)
                have kk := (HC.out.own hO).cell 1
                go_wp2
                exact ⟨rfl, rfl, rfl, Own.refl _⟩
              case s1_8 =>
                refine RegD.stepN_det (by decide) (by decide) (by simp) (fun u w1 hO => ?_)
                go_wp2
                exact ⟨rfl, rfl, rfl, Own.refl _⟩
              case s1_9 =>
                refine RegD.stepN_det (by decide) (by decide) (by simp) (fun u w1 hO => ?_)
                have kk := (HQ.out.own hO).cell 1
                go_wp2
                exact ⟨rfl, rfl, rfl, Own.refl _⟩
              case s1_10 =>
                refine RegD.stepN_det (by decide) (by decide) (by simp) (fun u w1 hO => ?_)
                go_wp2
                exact ⟨rfl, rfl, rfl, Own.refl _⟩
              case s1_11 =>
                refine RegD.stepN_det (by decide) (by decide) (by simp) (fun u w1 hO => ?_)
                go_wp2
                exact ⟨rfl, rfl, rfl, Own.refl _⟩
              case s1_12 =>
                refine RegD.stepN_det (by decide) (by decide) (by simp) (fun u w1 hO => ?_)
                go_wp2
                exact ⟨rfl, rfl, rfl, Own.refl _⟩
              case s1_13 =>
                refine RegD.stepN_det (by decide) (by decide) (by simp) (fun u w1 hO => ?_)
                go_wp2_with (go_at_call 26; with_reducible refine (lfi_at l (.slice (some ⟨pb, po, none⟩) j ca) (.slice (some ⟨sb, so, none⟩) jm cb) f q j jm 0 0 0 0 _ (Lib.hid (HM2.out.own (g0.trans hO))) HF2).mono ?_; rintro r w2 ⟨rfl, hg⟩)
                exact ⟨rfl, rfl, rfl, hg⟩
              case s1_14 =>
                refine RegD.stepN_det (by decide) (by decide) (by simp) (fun u w1 hO => ?_)
                go_wp2
                exact ⟨rfl, rfl, rfl, Own.refl _⟩
              case s1_15 =>
                refine RegD.stepN_det (by decide) (by decide) (by simp) (fun u w1 hO => ?_)
                go_wp2
                exact ⟨rfl, rfl, rfl, Own.refl _⟩
              case s1_16 =>
                refine RegD.stepN_det (by decide) (by decide) (by simp) (fun u w1 hO => ?_)
                go_wp2
                exact ⟨rfl, rfl, rfl, Own.refl _⟩
              case s1_17 =>
                refine RegD.stepN_alloc rfl (fun u w1 hO => ?_)
                go_wp2
                exact ⟨rfl, rfl, rfl, rfl⟩
              case s1_18 =>
                refine RegD.stepN_store (by decide) rfl (by kernel_rfl) (fun u w1 N hO hu hN => ?_)
                have HN := Lib.hid hN
                simp only [hu]
                clear hN
                go_wp2_with ((with_reducible show wpList _ _ _ (⟨_, .store 55 (.tmp 7) (.tmp 93), _, _, _, none⟩ :: _) _ _); refine wpList_store_row rfl 55 (.tmp 7) (.tmp 93) rfl N #[.int .i64 0, .int .i64 0, .int .i64 0] rfl rfl 55 _ HN.out.raw infoF rfl (by simp [Value.oneCell']) ?_)
                exact ⟨rfl, rfl, rfl⟩
              case s1_19 =>
                refine RegD.stepN_det (by decide) (by decide) (by simp) (fun u w1 hO => ?_)
                go_wp2
                exact ⟨rfl, rfl, rfl, Own.refl _⟩
            intro u9 w5 N hO hu hN0 hN
            simp only [hu]
            replace g0 := g0.trans hO
            have HN := Lib.hid hN
            have hfa : fa3 0 0 0 = true := rfl
            clear hO hu hN0 hN HB HC HQ i2
            go_wp2_with (first | ((with_reducible show wpList _ _ _ (⟨_, .load 55 (.tmp 7), _, _, _, none⟩ :: _) _ _); refine wpList_load_row rfl 55 (.tmp 7) rfl N rfl 55 _ (0, 0) _ HN.out.raw Try.underlying55 rfl infoF ?_) | (go_at_call 16; with_reducible refine (awake_at _).mono ?_; rintro r w9 ⟨rfl, hg⟩; replace g0 := g0.trans hg; clear hg))
            go_ret
            exact ⟨rfl, g0⟩
        · clear t5 t6
          go_enter Try.func11, Try.ntmps11
          go_upto_region 1 with (fail)
          obtain ⟨W0, B, C, hW, hC, hB, hb, hc, g0, hB0B, hB0C, hneBC⟩ := two_new w (lz l) 26 (#[.slice (some ⟨pb, po, none⟩) n ca, .slice (some ⟨sb, so, none⟩) m cb]) 52
          rw [hW, hC, hB]
          have HB := Lib.hid hb
          have HC := Lib.hid hc
          clear hW hC hB hb hc
          go_upto_region 4 with (first | ((with_reducible show wpList _ _ _ (⟨_, .load 26 (.tmp 2), _, _, _, none⟩ :: _) _ _); refine wpList_load_row rfl 26 (.tmp 2) rfl B rfl 26 _ (0, 0) _ HB.out.raw Try.underlying26 rfl infoLs ?_) | ((with_reducible show wpList _ _ _ (⟨_, .load 52 (.tmp 3), _, _, _, none⟩ :: _) _ _); refine wpList_load_row rfl 52 (.tmp 3) rfl C rfl 52 _ (0, 0) _ HC.out.raw Try.underlying52 rfl infoMv ?_) | (go_at_call 25; with_reducible refine (lgr_at (.slice (some ⟨pb, po, none⟩) n ca) (.slice (some ⟨sb, so, none⟩) m cb) f q n m false _ (Lib.hid (HMV.out.own g0)) HG).mono ?_; rintro r w1 ⟨rfl, hg⟩; replace g0 := g0.trans hg; replace HB := Lib.hid (HB.out.own hg); replace HC := Lib.hid (HC.out.own hg); clear hg) | (go_at_call 26; with_reducible refine (lfi_at l (.slice (some ⟨pb, po, none⟩) n ca) (.slice (some ⟨sb, so, none⟩) m cb) f q n m 26 (j : Int) ep 0 _ (Lib.hid (HMV.out.own g0)) HF).mono ?_; rintro r w2 ⟨rfl, hg⟩; replace g0 := g0.trans hg; replace HB := Lib.hid (HB.out.own hg); replace HC := Lib.hid (HC.out.own hg); clear hg) | ((with_reducible show wpList _ _ _ (⟨_, .store 55 (.tmp 5) (.tmp 15), _, _, _, none⟩ :: _) _ _); refine wpList_store_row rfl 55 (.tmp 5) (.tmp 15) rfl _ #[.int .i64 26, .int .i64 (j : Int), .int .i64 ep] rfl rfl 55 _ (heap_new _ _) infoF rfl (by simp [Value.oneCell']) ?_; rw [World.setRow_alloc_new]))
          obtain ⟨w3, Q, hW, hBq, hb, hg, Qg⟩ := blk_new w2 (#[.int .i64 26, .int .i64 (j : Int), .int .i64 ep]) 55
          rw [hW, hBq]
          have HQ := Lib.hid hb
          replace g0 := g0.trans hg
          replace HB := Lib.hid (HB.out.own hg)
          replace HC := Lib.hid (HC.out.own hg)
          clear hW hBq hb hg
          clear Qg
          have a0 := HQ.out.cell 0

          have a1 := HQ.out.cell 1
          have a2 := HQ.out.cell 2
          have m0 := HC.out.cell 0
          have m1 := HC.out.cell 1
          by_cases hj2 : j < 2
          · have d5 : decide ((j : Int) < 2) = true := decide_eq_true (by omega)
            have d6 : j < 2 := hj2
            clear hj2
            go_wp2_with (go_at_call 16; with_reducible refine (awake_at _).mono ?_; rintro r w9 ⟨rfl, hg⟩; replace g0 := g0.trans hg; clear hg)
            go_ret
            exact ⟨rfl, g0⟩
          · have d5 : decide ((j : Int) < 2) = false := decide_eq_false (by omega)
            have d6 : ¬ j < 2 := hj2
            have hnm := HNM.out
            obtain ⟨f1, f2, f3, f4⟩ := HPR.out (by omega) f q (fun _ _ => rfl) (fun _ _ => rfl)
            obtain ⟨jm, hjm⟩ : ∃ v, j - 1 = v := ⟨_, rfl⟩
            rw [hjm] at f1 f2 f3 f4
            have HF2 := Lib.hid (show fvE l f q j jm = 0 ∧ fvT l f q j jm = 0 ∧ fvP l f q j jm = 0 ∧ fsE l f j jm = 0 from ⟨f2, f3, f4, f1⟩)
            have i2 : IntKind.i64.wrap ((j : Int) - 1) = (jm : Int) := (IntWalk.i64_in _ (by omega)).trans (by omega)
            have HM2 := Lib.hid (show Mov (.slice (some ⟨pb, po, none⟩) j ca) (.slice (some ⟨sb, so, none⟩) jm cb) f q j jm w from ⟨⟨_, _, rfl, fun _ => ⟨pb, po, rfl, fun i hi => HPL.out i (by omega)⟩⟩, ⟨_, _, rfl, fun _ => ⟨sb, so, rfl, fun i hi => HSL.out i (by omega)⟩⟩, by unfold maxLen; omega, by unfold maxLen; omega⟩)
            have hs1 : (j : Int) ≤ ca := by omega
            have hs2 : (jm : Int) ≤ cb := by omega
            have hs3 : (0 : Int) ≤ j := by omega
            have hs4 : (0 : Int) ≤ jm := by omega
            have hs5 : j ≤ ca := by omega
            have hs6 : jm ≤ cb := by omega
            have hs7 : ¬ ca = 0 := by omega
            have hs8 : ¬ cb = 0 := by omega
            clear f1 f2 f3 f4 hjm hj2 hnm
            go_upto_region 10 with (fail)
            clear a0 a1 a2 m0 m1
            refine RegD.region_dutyN [79, 80, 81, 82, 83, 84, 85, 86, 87, 88, 89, 90, 91, 92, 78, 93, 94, 7, 6] 7 17 18 (RegI.upd (RegI.upd (RegI.upd (RegI.upd (RegI.upd (RegI.upd (RegI.upd (RegI.upd (RegI.upd (RegI.upd (RegI.upd (RegI.upd (RegI.upd (RegI.upd (RegI.upd (RegI.upd (RegI.upd (RegI.upd (fun _ => undef) 79 (.agg (lz l))) 80 (.pointer (some ⟨C, 0, none⟩))) 81 (.slice (some ⟨pb, po, none⟩) n ca)) 82 (.pointer (some ⟨Q, 1, none⟩))) 83 (.int .i64 (j : Int))) 84 (.slice (some ⟨pb, po, none⟩) j ca)) 85 (.pointer (some ⟨C, 1, none⟩))) 86 (.slice (some ⟨sb, so, none⟩) m cb)) 87 (.pointer (some ⟨Q, 1, none⟩))) 88 (.int .i64 (j : Int))) 89 (.int .i64 (jm : Int))) 90 (.slice (some ⟨sb, so, none⟩) jm cb)) 91 (.agg #[.slice (some ⟨pb, po, none⟩) j ca, .slice (some ⟨sb, so, none⟩) jm cb])) 92 (.tuple #[.agg #[.int .i64 0, .int .i64 0, .int .i64 0], .int .i64 0])) 78 (.tuple #[.agg #[.int .i64 0, .int .i64 0, .int .i64 0], .int .i64 0])) 93 (.agg #[.int .i64 0, .int .i64 0, .int .i64 0])) 94 (.int .i64 0)) 6 (.int .i64 0)) (#[.int .i64 0, .int .i64 0, .int .i64 0]) (#[.int .i64 0, .int .i64 0, .int .i64 0]) 55 (by kernel_rfl) (by kernel_rfl) (by decide) (by intro d hd; simp at hd; simp; omega) ?_
            simp only [RegD.FF, RegI.FX, RegI.upd, List.foldl_cons, List.foldl_nil, List.mem_cons, List.not_mem_nil, if_true, if_false, Nat.reduceEqDiff, or_false]
            simp only [List.setIfInBounds_toArray, List.set_cons_succ, List.set_cons_zero]
            refine And.intro ?hs2 ?he2
            case hs2 =>
              refine And.intro ?s2_0 (And.intro ?s2_1 (And.intro ?s2_2 (And.intro ?s2_3 (And.intro ?s2_4 (And.intro ?s2_5 (And.intro ?s2_6 (And.intro ?s2_7 (And.intro ?s2_8 (And.intro ?s2_9 (And.intro ?s2_10 (And.intro ?s2_11 (And.intro ?s2_12 (And.intro ?s2_13 (And.intro ?s2_14 (And.intro ?s2_15 (And.intro ?s2_16 (And.intro ?s2_17 (And.intro ?s2_18 (And.intro ?s2_19 (trivial))))))))))))))))))))
              case s2_0 =>
                refine RegD.stepN_det (by decide) (by decide) (by simp) (fun u w1 hO => ?_)
                have HB9 := Lib.hid (HB.out.own hO)
                go_wp2_with ((with_reducible show wpList _ _ _ (⟨_, .load 26 (.tmp 2), _, _, _, none⟩ :: _) _ _); refine wpList_load_row rfl 26 (.tmp 2) rfl B rfl 26 _ (0, 0) _ HB9.out.raw Try.underlying26 rfl infoLs ?_)
                exact ⟨rfl, rfl, rfl, Own.refl _⟩
              case s2_1 =>
                refine RegD.stepN_det (by decide) (by decide) (by simp) (fun u w1 hO => ?_)
                go_wp2
                exact ⟨rfl, rfl, rfl, Own.refl _⟩
              case s2_2 =>
                refine RegD.stepN_det (by decide) (by decide) (by simp) (fun u w1 hO => ?_)
                have kk := (HC.out.own hO).cell 0
                go_wp2
                exact ⟨rfl, rfl, rfl, Own.refl _⟩
              case s2_3 =>
                refine RegD.stepN_det (by decide) (by decide) (by simp) (fun u w1 hO => ?_)
                go_wp2
                exact ⟨rfl, rfl, rfl, Own.refl _⟩
              case s2_4 =>
                refine RegD.stepN_det (by decide) (by decide) (by simp) (fun u w1 hO => ?_)
                have kk := (HQ.out.own hO).cell 1
                go_wp2
                exact ⟨rfl, rfl, rfl, Own.refl _⟩
              case s2_5 =>
                refine RegD.stepN_det (by decide) (by decide) (by simp) (fun u w1 hO => ?_)
                go_wp2
                exact ⟨rfl, rfl, rfl, Own.refl _⟩
              case s2_6 =>
                refine RegD.stepN_det (by decide) (by decide) (by simp) (fun u w1 hO => ?_)
                go_wp2
                exact ⟨rfl, rfl, rfl, Own.refl _⟩
              case s2_7 =>
                refine RegD.stepN_det (by decide) (by decide) (by simp) (fun u w1 hO => ?_)
                have kk := (HC.out.own hO).cell 1
                go_wp2
                exact ⟨rfl, rfl, rfl, Own.refl _⟩
              case s2_8 =>
                refine RegD.stepN_det (by decide) (by decide) (by simp) (fun u w1 hO => ?_)
                go_wp2
                exact ⟨rfl, rfl, rfl, Own.refl _⟩
              case s2_9 =>
                refine RegD.stepN_det (by decide) (by decide) (by simp) (fun u w1 hO => ?_)
                have kk := (HQ.out.own hO).cell 1
                go_wp2
                exact ⟨rfl, rfl, rfl, Own.refl _⟩
              case s2_10 =>
                refine RegD.stepN_det (by decide) (by decide) (by simp) (fun u w1 hO => ?_)
                go_wp2
                exact ⟨rfl, rfl, rfl, Own.refl _⟩
              case s2_11 =>
                refine RegD.stepN_det (by decide) (by decide) (by simp) (fun u w1 hO => ?_)
                go_wp2
                exact ⟨rfl, rfl, rfl, Own.refl _⟩
              case s2_12 =>
                refine RegD.stepN_det (by decide) (by decide) (by simp) (fun u w1 hO => ?_)
                go_wp2
                exact ⟨rfl, rfl, rfl, Own.refl _⟩
              case s2_13 =>
                refine RegD.stepN_det (by decide) (by decide) (by simp) (fun u w1 hO => ?_)
                go_wp2_with (go_at_call 26; with_reducible refine (lfi_at l (.slice (some ⟨pb, po, none⟩) j ca) (.slice (some ⟨sb, so, none⟩) jm cb) f q j jm 0 0 0 0 _ (Lib.hid (HM2.out.own (g0.trans hO))) HF2).mono ?_; rintro r w2 ⟨rfl, hg⟩)
                exact ⟨rfl, rfl, rfl, hg⟩
              case s2_14 =>
                refine RegD.stepN_det (by decide) (by decide) (by simp) (fun u w1 hO => ?_)
                go_wp2
                exact ⟨rfl, rfl, rfl, Own.refl _⟩
              case s2_15 =>
                refine RegD.stepN_det (by decide) (by decide) (by simp) (fun u w1 hO => ?_)
                go_wp2
                exact ⟨rfl, rfl, rfl, Own.refl _⟩
              case s2_16 =>
                refine RegD.stepN_det (by decide) (by decide) (by simp) (fun u w1 hO => ?_)
                go_wp2
                exact ⟨rfl, rfl, rfl, Own.refl _⟩
              case s2_17 =>
                refine RegD.stepN_alloc rfl (fun u w1 hO => ?_)
                go_wp2
                exact ⟨rfl, rfl, rfl, rfl⟩
              case s2_18 =>
                refine RegD.stepN_store (by decide) rfl (by kernel_rfl) (fun u w1 N hO hu hN => ?_)
                have HN := Lib.hid hN
                simp only [hu]
                clear hN
                go_wp2_with ((with_reducible show wpList _ _ _ (⟨_, .store 55 (.tmp 7) (.tmp 93), _, _, _, none⟩ :: _) _ _); refine wpList_store_row rfl 55 (.tmp 7) (.tmp 93) rfl N #[.int .i64 0, .int .i64 0, .int .i64 0] rfl rfl 55 _ HN.out.raw infoF rfl (by simp [Value.oneCell']) ?_)
                exact ⟨rfl, rfl, rfl⟩
              case s2_19 =>
                refine RegD.stepN_det (by decide) (by decide) (by simp) (fun u w1 hO => ?_)
                go_wp2
                exact ⟨rfl, rfl, rfl, Own.refl _⟩
            intro u9 w5 N hO hu hN0 hN
            simp only [hu]
            replace g0 := g0.trans hO
            have HN := Lib.hid hN
            have hfa : fa3 0 0 0 = true := rfl
            clear hO hu hN0 hN HB HC HQ i2
            go_wp2_with (first | ((with_reducible show wpList _ _ _ (⟨_, .load 55 (.tmp 7), _, _, _, none⟩ :: _) _ _); refine wpList_load_row rfl 55 (.tmp 7) rfl N rfl 55 _ (0, 0) _ HN.out.raw Try.underlying55 rfl infoF ?_) | (go_at_call 16; with_reducible refine (awake_at _).mono ?_; rintro r w9 ⟨rfl, hg⟩; replace g0 := g0.trans hg; clear hg))
            go_ret
            exact ⟨rfl, g0⟩
        · clear t5 t6
          go_enter Try.func11, Try.ntmps11
          go_upto_region 1 with (fail)
          obtain ⟨W0, B, C, hW, hC, hB, hb, hc, g0, hB0B, hB0C, hneBC⟩ := two_new w (lz l) 26 (#[.slice (some ⟨pb, po, none⟩) n ca, .slice (some ⟨sb, so, none⟩) m cb]) 52
          rw [hW, hC, hB]
          have HB := Lib.hid hb
          have HC := Lib.hid hc
          clear hW hC hB hb hc
          go_upto_region 4 with (first | ((with_reducible show wpList _ _ _ (⟨_, .load 26 (.tmp 2), _, _, _, none⟩ :: _) _ _); refine wpList_load_row rfl 26 (.tmp 2) rfl B rfl 26 _ (0, 0) _ HB.out.raw Try.underlying26 rfl infoLs ?_) | ((with_reducible show wpList _ _ _ (⟨_, .load 52 (.tmp 3), _, _, _, none⟩ :: _) _ _); refine wpList_load_row rfl 52 (.tmp 3) rfl C rfl 52 _ (0, 0) _ HC.out.raw Try.underlying52 rfl infoMv ?_) | (go_at_call 25; with_reducible refine (lgr_at (.slice (some ⟨pb, po, none⟩) n ca) (.slice (some ⟨sb, so, none⟩) m cb) f q n m false _ (Lib.hid (HMV.out.own g0)) HG).mono ?_; rintro r w1 ⟨rfl, hg⟩; replace g0 := g0.trans hg; replace HB := Lib.hid (HB.out.own hg); replace HC := Lib.hid (HC.out.own hg); clear hg) | (go_at_call 26; with_reducible refine (lfi_at l (.slice (some ⟨pb, po, none⟩) n ca) (.slice (some ⟨sb, so, none⟩) m cb) f q n m 28 (j : Int) ep 0 _ (Lib.hid (HMV.out.own g0)) HF).mono ?_; rintro r w2 ⟨rfl, hg⟩; replace g0 := g0.trans hg; replace HB := Lib.hid (HB.out.own hg); replace HC := Lib.hid (HC.out.own hg); clear hg) | ((with_reducible show wpList _ _ _ (⟨_, .store 55 (.tmp 5) (.tmp 15), _, _, _, none⟩ :: _) _ _); refine wpList_store_row rfl 55 (.tmp 5) (.tmp 15) rfl _ #[.int .i64 28, .int .i64 (j : Int), .int .i64 ep] rfl rfl 55 _ (heap_new _ _) infoF rfl (by simp [Value.oneCell']) ?_; rw [World.setRow_alloc_new]))
          obtain ⟨w3, Q, hW, hBq, hb, hg, Qg⟩ := blk_new w2 (#[.int .i64 28, .int .i64 (j : Int), .int .i64 ep]) 55
          rw [hW, hBq]
          have HQ := Lib.hid hb
          replace g0 := g0.trans hg
          replace HB := Lib.hid (HB.out.own hg)
          replace HC := Lib.hid (HC.out.own hg)
          clear hW hBq hb hg
          clear Qg
          have a0 := HQ.out.cell 0

          have a1 := HQ.out.cell 1
          have a2 := HQ.out.cell 2
          have m0 := HC.out.cell 0
          have m1 := HC.out.cell 1
          by_cases hj2 : j < 2
          · have d5 : decide ((j : Int) < 2) = true := decide_eq_true (by omega)
            have d6 : j < 2 := hj2
            clear hj2
            go_wp2_with (go_at_call 16; with_reducible refine (awake_at _).mono ?_; rintro r w9 ⟨rfl, hg⟩; replace g0 := g0.trans hg; clear hg)
            go_ret
            exact ⟨rfl, g0⟩
          · have d5 : decide ((j : Int) < 2) = false := decide_eq_false (by omega)
            have d6 : ¬ j < 2 := hj2
            have hnm := HNM.out
            obtain ⟨f1, f2, f3, f4⟩ := HPR.out (by omega) f q (fun _ _ => rfl) (fun _ _ => rfl)
            obtain ⟨jm, hjm⟩ : ∃ v, j - 1 = v := ⟨_, rfl⟩
            rw [hjm] at f1 f2 f3 f4
            have HF2 := Lib.hid (show fvE l f q j jm = 0 ∧ fvT l f q j jm = 0 ∧ fvP l f q j jm = 0 ∧ fsE l f j jm = 0 from ⟨f2, f3, f4, f1⟩)
            have i2 : IntKind.i64.wrap ((j : Int) - 1) = (jm : Int) := (IntWalk.i64_in _ (by omega)).trans (by omega)
            have HM2 := Lib.hid (show Mov (.slice (some ⟨pb, po, none⟩) j ca) (.slice (some ⟨sb, so, none⟩) jm cb) f q j jm w from ⟨⟨_, _, rfl, fun _ => ⟨pb, po, rfl, fun i hi => HPL.out i (by omega)⟩⟩, ⟨_, _, rfl, fun _ => ⟨sb, so, rfl, fun i hi => HSL.out i (by omega)⟩⟩, by unfold maxLen; omega, by unfold maxLen; omega⟩)
            have hs1 : (j : Int) ≤ ca := by omega
            have hs2 : (jm : Int) ≤ cb := by omega
            have hs3 : (0 : Int) ≤ j := by omega
            have hs4 : (0 : Int) ≤ jm := by omega
            have hs5 : j ≤ ca := by omega
            have hs6 : jm ≤ cb := by omega
            have hs7 : ¬ ca = 0 := by omega
            have hs8 : ¬ cb = 0 := by omega
            clear f1 f2 f3 f4 hjm hj2 hnm
            go_upto_region 10 with (fail)
            clear a0 a1 a2 m0 m1
            refine RegD.region_dutyN [79, 80, 81, 82, 83, 84, 85, 86, 87, 88, 89, 90, 91, 92, 78, 93, 94, 7, 6] 7 17 18 (RegI.upd (RegI.upd (RegI.upd (RegI.upd (RegI.upd (RegI.upd (RegI.upd (RegI.upd (RegI.upd (RegI.upd (RegI.upd (RegI.upd (RegI.upd (RegI.upd (RegI.upd (RegI.upd (RegI.upd (RegI.upd (fun _ => undef) 79 (.agg (lz l))) 80 (.pointer (some ⟨C, 0, none⟩))) 81 (.slice (some ⟨pb, po, none⟩) n ca)) 82 (.pointer (some ⟨Q, 1, none⟩))) 83 (.int .i64 (j : Int))) 84 (.slice (some ⟨pb, po, none⟩) j ca)) 85 (.pointer (some ⟨C, 1, none⟩))) 86 (.slice (some ⟨sb, so, none⟩) m cb)) 87 (.pointer (some ⟨Q, 1, none⟩))) 88 (.int .i64 (j : Int))) 89 (.int .i64 (jm : Int))) 90 (.slice (some ⟨sb, so, none⟩) jm cb)) 91 (.agg #[.slice (some ⟨pb, po, none⟩) j ca, .slice (some ⟨sb, so, none⟩) jm cb])) 92 (.tuple #[.agg #[.int .i64 0, .int .i64 0, .int .i64 0], .int .i64 0])) 78 (.tuple #[.agg #[.int .i64 0, .int .i64 0, .int .i64 0], .int .i64 0])) 93 (.agg #[.int .i64 0, .int .i64 0, .int .i64 0])) 94 (.int .i64 0)) 6 (.int .i64 0)) (#[.int .i64 0, .int .i64 0, .int .i64 0]) (#[.int .i64 0, .int .i64 0, .int .i64 0]) 55 (by kernel_rfl) (by kernel_rfl) (by decide) (by intro d hd; simp at hd; simp; omega) ?_
            simp only [RegD.FF, RegI.FX, RegI.upd, List.foldl_cons, List.foldl_nil, List.mem_cons, List.not_mem_nil, if_true, if_false, Nat.reduceEqDiff, or_false]
            simp only [List.setIfInBounds_toArray, List.set_cons_succ, List.set_cons_zero]
            refine And.intro ?hs3 ?he3
            case hs3 =>
              refine And.intro ?s3_0 (And.intro ?s3_1 (And.intro ?s3_2 (And.intro ?s3_3 (And.intro ?s3_4 (And.intro ?s3_5 (And.intro ?s3_6 (And.intro ?s3_7 (And.intro ?s3_8 (And.intro ?s3_9 (And.intro ?s3_10 (And.intro ?s3_11 (And.intro ?s3_12 (And.intro ?s3_13 (And.intro ?s3_14 (And.intro ?s3_15 (And.intro ?s3_16 (And.intro ?s3_17 (And.intro ?s3_18 (And.intro ?s3_19 (trivial))))))))))))))))))))
              case s3_0 =>
                refine RegD.stepN_det (by decide) (by decide) (by simp) (fun u w1 hO => ?_)
                have HB9 := Lib.hid (HB.out.own hO)
                go_wp2_with ((with_reducible show wpList _ _ _ (⟨_, .load 26 (.tmp 2), _, _, _, none⟩ :: _) _ _); refine wpList_load_row rfl 26 (.tmp 2) rfl B rfl 26 _ (0, 0) _ HB9.out.raw Try.underlying26 rfl infoLs ?_)
                exact ⟨rfl, rfl, rfl, Own.refl _⟩
              case s3_1 =>
                refine RegD.stepN_det (by decide) (by decide) (by simp) (fun u w1 hO => ?_)
                go_wp2
                exact ⟨rfl, rfl, rfl, Own.refl _⟩
              case s3_2 =>
                refine RegD.stepN_det (by decide) (by decide) (by simp) (fun u w1 hO => ?_)
                have kk := (HC.out.own hO).cell 0
                go_wp2
                exact ⟨rfl, rfl, rfl, Own.refl _⟩
              case s3_3 =>
                refine RegD.stepN_det (by decide) (by decide) (by simp) (fun u w1 hO => ?_)
                go_wp2
                exact ⟨rfl, rfl, rfl, Own.refl _⟩
              case s3_4 =>
                refine RegD.stepN_det (by decide) (by decide) (by simp) (fun u w1 hO => ?_)
                have kk := (HQ.out.own hO).cell 1
                go_wp2
                exact ⟨rfl, rfl, rfl, Own.refl _⟩
              case s3_5 =>
                refine RegD.stepN_det (by decide) (by decide) (by simp) (fun u w1 hO => ?_)
                go_wp2
                exact ⟨rfl, rfl, rfl, Own.refl _⟩
              case s3_6 =>
                refine RegD.stepN_det (by decide) (by decide) (by simp) (fun u w1 hO => ?_)
                go_wp2
                exact ⟨rfl, rfl, rfl, Own.refl _⟩
              case s3_7 =>
                refine RegD.stepN_det (by decide) (by decide) (by simp) (fun u w1 hO => ?_)
                have kk := (HC.out.own hO).cell 1
                go_wp2
                exact ⟨rfl, rfl, rfl, Own.refl _⟩
              case s3_8 =>
                refine RegD.stepN_det (by decide) (by decide) (by simp) (fun u w1 hO => ?_)
                go_wp2
                exact ⟨rfl, rfl, rfl, Own.refl _⟩
              case s3_9 =>
                refine RegD.stepN_det (by decide) (by decide) (by simp) (fun u w1 hO => ?_)
                have kk := (HQ.out.own hO).cell 1
                go_wp2
                exact ⟨rfl, rfl, rfl, Own.refl _⟩
              case s3_10 =>
                refine RegD.stepN_det (by decide) (by decide) (by simp) (fun u w1 hO => ?_)
                go_wp2
                exact ⟨rfl, rfl, rfl, Own.refl _⟩
              case s3_11 =>
                refine RegD.stepN_det (by decide) (by decide) (by simp) (fun u w1 hO => ?_)
                go_wp2
                exact ⟨rfl, rfl, rfl, Own.refl _⟩
              case s3_12 =>
                refine RegD.stepN_det (by decide) (by decide) (by simp) (fun u w1 hO => ?_)
                go_wp2
                exact ⟨rfl, rfl, rfl, Own.refl _⟩
              case s3_13 =>
                refine RegD.stepN_det (by decide) (by decide) (by simp) (fun u w1 hO => ?_)
                go_wp2_with (go_at_call 26; with_reducible refine (lfi_at l (.slice (some ⟨pb, po, none⟩) j ca) (.slice (some ⟨sb, so, none⟩) jm cb) f q j jm 0 0 0 0 _ (Lib.hid (HM2.out.own (g0.trans hO))) HF2).mono ?_; rintro r w2 ⟨rfl, hg⟩)
                exact ⟨rfl, rfl, rfl, hg⟩
              case s3_14 =>
                refine RegD.stepN_det (by decide) (by decide) (by simp) (fun u w1 hO => ?_)
                go_wp2
                exact ⟨rfl, rfl, rfl, Own.refl _⟩
              case s3_15 =>
                refine RegD.stepN_det (by decide) (by decide) (by simp) (fun u w1 hO => ?_)
                go_wp2
                exact ⟨rfl, rfl, rfl, Own.refl _⟩
              case s3_16 =>
                refine RegD.stepN_det (by decide) (by decide) (by simp) (fun u w1 hO => ?_)
                go_wp2
                exact ⟨rfl, rfl, rfl, Own.refl _⟩
              case s3_17 =>
                refine RegD.stepN_alloc rfl (fun u w1 hO => ?_)
                go_wp2
                exact ⟨rfl, rfl, rfl, rfl⟩
              case s3_18 =>
                refine RegD.stepN_store (by decide) rfl (by kernel_rfl) (fun u w1 N hO hu hN => ?_)
                have HN := Lib.hid hN
                simp only [hu]
                clear hN
                go_wp2_with ((with_reducible show wpList _ _ _ (⟨_, .store 55 (.tmp 7) (.tmp 93), _, _, _, none⟩ :: _) _ _); refine wpList_store_row rfl 55 (.tmp 7) (.tmp 93) rfl N #[.int .i64 0, .int .i64 0, .int .i64 0] rfl rfl 55 _ HN.out.raw infoF rfl (by simp [Value.oneCell']) ?_)
                exact ⟨rfl, rfl, rfl⟩
              case s3_19 =>
                refine RegD.stepN_det (by decide) (by decide) (by simp) (fun u w1 hO => ?_)
                go_wp2
                exact ⟨rfl, rfl, rfl, Own.refl _⟩
            intro u9 w5 N hO hu hN0 hN
            simp only [hu]
            replace g0 := g0.trans hO
            have HN := Lib.hid hN
            have hfa : fa3 0 0 0 = true := rfl
            clear hO hu hN0 hN HB HC HQ i2
            go_wp2_with (first | ((with_reducible show wpList _ _ _ (⟨_, .load 55 (.tmp 7), _, _, _, none⟩ :: _) _ _); refine wpList_load_row rfl 55 (.tmp 7) rfl N rfl 55 _ (0, 0) _ HN.out.raw Try.underlying55 rfl infoF ?_) | (go_at_call 16; with_reducible refine (awake_at _).mono ?_; rintro r w9 ⟨rfl, hg⟩; replace g0 := g0.trans hg; clear hg))
            go_ret
            exact ⟨rfl, g0⟩
    · obtain ⟨g1, g2, g3⟩ := fv_nul (q := q) (l := l) (f := f) (n := n) (m := m) (by rw [hes]; exact h0)
      replace HF := Lib.hid (show fvE l f q n m = 0 ∧ fvT l f q n m = 0 ∧ fvP l f q n m = 0 ∧ fsE l f n m = es from ⟨g1, g2, g3, hes⟩)
      have kc : (es != 0) = true := bne_iff_ne.2 h0
      clear g1 g2 g3 hes hec het hep h0
      go_enter Try.func11, Try.ntmps11
      go_upto_region 1 with (fail)
      obtain ⟨W0, B, C, hW, hC, hB, hb, hc, g0, hB0B, hB0C, hneBC⟩ := two_new w (lz l) 26 (#[sv, tv]) 52
      rw [hW, hC, hB]
      have HB := Lib.hid hb
      have HC := Lib.hid hc
      clear hW hC hB hb hc
      go_upto_region 4 with (first | ((with_reducible show wpList _ _ _ (⟨_, .load 26 (.tmp 2), _, _, _, none⟩ :: _) _ _); refine wpList_load_row rfl 26 (.tmp 2) rfl B rfl 26 _ (0, 0) _ HB.out.raw Try.underlying26 rfl infoLs ?_) | ((with_reducible show wpList _ _ _ (⟨_, .load 52 (.tmp 3), _, _, _, none⟩ :: _) _ _); refine wpList_load_row rfl 52 (.tmp 3) rfl C rfl 52 _ (0, 0) _ HC.out.raw Try.underlying52 rfl infoMv ?_) | (go_at_call 25; with_reducible refine (lgr_at (sv) (tv) f q n m false _ (Lib.hid (HMV.out.own g0)) HG).mono ?_; rintro r w1 ⟨rfl, hg⟩; replace g0 := g0.trans hg; replace HB := Lib.hid (HB.out.own hg); replace HC := Lib.hid (HC.out.own hg); clear hg) | (go_at_call 26; with_reducible refine (lfi_at l (sv) (tv) f q n m 0 0 0 es _ (Lib.hid (HMV.out.own g0)) HF).mono ?_; rintro r w2 ⟨rfl, hg⟩; replace g0 := g0.trans hg; replace HB := Lib.hid (HB.out.own hg); replace HC := Lib.hid (HC.out.own hg); clear hg) | ((with_reducible show wpList _ _ _ (⟨_, .store 55 (.tmp 5) (.tmp 15), _, _, _, none⟩ :: _) _ _); refine wpList_store_row rfl 55 (.tmp 5) (.tmp 15) rfl _ #[.int .i64 0, .int .i64 0, .int .i64 0] rfl rfl 55 _ (heap_new _ _) infoF rfl (by simp [Value.oneCell']) ?_; rw [World.setRow_alloc_new]))
      obtain ⟨w3, Q, hW, hBq, hb, hg, Qg⟩ := blk_new w2 (#[.int .i64 0, .int .i64 0, .int .i64 0]) 55
      rw [hW, hBq]
      have HQ := Lib.hid hb
      replace g0 := g0.trans hg
      replace HB := Lib.hid (HB.out.own hg)
      replace HC := Lib.hid (HC.out.own hg)
      clear hW hBq hb hg
      clear Qg
      have a0 := HQ.out.cell 0
      have hfa : fa3 0 0 0 = true := rfl
      go_wp2_with (first | ((with_reducible show wpList _ _ _ (⟨_, .load 55 (.tmp 5), _, _, _, none⟩ :: _) _ _); refine wpList_load_row rfl 55 (.tmp 5) rfl Q rfl 55 _ (0, 0) _ HQ.out.raw Try.underlying55 rfl infoF ?_) | (go_at_call 16; with_reducible refine (awake_at _).mono ?_; rintro r w9 ⟨rfl, hg⟩; replace g0 := g0.trans hg; clear hg))
      go_ret
      exact ⟨rfl, g0⟩
end Go.Proofs.Ytmjokgddhainlaa.LimL
