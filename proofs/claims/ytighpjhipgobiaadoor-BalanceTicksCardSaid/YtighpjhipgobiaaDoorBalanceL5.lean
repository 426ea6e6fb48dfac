/-
  Walks of the laws of package balance: BalanceTicks. Condition: the table of sines, the table of bounds and the numbers of both sides lie in memory.
-/
import Derived.Test.YtighpjhipgobiaaDoorBalanceT
namespace Go.Proofs.YtighpjhipgobiaaDoor.BalL
open Go.ChangeShapes Go.WideShapes Go.ChangeAt Go.RowKit
open BalW PairW AimP AimW BlkW PrtW PstP PstW JntP JntW BalP
theorem infoMv : (Tryd.prog.info? 52).map (·.size) = some 2 := by kernel_rfl
set_option maxRecDepth 100000 in
set_option maxHeartbeats 40000000 in
theorem BalanceTicks_walk (b : Vl) (sv tv : Value) (f : Nat → Vl) (q : Nat → Int) (n m : Nat) (w : World) (HT : Hid (AngW.Tab w)) (HBT : Hid (BuiW.Tab w)) (HS : Hid (Sds w)) (HM : Hid (Mov sv tv f q n m w)) :
    Calls Tryd.prog 7 #[.agg (cz 15 b), .agg #[sv, tv]] w fun r w' => r = .returned (.bool true) ∧ PairW.Own w w' := by
  obtain ⟨⟨A, ca, rfl, hps⟩, ⟨A2, cb, rfl, hss⟩, hnl, hml⟩ := HM.out
  unfold maxLen at hnl hml
  by_cases h1 : 20 < n
  · have d1 : decide ((20 : Int) < (n : Int)) = true := decide_eq_true (by omega)
    clear h1 hps hss hnl hml
    go_enter Tryd.func7, Tryd.ntmps7
    go_upto_region 1 with (fail)
    obtain ⟨W0, B, Mb, hW, hC, hBq, hb, hc, g0, -, -, -⟩ := two_new w (cz 15 b) 24 (#[.slice A n ca, .slice A2 m cb]) 52
    rw [hW, hC, hBq]
    have HB := Lib.hid hb
    have HMB := Lib.hid hc
    clear hW hC hBq hb hc
    have k0 := HMB.out.cell 0
    have k1 := HMB.out.cell 1
    go_wp2_with (go_at_call 10; with_reducible refine (awake_at _ (Lib.hid (tab_own HT.out g0)) (Lib.hid (HBT.out.own g0)) (Lib.hid (HS.out.own g0))).mono ?_; rintro r w99 ⟨rfl, hg⟩; replace g0 := g0.trans hg; clear hg)
    go_ret
    exact ⟨by first | rfl | (exact ret_bool (by simp)), g0⟩
  · by_cases h2 : 20 < m
    · have d1 : decide ((20 : Int) < (n : Int)) = false := decide_eq_false (by omega)
      have d2 : decide ((20 : Int) < (m : Int)) = true := decide_eq_true (by omega)
      clear h1 h2 hps hss hnl hml
      go_enter Tryd.func7, Tryd.ntmps7
      go_upto_region 1 with (fail)
      obtain ⟨W0, B, Mb, hW, hC, hBq, hb, hc, g0, -, -, -⟩ := two_new w (cz 15 b) 24 (#[.slice A n ca, .slice A2 m cb]) 52
      rw [hW, hC, hBq]
      have HB := Lib.hid hb
      have HMB := Lib.hid hc
      clear hW hC hBq hb hc
      have k0 := HMB.out.cell 0
      have k1 := HMB.out.cell 1
      go_wp2_with (go_at_call 10; with_reducible refine (awake_at _ (Lib.hid (tab_own HT.out g0)) (Lib.hid (HBT.out.own g0)) (Lib.hid (HS.out.own g0))).mono ?_; rintro r w99 ⟨rfl, hg⟩; replace g0 := g0.trans hg; clear hg)
      go_ret
      exact ⟨by first | rfl | (exact ret_bool (by simp)), g0⟩
    · have d1 : decide ((20 : Int) < (n : Int)) = false := decide_eq_false (by omega)
      have d2 : decide ((20 : Int) < (m : Int)) = false := decide_eq_false (by omega)
      clear h1 h2
      by_cases h : fiE b f q n m = 0
      · have hform : ¬ (m = 0 ∨ n ≠ m + 1) := fun z => by rw [(fi_form z).1] at h; exact absurd h (by decide)
        have hm0 : m ≠ 0 := fun z => hform (.inl z)
        have hnm : n = m + 1 := by omega
        have hfa : fA b f q m n = 0 := by rw [← (fi_else hm0 hnm).1]; exact h
        obtain ⟨v, hv⟩ : ∃ x, fiV b f q n m = x := ⟨_, rfl⟩
        have hva : tA b f q m n = v := by rw [← hv, (fi_else hm0 hnm).2, if_pos hfa]
        have HF := Lib.hid (And.intro hv h)
        have hb1 := tA_bd b f q m n
        have hti := tA_is b f q m n
        rw [hva] at hb1 hti
        have HTI := Lib.hid hti
        have HEA := Lib.hid (fA_each hfa)
        obtain ⟨pb, po, rfl, hpl⟩ := hps (by omega)
        obtain ⟨sb, so, rfl, hsl⟩ := hss (by omega)
        have HPL := Lib.hid hpl
        have HSL := Lib.hid hsl
        have d3 : decide (v < -1) = false := decide_eq_false (by omega)
        have d4 : decide ((n : Int) ≤ v) = false := decide_eq_false (by omega)
        have d5 : decide ((m : Int) < 1) = false := decide_eq_false (by omega)
        have hm1 : 0 < m := by omega
        clear hform hfa hv hva hb1 hti hpl hsl hps hss h hnm hm0
        go_enter Tryd.func7, Tryd.ntmps7
        go_upto_region 1 with (fail)
        obtain ⟨W0, B, Mb, hW, hC, hBq, hb, hc, g0, -, -, -⟩ := two_new w (cz 15 b) 24 (#[.slice (some ⟨pb, po, none⟩) n ca, .slice (some ⟨sb, so, none⟩) m cb]) 52
        rw [hW, hC, hBq]
        have HB := Lib.hid hb
        have HMB := Lib.hid hc
        clear hW hC hBq hb hc
        have k0 := HMB.out.cell 0
        have k1 := HMB.out.cell 1
        go_wp2_with (first | ((with_reducible show wpList _ _ _ (⟨_, .load 24 (.tmp 2), _, _, _, none⟩ :: _) _ _); refine wpList_load_row rfl 24 (.tmp 2) rfl B rfl 24 _ (0, 0) _ HB.out.raw Tryd.underlying24 rfl infoB ?_) | ((with_reducible show wpList _ _ _ (⟨_, .load 52 (.tmp 3), _, _, _, none⟩ :: _) _ _); refine wpList_load_row rfl 52 (.tmp 3) rfl Mb rfl 52 _ (0, 0) _ HMB.out.raw Tryd.underlying52 rfl infoMv ?_) | (go_at_call 18; with_reducible refine (bFirst_at b (.slice (some ⟨pb, po, none⟩) n ca) (.slice (some ⟨sb, so, none⟩) m cb) f q n m v 0 _ (Lib.hid (tab_own HT.out g0)) (Lib.hid (HBT.out.own g0)) (Lib.hid (HS.out.own g0)) (Lib.hid (HM.out.own g0)) HF).mono ?_; rintro r w1 ⟨rfl, hg⟩; replace g0 := g0.trans hg; replace HB := Lib.hid (HB.out.own hg); replace HMB := Lib.hid (HMB.out.own hg); replace k0 := HMB.out.cell 0; replace k1 := HMB.out.cell 1; clear hg))
        clear k0 k1 d1 d2 d3 d4 d5 HF
        go_loopw [7] (fun kv wr => ∃ k : Nat, kv = .int .i64 (k : Int) ∧ k ≤ n ∧ PairW.Own w wr ∧ Blk wr B (cz 15 b) 24 ∧ Blk wr Mb #[.slice (some ⟨pb, po, none⟩) n ca, .slice (some ⟨sb, so, none⟩) m cb] 52) (fun kv _ => n - (intOf kv).toNat)
        case atStart => exact ⟨0, rfl, by omega, g0, HB.out, HMB.out⟩
        case round =>
          clear HB HMB g0
          obtain ⟨k, rfl, hk, g0, hb1, hmb⟩ := hrel
          have HB := Lib.hid hb1
          have HMB := Lib.hid hmb
          have k0 := hmb.cell 0
          clear hb1 hmb
          by_cases hlt : k < n
          · obtain ⟨mi, hmi⟩ : ∃ x, min k (m - 1) = x := ⟨_, rfl⟩
            have hsu : su q m k = q mi := by unfold su; rw [hmi]
            have i1 : IntKind.i64.wrap ((m : Int) - 1) = ((m - 1 : Nat) : Int) := (IntWalk.i64_in _ (by omega)).trans (by omega)
            have hmn := fun (w : World) (ts : Array TypeId) (t : TypeId) => min2_at (P := Tryd.prog) (k : Int) ((m - 1 : Nat) : Int) w ts t
            rw [show min (k : Int) ((m - 1 : Nat) : Int) = (mi : Int) by omega] at hmn
            have hmlt : mi < m := by omega
            have hmz : (mi : Int) < m := by omega
            have hkn : (k : Int) < n := by omega
            obtain ⟨z1, z2⟩ := HTI.out k hlt
            have z3 := HEA.out k hlt
            rw [hsu] at z1 z2 z3
            obtain ⟨st, hst⟩ : ∃ t, stV b (f k) (q mi) = t := ⟨_, rfl⟩
            have HST := Lib.hid (show stV b (f k) (q mi) = st ∧ joE b (f k) (q mi) = 0 from ⟨hst, z3⟩)
            rw [hst] at z1 z2
            have HPX := Lib.hid ((HPL.out k hlt).own g0)
            have HSU := Lib.hid (g0.cell (HSL.out mi hmlt))
            have HZ := Lib.hid (And.intro z1 z2)
            clear hst hsu hmi hmlt z1 z2 z3
            go_upto_region 11 with (fail)
            refine RegD.region_duty [57, 58, 59, 60, 61, 62, 63, 64, 65, 66, 67, 68, 69, 70, 71, 72, 73, 56, 74, 75, 8, 9] (RegI.upd (RegI.upd (RegI.upd (RegI.upd (RegI.upd (RegI.upd (RegI.upd (RegI.upd (RegI.upd (RegI.upd (RegI.upd (RegI.upd (RegI.upd (RegI.upd (RegI.upd (RegI.upd (RegI.upd (RegI.upd (RegI.upd (RegI.upd (RegI.upd (RegI.upd (fun _ => undef) 57 (.agg (cz 15 b))) 58 (.pointer (some ⟨Mb, 0, none⟩))) 59 (.slice (some ⟨pb, po, none⟩) n ca)) 60 (.int .i64 (k : Int))) 61 (.pointer (some ⟨pb, po + k * 22, none⟩))) 62 (.agg (cz 22 (f k)))) 63 (.pointer (some ⟨Mb, 1, none⟩))) 64 (.slice (some ⟨sb, so, none⟩) m cb)) 65 (.int .i64 (k : Int))) 66 (.pointer (some ⟨Mb, 1, none⟩))) 67 (.slice (some ⟨sb, so, none⟩) m cb)) 68 (.int .i64 (m : Int))) 69 (.int .i64 ((m - 1 : Nat) : Int))) 70 (.int .i64 (mi : Int))) 71 (.pointer (some ⟨sb, so + mi, none⟩))) 72 (.int .i64 (q mi))) 73 (.tuple #[.bool st, .int .i64 0])) 56 (.tuple #[.bool st, .int .i64 0])) 74 (.bool st)) 75 (.int .i64 0)) 8 (.bool st)) 9 (.int .i64 0)) (by kernel_rfl) (by kernel_rfl) (by intro d hd; simp at hd; simp; omega) ?_
            simp only [RegD.FF, RegI.FX, RegI.upd, List.foldl_cons, List.foldl_nil, List.not_mem_nil, if_true, if_false, Nat.reduceEqDiff]
            simp only [List.setIfInBounds_toArray, List.set_cons_succ, List.set_cons_zero]
            refine And.intro ?hs20 ?he20
            case hs20 =>
              refine And.intro ?s20_0 (And.intro ?s20_1 (And.intro ?s20_2 (And.intro ?s20_3 (And.intro ?s20_4 (And.intro ?s20_5 (And.intro ?s20_6 (And.intro ?s20_7 (And.intro ?s20_8 (And.intro ?s20_9 (And.intro ?s20_10 (And.intro ?s20_11 (And.intro ?s20_12 (And.intro ?s20_13 (And.intro ?s20_14 (And.intro ?s20_15 (And.intro ?s20_16 (And.intro ?s20_17 (And.intro ?s20_18 (And.intro ?s20_19 (And.intro ?s20_20 (And.intro ?s20_21 (trivial))))))))))))))))))))))
              case s20_0 =>
                intro u w1 hO
                have HB9 := Lib.hid (HB.out.own hO)
                go_wp2_with ((with_reducible show wpList _ _ _ (⟨_, .load 24 (.tmp 2), _, _, _, none⟩ :: _) _ _); refine wpList_load_row rfl 24 (.tmp 2) rfl B rfl 24 _ (0, 0) _ HB9.out.raw Tryd.underlying24 rfl infoB ?_)
                exact ⟨rfl, rfl, rfl, PairW.Own.refl _⟩
              case s20_1 =>
                intro u w1 hO
                go_wp2
                exact ⟨rfl, rfl, rfl, PairW.Own.refl _⟩
              case s20_2 =>
                intro u w1 hO
                have kk := (HMB.out.own hO).cell 0
                go_wp2
                exact ⟨rfl, rfl, rfl, PairW.Own.refl _⟩
              case s20_3 =>
                intro u w1 hO
                go_wp2
                exact ⟨rfl, rfl, rfl, PairW.Own.refl _⟩
              case s20_4 =>
                intro u w1 hO
                go_wp2
                exact ⟨rfl, rfl, rfl, PairW.Own.refl _⟩
              case s20_5 =>
                intro u w1 hO
                have HB9 := Lib.hid (HPX.out.own hO)
                go_wp2_with ((with_reducible show wpList _ _ _ (⟨_, .load 31 (.tmp 61), _, _, _, none⟩ :: _) _ _); refine wpList_load_lie rfl 31 (.tmp 61) rfl pb (po + k * 22) rfl (cz 22 (f k)) HB9.out _ Tryd.underlying31 rfl infoP ?_)
                exact ⟨rfl, rfl, rfl, PairW.Own.refl _⟩
              case s20_6 =>
                intro u w1 hO
                go_wp2
                exact ⟨rfl, rfl, rfl, PairW.Own.refl _⟩
              case s20_7 =>
                intro u w1 hO
                have kk := (HMB.out.own hO).cell 1
                go_wp2
                exact ⟨rfl, rfl, rfl, PairW.Own.refl _⟩
              case s20_8 =>
                intro u w1 hO
                go_wp2
                exact ⟨rfl, rfl, rfl, PairW.Own.refl _⟩
              case s20_9 =>
                intro u w1 hO
                go_wp2
                exact ⟨rfl, rfl, rfl, PairW.Own.refl _⟩
              case s20_10 =>
                intro u w1 hO
                have kk := (HMB.out.own hO).cell 1
                go_wp2
                exact ⟨rfl, rfl, rfl, PairW.Own.refl _⟩
              case s20_11 =>
                intro u w1 hO
                go_wp2
                exact ⟨rfl, rfl, rfl, PairW.Own.refl _⟩
              case s20_12 =>
                intro u w1 hO
                go_wp2
                exact ⟨rfl, rfl, rfl, PairW.Own.refl _⟩
              case s20_13 =>
                intro u w1 hO
                go_wp2
                exact ⟨rfl, rfl, rfl, PairW.Own.refl _⟩
              case s20_14 =>
                intro u w1 hO
                go_wp2
                exact ⟨rfl, rfl, rfl, PairW.Own.refl _⟩
              case s20_15 =>
                intro u w1 hO
                have kk := hO.cell HSU.out
                go_wp2
                exact ⟨rfl, rfl, rfl, PairW.Own.refl _⟩
              case s20_16 =>
                intro u w1 hO
                go_wp2_with (go_at_call 14; with_reducible refine (bSta_at b (f k) (q mi) st 0 _ (Lib.hid (tab_own HT.out (g0.trans hO))) (Lib.hid (HBT.out.own (g0.trans hO))) (Lib.hid (HS.out.own (g0.trans hO))) HST).mono ?_; rintro r w2 ⟨rfl, hg⟩)
                exact ⟨rfl, rfl, rfl, hg⟩
              case s20_17 =>
                intro u w1 hO
                go_wp2
                exact ⟨rfl, rfl, rfl, PairW.Own.refl _⟩
              case s20_18 =>
                intro u w1 hO
                go_wp2
                exact ⟨rfl, rfl, rfl, PairW.Own.refl _⟩
              case s20_19 =>
                intro u w1 hO
                go_wp2
                exact ⟨rfl, rfl, rfl, PairW.Own.refl _⟩
              case s20_20 =>
                intro u w1 hO
                go_wp2
                exact ⟨rfl, rfl, rfl, PairW.Own.refl _⟩
              case s20_21 =>
                intro u w1 hO
                go_wp2
                exact ⟨rfl, rfl, rfl, PairW.Own.refl _⟩
            intro u w9 hO
            replace g0 := g0.trans hO
            replace HB := Lib.hid (HB.out.own hO)
            replace HMB := Lib.hid (HMB.out.own hO)
            clear hO
            clear HPX HSU hmn k0 i1 HST
            obtain ⟨z1, z2⟩ := HZ.out
            clear HZ
            by_cases hzz : (k : Int) = v
            · have zz := z1 hzz
              subst zz
              clear z1 z2
              have q1 : decide ((k : Int) = v) = true := decide_eq_true (by omega)
              have q1b : ((k : Int) == v) = true := beq_iff_eq.2 (by omega)
              have q2 : decide (v < 0) = false := decide_eq_false (by omega)
              have q3 : decide ((k : Int) < v) = false := decide_eq_false (by omega)
              clear hzz
              go_wp2
              go_roundw
              case rel => exact ⟨k + 1, by go_num, hlt, g0, HB.out, HMB.out⟩
              case measure => simp [intOf]; omega
            · by_cases hneg : v < 0
              · have zz := z2 (.inl hneg)
                subst zz
                clear z1 z2
                have q1 : decide ((k : Int) = v) = false := decide_eq_false (by omega)
                have q1b : ((k : Int) == v) = false := beq_eq_false_iff_ne.2 (by omega)
                have q2 : decide (v < 0) = true := decide_eq_true (by omega)
                clear hneg
                clear hzz
                go_wp2
                go_roundw
                case rel => exact ⟨k + 1, by go_num, hlt, g0, HB.out, HMB.out⟩
                case measure => simp [intOf]; omega
              · by_cases hlv : (k : Int) < v
                · have zz := z2 (.inr hlv)
                  subst zz
                  clear z1 z2
                  have q1 : decide ((k : Int) = v) = false := decide_eq_false (by omega)
                  have q1b : ((k : Int) == v) = false := beq_eq_false_iff_ne.2 (by omega)
                  have q2 : decide (v < 0) = false := decide_eq_false (by omega)
                  have q3 : decide ((k : Int) < v) = true := decide_eq_true (by omega)
                  clear hneg hlv
                  clear hzz
                  go_wp2
                  go_roundw
                  case rel => exact ⟨k + 1, by go_num, hlt, g0, HB.out, HMB.out⟩
                  case measure => simp [intOf]; omega
                · clear z1 z2
                  have q1 : decide ((k : Int) = v) = false := decide_eq_false (by omega)
                  have q1b : ((k : Int) == v) = false := beq_eq_false_iff_ne.2 (by omega)
                  have q2 : decide (v < 0) = false := decide_eq_false (by omega)
                  have q3 : decide ((k : Int) < v) = false := decide_eq_false (by omega)
                  clear hneg hlv
                  clear hzz
                  go_wp2
                  go_roundw
                  case rel => exact ⟨k + 1, by go_num, hlt, g0, HB.out, HMB.out⟩
                  case measure => simp [intOf]; omega
          · obtain rfl : k = n := by omega
            go_wp2_with (go_at_call 10; with_reducible refine (awake_at _ (Lib.hid (tab_own HT.out g0)) (Lib.hid (HBT.out.own g0)) (Lib.hid (HS.out.own g0))).mono ?_; rintro r w99 ⟨rfl, hg⟩; replace g0 := g0.trans hg; clear hg)
            go_ret
            exact ⟨by first | rfl | (exact ret_bool (by simp)), g0⟩
      · obtain ⟨c, hc⟩ : ∃ c, fiE b f q n m = c := ⟨_, rfl⟩
        have HF := Lib.hid (show fiV b f q n m = 0 ∧ fiE b f q n m = c from ⟨by unfold fiV; rw [if_neg h], hc⟩)
        rw [hc] at h
        have kc : (c != 0) = true := bne_iff_ne.2 h
        clear h hc hps hss hnl hml
        go_enter Tryd.func7, Tryd.ntmps7
        go_upto_region 1 with (fail)
        obtain ⟨W0, B, Mb, hW, hC, hBq, hb, hc, g0, -, -, -⟩ := two_new w (cz 15 b) 24 (#[.slice A n ca, .slice A2 m cb]) 52
        rw [hW, hC, hBq]
        have HB := Lib.hid hb
        have HMB := Lib.hid hc
        clear hW hC hBq hb hc
        have k0 := HMB.out.cell 0
        have k1 := HMB.out.cell 1
        go_wp2_with (first | ((with_reducible show wpList _ _ _ (⟨_, .load 24 (.tmp 2), _, _, _, none⟩ :: _) _ _); refine wpList_load_row rfl 24 (.tmp 2) rfl B rfl 24 _ (0, 0) _ HB.out.raw Tryd.underlying24 rfl infoB ?_) | ((with_reducible show wpList _ _ _ (⟨_, .load 52 (.tmp 3), _, _, _, none⟩ :: _) _ _); refine wpList_load_row rfl 52 (.tmp 3) rfl Mb rfl 52 _ (0, 0) _ HMB.out.raw Tryd.underlying52 rfl infoMv ?_) | (go_at_call 18; with_reducible refine (bFirst_at b (.slice A n ca) (.slice A2 m cb) f q n m 0 c _ (Lib.hid (tab_own HT.out g0)) (Lib.hid (HBT.out.own g0)) (Lib.hid (HS.out.own g0)) (Lib.hid (HM.out.own g0)) HF).mono ?_; rintro r w1 ⟨rfl, hg⟩; replace g0 := g0.trans hg; replace HB := Lib.hid (HB.out.own hg); replace HMB := Lib.hid (HMB.out.own hg); clear hg) | (go_at_call 10; with_reducible refine (awake_at _ (Lib.hid (tab_own HT.out g0)) (Lib.hid (HBT.out.own g0)) (Lib.hid (HS.out.own g0))).mono ?_; rintro r w99 ⟨rfl, hg⟩; replace g0 := g0.trans hg; clear hg))
        go_ret
        exact ⟨by first | rfl | (exact ret_bool (by simp)), g0⟩
end Go.Proofs.YtighpjhipgobiaaDoor.BalL
