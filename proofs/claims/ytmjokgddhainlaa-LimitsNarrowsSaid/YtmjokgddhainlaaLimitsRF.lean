/-
  Walks of the specification of package limits: at. Condition: none.
-/
import Derived.Test.YtmjokgddhainlaaLimitsRE
namespace Go.Proofs.Ytmjokgddhainlaa.LimW
open Go.ChangeShapes Go.WideShapes Go.ChangeAt Go.RowKit
open MovW PairW AimP AimW BlkW PrtW PstP PstW RegD LimP
set_option maxRecDepth 100000 in
set_option maxHeartbeats 16000000 in
theorem rat_at (l : Vl) (sv tv : Value) (f : Nat → Vl) (q : Nat → Int) (n m k : Nat) (fc ft fi : Int) (w : World) (HM : Hid (Mov sv tv f q n m w)) (hk : k < n) (hkm : k ≤ m) (hm : 0 < m) (hl : chE l = 0) (hv : ∀ k, k < n → vaE (f k) = 0) (H : Hid (tiE l f q k = fc ∧ (if tiE l f q k = 0 then 0 else (k : Int)) = ft ∧ tiP l f q k = fi)) :
    Calls Try.prog 46 #[.agg (lz l), .agg #[sv, tv], .int .i64 (k : Int)] w fun r w' => r = .returned (.agg #[.int .i64 fc, .int .i64 ft, .int .i64 fi]) ∧ Own w w' := by
  obtain ⟨⟨A, ca, rfl, hps⟩, ⟨A2, cb, rfl, hss⟩, hnl, hml⟩ := HM.out
  obtain ⟨pb, po, rfl, hpl⟩ := hps (by omega)
  obtain ⟨sb, so, rfl, hsl⟩ := hss (by omega)
  have HPL := Lib.hid hpl
  have HSL := Lib.hid hsl
  unfold maxLen at hnl hml
  clear hps hss hpl hsl
  have HCL := Lib.hid hl
  have HVA := Lib.hid hv
  have hl38 := (ch_yes hl).2.1
  have hl39 := (ch_yes hl).2.2
  have hn0 : 0 < n := by omega
  have hkn : (k : Int) < n := by omega
  have HPKL := Lib.hid (HPL.out k hk)
  have hpj := lie_num (HPL.out (k - 1) (by omega)) (i := 2) (by omega)
  have HFA := Lib.hid (va_yes (hv k hk)).1.2.2.1
  have hsame : k = 0 → f (k - 1) = f k := fun h => by rw [h]
  clear hl hv HPL HSL
  obtain ⟨p, hp⟩ : ∃ p, f k = p := ⟨_, rfl⟩
  obtain ⟨p0, hp0⟩ : ∃ p, f (k - 1) = p := ⟨_, rfl⟩
  unfold tiE tiP at H
  rw [hp0, hp] at H hsame
  rw [hp] at HPKL HFA
  rw [hp0] at hpj
  have HPK := Lib.hid hp
  have HP0 := Lib.hid hp0
  have HSAME := Lib.hid hsame
  obtain ⟨v, hv2⟩ : ∃ v, chg (p0 2) (p 2) = v := ⟨_, rfl⟩
  obtain ⟨z, hz⟩ : ∃ z, p0 2 = z := ⟨_, rfl⟩
  have HV := Lib.hid (show chg z (p 2) = v by rw [← hz]; exact hv2)
  rw [hz] at hpj
  have HPJ := Lib.hid hpj
  clear hp hp0 hsame hpj hz
  by_cases h0 : lsE l p0 p = 0
  · have HBQ := Lib.hid (show bdE l p0 p (airN q k : Int) = fc ∧ (if bdE l p0 p (airN q k : Int) = 0 then 0 else (k : Int)) = ft ∧ (if bdE l p0 p (airN q k : Int) = 0 then (0 : Int) else 6) = fi by
      obtain ⟨q1, q2, q3⟩ := H.out
      obtain ⟨e1, e2⟩ := ft_bd (a := (airN q k : Int)) h0
      rw [e1] at q1 q2
      rw [e2] at q3
      exact ⟨q1, q2, q3⟩)
    have HLI := Lib.hid (show lsE l (f (k - 1)) (f k) = 0 ∧ (if lsE l (f (k - 1)) (f k) = 0 then 0 else (k : Int)) = 0 ∧ lsP l (f (k - 1)) (f k) = 0 from ⟨by rw [HP0.out, HPK.out]; exact h0, if_pos (by rw [HP0.out, HPK.out]; exact h0), if_pos (by rw [HP0.out, HPK.out]; exact h0)⟩)
    clear h0 H
    go_enter Try.func46, Try.ntmps46
    go_upto_region 1 with (fail)
    obtain ⟨W0, B, C, Rr, hW, hR, hC, hB, hb, hc, hr, g0, -, -, hR0, hneBC, hneBR, hneCR⟩ := three_new w (lz l) 26 #[.slice (some ⟨pb, po, none⟩) n ca, .slice (some ⟨sb, so, none⟩) m cb] 52 (#[.int .i64 0, .int .i64 0, .int .i64 0]) 55
    rw [hW, hR, hC, hB]
    have HB := Lib.hid hb
    have HC := Lib.hid hc
    have HR := Lib.hid hr
    clear hW hR hC hB hb hc hr
    go_upto_region 2 with (first | ((with_reducible show wpList _ _ _ (⟨_, .load 26 (.tmp 3), _, _, _, none⟩ :: _) _ _); refine wpList_load_row rfl 26 (.tmp 3) rfl B rfl 26 _ (0, 0) _ HB.out.raw Try.underlying26 rfl infoLs ?_) | ((with_reducible show wpList _ _ _ (⟨_, .load 52 (.tmp 4), _, _, _, none⟩ :: _) _ _); refine wpList_load_row rfl 52 (.tmp 4) rfl C rfl 52 _ (0, 0) _ HC.out.raw Try.underlying52 rfl infoMv2 ?_) | (go_at_call 66; with_reducible refine (rli_at l (.slice (some ⟨pb, po, none⟩) n ca) (.slice (some ⟨sb, so, none⟩) m cb) f q n m k (0) (0) (0) _ (Lib.hid (HM.out.own g0)) hk hm HCL.out HVA.out HLI).mono ?_; rintro r w1 ⟨rfl, hg⟩; replace g0 := g0.trans hg; replace HB := Lib.hid (HB.out.own hg); replace HC := Lib.hid (HC.out.own hg); replace HR := Lib.hid (HR.out.own hg); clear hg) | ((with_reducible show wpList _ _ _ (⟨_, .store 55 (.tmp 7) (.tmp 12), _, _, _, none⟩ :: _) _ _); refine wpList_store_row rfl 55 (.tmp 7) (.tmp 12) rfl _ #[.int .i64 0, .int .i64 0, .int .i64 0] rfl rfl 55 _ (heap_new _ _) infoF rfl (by simp [Value.oneCell']) ?_; rw [World.setRow_alloc_new]))
    obtain ⟨w2, Q, hW, hBq, hb, hg, Qg⟩ := blk_new w1 (#[.int .i64 0, .int .i64 0, .int .i64 0]) 55
    rw [hW, hBq]
    have HQ := Lib.hid hb
    replace g0 := g0.trans hg
    replace HB := Lib.hid (HB.out.own hg)
    replace HC := Lib.hid (HC.out.own hg)
    replace HR := Lib.hid (HR.out.own hg)
    clear hW hBq hb hg
    have z0 := HQ.out.cell 0
    have m0 := HC.out.cell 0
    have HPX := Lib.hid (HPKL.out.own g0)
    clear Qg
    go_upto_region 5 with (first | ((with_reducible show wpList _ _ _ (⟨_, .load 63 (.tmp 20), _, _, _, none⟩ :: _) _ _); refine wpList_load_lie rfl 63 (.tmp 20) rfl pb (po + k * 22) rfl (cz 22 p) HPX.out _ Try.underlying63 rfl infoP ?_) | ((with_reducible show wpList _ _ _ (⟨_, .store 63 (.tmp 8) (.tmp 21), _, _, _, none⟩ :: _) _ _); refine wpList_store_row rfl 63 (.tmp 8) (.tmp 21) rfl _ (cz 22 (p)) rfl rfl 63 _ (heap_new _ _) infoP rfl (cz_one _ _) ?_; rw [World.setRow_alloc_new]))
    obtain ⟨w7, E, hW, hBq, hb, hg, Eg⟩ := blk_new w2 (cz 22 p) 63
    rw [hW, hBq]
    have HE := Lib.hid hb
    replace g0 := g0.trans hg
    replace HB := Lib.hid (HB.out.own hg)
    replace HC := Lib.hid (HC.out.own hg)
    replace HR := Lib.hid (HR.out.own hg)
    clear hW hBq hb hg
    clear Eg HPX z0 HQ m0
    have q3 := blk_num HE.out (i := 3) (by omega)
    have k36 := lb_low HB.out
    have k37 := lb_rise HB.out
    by_cases h1 : p 3 < 0
    · have d1 : decide (p 3 < 0) = true := decide_eq_true h1
      have d2 : decide (0 < p 3) = false := decide_eq_false (by omega)
      by_cases h2 : l 36 = 1
      · have hlev : ¬ ((p 3 < 0 ∧ l 36 ≠ 1) ∨ (0 < p 3 ∧ l 37 ≠ 1)) := by omega
        rw [decide_eq_true h2] at k36
        clear h1 h2
        go_upto_region 7 with (fail)
        by_cases hk0 : k = 0
        · have hv0 : ¬ l 39 < v := by
            rw [← hv2, HSAME.out hk0, chg_self HFA.out]
            have := hl39
            omega
          have dk : ¬ 0 < k := by omega
          have dk2 : decide ((0 : Int) < (k : Int)) = false := decide_eq_false (by omega)
          clear hk0
          refine RegD.region_duty [42, 43, 44, 45, 46, 47, 48, 49, 50, 51, 52, 53, 54, 55, 56, 57, 58] (RegI.upd (RegI.upd (RegI.upd (RegI.upd (RegI.upd (RegI.upd (RegI.upd (RegI.upd (RegI.upd (RegI.upd (RegI.upd (RegI.upd (RegI.upd (RegI.upd (RegI.upd (RegI.upd (RegI.upd (fun _ => undef) 42 (.int .i64 (k : Int))) 43 (.bool false)) 44 (.bool false)) 45 (undef)) 46 (undef)) 47 (undef)) 48 (undef)) 49 (undef)) 50 (undef)) 51 (undef)) 52 (undef)) 53 (undef)) 54 (undef)) 55 (undef)) 56 (undef)) 57 (undef)) 58 (.bool false)) (by kernel_rfl) (by kernel_rfl) (by intro d hd; simp at hd; simp; omega) ?_
          simp only [RegD.FF, RegI.FX, RegI.upd, List.foldl_cons, List.foldl_nil, List.not_mem_nil, if_true, if_false, Nat.reduceEqDiff]
          simp only [List.setIfInBounds_toArray, List.set_cons_succ, List.set_cons_zero]
          refine And.intro ?hs1 ?he1
          case hs1 =>
            refine And.intro ?s1_0 (And.intro ?s1_1 (And.intro ?s1_2 (And.intro ?s1_3 (And.intro ?s1_4 (And.intro ?s1_5 (And.intro ?s1_6 (And.intro ?s1_7 (And.intro ?s1_8 (And.intro ?s1_9 (And.intro ?s1_10 (And.intro ?s1_11 (And.intro ?s1_12 (And.intro ?s1_13 (And.intro ?s1_14 (And.intro ?s1_15 (And.intro ?s1_16 (trivial)))))))))))))))))
            case s1_0 =>
              intro u w1 hO
              go_wp2
              exact ⟨rfl, rfl, rfl, Own.refl _⟩
            case s1_1 =>
              intro u w1 hO
              go_wp2
              exact ⟨rfl, rfl, rfl, Own.refl _⟩
            case s1_2 =>
              intro u w1 hO
              go_wp2
              exact ⟨rfl, rfl, rfl, Own.refl _⟩
            case s1_3 =>
              intro u w1 hO
              go_wp2
              exact ⟨rfl, rfl, rfl, Own.refl _⟩
            case s1_4 =>
              intro u w1 hO
              go_wp2
              exact ⟨rfl, rfl, rfl, Own.refl _⟩
            case s1_5 =>
              intro u w1 hO
              go_wp2
              exact ⟨rfl, rfl, rfl, Own.refl _⟩
            case s1_6 =>
              intro u w1 hO
              go_wp2
              exact ⟨rfl, rfl, rfl, Own.refl _⟩
            case s1_7 =>
              intro u w1 hO
              go_wp2
              exact ⟨rfl, rfl, rfl, Own.refl _⟩
            case s1_8 =>
              intro u w1 hO
              go_wp2
              exact ⟨rfl, rfl, rfl, Own.refl _⟩
            case s1_9 =>
              intro u w1 hO
              go_wp2
              exact ⟨rfl, rfl, rfl, Own.refl _⟩
            case s1_10 =>
              intro u w1 hO
              go_wp2
              exact ⟨rfl, rfl, rfl, Own.refl _⟩
            case s1_11 =>
              intro u w1 hO
              go_wp2
              exact ⟨rfl, rfl, rfl, Own.refl _⟩
            case s1_12 =>
              intro u w1 hO
              go_wp2
              exact ⟨rfl, rfl, rfl, Own.refl _⟩
            case s1_13 =>
              intro u w1 hO
              go_wp2
              exact ⟨rfl, rfl, rfl, Own.refl _⟩
            case s1_14 =>
              intro u w1 hO
              go_wp2
              exact ⟨rfl, rfl, rfl, Own.refl _⟩
            case s1_15 =>
              intro u w1 hO
              go_wp2
              exact ⟨rfl, rfl, rfl, Own.refl _⟩
            case s1_16 =>
              intro u w1 hO
              go_wp2
              exact ⟨rfl, rfl, rfl, Own.refl _⟩
          intro u w8 hO
          replace g0 := g0.trans hO
          replace HB := Lib.hid (HB.out.own hO)
          replace HC := Lib.hid (HC.out.own hO)
          replace HR := Lib.hid (HR.out.own hO)
          clear hO HE q3 k36 k37
          clear dk dk2
          go_upto_region 9 with (fail)
          by_cases ha : l 38 < (airN q k : Int)
          · have hbd : bdE l p0 p (airN q k : Int) = 28 := by
              unfold bdE
              rw [hv2]
              rw [if_neg hlev, if_neg hv0, if_pos ha]
            obtain ⟨q1, q2, q3'⟩ := HBQ.out
            obtain rfl : 28 = fc := by rw [← q1, hbd]
            obtain rfl : (k : Int) = ft := by rw [← q2, if_neg (by rw [hbd]; decide)]
            obtain rfl : 6 = fi := by rw [← q3', if_neg (by rw [hbd]; decide)]
            clear q1 q2 q3' hbd HBQ
            have HAI := Lib.hid (decide_eq_true ha)
            clear ha hv2
            go_wp2_with (first | ((with_reducible show wpList _ _ _ (⟨_, .load 26 (.tmp 3), _, _, _, none⟩ :: _) _ _); refine wpList_load_row rfl 26 (.tmp 3) rfl B rfl 26 _ (0, 0) _ HB.out.raw Try.underlying26 rfl infoLs ?_) | ((with_reducible show wpList _ _ _ (⟨_, .load 52 (.tmp 4), _, _, _, none⟩ :: _) _ _); refine wpList_load_row rfl 52 (.tmp 4) rfl C rfl 52 _ (0, 0) _ HC.out.raw Try.underlying52 rfl infoMv2 ?_) | (go_at_call 68; with_reducible refine (rai_at l (.slice (some ⟨pb, po, none⟩) n ca) (.slice (some ⟨sb, so, none⟩) m cb) f q n m k true _ (Lib.hid (HM.out.own g0)) hkm hm hn0 hl38 HAI).mono ?_; rintro r w9 ⟨rfl, hg⟩; replace g0 := g0.trans hg; replace HB := Lib.hid (HB.out.own hg); replace HC := Lib.hid (HC.out.own hg); replace HR := Lib.hid (HR.out.own hg); clear hg) | ((with_reducible show wpList _ _ _ (⟨_, .store 55 (.tmp 6) (.tmp 66), _, _, _, none⟩ :: _) _ _); refine wpList_store_row rfl 55 (.tmp 6) (.tmp 66) rfl Rr #[.int .i64 28, .int .i64 (k : Int), .int .i64 6] rfl rfl 55 _ HR.out.raw infoF rfl (by simp [Value.oneCell']) ?_))
            have hp := HR.out.row (#[.int .i64 28, .int .i64 (k : Int), .int .i64 6])
            exact bodyPost_ret (blk_result rfl rfl hp Try.underlying55 rfl infoF) rfl ⟨rfl, own_setRow g0 hR0 _⟩
          · have hbd : bdE l p0 p (airN q k : Int) = 0 := by
              unfold bdE
              rw [hv2]
              rw [if_neg hlev, if_neg hv0, if_neg ha]
            obtain ⟨q1, q2, q3'⟩ := HBQ.out
            obtain rfl : 0 = fc := by rw [← q1, hbd]
            obtain rfl : 0 = ft := by rw [← q2, if_pos hbd]
            obtain rfl : 0 = fi := by rw [← q3', if_pos hbd]
            clear q1 q2 q3' hbd HBQ
            have HAI := Lib.hid (decide_eq_false ha)
            clear ha hv2
            go_wp2_with (first | ((with_reducible show wpList _ _ _ (⟨_, .load 26 (.tmp 3), _, _, _, none⟩ :: _) _ _); refine wpList_load_row rfl 26 (.tmp 3) rfl B rfl 26 _ (0, 0) _ HB.out.raw Try.underlying26 rfl infoLs ?_) | ((with_reducible show wpList _ _ _ (⟨_, .load 52 (.tmp 4), _, _, _, none⟩ :: _) _ _); refine wpList_load_row rfl 52 (.tmp 4) rfl C rfl 52 _ (0, 0) _ HC.out.raw Try.underlying52 rfl infoMv2 ?_) | (go_at_call 68; with_reducible refine (rai_at l (.slice (some ⟨pb, po, none⟩) n ca) (.slice (some ⟨sb, so, none⟩) m cb) f q n m k false _ (Lib.hid (HM.out.own g0)) hkm hm hn0 hl38 HAI).mono ?_; rintro r w9 ⟨rfl, hg⟩; replace g0 := g0.trans hg; replace HB := Lib.hid (HB.out.own hg); replace HC := Lib.hid (HC.out.own hg); replace HR := Lib.hid (HR.out.own hg); clear hg) | ((with_reducible show wpList _ _ _ (⟨_, .store 55 (.tmp 6) (.tmp 67), _, _, _, none⟩ :: _) _ _); refine wpList_store_row rfl 55 (.tmp 6) (.tmp 67) rfl Rr #[.int .i64 0, .int .i64 0, .int .i64 0] rfl rfl 55 _ HR.out.raw infoF rfl (by simp [Value.oneCell']) ?_))
            have hp := HR.out.row (#[.int .i64 0, .int .i64 0, .int .i64 0])
            exact bodyPost_ret (blk_result rfl rfl hp Try.underlying55 rfl infoF) rfl ⟨rfl, own_setRow g0 hR0 _⟩
        · obtain ⟨kp, hkp⟩ : ∃ kp, k - 1 = kp := ⟨_, rfl⟩
          have HZ0 := Lib.hid (show w7.cell? ⟨pb, po + kp * 22 + 2, none⟩ = some (.int .i64 z) by
            rw [← hkp]
            exact g0.cell HPJ.out)
          have i2 : IntKind.i64.wrap ((k : Int) - 1) = (kp : Int) := (IntWalk.i64_in _ (by omega)).trans (by omega)
          have hkp1 : (kp : Int) < n := by omega
          have dk : 0 < k := by omega
          have dk2 : decide ((0 : Int) < (k : Int)) = true := decide_eq_true (by omega)
          clear hkp hk0
          by_cases hs : l 39 < v
          · have d3 : decide (l 39 < v) = true := decide_eq_true hs
            have hbd : bdE l p0 p (airN q k : Int) = 26 := by
              unfold bdE
              rw [hv2]
              rw [if_neg hlev, if_pos hs]
            obtain ⟨q1, q2, q3'⟩ := HBQ.out
            obtain rfl : 26 = fc := by rw [← q1, hbd]
            obtain rfl : (k : Int) = ft := by rw [← q2, if_neg (by rw [hbd]; decide)]
            obtain rfl : 6 = fi := by rw [← q3', if_neg (by rw [hbd]; decide)]
            clear q1 q2 q3' hbd HBQ
            clear hs hv2
            refine RegD.region_duty [42, 43, 44, 45, 46, 47, 48, 49, 50, 51, 52, 53, 54, 55, 56, 57, 58] (RegI.upd (RegI.upd (RegI.upd (RegI.upd (RegI.upd (RegI.upd (RegI.upd (RegI.upd (RegI.upd (RegI.upd (RegI.upd (RegI.upd (RegI.upd (RegI.upd (RegI.upd (RegI.upd (RegI.upd (fun _ => undef) 42 (.int .i64 (k : Int))) 43 (.bool true)) 44 (.bool true)) 45 (.pointer (some ⟨C, 0, none⟩))) 46 (.slice (some ⟨pb, po, none⟩) n ca)) 47 (.int .i64 (k : Int))) 48 (.int .i64 (kp : Int))) 49 (.pointer (some ⟨pb, po + kp * 22, none⟩))) 50 (.pointer (some ⟨pb, po + kp * 22 + 2, none⟩))) 51 (.int .i64 z)) 52 (.pointer (some ⟨E, 2, none⟩))) 53 (.int .i64 (p 2))) 54 (.int .i64 v)) 55 (.pointer (some ⟨B, 39, none⟩))) 56 (.int .i64 (l 39))) 57 (.bool true)) 58 (.bool true)) (by kernel_rfl) (by kernel_rfl) (by intro d hd; simp at hd; simp; omega) ?_
            simp only [RegD.FF, RegI.FX, RegI.upd, List.foldl_cons, List.foldl_nil, List.not_mem_nil, if_true, if_false, Nat.reduceEqDiff]
            simp only [List.setIfInBounds_toArray, List.set_cons_succ, List.set_cons_zero]
            refine And.intro ?hs2 ?he2
            case hs2 =>
              refine And.intro ?s2_0 (And.intro ?s2_1 (And.intro ?s2_2 (And.intro ?s2_3 (And.intro ?s2_4 (And.intro ?s2_5 (And.intro ?s2_6 (And.intro ?s2_7 (And.intro ?s2_8 (And.intro ?s2_9 (And.intro ?s2_10 (And.intro ?s2_11 (And.intro ?s2_12 (And.intro ?s2_13 (And.intro ?s2_14 (And.intro ?s2_15 (And.intro ?s2_16 (trivial)))))))))))))))))
              case s2_0 =>
                intro u w1 hO
                go_wp2
                exact ⟨rfl, rfl, rfl, Own.refl _⟩
              case s2_1 =>
                intro u w1 hO
                go_wp2
                exact ⟨rfl, rfl, rfl, Own.refl _⟩
              case s2_2 =>
                intro u w1 hO
                go_wp2
                exact ⟨rfl, rfl, rfl, Own.refl _⟩
              case s2_3 =>
                intro u w1 hO
                go_wp2
                exact ⟨rfl, rfl, rfl, Own.refl _⟩
              case s2_4 =>
                intro u w1 hO
                have kk := (HC.out.own hO).cell 0
                go_wp2
                exact ⟨rfl, rfl, rfl, Own.refl _⟩
              case s2_5 =>
                intro u w1 hO
                go_wp2
                exact ⟨rfl, rfl, rfl, Own.refl _⟩
              case s2_6 =>
                intro u w1 hO
                go_wp2
                exact ⟨rfl, rfl, rfl, Own.refl _⟩
              case s2_7 =>
                intro u w1 hO
                go_wp2
                exact ⟨rfl, rfl, rfl, Own.refl _⟩
              case s2_8 =>
                intro u w1 hO
                go_wp2
                exact ⟨rfl, rfl, rfl, Own.refl _⟩
              case s2_9 =>
                intro u w1 hO
                have kk := hO.cell HZ0.out
                go_wp2
                exact ⟨rfl, rfl, rfl, Own.refl _⟩
              case s2_10 =>
                intro u w1 hO
                go_wp2
                exact ⟨rfl, rfl, rfl, Own.refl _⟩
              case s2_11 =>
                intro u w1 hO
                have kk := blk_num (HE.out.own hO) (i := 2) (by omega)
                go_wp2
                exact ⟨rfl, rfl, rfl, Own.refl _⟩
              case s2_12 =>
                intro u w1 hO
                go_wp2_with (go_at_call 67; with_reducible refine (rch_at _ _ v _ HV).mono ?_; rintro r w2 ⟨rfl, rfl⟩)
                exact ⟨rfl, rfl, rfl, Own.refl _⟩
              case s2_13 =>
                intro u w1 hO
                go_wp2
                exact ⟨rfl, rfl, rfl, Own.refl _⟩
              case s2_14 =>
                intro u w1 hO
                have kk := lb_num (HB.out.own hO) (i := 39) (by omega) (by omega)
                go_wp2
                exact ⟨rfl, rfl, rfl, Own.refl _⟩
              case s2_15 =>
                intro u w1 hO
                go_wp2
                exact ⟨rfl, rfl, rfl, Own.refl _⟩
              case s2_16 =>
                intro u w1 hO
                go_wp2
                exact ⟨rfl, rfl, rfl, Own.refl _⟩
            intro u w8 hO
            replace g0 := g0.trans hO
            replace HB := Lib.hid (HB.out.own hO)
            replace HC := Lib.hid (HC.out.own hO)
            replace HR := Lib.hid (HR.out.own hO)
            clear hO HE q3 k36 k37
            clear d3 i2 hkp1 HZ0
            go_wp2_with ((with_reducible show wpList _ _ _ (⟨_, .store 55 (.tmp 6) (.tmp 60), _, _, _, none⟩ :: _) _ _); refine wpList_store_row rfl 55 (.tmp 6) (.tmp 60) rfl Rr #[.int .i64 26, .int .i64 (k : Int), .int .i64 6] rfl rfl 55 _ HR.out.raw infoF rfl (by simp [Value.oneCell']) ?_)
            have hp := HR.out.row (#[.int .i64 26, .int .i64 (k : Int), .int .i64 6])
            exact bodyPost_ret (blk_result rfl rfl hp Try.underlying55 rfl infoF) rfl ⟨rfl, own_setRow g0 hR0 _⟩
          · have d3 : decide (l 39 < v) = false := decide_eq_false hs
            refine RegD.region_duty [42, 43, 44, 45, 46, 47, 48, 49, 50, 51, 52, 53, 54, 55, 56, 57, 58] (RegI.upd (RegI.upd (RegI.upd (RegI.upd (RegI.upd (RegI.upd (RegI.upd (RegI.upd (RegI.upd (RegI.upd (RegI.upd (RegI.upd (RegI.upd (RegI.upd (RegI.upd (RegI.upd (RegI.upd (fun _ => undef) 42 (.int .i64 (k : Int))) 43 (.bool true)) 44 (.bool true)) 45 (.pointer (some ⟨C, 0, none⟩))) 46 (.slice (some ⟨pb, po, none⟩) n ca)) 47 (.int .i64 (k : Int))) 48 (.int .i64 (kp : Int))) 49 (.pointer (some ⟨pb, po + kp * 22, none⟩))) 50 (.pointer (some ⟨pb, po + kp * 22 + 2, none⟩))) 51 (.int .i64 z)) 52 (.pointer (some ⟨E, 2, none⟩))) 53 (.int .i64 (p 2))) 54 (.int .i64 v)) 55 (.pointer (some ⟨B, 39, none⟩))) 56 (.int .i64 (l 39))) 57 (.bool false)) 58 (.bool false)) (by kernel_rfl) (by kernel_rfl) (by intro d hd; simp at hd; simp; omega) ?_
            simp only [RegD.FF, RegI.FX, RegI.upd, List.foldl_cons, List.foldl_nil, List.not_mem_nil, if_true, if_false, Nat.reduceEqDiff]
            simp only [List.setIfInBounds_toArray, List.set_cons_succ, List.set_cons_zero]
            refine And.intro ?hs3 ?he3
            case hs3 =>
              refine And.intro ?s3_0 (And.intro ?s3_1 (And.intro ?s3_2 (And.intro ?s3_3 (And.intro ?s3_4 (And.intro ?s3_5 (And.intro ?s3_6 (And.intro ?s3_7 (And.intro ?s3_8 (And.intro ?s3_9 (And.intro ?s3_10 (And.intro ?s3_11 (And.intro ?s3_12 (And.intro ?s3_13 (And.intro ?s3_14 (And.intro ?s3_15 (And.intro ?s3_16 (trivial)))))))))))))))))
              case s3_0 =>
                intro u w1 hO
                go_wp2
                exact ⟨rfl, rfl, rfl, Own.refl _⟩
              case s3_1 =>
                intro u w1 hO
                go_wp2
                exact ⟨rfl, rfl, rfl, Own.refl _⟩
              case s3_2 =>
                intro u w1 hO
                go_wp2
                exact ⟨rfl, rfl, rfl, Own.refl _⟩
              case s3_3 =>
                intro u w1 hO
                go_wp2
                exact ⟨rfl, rfl, rfl, Own.refl _⟩
              case s3_4 =>
                intro u w1 hO
                have kk := (HC.out.own hO).cell 0
                go_wp2
                exact ⟨rfl, rfl, rfl, Own.refl _⟩
              case s3_5 =>
                intro u w1 hO
                go_wp2
                exact ⟨rfl, rfl, rfl, Own.refl _⟩
              case s3_6 =>
                intro u w1 hO
                go_wp2
                exact ⟨rfl, rfl, rfl, Own.refl _⟩
              case s3_7 =>
                intro u w1 hO
                go_wp2
                exact ⟨rfl, rfl, rfl, Own.refl _⟩
              case s3_8 =>
                intro u w1 hO
                go_wp2
                exact ⟨rfl, rfl, rfl, Own.refl _⟩
              case s3_9 =>
                intro u w1 hO
                have kk := hO.cell HZ0.out
                go_wp2
                exact ⟨rfl, rfl, rfl, Own.refl _⟩
              case s3_10 =>
                intro u w1 hO
                go_wp2
                exact ⟨rfl, rfl, rfl, Own.refl _⟩
              case s3_11 =>
                intro u w1 hO
                have kk := blk_num (HE.out.own hO) (i := 2) (by omega)
                go_wp2
                exact ⟨rfl, rfl, rfl, Own.refl _⟩
              case s3_12 =>
                intro u w1 hO
                go_wp2_with (go_at_call 67; with_reducible refine (rch_at _ _ v _ HV).mono ?_; rintro r w2 ⟨rfl, rfl⟩)
                exact ⟨rfl, rfl, rfl, Own.refl _⟩
              case s3_13 =>
                intro u w1 hO
                go_wp2
                exact ⟨rfl, rfl, rfl, Own.refl _⟩
              case s3_14 =>
                intro u w1 hO
                have kk := lb_num (HB.out.own hO) (i := 39) (by omega) (by omega)
                go_wp2
                exact ⟨rfl, rfl, rfl, Own.refl _⟩
              case s3_15 =>
                intro u w1 hO
                go_wp2
                exact ⟨rfl, rfl, rfl, Own.refl _⟩
              case s3_16 =>
                intro u w1 hO
                go_wp2
                exact ⟨rfl, rfl, rfl, Own.refl _⟩
            intro u w8 hO
            replace g0 := g0.trans hO
            replace HB := Lib.hid (HB.out.own hO)
            replace HC := Lib.hid (HC.out.own hO)
            replace HR := Lib.hid (HR.out.own hO)
            clear hO HE q3 k36 k37
            clear d3 i2 hkp1 HZ0 dk dk2
            go_upto_region 9 with (fail)
            by_cases ha : l 38 < (airN q k : Int)
            · have hbd : bdE l p0 p (airN q k : Int) = 28 := by
                unfold bdE
                rw [hv2]
                rw [if_neg hlev, if_neg hs, if_pos ha]
              obtain ⟨q1, q2, q3'⟩ := HBQ.out
              obtain rfl : 28 = fc := by rw [← q1, hbd]
              obtain rfl : (k : Int) = ft := by rw [← q2, if_neg (by rw [hbd]; decide)]
              obtain rfl : 6 = fi := by rw [← q3', if_neg (by rw [hbd]; decide)]
              clear q1 q2 q3' hbd HBQ
              have HAI := Lib.hid (decide_eq_true ha)
              clear ha hv2
              go_wp2_with (first | ((with_reducible show wpList _ _ _ (⟨_, .load 26 (.tmp 3), _, _, _, none⟩ :: _) _ _); refine wpList_load_row rfl 26 (.tmp 3) rfl B rfl 26 _ (0, 0) _ HB.out.raw Try.underlying26 rfl infoLs ?_) | ((with_reducible show wpList _ _ _ (⟨_, .load 52 (.tmp 4), _, _, _, none⟩ :: _) _ _); refine wpList_load_row rfl 52 (.tmp 4) rfl C rfl 52 _ (0, 0) _ HC.out.raw Try.underlying52 rfl infoMv2 ?_) | (go_at_call 68; with_reducible refine (rai_at l (.slice (some ⟨pb, po, none⟩) n ca) (.slice (some ⟨sb, so, none⟩) m cb) f q n m k true _ (Lib.hid (HM.out.own g0)) hkm hm hn0 hl38 HAI).mono ?_; rintro r w9 ⟨rfl, hg⟩; replace g0 := g0.trans hg; replace HB := Lib.hid (HB.out.own hg); replace HC := Lib.hid (HC.out.own hg); replace HR := Lib.hid (HR.out.own hg); clear hg) | ((with_reducible show wpList _ _ _ (⟨_, .store 55 (.tmp 6) (.tmp 66), _, _, _, none⟩ :: _) _ _); refine wpList_store_row rfl 55 (.tmp 6) (.tmp 66) rfl Rr #[.int .i64 28, .int .i64 (k : Int), .int .i64 6] rfl rfl 55 _ HR.out.raw infoF rfl (by simp [Value.oneCell']) ?_))
              have hp := HR.out.row (#[.int .i64 28, .int .i64 (k : Int), .int .i64 6])
              exact bodyPost_ret (blk_result rfl rfl hp Try.underlying55 rfl infoF) rfl ⟨rfl, own_setRow g0 hR0 _⟩
            · have hbd : bdE l p0 p (airN q k : Int) = 0 := by
                unfold bdE
                rw [hv2]
                rw [if_neg hlev, if_neg hs, if_neg ha]
              obtain ⟨q1, q2, q3'⟩ := HBQ.out
              obtain rfl : 0 = fc := by rw [← q1, hbd]
              obtain rfl : 0 = ft := by rw [← q2, if_pos hbd]
              obtain rfl : 0 = fi := by rw [← q3', if_pos hbd]
              clear q1 q2 q3' hbd HBQ
              have HAI := Lib.hid (decide_eq_false ha)
              clear ha hv2
              go_wp2_with (first | ((with_reducible show wpList _ _ _ (⟨_, .load 26 (.tmp 3), _, _, _, none⟩ :: _) _ _); refine wpList_load_row rfl 26 (.tmp 3) rfl B rfl 26 _ (0, 0) _ HB.out.raw Try.underlying26 rfl infoLs ?_) | ((with_reducible show wpList _ _ _ (⟨_, .load 52 (.tmp 4), _, _, _, none⟩ :: _) _ _); refine wpList_load_row rfl 52 (.tmp 4) rfl C rfl 52 _ (0, 0) _ HC.out.raw Try.underlying52 rfl infoMv2 ?_) | (go_at_call 68; with_reducible refine (rai_at l (.slice (some ⟨pb, po, none⟩) n ca) (.slice (some ⟨sb, so, none⟩) m cb) f q n m k false _ (Lib.hid (HM.out.own g0)) hkm hm hn0 hl38 HAI).mono ?_; rintro r w9 ⟨rfl, hg⟩; replace g0 := g0.trans hg; replace HB := Lib.hid (HB.out.own hg); replace HC := Lib.hid (HC.out.own hg); replace HR := Lib.hid (HR.out.own hg); clear hg) | ((with_reducible show wpList _ _ _ (⟨_, .store 55 (.tmp 6) (.tmp 67), _, _, _, none⟩ :: _) _ _); refine wpList_store_row rfl 55 (.tmp 6) (.tmp 67) rfl Rr #[.int .i64 0, .int .i64 0, .int .i64 0] rfl rfl 55 _ HR.out.raw infoF rfl (by simp [Value.oneCell']) ?_))
              have hp := HR.out.row (#[.int .i64 0, .int .i64 0, .int .i64 0])
              exact bodyPost_ret (blk_result rfl rfl hp Try.underlying55 rfl infoF) rfl ⟨rfl, own_setRow g0 hR0 _⟩
      · rw [decide_eq_false h2] at k36
        have hbd : bdE l p0 p (airN q k : Int) = 25 := by
          unfold bdE
          rw [hv2]
          rw [if_pos (.inl ⟨h1, h2⟩)]
        obtain ⟨q1, q2, q3'⟩ := HBQ.out
        obtain rfl : 25 = fc := by rw [← q1, hbd]
        obtain rfl : (k : Int) = ft := by rw [← q2, if_neg (by rw [hbd]; decide)]
        obtain rfl : 6 = fi := by rw [← q3', if_neg (by rw [hbd]; decide)]
        clear q1 q2 q3' hbd HBQ
        clear hv2 h1 h2
        go_wp2_with ((with_reducible show wpList _ _ _ (⟨_, .store 55 (.tmp 6) (.tmp 41), _, _, _, none⟩ :: _) _ _); refine wpList_store_row rfl 55 (.tmp 6) (.tmp 41) rfl Rr #[.int .i64 25, .int .i64 (k : Int), .int .i64 6] rfl rfl 55 _ HR.out.raw infoF rfl (by simp [Value.oneCell']) ?_)
        have hp := HR.out.row (#[.int .i64 25, .int .i64 (k : Int), .int .i64 6])
        exact bodyPost_ret (blk_result rfl rfl hp Try.underlying55 rfl infoF) rfl ⟨rfl, own_setRow g0 hR0 _⟩
    · have d1 : decide (p 3 < 0) = false := decide_eq_false h1
      by_cases h3 : 0 < p 3
      · have d2 : decide (0 < p 3) = true := decide_eq_true h3
        by_cases h2 : l 37 = 1
        · have hlev : ¬ ((p 3 < 0 ∧ l 36 ≠ 1) ∨ (0 < p 3 ∧ l 37 ≠ 1)) := by omega
          rw [decide_eq_true h2] at k37
          clear h1 h2 h3
          go_upto_region 7 with (fail)
          by_cases hk0 : k = 0
          · have hv0 : ¬ l 39 < v := by
              rw [← hv2, HSAME.out hk0, chg_self HFA.out]
              have := hl39
              omega
            have dk : ¬ 0 < k := by omega
            have dk2 : decide ((0 : Int) < (k : Int)) = false := decide_eq_false (by omega)
            clear hk0
            refine RegD.region_duty [42, 43, 44, 45, 46, 47, 48, 49, 50, 51, 52, 53, 54, 55, 56, 57, 58] (RegI.upd (RegI.upd (RegI.upd (RegI.upd (RegI.upd (RegI.upd (RegI.upd (RegI.upd (RegI.upd (RegI.upd (RegI.upd (RegI.upd (RegI.upd (RegI.upd (RegI.upd (RegI.upd (RegI.upd (fun _ => undef) 42 (.int .i64 (k : Int))) 43 (.bool false)) 44 (.bool false)) 45 (undef)) 46 (undef)) 47 (undef)) 48 (undef)) 49 (undef)) 50 (undef)) 51 (undef)) 52 (undef)) 53 (undef)) 54 (undef)) 55 (undef)) 56 (undef)) 57 (undef)) 58 (.bool false)) (by kernel_rfl) (by kernel_rfl) (by intro d hd; simp at hd; simp; omega) ?_
            simp only [RegD.FF, RegI.FX, RegI.upd, List.foldl_cons, List.foldl_nil, List.not_mem_nil, if_true, if_false, Nat.reduceEqDiff]
            simp only [List.setIfInBounds_toArray, List.set_cons_succ, List.set_cons_zero]
            refine And.intro ?hs4 ?he4
            case hs4 =>
              refine And.intro ?s4_0 (And.intro ?s4_1 (And.intro ?s4_2 (And.intro ?s4_3 (And.intro ?s4_4 (And.intro ?s4_5 (And.intro ?s4_6 (And.intro ?s4_7 (And.intro ?s4_8 (And.intro ?s4_9 (And.intro ?s4_10 (And.intro ?s4_11 (And.intro ?s4_12 (And.intro ?s4_13 (And.intro ?s4_14 (And.intro ?s4_15 (And.intro ?s4_16 (trivial)))))))))))))))))
              case s4_0 =>
                intro u w1 hO
                go_wp2
                exact ⟨rfl, rfl, rfl, Own.refl _⟩
              case s4_1 =>
                intro u w1 hO
                go_wp2
                exact ⟨rfl, rfl, rfl, Own.refl _⟩
              case s4_2 =>
                intro u w1 hO
                go_wp2
                exact ⟨rfl, rfl, rfl, Own.refl _⟩
              case s4_3 =>
                intro u w1 hO
                go_wp2
                exact ⟨rfl, rfl, rfl, Own.refl _⟩
              case s4_4 =>
                intro u w1 hO
                go_wp2
                exact ⟨rfl, rfl, rfl, Own.refl _⟩
              case s4_5 =>
                intro u w1 hO
                go_wp2
                exact ⟨rfl, rfl, rfl, Own.refl _⟩
              case s4_6 =>
                intro u w1 hO
                go_wp2
                exact ⟨rfl, rfl, rfl, Own.refl _⟩
              case s4_7 =>
                intro u w1 hO
                go_wp2
                exact ⟨rfl, rfl, rfl, Own.refl _⟩
              case s4_8 =>
                intro u w1 hO
                go_wp2
                exact ⟨rfl, rfl, rfl, Own.refl _⟩
              case s4_9 =>
                intro u w1 hO
                go_wp2
                exact ⟨rfl, rfl, rfl, Own.refl _⟩
              case s4_10 =>
                intro u w1 hO
                go_wp2
                exact ⟨rfl, rfl, rfl, Own.refl _⟩
              case s4_11 =>
                intro u w1 hO
                go_wp2
                exact ⟨rfl, rfl, rfl, Own.refl _⟩
              case s4_12 =>
                intro u w1 hO
                go_wp2
                exact ⟨rfl, rfl, rfl, Own.refl _⟩
              case s4_13 =>
                intro u w1 hO
                go_wp2
                exact ⟨rfl, rfl, rfl, Own.refl _⟩
              case s4_14 =>
                intro u w1 hO
                go_wp2
                exact ⟨rfl, rfl, rfl, Own.refl _⟩
              case s4_15 =>
                intro u w1 hO
                go_wp2
                exact ⟨rfl, rfl, rfl, Own.refl _⟩
              case s4_16 =>
                intro u w1 hO
                go_wp2
                exact ⟨rfl, rfl, rfl, Own.refl _⟩
            intro u w8 hO
            replace g0 := g0.trans hO
            replace HB := Lib.hid (HB.out.own hO)
            replace HC := Lib.hid (HC.out.own hO)
            replace HR := Lib.hid (HR.out.own hO)
            clear hO HE q3 k36 k37
            clear dk dk2
            go_upto_region 9 with (fail)
            by_cases ha : l 38 < (airN q k : Int)
            · have hbd : bdE l p0 p (airN q k : Int) = 28 := by
                unfold bdE
                rw [hv2]
                rw [if_neg hlev, if_neg hv0, if_pos ha]
              obtain ⟨q1, q2, q3'⟩ := HBQ.out
              obtain rfl : 28 = fc := by rw [← q1, hbd]
              obtain rfl : (k : Int) = ft := by rw [← q2, if_neg (by rw [hbd]; decide)]
              obtain rfl : 6 = fi := by rw [← q3', if_neg (by rw [hbd]; decide)]
              clear q1 q2 q3' hbd HBQ
              have HAI := Lib.hid (decide_eq_true ha)
              clear ha hv2
              go_wp2_with (first | ((with_reducible show wpList _ _ _ (⟨_, .load 26 (.tmp 3), _, _, _, none⟩ :: _) _ _); refine wpList_load_row rfl 26 (.tmp 3) rfl B rfl 26 _ (0, 0) _ HB.out.raw Try.underlying26 rfl infoLs ?_) | ((with_reducible show wpList _ _ _ (⟨_, .load 52 (.tmp 4), _, _, _, none⟩ :: _) _ _); refine wpList_load_row rfl 52 (.tmp 4) rfl C rfl 52 _ (0, 0) _ HC.out.raw Try.underlying52 rfl infoMv2 ?_) | (go_at_call 68; with_reducible refine (rai_at l (.slice (some ⟨pb, po, none⟩) n ca) (.slice (some ⟨sb, so, none⟩) m cb) f q n m k true _ (Lib.hid (HM.out.own g0)) hkm hm hn0 hl38 HAI).mono ?_; rintro r w9 ⟨rfl, hg⟩; replace g0 := g0.trans hg; replace HB := Lib.hid (HB.out.own hg); replace HC := Lib.hid (HC.out.own hg); replace HR := Lib.hid (HR.out.own hg); clear hg) | ((with_reducible show wpList _ _ _ (⟨_, .store 55 (.tmp 6) (.tmp 66), _, _, _, none⟩ :: _) _ _); refine wpList_store_row rfl 55 (.tmp 6) (.tmp 66) rfl Rr #[.int .i64 28, .int .i64 (k : Int), .int .i64 6] rfl rfl 55 _ HR.out.raw infoF rfl (by simp [Value.oneCell']) ?_))
              have hp := HR.out.row (#[.int .i64 28, .int .i64 (k : Int), .int .i64 6])
              exact bodyPost_ret (blk_result rfl rfl hp Try.underlying55 rfl infoF) rfl ⟨rfl, own_setRow g0 hR0 _⟩
            · have hbd : bdE l p0 p (airN q k : Int) = 0 := by
                unfold bdE
                rw [hv2]
                rw [if_neg hlev, if_neg hv0, if_neg ha]
              obtain ⟨q1, q2, q3'⟩ := HBQ.out
              obtain rfl : 0 = fc := by rw [← q1, hbd]
              obtain rfl : 0 = ft := by rw [← q2, if_pos hbd]
              obtain rfl : 0 = fi := by rw [← q3', if_pos hbd]
              clear q1 q2 q3' hbd HBQ
              have HAI := Lib.hid (decide_eq_false ha)
              clear ha hv2
              go_wp2_with (first | ((with_reducible show wpList _ _ _ (⟨_, .load 26 (.tmp 3), _, _, _, none⟩ :: _) _ _); refine wpList_load_row rfl 26 (.tmp 3) rfl B rfl 26 _ (0, 0) _ HB.out.raw Try.underlying26 rfl infoLs ?_) | ((with_reducible show wpList _ _ _ (⟨_, .load 52 (.tmp 4), _, _, _, none⟩ :: _) _ _); refine wpList_load_row rfl 52 (.tmp 4) rfl C rfl 52 _ (0, 0) _ HC.out.raw Try.underlying52 rfl infoMv2 ?_) | (go_at_call 68; with_reducible refine (rai_at l (.slice (some ⟨pb, po, none⟩) n ca) (.slice (some ⟨sb, so, none⟩) m cb) f q n m k false _ (Lib.hid (HM.out.own g0)) hkm hm hn0 hl38 HAI).mono ?_; rintro r w9 ⟨rfl, hg⟩; replace g0 := g0.trans hg; replace HB := Lib.hid (HB.out.own hg); replace HC := Lib.hid (HC.out.own hg); replace HR := Lib.hid (HR.out.own hg); clear hg) | ((with_reducible show wpList _ _ _ (⟨_, .store 55 (.tmp 6) (.tmp 67), _, _, _, none⟩ :: _) _ _); refine wpList_store_row rfl 55 (.tmp 6) (.tmp 67) rfl Rr #[.int .i64 0, .int .i64 0, .int .i64 0] rfl rfl 55 _ HR.out.raw infoF rfl (by simp [Value.oneCell']) ?_))
              have hp := HR.out.row (#[.int .i64 0, .int .i64 0, .int .i64 0])
              exact bodyPost_ret (blk_result rfl rfl hp Try.underlying55 rfl infoF) rfl ⟨rfl, own_setRow g0 hR0 _⟩
          · obtain ⟨kp, hkp⟩ : ∃ kp, k - 1 = kp := ⟨_, rfl⟩
            have HZ0 := Lib.hid (show w7.cell? ⟨pb, po + kp * 22 + 2, none⟩ = some (.int .i64 z) by
              rw [← hkp]
              exact g0.cell HPJ.out)
            have i2 : IntKind.i64.wrap ((k : Int) - 1) = (kp : Int) := (IntWalk.i64_in _ (by omega)).trans (by omega)
            have hkp1 : (kp : Int) < n := by omega
            have dk : 0 < k := by omega
            have dk2 : decide ((0 : Int) < (k : Int)) = true := decide_eq_true (by omega)
            clear hkp hk0
            by_cases hs : l 39 < v
            · have d3 : decide (l 39 < v) = true := decide_eq_true hs
              have hbd : bdE l p0 p (airN q k : Int) = 26 := by
                unfold bdE
                rw [hv2]
                rw [if_neg hlev, if_pos hs]
              obtain ⟨q1, q2, q3'⟩ := HBQ.out
              obtain rfl : 26 = fc := by rw [← q1, hbd]
              obtain rfl : (k : Int) = ft := by rw [← q2, if_neg (by rw [hbd]; decide)]
              obtain rfl : 6 = fi := by rw [← q3', if_neg (by rw [hbd]; decide)]
              clear q1 q2 q3' hbd HBQ
              clear hs hv2
              refine RegD.region_duty [42, 43, 44, 45, 46, 47, 48, 49, 50, 51, 52, 53, 54, 55, 56, 57, 58] (RegI.upd (RegI.upd (RegI.upd (RegI.upd (RegI.upd (RegI.upd (RegI.upd (RegI.upd (RegI.upd (RegI.upd (RegI.upd (RegI.upd (RegI.upd (RegI.upd (RegI.upd (RegI.upd (RegI.upd (fun _ => undef) 42 (.int .i64 (k : Int))) 43 (.bool true)) 44 (.bool true)) 45 (.pointer (some ⟨C, 0, none⟩))) 46 (.slice (some ⟨pb, po, none⟩) n ca)) 47 (.int .i64 (k : Int))) 48 (.int .i64 (kp : Int))) 49 (.pointer (some ⟨pb, po + kp * 22, none⟩))) 50 (.pointer (some ⟨pb, po + kp * 22 + 2, none⟩))) 51 (.int .i64 z)) 52 (.pointer (some ⟨E, 2, none⟩))) 53 (.int .i64 (p 2))) 54 (.int .i64 v)) 55 (.pointer (some ⟨B, 39, none⟩))) 56 (.int .i64 (l 39))) 57 (.bool true)) 58 (.bool true)) (by kernel_rfl) (by kernel_rfl) (by intro d hd; simp at hd; simp; omega) ?_
              simp only [RegD.FF, RegI.FX, RegI.upd, List.foldl_cons, List.foldl_nil, List.not_mem_nil, if_true, if_false, Nat.reduceEqDiff]
              simp only [List.setIfInBounds_toArray, List.set_cons_succ, List.set_cons_zero]
              refine And.intro ?hs5 ?he5
              case hs5 =>
                refine And.intro ?s5_0 (And.intro ?s5_1 (And.intro ?s5_2 (And.intro ?s5_3 (And.intro ?s5_4 (And.intro ?s5_5 (And.intro ?s5_6 (And.intro ?s5_7 (And.intro ?s5_8 (And.intro ?s5_9 (And.intro ?s5_10 (And.intro ?s5_11 (And.intro ?s5_12 (And.intro ?s5_13 (And.intro ?s5_14 (And.intro ?s5_15 (And.intro ?s5_16 (trivial)))))))))))))))))
                case s5_0 =>
                  intro u w1 hO
                  go_wp2
                  exact ⟨rfl, rfl, rfl, Own.refl _⟩
                case s5_1 =>
                  intro u w1 hO
                  go_wp2
                  exact ⟨rfl, rfl, rfl, Own.refl _⟩
                case s5_2 =>
                  intro u w1 hO
                  go_wp2
                  exact ⟨rfl, rfl, rfl, Own.refl _⟩
                case s5_3 =>
                  intro u w1 hO
                  go_wp2
                  exact ⟨rfl, rfl, rfl, Own.refl _⟩
                case s5_4 =>
                  intro u w1 hO
                  have kk := (HC.out.own hO).cell 0
                  go_wp2
                  exact ⟨rfl, rfl, rfl, Own.refl _⟩
                case s5_5 =>
                  intro u w1 hO
                  go_wp2
                  exact ⟨rfl, rfl, rfl, Own.refl _⟩
                case s5_6 =>
                  intro u w1 hO
                  go_wp2
                  exact ⟨rfl, rfl, rfl, Own.refl _⟩
                case s5_7 =>
                  intro u w1 hO
                  go_wp2
                  exact ⟨rfl, rfl, rfl, Own.refl _⟩
                case s5_8 =>
                  intro u w1 hO
                  go_wp2
                  exact ⟨rfl, rfl, rfl, Own.refl _⟩
                case s5_9 =>
                  intro u w1 hO
                  have kk := hO.cell HZ0.out
                  go_wp2
                  exact ⟨rfl, rfl, rfl, Own.refl _⟩
                case s5_10 =>
                  intro u w1 hO
                  go_wp2
                  exact ⟨rfl, rfl, rfl, Own.refl _⟩
                case s5_11 =>
                  intro u w1 hO
                  have kk := blk_num (HE.out.own hO) (i := 2) (by omega)
                  go_wp2
                  exact ⟨rfl, rfl, rfl, Own.refl _⟩
                case s5_12 =>
                  intro u w1 hO
                  go_wp2_with (go_at_call 67; with_reducible refine (rch_at _ _ v _ HV).mono ?_; rintro r w2 ⟨rfl, rfl⟩)
                  exact ⟨rfl, rfl, rfl, Own.refl _⟩
                case s5_13 =>
                  intro u w1 hO
                  go_wp2
                  exact ⟨rfl, rfl, rfl, Own.refl _⟩
                case s5_14 =>
                  intro u w1 hO
                  have kk := lb_num (HB.out.own hO) (i := 39) (by omega) (by omega)
                  go_wp2
                  exact ⟨rfl, rfl, rfl, Own.refl _⟩
                case s5_15 =>
                  intro u w1 hO
                  go_wp2
                  exact ⟨rfl, rfl, rfl, Own.refl _⟩
                case s5_16 =>
                  intro u w1 hO
                  go_wp2
                  exact ⟨rfl, rfl, rfl, Own.refl _⟩
              intro u w8 hO
              replace g0 := g0.trans hO
              replace HB := Lib.hid (HB.out.own hO)
              replace HC := Lib.hid (HC.out.own hO)
              replace HR := Lib.hid (HR.out.own hO)
              clear hO HE q3 k36 k37
              clear d3 i2 hkp1 HZ0
              go_wp2_with ((with_reducible show wpList _ _ _ (⟨_, .store 55 (.tmp 6) (.tmp 60), _, _, _, none⟩ :: _) _ _); refine wpList_store_row rfl 55 (.tmp 6) (.tmp 60) rfl Rr #[.int .i64 26, .int .i64 (k : Int), .int .i64 6] rfl rfl 55 _ HR.out.raw infoF rfl (by simp [Value.oneCell']) ?_)
              have hp := HR.out.row (#[.int .i64 26, .int .i64 (k : Int), .int .i64 6])
              exact bodyPost_ret (blk_result rfl rfl hp Try.underlying55 rfl infoF) rfl ⟨rfl, own_setRow g0 hR0 _⟩
            · have d3 : decide (l 39 < v) = false := decide_eq_false hs
              refine RegD.region_duty [42, 43, 44, 45, 46, 47, 48, 49, 50, 51, 52, 53, 54, 55, 56, 57, 58] (RegI.upd (RegI.upd (RegI.upd (RegI.upd (RegI.upd (RegI.upd (RegI.upd (RegI.upd (RegI.upd (RegI.upd (RegI.upd (RegI.upd (RegI.upd (RegI.upd (RegI.upd (RegI.upd (RegI.upd (fun _ => undef) 42 (.int .i64 (k : Int))) 43 (.bool true)) 44 (.bool true)) 45 (.pointer (some ⟨C, 0, none⟩))) 46 (.slice (some ⟨pb, po, none⟩) n ca)) 47 (.int .i64 (k : Int))) 48 (.int .i64 (kp : Int))) 49 (.pointer (some ⟨pb, po + kp * 22, none⟩))) 50 (.pointer (some ⟨pb, po + kp * 22 + 2, none⟩))) 51 (.int .i64 z)) 52 (.pointer (some ⟨E, 2, none⟩))) 53 (.int .i64 (p 2))) 54 (.int .i64 v)) 55 (.pointer (some ⟨B, 39, none⟩))) 56 (.int .i64 (l 39))) 57 (.bool false)) 58 (.bool false)) (by kernel_rfl) (by kernel_rfl) (by intro d hd; simp at hd; simp; omega) ?_
              simp only [RegD.FF, RegI.FX, RegI.upd, List.foldl_cons, List.foldl_nil, List.not_mem_nil, if_true, if_false, Nat.reduceEqDiff]
              simp only [List.setIfInBounds_toArray, List.set_cons_succ, List.set_cons_zero]
              refine And.intro ?hs6 ?he6
              case hs6 =>
                refine And.intro ?s6_0 (And.intro ?s6_1 (And.intro ?s6_2 (And.intro ?s6_3 (And.intro ?s6_4 (And.intro ?s6_5 (And.intro ?s6_6 (And.intro ?s6_7 (And.intro ?s6_8 (And.intro ?s6_9 (And.intro ?s6_10 (And.intro ?s6_11 (And.intro ?s6_12 (And.intro ?s6_13 (And.intro ?s6_14 (And.intro ?s6_15 (And.intro ?s6_16 (trivial)))))))))))))))))
                case s6_0 =>
                  intro u w1 hO
                  go_wp2
                  exact ⟨rfl, rfl, rfl, Own.refl _⟩
                case s6_1 =>
                  intro u w1 hO
                  go_wp2
                  exact ⟨rfl, rfl, rfl, Own.refl _⟩
                case s6_2 =>
                  intro u w1 hO
                  go_wp2
                  exact ⟨rfl, rfl, rfl, Own.refl _⟩
                case s6_3 =>
                  intro u w1 hO
                  go_wp2
                  exact ⟨rfl, rfl, rfl, Own.refl _⟩
                case s6_4 =>
                  intro u w1 hO
                  have kk := (HC.out.own hO).cell 0
                  go_wp2
                  exact ⟨rfl, rfl, rfl, Own.refl _⟩
                case s6_5 =>
                  intro u w1 hO
                  go_wp2
                  exact ⟨rfl, rfl, rfl, Own.refl _⟩
                case s6_6 =>
                  intro u w1 hO
                  go_wp2
                  exact ⟨rfl, rfl, rfl, Own.refl _⟩
                case s6_7 =>
                  intro u w1 hO
                  go_wp2
                  exact ⟨rfl, rfl, rfl, Own.refl _⟩
                case s6_8 =>
                  intro u w1 hO
                  go_wp2
                  exact ⟨rfl, rfl, rfl, Own.refl _⟩
                case s6_9 =>
                  intro u w1 hO
                  have kk := hO.cell HZ0.out
                  go_wp2
                  exact ⟨rfl, rfl, rfl, Own.refl _⟩
                case s6_10 =>
                  intro u w1 hO
                  go_wp2
                  exact ⟨rfl, rfl, rfl, Own.refl _⟩
                case s6_11 =>
                  intro u w1 hO
                  have kk := blk_num (HE.out.own hO) (i := 2) (by omega)
                  go_wp2
                  exact ⟨rfl, rfl, rfl, Own.refl _⟩
                case s6_12 =>
                  intro u w1 hO
                  go_wp2_with (go_at_call 67; with_reducible refine (rch_at _ _ v _ HV).mono ?_; rintro r w2 ⟨rfl, rfl⟩)
                  exact ⟨rfl, rfl, rfl, Own.refl _⟩
                case s6_13 =>
                  intro u w1 hO
                  go_wp2
                  exact ⟨rfl, rfl, rfl, Own.refl _⟩
                case s6_14 =>
                  intro u w1 hO
                  have kk := lb_num (HB.out.own hO) (i := 39) (by omega) (by omega)
                  go_wp2
                  exact ⟨rfl, rfl, rfl, Own.refl _⟩
                case s6_15 =>
                  intro u w1 hO
                  go_wp2
                  exact ⟨rfl, rfl, rfl, Own.refl _⟩
                case s6_16 =>
                  intro u w1 hO
                  go_wp2
                  exact ⟨rfl, rfl, rfl, Own.refl _⟩
              intro u w8 hO
              replace g0 := g0.trans hO
              replace HB := Lib.hid (HB.out.own hO)
              replace HC := Lib.hid (HC.out.own hO)
              replace HR := Lib.hid (HR.out.own hO)
              clear hO HE q3 k36 k37
              clear d3 i2 hkp1 HZ0 dk dk2
              go_upto_region 9 with (fail)
              by_cases ha : l 38 < (airN q k : Int)
              · have hbd : bdE l p0 p (airN q k : Int) = 28 := by
                  unfold bdE
                  rw [hv2]
                  rw [if_neg hlev, if_neg hs, if_pos ha]
                obtain ⟨q1, q2, q3'⟩ := HBQ.out
                obtain rfl : 28 = fc := by rw [← q1, hbd]
                obtain rfl : (k : Int) = ft := by rw [← q2, if_neg (by rw [hbd]; decide)]
                obtain rfl : 6 = fi := by rw [← q3', if_neg (by rw [hbd]; decide)]
                clear q1 q2 q3' hbd HBQ
                have HAI := Lib.hid (decide_eq_true ha)
                clear ha hv2
                go_wp2_with (first | ((with_reducible show wpList _ _ _ (⟨_, .load 26 (.tmp 3), _, _, _, none⟩ :: _) _ _); refine wpList_load_row rfl 26 (.tmp 3) rfl B rfl 26 _ (0, 0) _ HB.out.raw Try.underlying26 rfl infoLs ?_) | ((with_reducible show wpList _ _ _ (⟨_, .load 52 (.tmp 4), _, _, _, none⟩ :: _) _ _); refine wpList_load_row rfl 52 (.tmp 4) rfl C rfl 52 _ (0, 0) _ HC.out.raw Try.underlying52 rfl infoMv2 ?_) | (go_at_call 68; with_reducible refine (rai_at l (.slice (some ⟨pb, po, none⟩) n ca) (.slice (some ⟨sb, so, none⟩) m cb) f q n m k true _ (Lib.hid (HM.out.own g0)) hkm hm hn0 hl38 HAI).mono ?_; rintro r w9 ⟨rfl, hg⟩; replace g0 := g0.trans hg; replace HB := Lib.hid (HB.out.own hg); replace HC := Lib.hid (HC.out.own hg); replace HR := Lib.hid (HR.out.own hg); clear hg) | ((with_reducible show wpList _ _ _ (⟨_, .store 55 (.tmp 6) (.tmp 66), _, _, _, none⟩ :: _) _ _); refine wpList_store_row rfl 55 (.tmp 6) (.tmp 66) rfl Rr #[.int .i64 28, .int .i64 (k : Int), .int .i64 6] rfl rfl 55 _ HR.out.raw infoF rfl (by simp [Value.oneCell']) ?_))
                have hp := HR.out.row (#[.int .i64 28, .int .i64 (k : Int), .int .i64 6])
                exact bodyPost_ret (blk_result rfl rfl hp Try.underlying55 rfl infoF) rfl ⟨rfl, own_setRow g0 hR0 _⟩
              · have hbd : bdE l p0 p (airN q k : Int) = 0 := by
                  unfold bdE
                  rw [hv2]
                  rw [if_neg hlev, if_neg hs, if_neg ha]
                obtain ⟨q1, q2, q3'⟩ := HBQ.out
                obtain rfl : 0 = fc := by rw [← q1, hbd]
                obtain rfl : 0 = ft := by rw [← q2, if_pos hbd]
                obtain rfl : 0 = fi := by rw [← q3', if_pos hbd]
                clear q1 q2 q3' hbd HBQ
                have HAI := Lib.hid (decide_eq_false ha)
                clear ha hv2
                go_wp2_with (first | ((with_reducible show wpList _ _ _ (⟨_, .load 26 (.tmp 3), _, _, _, none⟩ :: _) _ _); refine wpList_load_row rfl 26 (.tmp 3) rfl B rfl 26 _ (0, 0) _ HB.out.raw Try.underlying26 rfl infoLs ?_) | ((with_reducible show wpList _ _ _ (⟨_, .load 52 (.tmp 4), _, _, _, none⟩ :: _) _ _); refine wpList_load_row rfl 52 (.tmp 4) rfl C rfl 52 _ (0, 0) _ HC.out.raw Try.underlying52 rfl infoMv2 ?_) | (go_at_call 68; with_reducible refine (rai_at l (.slice (some ⟨pb, po, none⟩) n ca) (.slice (some ⟨sb, so, none⟩) m cb) f q n m k false _ (Lib.hid (HM.out.own g0)) hkm hm hn0 hl38 HAI).mono ?_; rintro r w9 ⟨rfl, hg⟩; replace g0 := g0.trans hg; replace HB := Lib.hid (HB.out.own hg); replace HC := Lib.hid (HC.out.own hg); replace HR := Lib.hid (HR.out.own hg); clear hg) | ((with_reducible show wpList _ _ _ (⟨_, .store 55 (.tmp 6) (.tmp 67), _, _, _, none⟩ :: _) _ _); refine wpList_store_row rfl 55 (.tmp 6) (.tmp 67) rfl Rr #[.int .i64 0, .int .i64 0, .int .i64 0] rfl rfl 55 _ HR.out.raw infoF rfl (by simp [Value.oneCell']) ?_))
                have hp := HR.out.row (#[.int .i64 0, .int .i64 0, .int .i64 0])
                exact bodyPost_ret (blk_result rfl rfl hp Try.underlying55 rfl infoF) rfl ⟨rfl, own_setRow g0 hR0 _⟩
        · rw [decide_eq_false h2] at k37
          have hbd : bdE l p0 p (airN q k : Int) = 25 := by
            unfold bdE
            rw [hv2]
            rw [if_pos (.inr ⟨h3, h2⟩)]
          obtain ⟨q1, q2, q3'⟩ := HBQ.out
          obtain rfl : 25 = fc := by rw [← q1, hbd]
          obtain rfl : (k : Int) = ft := by rw [← q2, if_neg (by rw [hbd]; decide)]
          obtain rfl : 6 = fi := by rw [← q3', if_neg (by rw [hbd]; decide)]
          clear q1 q2 q3' hbd HBQ
          clear hv2 h1 h2 h3
          go_wp2_with ((with_reducible show wpList _ _ _ (⟨_, .store 55 (.tmp 6) (.tmp 41), _, _, _, none⟩ :: _) _ _); refine wpList_store_row rfl 55 (.tmp 6) (.tmp 41) rfl Rr #[.int .i64 25, .int .i64 (k : Int), .int .i64 6] rfl rfl 55 _ HR.out.raw infoF rfl (by simp [Value.oneCell']) ?_)
          have hp := HR.out.row (#[.int .i64 25, .int .i64 (k : Int), .int .i64 6])
          exact bodyPost_ret (blk_result rfl rfl hp Try.underlying55 rfl infoF) rfl ⟨rfl, own_setRow g0 hR0 _⟩
      · have d2 : decide (0 < p 3) = false := decide_eq_false h3
        have hlev : ¬ ((p 3 < 0 ∧ l 36 ≠ 1) ∨ (0 < p 3 ∧ l 37 ≠ 1)) := by omega
        clear h1 h3
        go_upto_region 7 with (fail)
        by_cases hk0 : k = 0
        · have hv0 : ¬ l 39 < v := by
            rw [← hv2, HSAME.out hk0, chg_self HFA.out]
            have := hl39
            omega
          have dk : ¬ 0 < k := by omega
          have dk2 : decide ((0 : Int) < (k : Int)) = false := decide_eq_false (by omega)
          clear hk0
          refine RegD.region_duty [42, 43, 44, 45, 46, 47, 48, 49, 50, 51, 52, 53, 54, 55, 56, 57, 58] (RegI.upd (RegI.upd (RegI.upd (RegI.upd (RegI.upd (RegI.upd (RegI.upd (RegI.upd (RegI.upd (RegI.upd (RegI.upd (RegI.upd (RegI.upd (RegI.upd (RegI.upd (RegI.upd (RegI.upd (fun _ => undef) 42 (.int .i64 (k : Int))) 43 (.bool false)) 44 (.bool false)) 45 (undef)) 46 (undef)) 47 (undef)) 48 (undef)) 49 (undef)) 50 (undef)) 51 (undef)) 52 (undef)) 53 (undef)) 54 (undef)) 55 (undef)) 56 (undef)) 57 (undef)) 58 (.bool false)) (by kernel_rfl) (by kernel_rfl) (by intro d hd; simp at hd; simp; omega) ?_
          simp only [RegD.FF, RegI.FX, RegI.upd, List.foldl_cons, List.foldl_nil, List.not_mem_nil, if_true, if_false, Nat.reduceEqDiff]
          simp only [List.setIfInBounds_toArray, List.set_cons_succ, List.set_cons_zero]
          refine And.intro ?hs7 ?he7
          case hs7 =>
            refine And.intro ?s7_0 (And.intro ?s7_1 (And.intro ?s7_2 (And.intro ?s7_3 (And.intro ?s7_4 (And.intro ?s7_5 (And.intro ?s7_6 (And.intro ?s7_7 (And.intro ?s7_8 (And.intro ?s7_9 (And.intro ?s7_10 (And.intro ?s7_11 (And.intro ?s7_12 (And.intro ?s7_13 (And.intro ?s7_14 (And.intro ?s7_15 (And.intro ?s7_16 (trivial)))))))))))))))))
            case s7_0 =>
              intro u w1 hO
              go_wp2
              exact ⟨rfl, rfl, rfl, Own.refl _⟩
            case s7_1 =>
              intro u w1 hO
              go_wp2
              exact ⟨rfl, rfl, rfl, Own.refl _⟩
            case s7_2 =>
              intro u w1 hO
              go_wp2
              exact ⟨rfl, rfl, rfl, Own.refl _⟩
            case s7_3 =>
              intro u w1 hO
              go_wp2
              exact ⟨rfl, rfl, rfl, Own.refl _⟩
            case s7_4 =>
              intro u w1 hO
              go_wp2
              exact ⟨rfl, rfl, rfl, Own.refl _⟩
            case s7_5 =>
              intro u w1 hO
              go_wp2
              exact ⟨rfl, rfl, rfl, Own.refl _⟩
            case s7_6 =>
              intro u w1 hO
              go_wp2
              exact ⟨rfl, rfl, rfl, Own.refl _⟩
            case s7_7 =>
              intro u w1 hO
              go_wp2
              exact ⟨rfl, rfl, rfl, Own.refl _⟩
            case s7_8 =>
              intro u w1 hO
              go_wp2
              exact ⟨rfl, rfl, rfl, Own.refl _⟩
            case s7_9 =>
              intro u w1 hO
              go_wp2
              exact ⟨rfl, rfl, rfl, Own.refl _⟩
            case s7_10 =>
              intro u w1 hO
              go_wp2
              exact ⟨rfl, rfl, rfl, Own.refl _⟩
            case s7_11 =>
              intro u w1 hO
              go_wp2
              exact ⟨rfl, rfl, rfl, Own.refl _⟩
            case s7_12 =>
              intro u w1 hO
              go_wp2
              exact ⟨rfl, rfl, rfl, Own.refl _⟩
            case s7_13 =>
              intro u w1 hO
              go_wp2
              exact ⟨rfl, rfl, rfl, Own.refl _⟩
            case s7_14 =>
              intro u w1 hO
              go_wp2
              exact ⟨rfl, rfl, rfl, Own.refl _⟩
            case s7_15 =>
              intro u w1 hO
              go_wp2
              exact ⟨rfl, rfl, rfl, Own.refl _⟩
            case s7_16 =>
              intro u w1 hO
              go_wp2
              exact ⟨rfl, rfl, rfl, Own.refl _⟩
          intro u w8 hO
          replace g0 := g0.trans hO
          replace HB := Lib.hid (HB.out.own hO)
          replace HC := Lib.hid (HC.out.own hO)
          replace HR := Lib.hid (HR.out.own hO)
          clear hO HE q3 k36 k37
          clear dk dk2
          go_upto_region 9 with (fail)
          by_cases ha : l 38 < (airN q k : Int)
          · have hbd : bdE l p0 p (airN q k : Int) = 28 := by
              unfold bdE
              rw [hv2]
              rw [if_neg hlev, if_neg hv0, if_pos ha]
            obtain ⟨q1, q2, q3'⟩ := HBQ.out
            obtain rfl : 28 = fc := by rw [← q1, hbd]
            obtain rfl : (k : Int) = ft := by rw [← q2, if_neg (by rw [hbd]; decide)]
            obtain rfl : 6 = fi := by rw [← q3', if_neg (by rw [hbd]; decide)]
            clear q1 q2 q3' hbd HBQ
            have HAI := Lib.hid (decide_eq_true ha)
            clear ha hv2
            go_wp2_with (first | ((with_reducible show wpList _ _ _ (⟨_, .load 26 (.tmp 3), _, _, _, none⟩ :: _) _ _); refine wpList_load_row rfl 26 (.tmp 3) rfl B rfl 26 _ (0, 0) _ HB.out.raw Try.underlying26 rfl infoLs ?_) | ((with_reducible show wpList _ _ _ (⟨_, .load 52 (.tmp 4), _, _, _, none⟩ :: _) _ _); refine wpList_load_row rfl 52 (.tmp 4) rfl C rfl 52 _ (0, 0) _ HC.out.raw Try.underlying52 rfl infoMv2 ?_) | (go_at_call 68; with_reducible refine (rai_at l (.slice (some ⟨pb, po, none⟩) n ca) (.slice (some ⟨sb, so, none⟩) m cb) f q n m k true _ (Lib.hid (HM.out.own g0)) hkm hm hn0 hl38 HAI).mono ?_; rintro r w9 ⟨rfl, hg⟩; replace g0 := g0.trans hg; replace HB := Lib.hid (HB.out.own hg); replace HC := Lib.hid (HC.out.own hg); replace HR := Lib.hid (HR.out.own hg); clear hg) | ((with_reducible show wpList _ _ _ (⟨_, .store 55 (.tmp 6) (.tmp 66), _, _, _, none⟩ :: _) _ _); refine wpList_store_row rfl 55 (.tmp 6) (.tmp 66) rfl Rr #[.int .i64 28, .int .i64 (k : Int), .int .i64 6] rfl rfl 55 _ HR.out.raw infoF rfl (by simp [Value.oneCell']) ?_))
            have hp := HR.out.row (#[.int .i64 28, .int .i64 (k : Int), .int .i64 6])
            exact bodyPost_ret (blk_result rfl rfl hp Try.underlying55 rfl infoF) rfl ⟨rfl, own_setRow g0 hR0 _⟩
          · have hbd : bdE l p0 p (airN q k : Int) = 0 := by
              unfold bdE
              rw [hv2]
              rw [if_neg hlev, if_neg hv0, if_neg ha]
            obtain ⟨q1, q2, q3'⟩ := HBQ.out
            obtain rfl : 0 = fc := by rw [← q1, hbd]
            obtain rfl : 0 = ft := by rw [← q2, if_pos hbd]
            obtain rfl : 0 = fi := by rw [← q3', if_pos hbd]
            clear q1 q2 q3' hbd HBQ
            have HAI := Lib.hid (decide_eq_false ha)
            clear ha hv2
            go_wp2_with (first | ((with_reducible show wpList _ _ _ (⟨_, .load 26 (.tmp 3), _, _, _, none⟩ :: _) _ _); refine wpList_load_row rfl 26 (.tmp 3) rfl B rfl 26 _ (0, 0) _ HB.out.raw Try.underlying26 rfl infoLs ?_) | ((with_reducible show wpList _ _ _ (⟨_, .load 52 (.tmp 4), _, _, _, none⟩ :: _) _ _); refine wpList_load_row rfl 52 (.tmp 4) rfl C rfl 52 _ (0, 0) _ HC.out.raw Try.underlying52 rfl infoMv2 ?_) | (go_at_call 68; with_reducible refine (rai_at l (.slice (some ⟨pb, po, none⟩) n ca) (.slice (some ⟨sb, so, none⟩) m cb) f q n m k false _ (Lib.hid (HM.out.own g0)) hkm hm hn0 hl38 HAI).mono ?_; rintro r w9 ⟨rfl, hg⟩; replace g0 := g0.trans hg; replace HB := Lib.hid (HB.out.own hg); replace HC := Lib.hid (HC.out.own hg); replace HR := Lib.hid (HR.out.own hg); clear hg) | ((with_reducible show wpList _ _ _ (⟨_, .store 55 (.tmp 6) (.tmp 67), _, _, _, none⟩ :: _) _ _); refine wpList_store_row rfl 55 (.tmp 6) (.tmp 67) rfl Rr #[.int .i64 0, .int .i64 0, .int .i64 0] rfl rfl 55 _ HR.out.raw infoF rfl (by simp [Value.oneCell']) ?_))
            have hp := HR.out.row (#[.int .i64 0, .int .i64 0, .int .i64 0])
            exact bodyPost_ret (blk_result rfl rfl hp Try.underlying55 rfl infoF) rfl ⟨rfl, own_setRow g0 hR0 _⟩
        · obtain ⟨kp, hkp⟩ : ∃ kp, k - 1 = kp := ⟨_, rfl⟩
          have HZ0 := Lib.hid (show w7.cell? ⟨pb, po + kp * 22 + 2, none⟩ = some (.int .i64 z) by
            rw [← hkp]
            exact g0.cell HPJ.out)
          have i2 : IntKind.i64.wrap ((k : Int) - 1) = (kp : Int) := (IntWalk.i64_in _ (by omega)).trans (by omega)
          have hkp1 : (kp : Int) < n := by omega
          have dk : 0 < k := by omega
          have dk2 : decide ((0 : Int) < (k : Int)) = true := decide_eq_true (by omega)
          clear hkp hk0
          by_cases hs : l 39 < v
          · have d3 : decide (l 39 < v) = true := decide_eq_true hs
            have hbd : bdE l p0 p (airN q k : Int) = 26 := by
              unfold bdE
              rw [hv2]
              rw [if_neg hlev, if_pos hs]
            obtain ⟨q1, q2, q3'⟩ := HBQ.out
            obtain rfl : 26 = fc := by rw [← q1, hbd]
            obtain rfl : (k : Int) = ft := by rw [← q2, if_neg (by rw [hbd]; decide)]
            obtain rfl : 6 = fi := by rw [← q3', if_neg (by rw [hbd]; decide)]
            clear q1 q2 q3' hbd HBQ
            clear hs hv2
            refine RegD.region_duty [42, 43, 44, 45, 46, 47, 48, 49, 50, 51, 52, 53, 54, 55, 56, 57, 58] (RegI.upd (RegI.upd (RegI.upd (RegI.upd (RegI.upd (RegI.upd (RegI.upd (RegI.upd (RegI.upd (RegI.upd (RegI.upd (RegI.upd (RegI.upd (RegI.upd (RegI.upd (RegI.upd (RegI.upd (fun _ => undef) 42 (.int .i64 (k : Int))) 43 (.bool true)) 44 (.bool true)) 45 (.pointer (some ⟨C, 0, none⟩))) 46 (.slice (some ⟨pb, po, none⟩) n ca)) 47 (.int .i64 (k : Int))) 48 (.int .i64 (kp : Int))) 49 (.pointer (some ⟨pb, po + kp * 22, none⟩))) 50 (.pointer (some ⟨pb, po + kp * 22 + 2, none⟩))) 51 (.int .i64 z)) 52 (.pointer (some ⟨E, 2, none⟩))) 53 (.int .i64 (p 2))) 54 (.int .i64 v)) 55 (.pointer (some ⟨B, 39, none⟩))) 56 (.int .i64 (l 39))) 57 (.bool true)) 58 (.bool true)) (by kernel_rfl) (by kernel_rfl) (by intro d hd; simp at hd; simp; omega) ?_
            simp only [RegD.FF, RegI.FX, RegI.upd, List.foldl_cons, List.foldl_nil, List.not_mem_nil, if_true, if_false, Nat.reduceEqDiff]
            simp only [List.setIfInBounds_toArray, List.set_cons_succ, List.set_cons_zero]
            refine And.intro ?hs8 ?he8
            case hs8 =>
              refine And.intro ?s8_0 (And.intro ?s8_1 (And.intro ?s8_2 (And.intro ?s8_3 (And.intro ?s8_4 (And.intro ?s8_5 (And.intro ?s8_6 (And.intro ?s8_7 (And.intro ?s8_8 (And.intro ?s8_9 (And.intro ?s8_10 (And.intro ?s8_11 (And.intro ?s8_12 (And.intro ?s8_13 (And.intro ?s8_14 (And.intro ?s8_15 (And.intro ?s8_16 (trivial)))))))))))))))))
              case s8_0 =>
                intro u w1 hO
                go_wp2
                exact ⟨rfl, rfl, rfl, Own.refl _⟩
              case s8_1 =>
                intro u w1 hO
                go_wp2
                exact ⟨rfl, rfl, rfl, Own.refl _⟩
              case s8_2 =>
                intro u w1 hO
                go_wp2
                exact ⟨rfl, rfl, rfl, Own.refl _⟩
              case s8_3 =>
                intro u w1 hO
                go_wp2
                exact ⟨rfl, rfl, rfl, Own.refl _⟩
              case s8_4 =>
                intro u w1 hO
                have kk := (HC.out.own hO).cell 0
                go_wp2
                exact ⟨rfl, rfl, rfl, Own.refl _⟩
              case s8_5 =>
                intro u w1 hO
                go_wp2
                exact ⟨rfl, rfl, rfl, Own.refl _⟩
              case s8_6 =>
                intro u w1 hO
                go_wp2
                exact ⟨rfl, rfl, rfl, Own.refl _⟩
              case s8_7 =>
                intro u w1 hO
                go_wp2
                exact ⟨rfl, rfl, rfl, Own.refl _⟩
              case s8_8 =>
                intro u w1 hO
                go_wp2
                exact ⟨rfl, rfl, rfl, Own.refl _⟩
              case s8_9 =>
                intro u w1 hO
                have kk := hO.cell HZ0.out
                go_wp2
                exact ⟨rfl, rfl, rfl, Own.refl _⟩
              case s8_10 =>
                intro u w1 hO
                go_wp2
                exact ⟨rfl, rfl, rfl, Own.refl _⟩
              case s8_11 =>
                intro u w1 hO
                have kk := blk_num (HE.out.own hO) (i := 2) (by omega)
                go_wp2
                exact ⟨rfl, rfl, rfl, Own.refl _⟩
              case s8_12 =>
                intro u w1 hO
                go_wp2_with (go_at_call 67; with_reducible refine (rch_at _ _ v _ HV).mono ?_; rintro r w2 ⟨rfl, rfl⟩)
                exact ⟨rfl, rfl, rfl, Own.refl _⟩
              case s8_13 =>
                intro u w1 hO
                go_wp2
                exact ⟨rfl, rfl, rfl, Own.refl _⟩
              case s8_14 =>
                intro u w1 hO
                have kk := lb_num (HB.out.own hO) (i := 39) (by omega) (by omega)
                go_wp2
                exact ⟨rfl, rfl, rfl, Own.refl _⟩
              case s8_15 =>
                intro u w1 hO
                go_wp2
                exact ⟨rfl, rfl, rfl, Own.refl _⟩
              case s8_16 =>
                intro u w1 hO
                go_wp2
                exact ⟨rfl, rfl, rfl, Own.refl _⟩
            intro u w8 hO
            replace g0 := g0.trans hO
            replace HB := Lib.hid (HB.out.own hO)
            replace HC := Lib.hid (HC.out.own hO)
            replace HR := Lib.hid (HR.out.own hO)
            clear hO HE q3 k36 k37
            clear d3 i2 hkp1 HZ0
            go_wp2_with ((with_reducible show wpList _ _ _ (⟨_, .store 55 (.tmp 6) (.tmp 60), _, _, _, none⟩ :: _) _ _); refine wpList_store_row rfl 55 (.tmp 6) (.tmp 60) rfl Rr #[.int .i64 26, .int .i64 (k : Int), .int .i64 6] rfl rfl 55 _ HR.out.raw infoF rfl (by simp [Value.oneCell']) ?_)
            have hp := HR.out.row (#[.int .i64 26, .int .i64 (k : Int), .int .i64 6])
            exact bodyPost_ret (blk_result rfl rfl hp Try.underlying55 rfl infoF) rfl ⟨rfl, own_setRow g0 hR0 _⟩
          · have d3 : decide (l 39 < v) = false := decide_eq_false hs
            refine RegD.region_duty [42, 43, 44, 45, 46, 47, 48, 49, 50, 51, 52, 53, 54, 55, 56, 57, 58] (RegI.upd (RegI.upd (RegI.upd (RegI.upd (RegI.upd (RegI.upd (RegI.upd (RegI.upd (RegI.upd (RegI.upd (RegI.upd (RegI.upd (RegI.upd (RegI.upd (RegI.upd (RegI.upd (RegI.upd (fun _ => undef) 42 (.int .i64 (k : Int))) 43 (.bool true)) 44 (.bool true)) 45 (.pointer (some ⟨C, 0, none⟩))) 46 (.slice (some ⟨pb, po, none⟩) n ca)) 47 (.int .i64 (k : Int))) 48 (.int .i64 (kp : Int))) 49 (.pointer (some ⟨pb, po + kp * 22, none⟩))) 50 (.pointer (some ⟨pb, po + kp * 22 + 2, none⟩))) 51 (.int .i64 z)) 52 (.pointer (some ⟨E, 2, none⟩))) 53 (.int .i64 (p 2))) 54 (.int .i64 v)) 55 (.pointer (some ⟨B, 39, none⟩))) 56 (.int .i64 (l 39))) 57 (.bool false)) 58 (.bool false)) (by kernel_rfl) (by kernel_rfl) (by intro d hd; simp at hd; simp; omega) ?_
            simp only [RegD.FF, RegI.FX, RegI.upd, List.foldl_cons, List.foldl_nil, List.not_mem_nil, if_true, if_false, Nat.reduceEqDiff]
            simp only [List.setIfInBounds_toArray, List.set_cons_succ, List.set_cons_zero]
            refine And.intro ?hs9 ?he9
            case hs9 =>
              refine And.intro ?s9_0 (And.intro ?s9_1 (And.intro ?s9_2 (And.intro ?s9_3 (And.intro ?s9_4 (And.intro ?s9_5 (And.intro ?s9_6 (And.intro ?s9_7 (And.intro ?s9_8 (And.intro ?s9_9 (And.intro ?s9_10 (And.intro ?s9_11 (And.intro ?s9_12 (And.intro ?s9_13 (And.intro ?s9_14 (And.intro ?s9_15 (And.intro ?s9_16 (trivial)))))))))))))))))
              case s9_0 =>
                intro u w1 hO
                go_wp2
                exact ⟨rfl, rfl, rfl, Own.refl _⟩
              case s9_1 =>
                intro u w1 hO
                go_wp2
                exact ⟨rfl, rfl, rfl, Own.refl _⟩
              case s9_2 =>
                intro u w1 hO
                go_wp2
                exact ⟨rfl, rfl, rfl, Own.refl _⟩
              case s9_3 =>
                intro u w1 hO
                go_wp2
                exact ⟨rfl, rfl, rfl, Own.refl _⟩
              case s9_4 =>
                intro u w1 hO
                have kk := (HC.out.own hO).cell 0
                go_wp2
                exact ⟨rfl, rfl, rfl, Own.refl _⟩
              case s9_5 =>
                intro u w1 hO
                go_wp2
                exact ⟨rfl, rfl, rfl, Own.refl _⟩
              case s9_6 =>
                intro u w1 hO
                go_wp2
                exact ⟨rfl, rfl, rfl, Own.refl _⟩
              case s9_7 =>
                intro u w1 hO
                go_wp2
                exact ⟨rfl, rfl, rfl, Own.refl _⟩
              case s9_8 =>
                intro u w1 hO
                go_wp2
                exact ⟨rfl, rfl, rfl, Own.refl _⟩
              case s9_9 =>
                intro u w1 hO
                have kk := hO.cell HZ0.out
                go_wp2
                exact ⟨rfl, rfl, rfl, Own.refl _⟩
              case s9_10 =>
                intro u w1 hO
                go_wp2
                exact ⟨rfl, rfl, rfl, Own.refl _⟩
              case s9_11 =>
                intro u w1 hO
                have kk := blk_num (HE.out.own hO) (i := 2) (by omega)
                go_wp2
                exact ⟨rfl, rfl, rfl, Own.refl _⟩
              case s9_12 =>
                intro u w1 hO
                go_wp2_with (go_at_call 67; with_reducible refine (rch_at _ _ v _ HV).mono ?_; rintro r w2 ⟨rfl, rfl⟩)
                exact ⟨rfl, rfl, rfl, Own.refl _⟩
              case s9_13 =>
                intro u w1 hO
                go_wp2
                exact ⟨rfl, rfl, rfl, Own.refl _⟩
              case s9_14 =>
                intro u w1 hO
                have kk := lb_num (HB.out.own hO) (i := 39) (by omega) (by omega)
                go_wp2
                exact ⟨rfl, rfl, rfl, Own.refl _⟩
              case s9_15 =>
                intro u w1 hO
                go_wp2
                exact ⟨rfl, rfl, rfl, Own.refl _⟩
              case s9_16 =>
                intro u w1 hO
                go_wp2
                exact ⟨rfl, rfl, rfl, Own.refl _⟩
            intro u w8 hO
            replace g0 := g0.trans hO
            replace HB := Lib.hid (HB.out.own hO)
            replace HC := Lib.hid (HC.out.own hO)
            replace HR := Lib.hid (HR.out.own hO)
            clear hO HE q3 k36 k37
            clear d3 i2 hkp1 HZ0 dk dk2
            go_upto_region 9 with (fail)
            by_cases ha : l 38 < (airN q k : Int)
            · have hbd : bdE l p0 p (airN q k : Int) = 28 := by
                unfold bdE
                rw [hv2]
                rw [if_neg hlev, if_neg hs, if_pos ha]
              obtain ⟨q1, q2, q3'⟩ := HBQ.out
              obtain rfl : 28 = fc := by rw [← q1, hbd]
              obtain rfl : (k : Int) = ft := by rw [← q2, if_neg (by rw [hbd]; decide)]
              obtain rfl : 6 = fi := by rw [← q3', if_neg (by rw [hbd]; decide)]
              clear q1 q2 q3' hbd HBQ
              have HAI := Lib.hid (decide_eq_true ha)
              clear ha hv2
              go_wp2_with (first | ((with_reducible show wpList _ _ _ (⟨_, .load 26 (.tmp 3), _, _, _, none⟩ :: _) _ _); refine wpList_load_row rfl 26 (.tmp 3) rfl B rfl 26 _ (0, 0) _ HB.out.raw Try.underlying26 rfl infoLs ?_) | ((with_reducible show wpList _ _ _ (⟨_, .load 52 (.tmp 4), _, _, _, none⟩ :: _) _ _); refine wpList_load_row rfl 52 (.tmp 4) rfl C rfl 52 _ (0, 0) _ HC.out.raw Try.underlying52 rfl infoMv2 ?_) | (go_at_call 68; with_reducible refine (rai_at l (.slice (some ⟨pb, po, none⟩) n ca) (.slice (some ⟨sb, so, none⟩) m cb) f q n m k true _ (Lib.hid (HM.out.own g0)) hkm hm hn0 hl38 HAI).mono ?_; rintro r w9 ⟨rfl, hg⟩; replace g0 := g0.trans hg; replace HB := Lib.hid (HB.out.own hg); replace HC := Lib.hid (HC.out.own hg); replace HR := Lib.hid (HR.out.own hg); clear hg) | ((with_reducible show wpList _ _ _ (⟨_, .store 55 (.tmp 6) (.tmp 66), _, _, _, none⟩ :: _) _ _); refine wpList_store_row rfl 55 (.tmp 6) (.tmp 66) rfl Rr #[.int .i64 28, .int .i64 (k : Int), .int .i64 6] rfl rfl 55 _ HR.out.raw infoF rfl (by simp [Value.oneCell']) ?_))
              have hp := HR.out.row (#[.int .i64 28, .int .i64 (k : Int), .int .i64 6])
              exact bodyPost_ret (blk_result rfl rfl hp Try.underlying55 rfl infoF) rfl ⟨rfl, own_setRow g0 hR0 _⟩
            · have hbd : bdE l p0 p (airN q k : Int) = 0 := by
                unfold bdE
                rw [hv2]
                rw [if_neg hlev, if_neg hs, if_neg ha]
              obtain ⟨q1, q2, q3'⟩ := HBQ.out
              obtain rfl : 0 = fc := by rw [← q1, hbd]
              obtain rfl : 0 = ft := by rw [← q2, if_pos hbd]
              obtain rfl : 0 = fi := by rw [← q3', if_pos hbd]
              clear q1 q2 q3' hbd HBQ
              have HAI := Lib.hid (decide_eq_false ha)
              clear ha hv2
              go_wp2_with (first | ((with_reducible show wpList _ _ _ (⟨_, .load 26 (.tmp 3), _, _, _, none⟩ :: _) _ _); refine wpList_load_row rfl 26 (.tmp 3) rfl B rfl 26 _ (0, 0) _ HB.out.raw Try.underlying26 rfl infoLs ?_) | ((with_reducible show wpList _ _ _ (⟨_, .load 52 (.tmp 4), _, _, _, none⟩ :: _) _ _); refine wpList_load_row rfl 52 (.tmp 4) rfl C rfl 52 _ (0, 0) _ HC.out.raw Try.underlying52 rfl infoMv2 ?_) | (go_at_call 68; with_reducible refine (rai_at l (.slice (some ⟨pb, po, none⟩) n ca) (.slice (some ⟨sb, so, none⟩) m cb) f q n m k false _ (Lib.hid (HM.out.own g0)) hkm hm hn0 hl38 HAI).mono ?_; rintro r w9 ⟨rfl, hg⟩; replace g0 := g0.trans hg; replace HB := Lib.hid (HB.out.own hg); replace HC := Lib.hid (HC.out.own hg); replace HR := Lib.hid (HR.out.own hg); clear hg) | ((with_reducible show wpList _ _ _ (⟨_, .store 55 (.tmp 6) (.tmp 67), _, _, _, none⟩ :: _) _ _); refine wpList_store_row rfl 55 (.tmp 6) (.tmp 67) rfl Rr #[.int .i64 0, .int .i64 0, .int .i64 0] rfl rfl 55 _ HR.out.raw infoF rfl (by simp [Value.oneCell']) ?_))
              have hp := HR.out.row (#[.int .i64 0, .int .i64 0, .int .i64 0])
              exact bodyPost_ret (blk_result rfl rfl hp Try.underlying55 rfl infoF) rfl ⟨rfl, own_setRow g0 hR0 _⟩
  · obtain ⟨e1, e2⟩ := ft_ls (a := (airN q k : Int)) h0
    obtain ⟨q1, q2, q3⟩ := H.out
    rw [e1] at q1 q2
    rw [e2] at q3
    rw [if_neg h0] at q2
    obtain rfl : (k : Int) = ft := q2
    have hfc : fc ≠ 0 := by rw [← q1]; exact h0
    have HLI := Lib.hid (show lsE l (f (k - 1)) (f k) = fc ∧ (if lsE l (f (k - 1)) (f k) = 0 then 0 else (k : Int)) = (k : Int) ∧ lsP l (f (k - 1)) (f k) = fi from ⟨by rw [HP0.out, HPK.out]; exact q1, if_neg (by rw [HP0.out, HPK.out]; exact h0), by rw [HP0.out, HPK.out]; exact q3⟩)
    have kc : (fc != 0) = true := bne_iff_ne.2 hfc
    clear e1 e2 q1 q3 h0 hfc H
    go_enter Try.func46, Try.ntmps46
    go_upto_region 1 with (fail)
    obtain ⟨W0, B, C, Rr, hW, hR, hC, hB, hb, hc, hr, g0, -, -, hR0, hneBC, hneBR, hneCR⟩ := three_new w (lz l) 26 #[.slice (some ⟨pb, po, none⟩) n ca, .slice (some ⟨sb, so, none⟩) m cb] 52 (#[.int .i64 0, .int .i64 0, .int .i64 0]) 55
    rw [hW, hR, hC, hB]
    have HB := Lib.hid hb
    have HC := Lib.hid hc
    have HR := Lib.hid hr
    clear hW hR hC hB hb hc hr
    go_upto_region 2 with (first | ((with_reducible show wpList _ _ _ (⟨_, .load 26 (.tmp 3), _, _, _, none⟩ :: _) _ _); refine wpList_load_row rfl 26 (.tmp 3) rfl B rfl 26 _ (0, 0) _ HB.out.raw Try.underlying26 rfl infoLs ?_) | ((with_reducible show wpList _ _ _ (⟨_, .load 52 (.tmp 4), _, _, _, none⟩ :: _) _ _); refine wpList_load_row rfl 52 (.tmp 4) rfl C rfl 52 _ (0, 0) _ HC.out.raw Try.underlying52 rfl infoMv2 ?_) | (go_at_call 66; with_reducible refine (rli_at l (.slice (some ⟨pb, po, none⟩) n ca) (.slice (some ⟨sb, so, none⟩) m cb) f q n m k (fc) (k) (fi) _ (Lib.hid (HM.out.own g0)) hk hm HCL.out HVA.out HLI).mono ?_; rintro r w1 ⟨rfl, hg⟩; replace g0 := g0.trans hg; replace HB := Lib.hid (HB.out.own hg); replace HC := Lib.hid (HC.out.own hg); replace HR := Lib.hid (HR.out.own hg); clear hg) | ((with_reducible show wpList _ _ _ (⟨_, .store 55 (.tmp 7) (.tmp 12), _, _, _, none⟩ :: _) _ _); refine wpList_store_row rfl 55 (.tmp 7) (.tmp 12) rfl _ #[.int .i64 fc, .int .i64 (k : Int), .int .i64 fi] rfl rfl 55 _ (heap_new _ _) infoF rfl (by simp [Value.oneCell']) ?_; rw [World.setRow_alloc_new]))
    obtain ⟨w2, Q, hW, hBq, hb, hg, Qg⟩ := blk_new w1 (#[.int .i64 fc, .int .i64 (k : Int), .int .i64 fi]) 55
    rw [hW, hBq]
    have HQ := Lib.hid hb
    replace g0 := g0.trans hg
    replace HR := Lib.hid (HR.out.own hg)
    clear hW hBq hb hg
    have z0 := HQ.out.cell 0
    clear Qg
    go_wp2_with (first | ((with_reducible show wpList _ _ _ (⟨_, .load 55 (.tmp 7), _, _, _, none⟩ :: _) _ _); refine wpList_load_row rfl 55 (.tmp 7) rfl Q rfl 55 _ (0, 0) _ HQ.out.raw Try.underlying55 rfl infoF ?_) | ((with_reducible show wpList _ _ _ (⟨_, .store 55 (.tmp 6) (.tmp 16), _, _, _, none⟩ :: _) _ _); refine wpList_store_row rfl 55 (.tmp 6) (.tmp 16) rfl Rr #[.int .i64 fc, .int .i64 (k : Int), .int .i64 fi] rfl rfl 55 _ HR.out.raw infoF rfl (by simp [Value.oneCell']) ?_))
    have hp := HR.out.row (#[.int .i64 fc, .int .i64 (k : Int), .int .i64 fi])
    exact bodyPost_ret (blk_result rfl rfl hp Try.underlying55 rfl infoF) rfl ⟨rfl, own_setRow g0 hR0 _⟩
end Go.Proofs.Ytmjokgddhainlaa.LimW
