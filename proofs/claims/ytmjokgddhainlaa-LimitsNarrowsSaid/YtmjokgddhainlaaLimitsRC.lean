/-
  Walk of the specification of package limits: Narrow. Condition: none.
-/
import Derived.Test.YtmjokgddhainlaaLimitsRB
import Derived.Test.YtmjokgddhainlaaLimitsPD
import Derived.Test.YtmjokgddhainlaaLimitsBld
import Derived.Test.YtmjokgddhainlaaRegMore
namespace Go.Proofs.Ytmjokgddhainlaa.LimW
open Go.ChangeShapes Go.WideShapes Go.ChangeAt Go.RowKit
open PairW AimP AimW BlkW PrtW PstP PstW RegD LimP
theorem mk_end {a b f : Vl} {p q : Bool} (h : ∀ j, j < 6 * 6 → f j = nwS a b j) (hg : ∀ i, 36 ≤ i → f i = mkL nul p q (min (a 38) (b 38)) (min (a 39) (b 39)) i) (hp : p = (decide (a 36 = 1) && decide (b 36 = 1))) (hq : q = (decide (a 37 = 1) && decide (b 37 = 1))) : lz f = lz (nwS a b) := by
  rw [← mk_nw (fun j hj => h j (by omega)) hp hq]
  refine lz_congr fun i _ => ?_
  by_cases c : i < 36
  · exact (if_pos c).symm
  · rw [hg i (by omega)]
    unfold mkL
    rw [if_neg c, if_neg c]
set_option maxRecDepth 100000 in
set_option maxHeartbeats 16000000 in
theorem rnw_at (a b r : Vl) (e : Int) (w : World) (H : Hid (lz (nwV a b) = lz r ∧ nwE a b = e)) :
    Calls Try.prog 20 #[.agg (lz a), .agg (lz b)] w fun o w' => o = .returned (.tuple #[.agg (lz r), .int .i64 e]) ∧ Own w w' := by
  obtain ⟨hr, he⟩ := H.out
  clear H
  by_cases h1 : chE a = 0
  · have HA0 := Lib.hid h1
    by_cases h2 : chE b = 0
    · have HB0 := Lib.hid h2
      have HOA := Lib.hid (ch_yes h1).1
      have HOB := Lib.hid (ch_yes h2).1
      have HR1 := Lib.hid hr
      have HE1 := Lib.hid he
      have HC1 := Lib.hid h1
      have HC2 := Lib.hid h2
      clear hr he h1 h2
      go_enter Try.func20, Try.ntmps20
      go_upto_region 1 with (fail)
      obtain ⟨W0, B, C, R, hW, hR, hC, hB, hb, hc, hr, g0, -, -, hR0, hneBC, hneBR, hneCR⟩ := three_new w (lz a) 26 (lz b) 26 (lz nul) 26
      rw [← lz_nul] at hW
      rw [hW, hR, hC, hB]
      have HB := Lib.hid hb
      have HC := Lib.hid hc
      have HR := Lib.hid hr
      clear hW hR hC hB hb hc hr
      go_upto_region 7 with (first | ((with_reducible show wpList _ _ _ (⟨_, .load 26 (.tmp 2), _, _, _, none⟩ :: _) _ _); refine wpList_load_row rfl 26 (.tmp 2) rfl B rfl 26 _ (0, 0) _ HB.out.raw Try.underlying26 rfl infoLs ?_) | ((with_reducible show wpList _ _ _ (⟨_, .load 26 (.tmp 3), _, _, _, none⟩ :: _) _ _); refine wpList_load_row rfl 26 (.tmp 3) rfl C rfl 26 _ (0, 0) _ HC.out.raw Try.underlying26 rfl infoLs ?_) | (go_at_call 15; with_reducible refine (rck_at a 0 _ HA0).mono ?_; rintro r w1 ⟨rfl, hg⟩; replace g0 := g0.trans hg; replace HB := Lib.hid (HB.out.own hg); replace HC := Lib.hid (HC.out.own hg); replace HR := Lib.hid (HR.out.own hg); clear hg) | (go_at_call 15; with_reducible refine (rck_at b 0 _ HB0).mono ?_; rintro r w2 ⟨rfl, hg⟩; replace g0 := g0.trans hg; replace HB := Lib.hid (HB.out.own hg); replace HC := Lib.hid (HC.out.own hg); replace HR := Lib.hid (HR.out.own hg); clear hg))
      have k36 := lb_low HB.out
      have k37 := lb_rise HB.out
      have m36 := lb_low HC.out
      have m37 := lb_rise HC.out
      have k38 := lb_num HB.out (i := 38) (by omega) (by omega)
      have k39 := lb_num HB.out (i := 39) (by omega) (by omega)
      have m38 := lb_num HC.out (i := 38) (by omega) (by omega)
      have m39 := lb_num HC.out (i := 39) (by omega) (by omega)
      have hm3 := fun (w : World) (ts : Array TypeId) (t : TypeId) => min2_at (P := Try.prog) (a 38) (b 38) w ts t
      have hm4 := fun (w : World) (ts : Array TypeId) (t : TypeId) => min2_at (P := Try.prog) (a 39) (b 39) w ts t
      by_cases hp : a 36 = 1
      · by_cases hq : a 37 = 1
        · have HBL := Lib.hid (bld_l0 (decide (b 36 = 1)) (decide (b 37 = 1)) (min (a 38) (b 38)) (min (a 39) (b 39)))
          have HPV := Lib.hid (show (decide (b 36 = 1)) = (decide (a 36 = 1) && decide (b 36 = 1)) by rw [decide_eq_true hp]; rfl)
          have HQV := Lib.hid (show (decide (b 37 = 1)) = (decide (a 37 = 1) && decide (b 37 = 1)) by rw [decide_eq_true hq]; rfl)
          rw [decide_eq_true hp] at k36
          rw [decide_eq_true hq] at k37
          clear hp hq
          go_upto_region 8 with (first | ((with_reducible show wpList _ _ _ (⟨_, .build 26 _, _, _, _, _⟩ :: _) _ _); refine wpList_build_as rfl 26 [(1, .tmp 32), (2, .tmp 38), (3, .tmp 43), (4, .tmp 48)] rfl [(1, .bool (decide (b 36 = 1))), (2, .bool (decide (b 37 = 1))), (3, .int .i64 (min (a 38) (b 38))), (4, .int .i64 (min (a 39) (b 39)))] rfl (lz (mkL nul (decide (b 36 = 1)) (decide (b 37 = 1)) (min (a 38) (b 38)) (min (a 39) (b 39)))) (HBL.out) ?_) | ((with_reducible show wpList _ _ _ (⟨_, .store 26 (.tmp 8) (.tmp 49), _, _, _, none⟩ :: _) _ _); refine wpList_store_row rfl 26 (.tmp 8) (.tmp 49) rfl _ (lz (mkL nul (decide (b 36 = 1)) (decide (b 37 = 1)) (min (a 38) (b 38)) (min (a 39) (b 39)))) rfl rfl 26 _ (heap_new _ _) infoLs rfl (lz_one _) ?_; rw [World.setRow_alloc_new]))
          clear HBL k36 k37 k38 k39 m36 m37 m38 m39 hm3 hm4
          obtain ⟨w3, A, hW, hAq, ha, hg, hA0⟩ := blk_new w2 (lz (mkL nul (decide (b 36 = 1)) (decide (b 37 = 1)) (min (a 38) (b 38)) (min (a 39) (b 39)))) 26
          rw [hW, hAq]
          have HA := Lib.hid ha
          replace hA0 : w.heap.size ≤ A := Nat.le_trans g0.size hA0
          replace g0 := g0.trans hg
          have hneB : B ≠ A := fun e => by have := HB.out.lt; omega
          have hneC : C ≠ A := fun e => by have := HC.out.lt; omega
          have hneR : R ≠ A := fun e => by have := HR.out.lt; omega
          replace HB := Lib.hid (HB.out.own hg)
          replace HC := Lib.hid (HC.out.own hg)
          replace HR := Lib.hid (HR.out.own hg)
          clear hW hAq ha hg
          obtain ⟨fz, hfz⟩ : ∃ f, mkL nul (decide (b 36 = 1)) (decide (b 37 = 1)) (min (a 38) (b 38)) (min (a 39) (b 39)) = f := ⟨_, rfl⟩
          have HFZ := Lib.hid (show ∀ i, 36 ≤ i → fz i = (mkL nul (decide (b 36 = 1)) (decide (b 37 = 1)) (min (a 38) (b 38)) (min (a 39) (b 39))) i from fun i _ => by rw [hfz])
          rw [hfz] at HA
          clear hfz
          go_wp2
          go_loopw [9, 10, 11, 12, 13, 14] (fun vi _ _ _ _ _ wr => ∃ (k : Nat) (f : Vl), vi = .int .i64 (k : Int) ∧ k ≤ 6 ∧ (∀ i, i < k → nrE (lim a i) (lim b i) = 0) ∧ (∀ j, j < k * 6 → f j = nwS a b j) ∧ (∀ i, 36 ≤ i → f i = (mkL nul (decide (b 36 = 1)) (decide (b 37 = 1)) (min (a 38) (b 38)) (min (a 39) (b 39))) i) ∧ Own w wr ∧ Blk wr B (lz a) 26 ∧ Blk wr C (lz b) 26 ∧ Blk wr R (lz nul) 26 ∧ Blk wr A (lz f) 26) (fun vi _ _ _ _ _ _ => 6 - (intOf vi).toNat)
          case atStart => exact ⟨0, fz, rfl, by omega, fun i hi => absurd hi (by omega), fun j hj => absurd hj (by omega), HFZ.out, g0, HB.out, HC.out, HR.out, HA.out⟩
          case round =>
            clear g0 HB HC HR HA HFZ
            obtain ⟨k, f, rfl, hk, hz, hf, hg, g0, hb, hc, hr, ha⟩ := hrel
            have HZ := Lib.hid hz
            have HF := Lib.hid hf
            have HG := Lib.hid hg
            have HB := Lib.hid hb
            have HC := Lib.hid hc
            have HR := Lib.hid hr
            have HA := Lib.hid ha
            clear hz hf hb hc hr ha hg
            by_cases hlt : k < 6
            · have hkn : (k : Int) < 6 := by omega
              have HLA := Lib.hid (lb_lim HB.out hlt)
              have HLB := Lib.hid (lb_lim HC.out hlt)
              have hx := HOA.out k hlt
              have hy := HOB.out k hlt
              obtain ⟨x, hxx⟩ : ∃ x, lim a k = x := ⟨_, rfl⟩
              obtain ⟨y, hyy⟩ : ∃ y, lim b k = y := ⟨_, rfl⟩
              rw [hxx] at HLA hx
              rw [hyy] at HLB hy
              have HXX := Lib.hid hxx
              have HYY := Lib.hid hyy
              obtain ⟨fr, hfr⟩ : ∃ v, srF x y = v := ⟨_, rfl⟩
              obtain ⟨wi, hwi⟩ : ∃ v, srW x y = v := ⟨_, rfl⟩
              have HSE := Lib.hid (show srF x y = fr ∧ srW x y = wi from ⟨hfr, hwi⟩)
              have HBLI := Lib.hid (bld_li (max (x 0) (y 0)) (min (x 1) (y 1)) fr wi (min (x 4) (y 4)) (min (x 5) (y 5)))
              clear hxx hyy hfr hwi
              go_upto_region 11 with (fail)
              refine RegD.region_duty2 [54, 55, 56, 57, 58, 59, 60, 61, 10, 11] 10 8 10 11 9 11 (RegI.upd (RegI.upd (RegI.upd (RegI.upd (RegI.upd (RegI.upd (RegI.upd (RegI.upd (fun _ => undef) 54 (.int .i64 (k : Int))) 55 (.pointer (some ⟨B, 0, none⟩))) 56 (.pointer (some ⟨B, k * 6, none⟩))) 57 (.agg (cz 6 x))) 58 (.int .i64 (k : Int))) 59 (.pointer (some ⟨C, 0, none⟩))) 60 (.pointer (some ⟨C, k * 6, none⟩))) 61 (.agg (cz 6 y))) (#[.int .i64 0, .int .i64 0, .int .i64 0, .int .i64 0, .int .i64 0, .int .i64 0]) (cz 6 x) 23 (#[.int .i64 0, .int .i64 0, .int .i64 0, .int .i64 0, .int .i64 0, .int .i64 0]) (cz 6 y) 23 (by kernel_rfl) (by kernel_rfl) (by decide) (by intro d hd; simp at hd; simp; omega) ?_
              simp only [RegD.FF, RegI.FX, RegI.upd, List.foldl_cons, List.foldl_nil, List.mem_cons, List.not_mem_nil, if_true, if_false, Nat.reduceEqDiff, or_false, or_true]
              simp only [List.setIfInBounds_toArray, List.set_cons_succ, List.set_cons_zero]
              refine And.intro ?hs1 ?he1
              case hs1 =>
                refine And.intro ?s1_0 (And.intro ?s1_1 (And.intro ?s1_2 (And.intro ?s1_3 (And.intro ?s1_4 (And.intro ?s1_5 (And.intro ?s1_6 (And.intro ?s1_7 (And.intro ?s1_8 (And.intro ?s1_9 (And.intro ?s1_10 (And.intro ?s1_11 (trivial))))))))))))
                case s1_0 =>
                  refine RegD.step2_det (by decide) (by simp) (fun u w1 hO => ?_)
                  go_wp2
                  exact ⟨rfl, rfl, rfl, Own.refl _⟩
                case s1_1 =>
                  refine RegD.step2_det (by decide) (by simp) (fun u w1 hO => ?_)
                  go_wp2
                  exact ⟨rfl, rfl, rfl, Own.refl _⟩
                case s1_2 =>
                  refine RegD.step2_det (by decide) (by simp) (fun u w1 hO => ?_)
                  go_wp2
                  exact ⟨rfl, rfl, rfl, Own.refl _⟩
                case s1_3 =>
                  refine RegD.step2_det (by decide) (by simp) (fun u w1 hO => ?_)
                  have HB9 := Lib.hid (HLA.out.own hO)
                  go_wp2_with ((with_reducible show wpList _ _ _ (⟨_, .load 23 (.tmp 56), _, _, _, none⟩ :: _) _ _); refine wpList_load_lie rfl 23 (.tmp 56) rfl B (k * 6) rfl (cz 6 x) HB9.out _ Try.underlying23 rfl infoL ?_)
                  exact ⟨rfl, rfl, rfl, Own.refl _⟩
                case s1_4 =>
                  refine RegD.step2_det (by decide) (by simp) (fun u w1 hO => ?_)
                  go_wp2
                  exact ⟨rfl, rfl, rfl, Own.refl _⟩
                case s1_5 =>
                  refine RegD.step2_det (by decide) (by simp) (fun u w1 hO => ?_)
                  go_wp2
                  exact ⟨rfl, rfl, rfl, Own.refl _⟩
                case s1_6 =>
                  refine RegD.step2_det (by decide) (by simp) (fun u w1 hO => ?_)
                  go_wp2
                  exact ⟨rfl, rfl, rfl, Own.refl _⟩
                case s1_7 =>
                  refine RegD.step2_det (by decide) (by simp) (fun u w1 hO => ?_)
                  have HB9 := Lib.hid (HLB.out.own hO)
                  go_wp2_with ((with_reducible show wpList _ _ _ (⟨_, .load 23 (.tmp 60), _, _, _, none⟩ :: _) _ _); refine wpList_load_lie rfl 23 (.tmp 60) rfl C (k * 6) rfl (cz 6 y) HB9.out _ Try.underlying23 rfl infoL ?_)
                  exact ⟨rfl, rfl, rfl, Own.refl _⟩
                case s1_8 =>
                  refine RegD.step2_a1 rfl (fun u w1 hO => ?_)
                  go_wp2
                  exact ⟨rfl, rfl, rfl, rfl⟩
                case s1_9 =>
                  refine RegD.step2_a2 (by decide) rfl (fun u w1 hO => ?_)
                  go_wp2
                  exact ⟨rfl, rfl, rfl, rfl⟩
                case s1_10 =>
                  refine RegD.step2_s1 (by decide) rfl (by kernel_rfl) (fun u w1 N hO hu hN => ?_)
                  have HN := Lib.hid hN
                  simp only [hu]
                  clear hN
                  go_wp2_with ((with_reducible show wpList _ _ _ (⟨_, .store 23 (.tmp 10) (.tmp 57), _, _, _, none⟩ :: _) _ _); refine wpList_store_row rfl 23 (.tmp 10) (.tmp 57) rfl N (cz 6 (x)) rfl rfl 23 _ HN.out.raw infoL rfl (cz_one _ _) ?_)
                  exact ⟨rfl, rfl, rfl⟩
                case s1_11 =>
                  refine RegD.step2_s2 (by decide) rfl (by kernel_rfl) (fun u w1 N hO hu hN => ?_)
                  have HN := Lib.hid hN
                  simp only [hu]
                  clear hN
                  go_wp2_with ((with_reducible show wpList _ _ _ (⟨_, .store 23 (.tmp 11) (.tmp 61), _, _, _, none⟩ :: _) _ _); refine wpList_store_row rfl 23 (.tmp 11) (.tmp 61) rfl N (cz 6 (y)) rfl rfl 23 _ HN.out.raw infoL rfl (cz_one _ _) ?_)
                  exact ⟨rfl, rfl, rfl⟩
              intro u w8 U Y hO hu1 hu2 _hne9 hB9 hb1 hb2
              simp only [hu1, hu2]
              have HU := Lib.hid hb1
              have HY := Lib.hid hb2
              replace g0 := g0.trans hO
              replace HB := Lib.hid (HB.out.own hO)
              replace HC := Lib.hid (HC.out.own hO)
              replace HR := Lib.hid (HR.out.own hO)
              replace HA := Lib.hid (HA.out.own hO)
              clear hO hu1 hu2 _hne9 hB9 hb1 hb2 HLA HLB
              go_upto_region 13 with (first | ((with_reducible show wpList _ _ _ (⟨_, .load 23 (.tmp 10), _, _, _, none⟩ :: _) _ _); refine wpList_load_row rfl 23 (.tmp 10) rfl U rfl 23 _ (0, 0) _ HU.out.raw Try.underlying23 rfl infoL ?_) | ((with_reducible show wpList _ _ _ (⟨_, .load 23 (.tmp 11), _, _, _, none⟩ :: _) _ _); refine wpList_load_row rfl 23 (.tmp 11) rfl Y rfl 23 _ (0, 0) _ HY.out.raw Try.underlying23 rfl infoL ?_) | (go_at_call 41; with_reducible refine (rsec_at x y fr wi _ hx hy HSE).mono ?_; rintro r w9 ⟨rfl, hg⟩; replace g0 := g0.trans hg; replace HB := Lib.hid (HB.out.own hg); replace HC := Lib.hid (HC.out.own hg); replace HR := Lib.hid (HR.out.own hg); replace HA := Lib.hid (HA.out.own hg); replace HU := Lib.hid (HU.out.own hg); replace HY := Lib.hid (HY.out.own hg); clear hg))
              have b0 := blk_num HU.out (i := 0) (by omega)
              have c0 := blk_num HY.out (i := 0) (by omega)
              have b1 := blk_num HU.out (i := 1) (by omega)
              have c1 := blk_num HY.out (i := 1) (by omega)
              have b4 := blk_num HU.out (i := 4) (by omega)
              have c4 := blk_num HY.out (i := 4) (by omega)
              have b5 := blk_num HU.out (i := 5) (by omega)
              have c5 := blk_num HY.out (i := 5) (by omega)
              have hm0 := fun (w : World) (ts : Array TypeId) (t : TypeId) => max2_at (P := Try.prog) (x 0) (y 0) w ts t
              have hm1 := fun (w : World) (ts : Array TypeId) (t : TypeId) => min2_at (P := Try.prog) (x 1) (y 1) w ts t
              have hm4 := fun (w : World) (ts : Array TypeId) (t : TypeId) => min2_at (P := Try.prog) (x 4) (y 4) w ts t
              have hm5 := fun (w : World) (ts : Array TypeId) (t : TypeId) => min2_at (P := Try.prog) (x 5) (y 5) w ts t
              go_upto_region 14 with (first | ((with_reducible show wpList _ _ _ (⟨_, .build 23 _, _, _, _, _⟩ :: _) _ _); refine wpList_build_as rfl 23 [(0, .tmp 72), (1, .tmp 77), (2, .tmp 78), (3, .tmp 79), (4, .tmp 84), (5, .tmp 89)] rfl [(0, .int .i64 (max (x 0) (y 0))), (1, .int .i64 (min (x 1) (y 1))), (2, .int .i64 fr), (3, .int .i64 wi), (4, .int .i64 (min (x 4) (y 4))), (5, .int .i64 (min (x 5) (y 5)))] rfl (cz 6 (l6 (max (x 0) (y 0)) (min (x 1) (y 1)) (fr) (wi) (min (x 4) (y 4)) (min (x 5) (y 5)))) (HBLI.out) ?_) | ((with_reducible show wpList _ _ _ (⟨_, .store 23 (.tmp 14) (.tmp 90), _, _, _, none⟩ :: _) _ _); refine wpList_store_row rfl 23 (.tmp 14) (.tmp 90) rfl _ (cz 6 (l6 (max (x 0) (y 0)) (min (x 1) (y 1)) (fr) (wi) (min (x 4) (y 4)) (min (x 5) (y 5)))) rfl rfl 23 _ (heap_new _ _) infoL rfl (cz_one _ _) ?_; rw [World.setRow_alloc_new]))
              clear hm0 hm1 hm4 hm5 b0 b1 b4 b5 c0 c1 c4 c5 HBLI HU HY
              obtain ⟨w10, N, hW, hBq, hb, hg, Ng⟩ := blk_new w9 (cz 6 (l6 (max (x 0) (y 0)) (min (x 1) (y 1)) (fr) (wi) (min (x 4) (y 4)) (min (x 5) (y 5)))) 23
              rw [hW, hBq]
              have HN := Lib.hid hb
              replace g0 := g0.trans hg
              replace HB := Lib.hid (HB.out.own hg)
              replace HC := Lib.hid (HC.out.own hg)
              replace HR := Lib.hid (HR.out.own hg)
              replace HA := Lib.hid (HA.out.own hg)
              clear hW hBq hb hg
              have n0 : w10.cell? ⟨N, 0, none⟩ = some (.int .i64 (max (x 0) (y 0))) := blk_num HN.out (i := 0) (by omega)
              have n1 : w10.cell? ⟨N, 1, none⟩ = some (.int .i64 (min (x 1) (y 1))) := blk_num HN.out (i := 1) (by omega)
              clear Ng
              by_cases hl : max (x 0) (y 0) ≤ min (x 1) (y 1) ∧ f0 x y ≤ (x 3).toNat
              · have d1 : decide (min (x 1) (y 1) < max (x 0) (y 0)) = false := decide_eq_false (by omega)
                have d2 : decide (wi < 0) = false := decide_eq_false (fun h => (sr_is x y).1.1 (by rw [HSE.out.2]; exact h) hl.2)
                have ee : nrE x y = 0 := if_pos hl
                have e5 : nrV x y = l6 (max (x 0) (y 0)) (min (x 1) (y 1)) (fr) (wi) (min (x 4) (y 4)) (min (x 5) (y 5)) := by
                  rw [show nrV x y = nrS x y from if_pos ee]
                  obtain ⟨q1, q2⟩ := (sr_is x y).2 hl.2
                  rw [← HSE.out.1, ← HSE.out.2, q1, q2]
                  rfl
                generalize l6 (max (x 0) (y 0)) (min (x 1) (y 1)) (fr) (wi) (min (x 4) (y 4)) (min (x 5) (y 5)) = v at *
                have HZ2 := Lib.hid (show ∀ i, i < k + 1 → nrE (lim a i) (lim b i) = 0 from fun i hi => by
                  by_cases e : i = k
                  · rw [e, HXX.out, HYY.out]; exact ee
                  · exact HZ.out i (by omega))
                have HF2 := Lib.hid (nw_next hlt HF.out (show nrV (lim a k) (lim b k) = v by rw [HXX.out, HYY.out]; exact e5))
                have HG2 := Lib.hid (show ∀ i, 36 ≤ i → put f (k * 6) 6 v i = (mkL nul (decide (b 36 = 1)) (decide (b 37 = 1)) (min (a 38) (b 38)) (min (a 39) (b 39))) i from fun i hi => (put_high hlt hi).trans (HG.out i hi))
                clear HZ HF HG HXX HYY HSE ee e5 hl hx hy
                go_upto_region 10 with (first | ((with_reducible show wpList _ _ _ (⟨_, .load 23 (.tmp 14), _, _, _, none⟩ :: _) _ _); refine wpList_load_row rfl 23 (.tmp 14) rfl N rfl 23 _ (0, 0) _ HN.out.raw Try.underlying23 rfl infoL ?_) | ((with_reducible show wpList _ _ _ (⟨_, .store 23 (.tmp 104) (.tmp 102), _, _, _, none⟩ :: _) _ _); refine wpList_store_fam fam_lz rfl 23 (.tmp 104) (.tmp 102) rfl A (k * 6) 6 (v) rfl (cz 6 v) rfl rfl HA.out (by omega) infoL ?_))
                have hb9 := HA.out.row (lz (put f (k * 6) 6 v))
                have h9HB := HB.out.rowfar hneB (lz (put f (k * 6) 6 v))
                have h9HC := HC.out.rowfar hneC (lz (put f (k * 6) 6 v))
                have h9HR := HR.out.rowfar hneR (lz (put f (k * 6) 6 v))
                replace g0 := own_setRow g0 hA0 (lz (put f (k * 6) 6 v))
                clear HA HB HC HR
                generalize w10.setRow A (lz (put f (k * 6) 6 v)) = w11 at *
                have HA := Lib.hid hb9
                have HB := Lib.hid h9HB
                have HC := Lib.hid h9HC
                have HR := Lib.hid h9HR
                clear hb9 h9HB h9HC h9HR
                go_wp2
                go_roundw
                case rel => exact ⟨k + 1, _, by go_num, hlt, HZ2.out, HF2.out, HG2.out, g0, HB.out, HC.out, HR.out, HA.out⟩
                case measure => simp [intOf]; omega
              · have ee : nrE x y = 25 := if_neg hl
                have e1 : nwE a b = 25 := nw_lim HC1.out HC2.out hlt (by rw [HXX.out, HYY.out, ee]; decide)
                obtain rfl : 25 = e := e1.symm.trans HE1.out
                have H1 := Lib.hid (show lz nul = lz r by rw [← nw_nul (by rw [e1]; decide)]; exact HR1.out)
                have hw := (sr_is x y).1
                rw [HSE.out.2] at hw
                by_cases hl1 : max (x 0) (y 0) ≤ min (x 1) (y 1)
                · have d1 : decide (min (x 1) (y 1) < max (x 0) (y 0)) = false := decide_eq_false (by omega)
                  have d2 : decide (wi < 0) = true := decide_eq_true (hw.2 (fun h => hl ⟨hl1, h⟩))
                  clear e1 ee hl hl1 hw HZ HF HG HXX HYY HSE HE1 HR1 HA HB HC HN hx hy
                  go_wp2_with ((with_reducible show wpList _ _ _ (⟨_, .store 26 (.tmp 4) (.tmp 100), _, _, _, none⟩ :: _) _ _); refine wpList_store_row rfl 26 (.tmp 4) (.tmp 100) rfl R (lz (nul)) rfl (congrArg Value.agg lz_nul) 26 _ HR.out.raw infoLs rfl (lz_one _) ?_)
                  have hp := HR.out.row (lz nul)
                  exact bodyPost_ret (blk_results rfl rfl rfl hp Try.underlying26 rfl infoLs) rfl ⟨(by rw [H1.out]; rfl), own_setRow g0 hR0 _⟩
                · have d1 : decide (min (x 1) (y 1) < max (x 0) (y 0)) = true := decide_eq_true (by omega)
                  clear e1 ee hl hl1 hw HZ HF HG HXX HYY HSE HE1 HR1 HA HB HC HN hx hy
                  go_wp2_with ((with_reducible show wpList _ _ _ (⟨_, .store 26 (.tmp 4) (.tmp 100), _, _, _, none⟩ :: _) _ _); refine wpList_store_row rfl 26 (.tmp 4) (.tmp 100) rfl R (lz (nul)) rfl (congrArg Value.agg lz_nul) 26 _ HR.out.raw infoLs rfl (lz_one _) ?_)
                  have hp := HR.out.row (lz nul)
                  exact bodyPost_ret (blk_results rfl rfl rfl hp Try.underlying26 rfl infoLs) rfl ⟨(by rw [H1.out]; rfl), own_setRow g0 hR0 _⟩
            · obtain rfl : k = 6 := by omega
              obtain ⟨e1, e2⟩ := nw_ok HC1.out HC2.out HZ.out
              obtain rfl : 0 = e := e1.symm.trans HE1.out
              have H1 := Lib.hid (show lz f = lz r by rw [mk_end HF.out HG.out HPV.out HQV.out, ← e2]; exact HR1.out)
              clear e1 e2 HE1 HR1 HZ HF HG HB HC
              go_wp2_with (first | ((with_reducible show wpList _ _ _ (⟨_, .load 26 (.tmp 8), _, _, _, none⟩ :: _) _ _); refine wpList_load_row rfl 26 (.tmp 8) rfl A rfl 26 _ (0, 0) _ HA.out.raw Try.underlying26 rfl infoLs ?_) | ((with_reducible show wpList _ _ _ (⟨_, .store 26 (.tmp 4) (.tmp 105), _, _, _, none⟩ :: _) _ _); refine wpList_store_row rfl 26 (.tmp 4) (.tmp 105) rfl R (lz (f)) rfl rfl 26 _ HR.out.raw infoLs rfl (lz_one _) ?_))
              have hz := HR.out.row (lz f)
              exact bodyPost_ret (blk_results rfl rfl rfl hz Try.underlying26 rfl infoLs) rfl ⟨(by rw [H1.out]; rfl), own_setRow g0 hR0 _⟩
        · have HBL := Lib.hid (bld_l0 (decide (b 36 = 1)) (false) (min (a 38) (b 38)) (min (a 39) (b 39)))
          have HPV := Lib.hid (show (decide (b 36 = 1)) = (decide (a 36 = 1) && decide (b 36 = 1)) by rw [decide_eq_true hp]; rfl)
          have HQV := Lib.hid (show (false) = (decide (a 37 = 1) && decide (b 37 = 1)) by rw [decide_eq_false hq]; rfl)
          rw [decide_eq_true hp] at k36
          rw [decide_eq_false hq] at k37
          clear hp hq
          go_upto_region 8 with (first | ((with_reducible show wpList _ _ _ (⟨_, .build 26 _, _, _, _, _⟩ :: _) _ _); refine wpList_build_as rfl 26 [(1, .tmp 32), (2, .tmp 38), (3, .tmp 43), (4, .tmp 48)] rfl [(1, .bool (decide (b 36 = 1))), (2, .bool (false)), (3, .int .i64 (min (a 38) (b 38))), (4, .int .i64 (min (a 39) (b 39)))] rfl (lz (mkL nul (decide (b 36 = 1)) (false) (min (a 38) (b 38)) (min (a 39) (b 39)))) (HBL.out) ?_) | ((with_reducible show wpList _ _ _ (⟨_, .store 26 (.tmp 8) (.tmp 49), _, _, _, none⟩ :: _) _ _); refine wpList_store_row rfl 26 (.tmp 8) (.tmp 49) rfl _ (lz (mkL nul (decide (b 36 = 1)) (false) (min (a 38) (b 38)) (min (a 39) (b 39)))) rfl rfl 26 _ (heap_new _ _) infoLs rfl (lz_one _) ?_; rw [World.setRow_alloc_new]))
          clear HBL k36 k37 k38 k39 m36 m37 m38 m39 hm3 hm4
          obtain ⟨w3, A, hW, hAq, ha, hg, hA0⟩ := blk_new w2 (lz (mkL nul (decide (b 36 = 1)) (false) (min (a 38) (b 38)) (min (a 39) (b 39)))) 26
          rw [hW, hAq]
          have HA := Lib.hid ha
          replace hA0 : w.heap.size ≤ A := Nat.le_trans g0.size hA0
          replace g0 := g0.trans hg
          have hneB : B ≠ A := fun e => by have := HB.out.lt; omega
          have hneC : C ≠ A := fun e => by have := HC.out.lt; omega
          have hneR : R ≠ A := fun e => by have := HR.out.lt; omega
          replace HB := Lib.hid (HB.out.own hg)
          replace HC := Lib.hid (HC.out.own hg)
          replace HR := Lib.hid (HR.out.own hg)
          clear hW hAq ha hg
          obtain ⟨fz, hfz⟩ : ∃ f, mkL nul (decide (b 36 = 1)) (false) (min (a 38) (b 38)) (min (a 39) (b 39)) = f := ⟨_, rfl⟩
          have HFZ := Lib.hid (show ∀ i, 36 ≤ i → fz i = (mkL nul (decide (b 36 = 1)) (false) (min (a 38) (b 38)) (min (a 39) (b 39))) i from fun i _ => by rw [hfz])
          rw [hfz] at HA
          clear hfz
          go_wp2
          go_loopw [9, 10, 11, 12, 13, 14] (fun vi _ _ _ _ _ wr => ∃ (k : Nat) (f : Vl), vi = .int .i64 (k : Int) ∧ k ≤ 6 ∧ (∀ i, i < k → nrE (lim a i) (lim b i) = 0) ∧ (∀ j, j < k * 6 → f j = nwS a b j) ∧ (∀ i, 36 ≤ i → f i = (mkL nul (decide (b 36 = 1)) (false) (min (a 38) (b 38)) (min (a 39) (b 39))) i) ∧ Own w wr ∧ Blk wr B (lz a) 26 ∧ Blk wr C (lz b) 26 ∧ Blk wr R (lz nul) 26 ∧ Blk wr A (lz f) 26) (fun vi _ _ _ _ _ _ => 6 - (intOf vi).toNat)
          case atStart => exact ⟨0, fz, rfl, by omega, fun i hi => absurd hi (by omega), fun j hj => absurd hj (by omega), HFZ.out, g0, HB.out, HC.out, HR.out, HA.out⟩
          case round =>
            clear g0 HB HC HR HA HFZ
            obtain ⟨k, f, rfl, hk, hz, hf, hg, g0, hb, hc, hr, ha⟩ := hrel
            have HZ := Lib.hid hz
            have HF := Lib.hid hf
            have HG := Lib.hid hg
            have HB := Lib.hid hb
            have HC := Lib.hid hc
            have HR := Lib.hid hr
            have HA := Lib.hid ha
            clear hz hf hb hc hr ha hg
            by_cases hlt : k < 6
            · have hkn : (k : Int) < 6 := by omega
              have HLA := Lib.hid (lb_lim HB.out hlt)
              have HLB := Lib.hid (lb_lim HC.out hlt)
              have hx := HOA.out k hlt
              have hy := HOB.out k hlt
              obtain ⟨x, hxx⟩ : ∃ x, lim a k = x := ⟨_, rfl⟩
              obtain ⟨y, hyy⟩ : ∃ y, lim b k = y := ⟨_, rfl⟩
              rw [hxx] at HLA hx
              rw [hyy] at HLB hy
              have HXX := Lib.hid hxx
              have HYY := Lib.hid hyy
              obtain ⟨fr, hfr⟩ : ∃ v, srF x y = v := ⟨_, rfl⟩
              obtain ⟨wi, hwi⟩ : ∃ v, srW x y = v := ⟨_, rfl⟩
              have HSE := Lib.hid (show srF x y = fr ∧ srW x y = wi from ⟨hfr, hwi⟩)
              have HBLI := Lib.hid (bld_li (max (x 0) (y 0)) (min (x 1) (y 1)) fr wi (min (x 4) (y 4)) (min (x 5) (y 5)))
              clear hxx hyy hfr hwi
              go_upto_region 11 with (fail)
              refine RegD.region_duty2 [54, 55, 56, 57, 58, 59, 60, 61, 10, 11] 10 8 10 11 9 11 (RegI.upd (RegI.upd (RegI.upd (RegI.upd (RegI.upd (RegI.upd (RegI.upd (RegI.upd (fun _ => undef) 54 (.int .i64 (k : Int))) 55 (.pointer (some ⟨B, 0, none⟩))) 56 (.pointer (some ⟨B, k * 6, none⟩))) 57 (.agg (cz 6 x))) 58 (.int .i64 (k : Int))) 59 (.pointer (some ⟨C, 0, none⟩))) 60 (.pointer (some ⟨C, k * 6, none⟩))) 61 (.agg (cz 6 y))) (#[.int .i64 0, .int .i64 0, .int .i64 0, .int .i64 0, .int .i64 0, .int .i64 0]) (cz 6 x) 23 (#[.int .i64 0, .int .i64 0, .int .i64 0, .int .i64 0, .int .i64 0, .int .i64 0]) (cz 6 y) 23 (by kernel_rfl) (by kernel_rfl) (by decide) (by intro d hd; simp at hd; simp; omega) ?_
              simp only [RegD.FF, RegI.FX, RegI.upd, List.foldl_cons, List.foldl_nil, List.mem_cons, List.not_mem_nil, if_true, if_false, Nat.reduceEqDiff, or_false, or_true]
              simp only [List.setIfInBounds_toArray, List.set_cons_succ, List.set_cons_zero]
              refine And.intro ?hs2 ?he2
              case hs2 =>
                refine And.intro ?s2_0 (And.intro ?s2_1 (And.intro ?s2_2 (And.intro ?s2_3 (And.intro ?s2_4 (And.intro ?s2_5 (And.intro ?s2_6 (And.intro ?s2_7 (And.intro ?s2_8 (And.intro ?s2_9 (And.intro ?s2_10 (And.intro ?s2_11 (trivial))))))))))))
                case s2_0 =>
                  refine RegD.step2_det (by decide) (by simp) (fun u w1 hO => ?_)
                  go_wp2
                  exact ⟨rfl, rfl, rfl, Own.refl _⟩
                case s2_1 =>
                  refine RegD.step2_det (by decide) (by simp) (fun u w1 hO => ?_)
                  go_wp2
                  exact ⟨rfl, rfl, rfl, Own.refl _⟩
                case s2_2 =>
                  refine RegD.step2_det (by decide) (by simp) (fun u w1 hO => ?_)
                  go_wp2
                  exact ⟨rfl, rfl, rfl, Own.refl _⟩
                case s2_3 =>
                  refine RegD.step2_det (by decide) (by simp) (fun u w1 hO => ?_)
                  have HB9 := Lib.hid (HLA.out.own hO)
                  go_wp2_with ((with_reducible show wpList _ _ _ (⟨_, .load 23 (.tmp 56), _, _, _, none⟩ :: _) _ _); refine wpList_load_lie rfl 23 (.tmp 56) rfl B (k * 6) rfl (cz 6 x) HB9.out _ Try.underlying23 rfl infoL ?_)
                  exact ⟨rfl, rfl, rfl, Own.refl _⟩
                case s2_4 =>
                  refine RegD.step2_det (by decide) (by simp) (fun u w1 hO => ?_)
                  go_wp2
                  exact ⟨rfl, rfl, rfl, Own.refl _⟩
                case s2_5 =>
                  refine RegD.step2_det (by decide) (by simp) (fun u w1 hO => ?_)
                  go_wp2
                  exact ⟨rfl, rfl, rfl, Own.refl _⟩
                case s2_6 =>
                  refine RegD.step2_det (by decide) (by simp) (fun u w1 hO => ?_)
                  go_wp2
                  exact ⟨rfl, rfl, rfl, Own.refl _⟩
                case s2_7 =>
                  refine RegD.step2_det (by decide) (by simp) (fun u w1 hO => ?_)
                  have HB9 := Lib.hid (HLB.out.own hO)
                  go_wp2_with ((with_reducible show wpList _ _ _ (⟨_, .load 23 (.tmp 60), _, _, _, none⟩ :: _) _ _); refine wpList_load_lie rfl 23 (.tmp 60) rfl C (k * 6) rfl (cz 6 y) HB9.out _ Try.underlying23 rfl infoL ?_)
                  exact ⟨rfl, rfl, rfl, Own.refl _⟩
                case s2_8 =>
                  refine RegD.step2_a1 rfl (fun u w1 hO => ?_)
                  go_wp2
                  exact ⟨rfl, rfl, rfl, rfl⟩
                case s2_9 =>
                  refine RegD.step2_a2 (by decide) rfl (fun u w1 hO => ?_)
                  go_wp2
                  exact ⟨rfl, rfl, rfl, rfl⟩
                case s2_10 =>
                  refine RegD.step2_s1 (by decide) rfl (by kernel_rfl) (fun u w1 N hO hu hN => ?_)
                  have HN := Lib.hid hN
                  simp only [hu]
                  clear hN
                  go_wp2_with ((with_reducible show wpList _ _ _ (⟨_, .store 23 (.tmp 10) (.tmp 57), _, _, _, none⟩ :: _) _ _); refine wpList_store_row rfl 23 (.tmp 10) (.tmp 57) rfl N (cz 6 (x)) rfl rfl 23 _ HN.out.raw infoL rfl (cz_one _ _) ?_)
                  exact ⟨rfl, rfl, rfl⟩
                case s2_11 =>
                  refine RegD.step2_s2 (by decide) rfl (by kernel_rfl) (fun u w1 N hO hu hN => ?_)
                  have HN := Lib.hid hN
                  simp only [hu]
                  clear hN
                  go_wp2_with ((with_reducible show wpList _ _ _ (⟨_, .store 23 (.tmp 11) (.tmp 61), _, _, _, none⟩ :: _) _ _); refine wpList_store_row rfl 23 (.tmp 11) (.tmp 61) rfl N (cz 6 (y)) rfl rfl 23 _ HN.out.raw infoL rfl (cz_one _ _) ?_)
                  exact ⟨rfl, rfl, rfl⟩
              intro u w8 U Y hO hu1 hu2 _hne9 hB9 hb1 hb2
              simp only [hu1, hu2]
              have HU := Lib.hid hb1
              have HY := Lib.hid hb2
              replace g0 := g0.trans hO
              replace HB := Lib.hid (HB.out.own hO)
              replace HC := Lib.hid (HC.out.own hO)
              replace HR := Lib.hid (HR.out.own hO)
              replace HA := Lib.hid (HA.out.own hO)
              clear hO hu1 hu2 _hne9 hB9 hb1 hb2 HLA HLB
              go_upto_region 13 with (first | ((with_reducible show wpList _ _ _ (⟨_, .load 23 (.tmp 10), _, _, _, none⟩ :: _) _ _); refine wpList_load_row rfl 23 (.tmp 10) rfl U rfl 23 _ (0, 0) _ HU.out.raw Try.underlying23 rfl infoL ?_) | ((with_reducible show wpList _ _ _ (⟨_, .load 23 (.tmp 11), _, _, _, none⟩ :: _) _ _); refine wpList_load_row rfl 23 (.tmp 11) rfl Y rfl 23 _ (0, 0) _ HY.out.raw Try.underlying23 rfl infoL ?_) | (go_at_call 41; with_reducible refine (rsec_at x y fr wi _ hx hy HSE).mono ?_; rintro r w9 ⟨rfl, hg⟩; replace g0 := g0.trans hg; replace HB := Lib.hid (HB.out.own hg); replace HC := Lib.hid (HC.out.own hg); replace HR := Lib.hid (HR.out.own hg); replace HA := Lib.hid (HA.out.own hg); replace HU := Lib.hid (HU.out.own hg); replace HY := Lib.hid (HY.out.own hg); clear hg))
              have b0 := blk_num HU.out (i := 0) (by omega)
              have c0 := blk_num HY.out (i := 0) (by omega)
              have b1 := blk_num HU.out (i := 1) (by omega)
              have c1 := blk_num HY.out (i := 1) (by omega)
              have b4 := blk_num HU.out (i := 4) (by omega)
              have c4 := blk_num HY.out (i := 4) (by omega)
              have b5 := blk_num HU.out (i := 5) (by omega)
              have c5 := blk_num HY.out (i := 5) (by omega)
              have hm0 := fun (w : World) (ts : Array TypeId) (t : TypeId) => max2_at (P := Try.prog) (x 0) (y 0) w ts t
              have hm1 := fun (w : World) (ts : Array TypeId) (t : TypeId) => min2_at (P := Try.prog) (x 1) (y 1) w ts t
              have hm4 := fun (w : World) (ts : Array TypeId) (t : TypeId) => min2_at (P := Try.prog) (x 4) (y 4) w ts t
              have hm5 := fun (w : World) (ts : Array TypeId) (t : TypeId) => min2_at (P := Try.prog) (x 5) (y 5) w ts t
              go_upto_region 14 with (first | ((with_reducible show wpList _ _ _ (⟨_, .build 23 _, _, _, _, _⟩ :: _) _ _); refine wpList_build_as rfl 23 [(0, .tmp 72), (1, .tmp 77), (2, .tmp 78), (3, .tmp 79), (4, .tmp 84), (5, .tmp 89)] rfl [(0, .int .i64 (max (x 0) (y 0))), (1, .int .i64 (min (x 1) (y 1))), (2, .int .i64 fr), (3, .int .i64 wi), (4, .int .i64 (min (x 4) (y 4))), (5, .int .i64 (min (x 5) (y 5)))] rfl (cz 6 (l6 (max (x 0) (y 0)) (min (x 1) (y 1)) (fr) (wi) (min (x 4) (y 4)) (min (x 5) (y 5)))) (HBLI.out) ?_) | ((with_reducible show wpList _ _ _ (⟨_, .store 23 (.tmp 14) (.tmp 90), _, _, _, none⟩ :: _) _ _); refine wpList_store_row rfl 23 (.tmp 14) (.tmp 90) rfl _ (cz 6 (l6 (max (x 0) (y 0)) (min (x 1) (y 1)) (fr) (wi) (min (x 4) (y 4)) (min (x 5) (y 5)))) rfl rfl 23 _ (heap_new _ _) infoL rfl (cz_one _ _) ?_; rw [World.setRow_alloc_new]))
              clear hm0 hm1 hm4 hm5 b0 b1 b4 b5 c0 c1 c4 c5 HBLI HU HY
              obtain ⟨w10, N, hW, hBq, hb, hg, Ng⟩ := blk_new w9 (cz 6 (l6 (max (x 0) (y 0)) (min (x 1) (y 1)) (fr) (wi) (min (x 4) (y 4)) (min (x 5) (y 5)))) 23
              rw [hW, hBq]
              have HN := Lib.hid hb
              replace g0 := g0.trans hg
              replace HB := Lib.hid (HB.out.own hg)
              replace HC := Lib.hid (HC.out.own hg)
              replace HR := Lib.hid (HR.out.own hg)
              replace HA := Lib.hid (HA.out.own hg)
              clear hW hBq hb hg
              have n0 : w10.cell? ⟨N, 0, none⟩ = some (.int .i64 (max (x 0) (y 0))) := blk_num HN.out (i := 0) (by omega)
              have n1 : w10.cell? ⟨N, 1, none⟩ = some (.int .i64 (min (x 1) (y 1))) := blk_num HN.out (i := 1) (by omega)
              clear Ng
              by_cases hl : max (x 0) (y 0) ≤ min (x 1) (y 1) ∧ f0 x y ≤ (x 3).toNat
              · have d1 : decide (min (x 1) (y 1) < max (x 0) (y 0)) = false := decide_eq_false (by omega)
                have d2 : decide (wi < 0) = false := decide_eq_false (fun h => (sr_is x y).1.1 (by rw [HSE.out.2]; exact h) hl.2)
                have ee : nrE x y = 0 := if_pos hl
                have e5 : nrV x y = l6 (max (x 0) (y 0)) (min (x 1) (y 1)) (fr) (wi) (min (x 4) (y 4)) (min (x 5) (y 5)) := by
                  rw [show nrV x y = nrS x y from if_pos ee]
                  obtain ⟨q1, q2⟩ := (sr_is x y).2 hl.2
                  rw [← HSE.out.1, ← HSE.out.2, q1, q2]
                  rfl
                generalize l6 (max (x 0) (y 0)) (min (x 1) (y 1)) (fr) (wi) (min (x 4) (y 4)) (min (x 5) (y 5)) = v at *
                have HZ2 := Lib.hid (show ∀ i, i < k + 1 → nrE (lim a i) (lim b i) = 0 from fun i hi => by
                  by_cases e : i = k
                  · rw [e, HXX.out, HYY.out]; exact ee
                  · exact HZ.out i (by omega))
                have HF2 := Lib.hid (nw_next hlt HF.out (show nrV (lim a k) (lim b k) = v by rw [HXX.out, HYY.out]; exact e5))
                have HG2 := Lib.hid (show ∀ i, 36 ≤ i → put f (k * 6) 6 v i = (mkL nul (decide (b 36 = 1)) (false) (min (a 38) (b 38)) (min (a 39) (b 39))) i from fun i hi => (put_high hlt hi).trans (HG.out i hi))
                clear HZ HF HG HXX HYY HSE ee e5 hl hx hy
                go_upto_region 10 with (first | ((with_reducible show wpList _ _ _ (⟨_, .load 23 (.tmp 14), _, _, _, none⟩ :: _) _ _); refine wpList_load_row rfl 23 (.tmp 14) rfl N rfl 23 _ (0, 0) _ HN.out.raw Try.underlying23 rfl infoL ?_) | ((with_reducible show wpList _ _ _ (⟨_, .store 23 (.tmp 104) (.tmp 102), _, _, _, none⟩ :: _) _ _); refine wpList_store_fam fam_lz rfl 23 (.tmp 104) (.tmp 102) rfl A (k * 6) 6 (v) rfl (cz 6 v) rfl rfl HA.out (by omega) infoL ?_))
                have hb9 := HA.out.row (lz (put f (k * 6) 6 v))
                have h9HB := HB.out.rowfar hneB (lz (put f (k * 6) 6 v))
                have h9HC := HC.out.rowfar hneC (lz (put f (k * 6) 6 v))
                have h9HR := HR.out.rowfar hneR (lz (put f (k * 6) 6 v))
                replace g0 := own_setRow g0 hA0 (lz (put f (k * 6) 6 v))
                clear HA HB HC HR
                generalize w10.setRow A (lz (put f (k * 6) 6 v)) = w11 at *
                have HA := Lib.hid hb9
                have HB := Lib.hid h9HB
                have HC := Lib.hid h9HC
                have HR := Lib.hid h9HR
                clear hb9 h9HB h9HC h9HR
                go_wp2
                go_roundw
                case rel => exact ⟨k + 1, _, by go_num, hlt, HZ2.out, HF2.out, HG2.out, g0, HB.out, HC.out, HR.out, HA.out⟩
                case measure => simp [intOf]; omega
              · have ee : nrE x y = 25 := if_neg hl
                have e1 : nwE a b = 25 := nw_lim HC1.out HC2.out hlt (by rw [HXX.out, HYY.out, ee]; decide)
                obtain rfl : 25 = e := e1.symm.trans HE1.out
                have H1 := Lib.hid (show lz nul = lz r by rw [← nw_nul (by rw [e1]; decide)]; exact HR1.out)
                have hw := (sr_is x y).1
                rw [HSE.out.2] at hw
                by_cases hl1 : max (x 0) (y 0) ≤ min (x 1) (y 1)
                · have d1 : decide (min (x 1) (y 1) < max (x 0) (y 0)) = false := decide_eq_false (by omega)
                  have d2 : decide (wi < 0) = true := decide_eq_true (hw.2 (fun h => hl ⟨hl1, h⟩))
                  clear e1 ee hl hl1 hw HZ HF HG HXX HYY HSE HE1 HR1 HA HB HC HN hx hy
                  go_wp2_with ((with_reducible show wpList _ _ _ (⟨_, .store 26 (.tmp 4) (.tmp 100), _, _, _, none⟩ :: _) _ _); refine wpList_store_row rfl 26 (.tmp 4) (.tmp 100) rfl R (lz (nul)) rfl (congrArg Value.agg lz_nul) 26 _ HR.out.raw infoLs rfl (lz_one _) ?_)
                  have hp := HR.out.row (lz nul)
                  exact bodyPost_ret (blk_results rfl rfl rfl hp Try.underlying26 rfl infoLs) rfl ⟨(by rw [H1.out]; rfl), own_setRow g0 hR0 _⟩
                · have d1 : decide (min (x 1) (y 1) < max (x 0) (y 0)) = true := decide_eq_true (by omega)
                  clear e1 ee hl hl1 hw HZ HF HG HXX HYY HSE HE1 HR1 HA HB HC HN hx hy
                  go_wp2_with ((with_reducible show wpList _ _ _ (⟨_, .store 26 (.tmp 4) (.tmp 100), _, _, _, none⟩ :: _) _ _); refine wpList_store_row rfl 26 (.tmp 4) (.tmp 100) rfl R (lz (nul)) rfl (congrArg Value.agg lz_nul) 26 _ HR.out.raw infoLs rfl (lz_one _) ?_)
                  have hp := HR.out.row (lz nul)
                  exact bodyPost_ret (blk_results rfl rfl rfl hp Try.underlying26 rfl infoLs) rfl ⟨(by rw [H1.out]; rfl), own_setRow g0 hR0 _⟩
            · obtain rfl : k = 6 := by omega
              obtain ⟨e1, e2⟩ := nw_ok HC1.out HC2.out HZ.out
              obtain rfl : 0 = e := e1.symm.trans HE1.out
              have H1 := Lib.hid (show lz f = lz r by rw [mk_end HF.out HG.out HPV.out HQV.out, ← e2]; exact HR1.out)
              clear e1 e2 HE1 HR1 HZ HF HG HB HC
              go_wp2_with (first | ((with_reducible show wpList _ _ _ (⟨_, .load 26 (.tmp 8), _, _, _, none⟩ :: _) _ _); refine wpList_load_row rfl 26 (.tmp 8) rfl A rfl 26 _ (0, 0) _ HA.out.raw Try.underlying26 rfl infoLs ?_) | ((with_reducible show wpList _ _ _ (⟨_, .store 26 (.tmp 4) (.tmp 105), _, _, _, none⟩ :: _) _ _); refine wpList_store_row rfl 26 (.tmp 4) (.tmp 105) rfl R (lz (f)) rfl rfl 26 _ HR.out.raw infoLs rfl (lz_one _) ?_))
              have hz := HR.out.row (lz f)
              exact bodyPost_ret (blk_results rfl rfl rfl hz Try.underlying26 rfl infoLs) rfl ⟨(by rw [H1.out]; rfl), own_setRow g0 hR0 _⟩
      · by_cases hq : a 37 = 1
        · have HBL := Lib.hid (bld_l0 (false) (decide (b 37 = 1)) (min (a 38) (b 38)) (min (a 39) (b 39)))
          have HPV := Lib.hid (show (false) = (decide (a 36 = 1) && decide (b 36 = 1)) by rw [decide_eq_false hp]; rfl)
          have HQV := Lib.hid (show (decide (b 37 = 1)) = (decide (a 37 = 1) && decide (b 37 = 1)) by rw [decide_eq_true hq]; rfl)
          rw [decide_eq_false hp] at k36
          rw [decide_eq_true hq] at k37
          clear hp hq
          go_upto_region 8 with (first | ((with_reducible show wpList _ _ _ (⟨_, .build 26 _, _, _, _, _⟩ :: _) _ _); refine wpList_build_as rfl 26 [(1, .tmp 32), (2, .tmp 38), (3, .tmp 43), (4, .tmp 48)] rfl [(1, .bool (false)), (2, .bool (decide (b 37 = 1))), (3, .int .i64 (min (a 38) (b 38))), (4, .int .i64 (min (a 39) (b 39)))] rfl (lz (mkL nul (false) (decide (b 37 = 1)) (min (a 38) (b 38)) (min (a 39) (b 39)))) (HBL.out) ?_) | ((with_reducible show wpList _ _ _ (⟨_, .store 26 (.tmp 8) (.tmp 49), _, _, _, none⟩ :: _) _ _); refine wpList_store_row rfl 26 (.tmp 8) (.tmp 49) rfl _ (lz (mkL nul (false) (decide (b 37 = 1)) (min (a 38) (b 38)) (min (a 39) (b 39)))) rfl rfl 26 _ (heap_new _ _) infoLs rfl (lz_one _) ?_; rw [World.setRow_alloc_new]))
          clear HBL k36 k37 k38 k39 m36 m37 m38 m39 hm3 hm4
          obtain ⟨w3, A, hW, hAq, ha, hg, hA0⟩ := blk_new w2 (lz (mkL nul (false) (decide (b 37 = 1)) (min (a 38) (b 38)) (min (a 39) (b 39)))) 26
          rw [hW, hAq]
          have HA := Lib.hid ha
          replace hA0 : w.heap.size ≤ A := Nat.le_trans g0.size hA0
          replace g0 := g0.trans hg
          have hneB : B ≠ A := fun e => by have := HB.out.lt; omega
          have hneC : C ≠ A := fun e => by have := HC.out.lt; omega
          have hneR : R ≠ A := fun e => by have := HR.out.lt; omega
          replace HB := Lib.hid (HB.out.own hg)
          replace HC := Lib.hid (HC.out.own hg)
          replace HR := Lib.hid (HR.out.own hg)
          clear hW hAq ha hg
          obtain ⟨fz, hfz⟩ : ∃ f, mkL nul (false) (decide (b 37 = 1)) (min (a 38) (b 38)) (min (a 39) (b 39)) = f := ⟨_, rfl⟩
          have HFZ := Lib.hid (show ∀ i, 36 ≤ i → fz i = (mkL nul (false) (decide (b 37 = 1)) (min (a 38) (b 38)) (min (a 39) (b 39))) i from fun i _ => by rw [hfz])
          rw [hfz] at HA
          clear hfz
          go_wp2
          go_loopw [9, 10, 11, 12, 13, 14] (fun vi _ _ _ _ _ wr => ∃ (k : Nat) (f : Vl), vi = .int .i64 (k : Int) ∧ k ≤ 6 ∧ (∀ i, i < k → nrE (lim a i) (lim b i) = 0) ∧ (∀ j, j < k * 6 → f j = nwS a b j) ∧ (∀ i, 36 ≤ i → f i = (mkL nul (false) (decide (b 37 = 1)) (min (a 38) (b 38)) (min (a 39) (b 39))) i) ∧ Own w wr ∧ Blk wr B (lz a) 26 ∧ Blk wr C (lz b) 26 ∧ Blk wr R (lz nul) 26 ∧ Blk wr A (lz f) 26) (fun vi _ _ _ _ _ _ => 6 - (intOf vi).toNat)
          case atStart => exact ⟨0, fz, rfl, by omega, fun i hi => absurd hi (by omega), fun j hj => absurd hj (by omega), HFZ.out, g0, HB.out, HC.out, HR.out, HA.out⟩
          case round =>
            clear g0 HB HC HR HA HFZ
            obtain ⟨k, f, rfl, hk, hz, hf, hg, g0, hb, hc, hr, ha⟩ := hrel
            have HZ := Lib.hid hz
            have HF := Lib.hid hf
            have HG := Lib.hid hg
            have HB := Lib.hid hb
            have HC := Lib.hid hc
            have HR := Lib.hid hr
            have HA := Lib.hid ha
            clear hz hf hb hc hr ha hg
            by_cases hlt : k < 6
            · have hkn : (k : Int) < 6 := by omega
              have HLA := Lib.hid (lb_lim HB.out hlt)
              have HLB := Lib.hid (lb_lim HC.out hlt)
              have hx := HOA.out k hlt
              have hy := HOB.out k hlt
              obtain ⟨x, hxx⟩ : ∃ x, lim a k = x := ⟨_, rfl⟩
              obtain ⟨y, hyy⟩ : ∃ y, lim b k = y := ⟨_, rfl⟩
              rw [hxx] at HLA hx
              rw [hyy] at HLB hy
              have HXX := Lib.hid hxx
              have HYY := Lib.hid hyy
              obtain ⟨fr, hfr⟩ : ∃ v, srF x y = v := ⟨_, rfl⟩
              obtain ⟨wi, hwi⟩ : ∃ v, srW x y = v := ⟨_, rfl⟩
              have HSE := Lib.hid (show srF x y = fr ∧ srW x y = wi from ⟨hfr, hwi⟩)
              have HBLI := Lib.hid (bld_li (max (x 0) (y 0)) (min (x 1) (y 1)) fr wi (min (x 4) (y 4)) (min (x 5) (y 5)))
              clear hxx hyy hfr hwi
              go_upto_region 11 with (fail)
              refine RegD.region_duty2 [54, 55, 56, 57, 58, 59, 60, 61, 10, 11] 10 8 10 11 9 11 (RegI.upd (RegI.upd (RegI.upd (RegI.upd (RegI.upd (RegI.upd (RegI.upd (RegI.upd (fun _ => undef) 54 (.int .i64 (k : Int))) 55 (.pointer (some ⟨B, 0, none⟩))) 56 (.pointer (some ⟨B, k * 6, none⟩))) 57 (.agg (cz 6 x))) 58 (.int .i64 (k : Int))) 59 (.pointer (some ⟨C, 0, none⟩))) 60 (.pointer (some ⟨C, k * 6, none⟩))) 61 (.agg (cz 6 y))) (#[.int .i64 0, .int .i64 0, .int .i64 0, .int .i64 0, .int .i64 0, .int .i64 0]) (cz 6 x) 23 (#[.int .i64 0, .int .i64 0, .int .i64 0, .int .i64 0, .int .i64 0, .int .i64 0]) (cz 6 y) 23 (by kernel_rfl) (by kernel_rfl) (by decide) (by intro d hd; simp at hd; simp; omega) ?_
              simp only [RegD.FF, RegI.FX, RegI.upd, List.foldl_cons, List.foldl_nil, List.mem_cons, List.not_mem_nil, if_true, if_false, Nat.reduceEqDiff, or_false, or_true]
              simp only [List.setIfInBounds_toArray, List.set_cons_succ, List.set_cons_zero]
              refine And.intro ?hs3 ?he3
              case hs3 =>
                refine And.intro ?s3_0 (And.intro ?s3_1 (And.intro ?s3_2 (And.intro ?s3_3 (And.intro ?s3_4 (And.intro ?s3_5 (And.intro ?s3_6 (And.intro ?s3_7 (And.intro ?s3_8 (And.intro ?s3_9 (And.intro ?s3_10 (And.intro ?s3_11 (trivial))))))))))))
                case s3_0 =>
                  refine RegD.step2_det (by decide) (by simp) (fun u w1 hO => ?_)
                  go_wp2
                  exact ⟨rfl, rfl, rfl, Own.refl _⟩
                case s3_1 =>
                  refine RegD.step2_det (by decide) (by simp) (fun u w1 hO => ?_)
                  go_wp2
                  exact ⟨rfl, rfl, rfl, Own.refl _⟩
                case s3_2 =>
                  refine RegD.step2_det (by decide) (by simp) (fun u w1 hO => ?_)
                  go_wp2
                  exact ⟨rfl, rfl, rfl, Own.refl _⟩
                case s3_3 =>
                  refine RegD.step2_det (by decide) (by simp) (fun u w1 hO => ?_)
                  have HB9 := Lib.hid (HLA.out.own hO)
                  go_wp2_with ((with_reducible show wpList _ _ _ (⟨_, .load 23 (.tmp 56), _, _, _, none⟩ :: _) _ _); refine wpList_load_lie rfl 23 (.tmp 56) rfl B (k * 6) rfl (cz 6 x) HB9.out _ Try.underlying23 rfl infoL ?_)
                  exact ⟨rfl, rfl, rfl, Own.refl _⟩
                case s3_4 =>
                  refine RegD.step2_det (by decide) (by simp) (fun u w1 hO => ?_)
                  go_wp2
                  exact ⟨rfl, rfl, rfl, Own.refl _⟩
                case s3_5 =>
                  refine RegD.step2_det (by decide) (by simp) (fun u w1 hO => ?_)
                  go_wp2
                  exact ⟨rfl, rfl, rfl, Own.refl _⟩
                case s3_6 =>
                  refine RegD.step2_det (by decide) (by simp) (fun u w1 hO => ?_)
                  go_wp2
                  exact ⟨rfl, rfl, rfl, Own.refl _⟩
                case s3_7 =>
                  refine RegD.step2_det (by decide) (by simp) (fun u w1 hO => ?_)
                  have HB9 := Lib.hid (HLB.out.own hO)
                  go_wp2_with ((with_reducible show wpList _ _ _ (⟨_, .load 23 (.tmp 60), _, _, _, none⟩ :: _) _ _); refine wpList_load_lie rfl 23 (.tmp 60) rfl C (k * 6) rfl (cz 6 y) HB9.out _ Try.underlying23 rfl infoL ?_)
                  exact ⟨rfl, rfl, rfl, Own.refl _⟩
                case s3_8 =>
                  refine RegD.step2_a1 rfl (fun u w1 hO => ?_)
                  go_wp2
                  exact ⟨rfl, rfl, rfl, rfl⟩
                case s3_9 =>
                  refine RegD.step2_a2 (by decide) rfl (fun u w1 hO => ?_)
                  go_wp2
                  exact ⟨rfl, rfl, rfl, rfl⟩
                case s3_10 =>
                  refine RegD.step2_s1 (by decide) rfl (by kernel_rfl) (fun u w1 N hO hu hN => ?_)
                  have HN := Lib.hid hN
                  simp only [hu]
                  clear hN
                  go_wp2_with ((with_reducible show wpList _ _ _ (⟨_, .store 23 (.tmp 10) (.tmp 57), _, _, _, none⟩ :: _) _ _); refine wpList_store_row rfl 23 (.tmp 10) (.tmp 57) rfl N (cz 6 (x)) rfl rfl 23 _ HN.out.raw infoL rfl (cz_one _ _) ?_)
                  exact ⟨rfl, rfl, rfl⟩
                case s3_11 =>
                  refine RegD.step2_s2 (by decide) rfl (by kernel_rfl) (fun u w1 N hO hu hN => ?_)
                  have HN := Lib.hid hN
                  simp only [hu]
                  clear hN
                  go_wp2_with ((with_reducible show wpList _ _ _ (⟨_, .store 23 (.tmp 11) (.tmp 61), _, _, _, none⟩ :: _) _ _); refine wpList_store_row rfl 23 (.tmp 11) (.tmp 61) rfl N (cz 6 (y)) rfl rfl 23 _ HN.out.raw infoL rfl (cz_one _ _) ?_)
                  exact ⟨rfl, rfl, rfl⟩
              intro u w8 U Y hO hu1 hu2 _hne9 hB9 hb1 hb2
              simp only [hu1, hu2]
              have HU := Lib.hid hb1
              have HY := Lib.hid hb2
              replace g0 := g0.trans hO
              replace HB := Lib.hid (HB.out.own hO)
              replace HC := Lib.hid (HC.out.own hO)
              replace HR := Lib.hid (HR.out.own hO)
              replace HA := Lib.hid (HA.out.own hO)
              clear hO hu1 hu2 _hne9 hB9 hb1 hb2 HLA HLB
              go_upto_region 13 with (first | ((with_reducible show wpList _ _ _ (⟨_, .load 23 (.tmp 10), _, _, _, none⟩ :: _) _ _); refine wpList_load_row rfl 23 (.tmp 10) rfl U rfl 23 _ (0, 0) _ HU.out.raw Try.underlying23 rfl infoL ?_) | ((with_reducible show wpList _ _ _ (⟨_, .load 23 (.tmp 11), _, _, _, none⟩ :: _) _ _); refine wpList_load_row rfl 23 (.tmp 11) rfl Y rfl 23 _ (0, 0) _ HY.out.raw Try.underlying23 rfl infoL ?_) | (go_at_call 41; with_reducible refine (rsec_at x y fr wi _ hx hy HSE).mono ?_; rintro r w9 ⟨rfl, hg⟩; replace g0 := g0.trans hg; replace HB := Lib.hid (HB.out.own hg); replace HC := Lib.hid (HC.out.own hg); replace HR := Lib.hid (HR.out.own hg); replace HA := Lib.hid (HA.out.own hg); replace HU := Lib.hid (HU.out.own hg); replace HY := Lib.hid (HY.out.own hg); clear hg))
              have b0 := blk_num HU.out (i := 0) (by omega)
              have c0 := blk_num HY.out (i := 0) (by omega)
              have b1 := blk_num HU.out (i := 1) (by omega)
              have c1 := blk_num HY.out (i := 1) (by omega)
              have b4 := blk_num HU.out (i := 4) (by omega)
              have c4 := blk_num HY.out (i := 4) (by omega)
              have b5 := blk_num HU.out (i := 5) (by omega)
              have c5 := blk_num HY.out (i := 5) (by omega)
              have hm0 := fun (w : World) (ts : Array TypeId) (t : TypeId) => max2_at (P := Try.prog) (x 0) (y 0) w ts t
              have hm1 := fun (w : World) (ts : Array TypeId) (t : TypeId) => min2_at (P := Try.prog) (x 1) (y 1) w ts t
              have hm4 := fun (w : World) (ts : Array TypeId) (t : TypeId) => min2_at (P := Try.prog) (x 4) (y 4) w ts t
              have hm5 := fun (w : World) (ts : Array TypeId) (t : TypeId) => min2_at (P := Try.prog) (x 5) (y 5) w ts t
              go_upto_region 14 with (first | ((with_reducible show wpList _ _ _ (⟨_, .build 23 _, _, _, _, _⟩ :: _) _ _); refine wpList_build_as rfl 23 [(0, .tmp 72), (1, .tmp 77), (2, .tmp 78), (3, .tmp 79), (4, .tmp 84), (5, .tmp 89)] rfl [(0, .int .i64 (max (x 0) (y 0))), (1, .int .i64 (min (x 1) (y 1))), (2, .int .i64 fr), (3, .int .i64 wi), (4, .int .i64 (min (x 4) (y 4))), (5, .int .i64 (min (x 5) (y 5)))] rfl (cz 6 (l6 (max (x 0) (y 0)) (min (x 1) (y 1)) (fr) (wi) (min (x 4) (y 4)) (min (x 5) (y 5)))) (HBLI.out) ?_) | ((with_reducible show wpList _ _ _ (⟨_, .store 23 (.tmp 14) (.tmp 90), _, _, _, none⟩ :: _) _ _); refine wpList_store_row rfl 23 (.tmp 14) (.tmp 90) rfl _ (cz 6 (l6 (max (x 0) (y 0)) (min (x 1) (y 1)) (fr) (wi) (min (x 4) (y 4)) (min (x 5) (y 5)))) rfl rfl 23 _ (heap_new _ _) infoL rfl (cz_one _ _) ?_; rw [World.setRow_alloc_new]))
              clear hm0 hm1 hm4 hm5 b0 b1 b4 b5 c0 c1 c4 c5 HBLI HU HY
              obtain ⟨w10, N, hW, hBq, hb, hg, Ng⟩ := blk_new w9 (cz 6 (l6 (max (x 0) (y 0)) (min (x 1) (y 1)) (fr) (wi) (min (x 4) (y 4)) (min (x 5) (y 5)))) 23
              rw [hW, hBq]
              have HN := Lib.hid hb
              replace g0 := g0.trans hg
              replace HB := Lib.hid (HB.out.own hg)
              replace HC := Lib.hid (HC.out.own hg)
              replace HR := Lib.hid (HR.out.own hg)
              replace HA := Lib.hid (HA.out.own hg)
              clear hW hBq hb hg
              have n0 : w10.cell? ⟨N, 0, none⟩ = some (.int .i64 (max (x 0) (y 0))) := blk_num HN.out (i := 0) (by omega)
              have n1 : w10.cell? ⟨N, 1, none⟩ = some (.int .i64 (min (x 1) (y 1))) := blk_num HN.out (i := 1) (by omega)
              clear Ng
              by_cases hl : max (x 0) (y 0) ≤ min (x 1) (y 1) ∧ f0 x y ≤ (x 3).toNat
              · have d1 : decide (min (x 1) (y 1) < max (x 0) (y 0)) = false := decide_eq_false (by omega)
                have d2 : decide (wi < 0) = false := decide_eq_false (fun h => (sr_is x y).1.1 (by rw [HSE.out.2]; exact h) hl.2)
                have ee : nrE x y = 0 := if_pos hl
                have e5 : nrV x y = l6 (max (x 0) (y 0)) (min (x 1) (y 1)) (fr) (wi) (min (x 4) (y 4)) (min (x 5) (y 5)) := by
                  rw [show nrV x y = nrS x y from if_pos ee]
                  obtain ⟨q1, q2⟩ := (sr_is x y).2 hl.2
                  rw [← HSE.out.1, ← HSE.out.2, q1, q2]
                  rfl
                generalize l6 (max (x 0) (y 0)) (min (x 1) (y 1)) (fr) (wi) (min (x 4) (y 4)) (min (x 5) (y 5)) = v at *
                have HZ2 := Lib.hid (show ∀ i, i < k + 1 → nrE (lim a i) (lim b i) = 0 from fun i hi => by
                  by_cases e : i = k
                  · rw [e, HXX.out, HYY.out]; exact ee
                  · exact HZ.out i (by omega))
                have HF2 := Lib.hid (nw_next hlt HF.out (show nrV (lim a k) (lim b k) = v by rw [HXX.out, HYY.out]; exact e5))
                have HG2 := Lib.hid (show ∀ i, 36 ≤ i → put f (k * 6) 6 v i = (mkL nul (false) (decide (b 37 = 1)) (min (a 38) (b 38)) (min (a 39) (b 39))) i from fun i hi => (put_high hlt hi).trans (HG.out i hi))
                clear HZ HF HG HXX HYY HSE ee e5 hl hx hy
                go_upto_region 10 with (first | ((with_reducible show wpList _ _ _ (⟨_, .load 23 (.tmp 14), _, _, _, none⟩ :: _) _ _); refine wpList_load_row rfl 23 (.tmp 14) rfl N rfl 23 _ (0, 0) _ HN.out.raw Try.underlying23 rfl infoL ?_) | ((with_reducible show wpList _ _ _ (⟨_, .store 23 (.tmp 104) (.tmp 102), _, _, _, none⟩ :: _) _ _); refine wpList_store_fam fam_lz rfl 23 (.tmp 104) (.tmp 102) rfl A (k * 6) 6 (v) rfl (cz 6 v) rfl rfl HA.out (by omega) infoL ?_))
                have hb9 := HA.out.row (lz (put f (k * 6) 6 v))
                have h9HB := HB.out.rowfar hneB (lz (put f (k * 6) 6 v))
                have h9HC := HC.out.rowfar hneC (lz (put f (k * 6) 6 v))
                have h9HR := HR.out.rowfar hneR (lz (put f (k * 6) 6 v))
                replace g0 := own_setRow g0 hA0 (lz (put f (k * 6) 6 v))
                clear HA HB HC HR
                generalize w10.setRow A (lz (put f (k * 6) 6 v)) = w11 at *
                have HA := Lib.hid hb9
                have HB := Lib.hid h9HB
                have HC := Lib.hid h9HC
                have HR := Lib.hid h9HR
                clear hb9 h9HB h9HC h9HR
                go_wp2
                go_roundw
                case rel => exact ⟨k + 1, _, by go_num, hlt, HZ2.out, HF2.out, HG2.out, g0, HB.out, HC.out, HR.out, HA.out⟩
                case measure => simp [intOf]; omega
              · have ee : nrE x y = 25 := if_neg hl
                have e1 : nwE a b = 25 := nw_lim HC1.out HC2.out hlt (by rw [HXX.out, HYY.out, ee]; decide)
                obtain rfl : 25 = e := e1.symm.trans HE1.out
                have H1 := Lib.hid (show lz nul = lz r by rw [← nw_nul (by rw [e1]; decide)]; exact HR1.out)
                have hw := (sr_is x y).1
                rw [HSE.out.2] at hw
                by_cases hl1 : max (x 0) (y 0) ≤ min (x 1) (y 1)
                · have d1 : decide (min (x 1) (y 1) < max (x 0) (y 0)) = false := decide_eq_false (by omega)
                  have d2 : decide (wi < 0) = true := decide_eq_true (hw.2 (fun h => hl ⟨hl1, h⟩))
                  clear e1 ee hl hl1 hw HZ HF HG HXX HYY HSE HE1 HR1 HA HB HC HN hx hy
                  go_wp2_with ((with_reducible show wpList _ _ _ (⟨_, .store 26 (.tmp 4) (.tmp 100), _, _, _, none⟩ :: _) _ _); refine wpList_store_row rfl 26 (.tmp 4) (.tmp 100) rfl R (lz (nul)) rfl (congrArg Value.agg lz_nul) 26 _ HR.out.raw infoLs rfl (lz_one _) ?_)
                  have hp := HR.out.row (lz nul)
                  exact bodyPost_ret (blk_results rfl rfl rfl hp Try.underlying26 rfl infoLs) rfl ⟨(by rw [H1.out]; rfl), own_setRow g0 hR0 _⟩
                · have d1 : decide (min (x 1) (y 1) < max (x 0) (y 0)) = true := decide_eq_true (by omega)
                  clear e1 ee hl hl1 hw HZ HF HG HXX HYY HSE HE1 HR1 HA HB HC HN hx hy
                  go_wp2_with ((with_reducible show wpList _ _ _ (⟨_, .store 26 (.tmp 4) (.tmp 100), _, _, _, none⟩ :: _) _ _); refine wpList_store_row rfl 26 (.tmp 4) (.tmp 100) rfl R (lz (nul)) rfl (congrArg Value.agg lz_nul) 26 _ HR.out.raw infoLs rfl (lz_one _) ?_)
                  have hp := HR.out.row (lz nul)
                  exact bodyPost_ret (blk_results rfl rfl rfl hp Try.underlying26 rfl infoLs) rfl ⟨(by rw [H1.out]; rfl), own_setRow g0 hR0 _⟩
            · obtain rfl : k = 6 := by omega
              obtain ⟨e1, e2⟩ := nw_ok HC1.out HC2.out HZ.out
              obtain rfl : 0 = e := e1.symm.trans HE1.out
              have H1 := Lib.hid (show lz f = lz r by rw [mk_end HF.out HG.out HPV.out HQV.out, ← e2]; exact HR1.out)
              clear e1 e2 HE1 HR1 HZ HF HG HB HC
              go_wp2_with (first | ((with_reducible show wpList _ _ _ (⟨_, .load 26 (.tmp 8), _, _, _, none⟩ :: _) _ _); refine wpList_load_row rfl 26 (.tmp 8) rfl A rfl 26 _ (0, 0) _ HA.out.raw Try.underlying26 rfl infoLs ?_) | ((with_reducible show wpList _ _ _ (⟨_, .store 26 (.tmp 4) (.tmp 105), _, _, _, none⟩ :: _) _ _); refine wpList_store_row rfl 26 (.tmp 4) (.tmp 105) rfl R (lz (f)) rfl rfl 26 _ HR.out.raw infoLs rfl (lz_one _) ?_))
              have hz := HR.out.row (lz f)
              exact bodyPost_ret (blk_results rfl rfl rfl hz Try.underlying26 rfl infoLs) rfl ⟨(by rw [H1.out]; rfl), own_setRow g0 hR0 _⟩
        · have HBL := Lib.hid (bld_l0 (false) (false) (min (a 38) (b 38)) (min (a 39) (b 39)))
          have HPV := Lib.hid (show (false) = (decide (a 36 = 1) && decide (b 36 = 1)) by rw [decide_eq_false hp]; rfl)
          have HQV := Lib.hid (show (false) = (decide (a 37 = 1) && decide (b 37 = 1)) by rw [decide_eq_false hq]; rfl)
          rw [decide_eq_false hp] at k36
          rw [decide_eq_false hq] at k37
          clear hp hq
          go_upto_region 8 with (first | ((with_reducible show wpList _ _ _ (⟨_, .build 26 _, _, _, _, _⟩ :: _) _ _); refine wpList_build_as rfl 26 [(1, .tmp 32), (2, .tmp 38), (3, .tmp 43), (4, .tmp 48)] rfl [(1, .bool (false)), (2, .bool (false)), (3, .int .i64 (min (a 38) (b 38))), (4, .int .i64 (min (a 39) (b 39)))] rfl (lz (mkL nul (false) (false) (min (a 38) (b 38)) (min (a 39) (b 39)))) (HBL.out) ?_) | ((with_reducible show wpList _ _ _ (⟨_, .store 26 (.tmp 8) (.tmp 49), _, _, _, none⟩ :: _) _ _); refine wpList_store_row rfl 26 (.tmp 8) (.tmp 49) rfl _ (lz (mkL nul (false) (false) (min (a 38) (b 38)) (min (a 39) (b 39)))) rfl rfl 26 _ (heap_new _ _) infoLs rfl (lz_one _) ?_; rw [World.setRow_alloc_new]))
          clear HBL k36 k37 k38 k39 m36 m37 m38 m39 hm3 hm4
          obtain ⟨w3, A, hW, hAq, ha, hg, hA0⟩ := blk_new w2 (lz (mkL nul (false) (false) (min (a 38) (b 38)) (min (a 39) (b 39)))) 26
          rw [hW, hAq]
          have HA := Lib.hid ha
          replace hA0 : w.heap.size ≤ A := Nat.le_trans g0.size hA0
          replace g0 := g0.trans hg
          have hneB : B ≠ A := fun e => by have := HB.out.lt; omega
          have hneC : C ≠ A := fun e => by have := HC.out.lt; omega
          have hneR : R ≠ A := fun e => by have := HR.out.lt; omega
          replace HB := Lib.hid (HB.out.own hg)
          replace HC := Lib.hid (HC.out.own hg)
          replace HR := Lib.hid (HR.out.own hg)
          clear hW hAq ha hg
          obtain ⟨fz, hfz⟩ : ∃ f, mkL nul (false) (false) (min (a 38) (b 38)) (min (a 39) (b 39)) = f := ⟨_, rfl⟩
          have HFZ := Lib.hid (show ∀ i, 36 ≤ i → fz i = (mkL nul (false) (false) (min (a 38) (b 38)) (min (a 39) (b 39))) i from fun i _ => by rw [hfz])
          rw [hfz] at HA
          clear hfz
          go_wp2
          go_loopw [9, 10, 11, 12, 13, 14] (fun vi _ _ _ _ _ wr => ∃ (k : Nat) (f : Vl), vi = .int .i64 (k : Int) ∧ k ≤ 6 ∧ (∀ i, i < k → nrE (lim a i) (lim b i) = 0) ∧ (∀ j, j < k * 6 → f j = nwS a b j) ∧ (∀ i, 36 ≤ i → f i = (mkL nul (false) (false) (min (a 38) (b 38)) (min (a 39) (b 39))) i) ∧ Own w wr ∧ Blk wr B (lz a) 26 ∧ Blk wr C (lz b) 26 ∧ Blk wr R (lz nul) 26 ∧ Blk wr A (lz f) 26) (fun vi _ _ _ _ _ _ => 6 - (intOf vi).toNat)
          case atStart => exact ⟨0, fz, rfl, by omega, fun i hi => absurd hi (by omega), fun j hj => absurd hj (by omega), HFZ.out, g0, HB.out, HC.out, HR.out, HA.out⟩
          case round =>
            clear g0 HB HC HR HA HFZ
            obtain ⟨k, f, rfl, hk, hz, hf, hg, g0, hb, hc, hr, ha⟩ := hrel
            have HZ := Lib.hid hz
            have HF := Lib.hid hf
            have HG := Lib.hid hg
            have HB := Lib.hid hb
            have HC := Lib.hid hc
            have HR := Lib.hid hr
            have HA := Lib.hid ha
            clear hz hf hb hc hr ha hg
            by_cases hlt : k < 6
            · have hkn : (k : Int) < 6 := by omega
              have HLA := Lib.hid (lb_lim HB.out hlt)
              have HLB := Lib.hid (lb_lim HC.out hlt)
              have hx := HOA.out k hlt
              have hy := HOB.out k hlt
              obtain ⟨x, hxx⟩ : ∃ x, lim a k = x := ⟨_, rfl⟩
              obtain ⟨y, hyy⟩ : ∃ y, lim b k = y := ⟨_, rfl⟩
              rw [hxx] at HLA hx
              rw [hyy] at HLB hy
              have HXX := Lib.hid hxx
              have HYY := Lib.hid hyy
              obtain ⟨fr, hfr⟩ : ∃ v, srF x y = v := ⟨_, rfl⟩
              obtain ⟨wi, hwi⟩ : ∃ v, srW x y = v := ⟨_, rfl⟩
              have HSE := Lib.hid (show srF x y = fr ∧ srW x y = wi from ⟨hfr, hwi⟩)
              have HBLI := Lib.hid (bld_li (max (x 0) (y 0)) (min (x 1) (y 1)) fr wi (min (x 4) (y 4)) (min (x 5) (y 5)))
              clear hxx hyy hfr hwi
              go_upto_region 11 with (fail)
              refine RegD.region_duty2 [54, 55, 56, 57, 58, 59, 60, 61, 10, 11] 10 8 10 11 9 11 (RegI.upd (RegI.upd (RegI.upd (RegI.upd (RegI.upd (RegI.upd (RegI.upd (RegI.upd (fun _ => undef) 54 (.int .i64 (k : Int))) 55 (.pointer (some ⟨B, 0, none⟩))) 56 (.pointer (some ⟨B, k * 6, none⟩))) 57 (.agg (cz 6 x))) 58 (.int .i64 (k : Int))) 59 (.pointer (some ⟨C, 0, none⟩))) 60 (.pointer (some ⟨C, k * 6, none⟩))) 61 (.agg (cz 6 y))) (#[.int .i64 0, .int .i64 0, .int .i64 0, .int .i64 0, .int .i64 0, .int .i64 0]) (cz 6 x) 23 (#[.int .i64 0, .int .i64 0, .int .i64 0, .int .i64 0, .int .i64 0, .int .i64 0]) (cz 6 y) 23 (by kernel_rfl) (by kernel_rfl) (by decide) (by intro d hd; simp at hd; simp; omega) ?_
              simp only [RegD.FF, RegI.FX, RegI.upd, List.foldl_cons, List.foldl_nil, List.mem_cons, List.not_mem_nil, if_true, if_false, Nat.reduceEqDiff, or_false, or_true]
              simp only [List.setIfInBounds_toArray, List.set_cons_succ, List.set_cons_zero]
              refine And.intro ?hs4 ?he4
              case hs4 =>
                refine And.intro ?s4_0 (And.intro ?s4_1 (And.intro ?s4_2 (And.intro ?s4_3 (And.intro ?s4_4 (And.intro ?s4_5 (And.intro ?s4_6 (And.intro ?s4_7 (And.intro ?s4_8 (And.intro ?s4_9 (And.intro ?s4_10 (And.intro ?s4_11 (trivial))))))))))))
                case s4_0 =>
                  refine RegD.step2_det (by decide) (by simp) (fun u w1 hO => ?_)
                  go_wp2
                  exact ⟨rfl, rfl, rfl, Own.refl _⟩
                case s4_1 =>
                  refine RegD.step2_det (by decide) (by simp) (fun u w1 hO => ?_)
                  go_wp2
                  exact ⟨rfl, rfl, rfl, Own.refl _⟩
                case s4_2 =>
                  refine RegD.step2_det (by decide) (by simp) (fun u w1 hO => ?_)
                  go_wp2
                  exact ⟨rfl, rfl, rfl, Own.refl _⟩
                case s4_3 =>
                  refine RegD.step2_det (by decide) (by simp) (fun u w1 hO => ?_)
                  have HB9 := Lib.hid (HLA.out.own hO)
                  go_wp2_with ((with_reducible show wpList _ _ _ (⟨_, .load 23 (.tmp 56), _, _, _, none⟩ :: _) _ _); refine wpList_load_lie rfl 23 (.tmp 56) rfl B (k * 6) rfl (cz 6 x) HB9.out _ Try.underlying23 rfl infoL ?_)
                  exact ⟨rfl, rfl, rfl, Own.refl _⟩
                case s4_4 =>
                  refine RegD.step2_det (by decide) (by simp) (fun u w1 hO => ?_)
                  go_wp2
                  exact ⟨rfl, rfl, rfl, Own.refl _⟩
                case s4_5 =>
                  refine RegD.step2_det (by decide) (by simp) (fun u w1 hO => ?_)
                  go_wp2
                  exact ⟨rfl, rfl, rfl, Own.refl _⟩
                case s4_6 =>
                  refine RegD.step2_det (by decide) (by simp) (fun u w1 hO => ?_)
                  go_wp2
                  exact ⟨rfl, rfl, rfl, Own.refl _⟩
                case s4_7 =>
                  refine RegD.step2_det (by decide) (by simp) (fun u w1 hO => ?_)
                  have HB9 := Lib.hid (HLB.out.own hO)
                  go_wp2_with ((with_reducible show wpList _ _ _ (⟨_, .load 23 (.tmp 60), _, _, _, none⟩ :: _) _ _); refine wpList_load_lie rfl 23 (.tmp 60) rfl C (k * 6) rfl (cz 6 y) HB9.out _ Try.underlying23 rfl infoL ?_)
                  exact ⟨rfl, rfl, rfl, Own.refl _⟩
                case s4_8 =>
                  refine RegD.step2_a1 rfl (fun u w1 hO => ?_)
                  go_wp2
                  exact ⟨rfl, rfl, rfl, rfl⟩
                case s4_9 =>
                  refine RegD.step2_a2 (by decide) rfl (fun u w1 hO => ?_)
                  go_wp2
                  exact ⟨rfl, rfl, rfl, rfl⟩
                case s4_10 =>
                  refine RegD.step2_s1 (by decide) rfl (by kernel_rfl) (fun u w1 N hO hu hN => ?_)
                  have HN := Lib.hid hN
                  simp only [hu]
                  clear hN
                  go_wp2_with ((with_reducible show wpList _ _ _ (⟨_, .store 23 (.tmp 10) (.tmp 57), _, _, _, none⟩ :: _) _ _); refine wpList_store_row rfl 23 (.tmp 10) (.tmp 57) rfl N (cz 6 (x)) rfl rfl 23 _ HN.out.raw infoL rfl (cz_one _ _) ?_)
                  exact ⟨rfl, rfl, rfl⟩
                case s4_11 =>
                  refine RegD.step2_s2 (by decide) rfl (by kernel_rfl) (fun u w1 N hO hu hN => ?_)
                  have HN := Lib.hid hN
                  simp only [hu]
                  clear hN
                  go_wp2_with ((with_reducible show wpList _ _ _ (⟨_, .store 23 (.tmp 11) (.tmp 61), _, _, _, none⟩ :: _) _ _); refine wpList_store_row rfl 23 (.tmp 11) (.tmp 61) rfl N (cz 6 (y)) rfl rfl 23 _ HN.out.raw infoL rfl (cz_one _ _) ?_)
                  exact ⟨rfl, rfl, rfl⟩
              intro u w8 U Y hO hu1 hu2 _hne9 hB9 hb1 hb2
              simp only [hu1, hu2]
              have HU := Lib.hid hb1
              have HY := Lib.hid hb2
              replace g0 := g0.trans hO
              replace HB := Lib.hid (HB.out.own hO)
              replace HC := Lib.hid (HC.out.own hO)
              replace HR := Lib.hid (HR.out.own hO)
              replace HA := Lib.hid (HA.out.own hO)
              clear hO hu1 hu2 _hne9 hB9 hb1 hb2 HLA HLB
              go_upto_region 13 with (first | ((with_reducible show wpList _ _ _ (⟨_, .load 23 (.tmp 10), _, _, _, none⟩ :: _) _ _); refine wpList_load_row rfl 23 (.tmp 10) rfl U rfl 23 _ (0, 0) _ HU.out.raw Try.underlying23 rfl infoL ?_) | ((with_reducible show wpList _ _ _ (⟨_, .load 23 (.tmp 11), _, _, _, none⟩ :: _) _ _); refine wpList_load_row rfl 23 (.tmp 11) rfl Y rfl 23 _ (0, 0) _ HY.out.raw Try.underlying23 rfl infoL ?_) | (go_at_call 41; with_reducible refine (rsec_at x y fr wi _ hx hy HSE).mono ?_; rintro r w9 ⟨rfl, hg⟩; replace g0 := g0.trans hg; replace HB := Lib.hid (HB.out.own hg); replace HC := Lib.hid (HC.out.own hg); replace HR := Lib.hid (HR.out.own hg); replace HA := Lib.hid (HA.out.own hg); replace HU := Lib.hid (HU.out.own hg); replace HY := Lib.hid (HY.out.own hg); clear hg))
              have b0 := blk_num HU.out (i := 0) (by omega)
              have c0 := blk_num HY.out (i := 0) (by omega)
              have b1 := blk_num HU.out (i := 1) (by omega)
              have c1 := blk_num HY.out (i := 1) (by omega)
              have b4 := blk_num HU.out (i := 4) (by omega)
              have c4 := blk_num HY.out (i := 4) (by omega)
              have b5 := blk_num HU.out (i := 5) (by omega)
              have c5 := blk_num HY.out (i := 5) (by omega)
              have hm0 := fun (w : World) (ts : Array TypeId) (t : TypeId) => max2_at (P := Try.prog) (x 0) (y 0) w ts t
              have hm1 := fun (w : World) (ts : Array TypeId) (t : TypeId) => min2_at (P := Try.prog) (x 1) (y 1) w ts t
              have hm4 := fun (w : World) (ts : Array TypeId) (t : TypeId) => min2_at (P := Try.prog) (x 4) (y 4) w ts t
              have hm5 := fun (w : World) (ts : Array TypeId) (t : TypeId) => min2_at (P := Try.prog) (x 5) (y 5) w ts t
              go_upto_region 14 with (first | ((with_reducible show wpList _ _ _ (⟨_, .build 23 _, _, _, _, _⟩ :: _) _ _); refine wpList_build_as rfl 23 [(0, .tmp 72), (1, .tmp 77), (2, .tmp 78), (3, .tmp 79), (4, .tmp 84), (5, .tmp 89)] rfl [(0, .int .i64 (max (x 0) (y 0))), (1, .int .i64 (min (x 1) (y 1))), (2, .int .i64 fr), (3, .int .i64 wi), (4, .int .i64 (min (x 4) (y 4))), (5, .int .i64 (min (x 5) (y 5)))] rfl (cz 6 (l6 (max (x 0) (y 0)) (min (x 1) (y 1)) (fr) (wi) (min (x 4) (y 4)) (min (x 5) (y 5)))) (HBLI.out) ?_) | ((with_reducible show wpList _ _ _ (⟨_, .store 23 (.tmp 14) (.tmp 90), _, _, _, none⟩ :: _) _ _); refine wpList_store_row rfl 23 (.tmp 14) (.tmp 90) rfl _ (cz 6 (l6 (max (x 0) (y 0)) (min (x 1) (y 1)) (fr) (wi) (min (x 4) (y 4)) (min (x 5) (y 5)))) rfl rfl 23 _ (heap_new _ _) infoL rfl (cz_one _ _) ?_; rw [World.setRow_alloc_new]))
              clear hm0 hm1 hm4 hm5 b0 b1 b4 b5 c0 c1 c4 c5 HBLI HU HY
              obtain ⟨w10, N, hW, hBq, hb, hg, Ng⟩ := blk_new w9 (cz 6 (l6 (max (x 0) (y 0)) (min (x 1) (y 1)) (fr) (wi) (min (x 4) (y 4)) (min (x 5) (y 5)))) 23
              rw [hW, hBq]
              have HN := Lib.hid hb
              replace g0 := g0.trans hg
              replace HB := Lib.hid (HB.out.own hg)
              replace HC := Lib.hid (HC.out.own hg)
              replace HR := Lib.hid (HR.out.own hg)
              replace HA := Lib.hid (HA.out.own hg)
              clear hW hBq hb hg
              have n0 : w10.cell? ⟨N, 0, none⟩ = some (.int .i64 (max (x 0) (y 0))) := blk_num HN.out (i := 0) (by omega)
              have n1 : w10.cell? ⟨N, 1, none⟩ = some (.int .i64 (min (x 1) (y 1))) := blk_num HN.out (i := 1) (by omega)
              clear Ng
              by_cases hl : max (x 0) (y 0) ≤ min (x 1) (y 1) ∧ f0 x y ≤ (x 3).toNat
              · have d1 : decide (min (x 1) (y 1) < max (x 0) (y 0)) = false := decide_eq_false (by omega)
                have d2 : decide (wi < 0) = false := decide_eq_false (fun h => (sr_is x y).1.1 (by rw [HSE.out.2]; exact h) hl.2)
                have ee : nrE x y = 0 := if_pos hl
                have e5 : nrV x y = l6 (max (x 0) (y 0)) (min (x 1) (y 1)) (fr) (wi) (min (x 4) (y 4)) (min (x 5) (y 5)) := by
                  rw [show nrV x y = nrS x y from if_pos ee]
                  obtain ⟨q1, q2⟩ := (sr_is x y).2 hl.2
                  rw [← HSE.out.1, ← HSE.out.2, q1, q2]
                  rfl
                generalize l6 (max (x 0) (y 0)) (min (x 1) (y 1)) (fr) (wi) (min (x 4) (y 4)) (min (x 5) (y 5)) = v at *
                have HZ2 := Lib.hid (show ∀ i, i < k + 1 → nrE (lim a i) (lim b i) = 0 from fun i hi => by
                  by_cases e : i = k
                  · rw [e, HXX.out, HYY.out]; exact ee
                  · exact HZ.out i (by omega))
                have HF2 := Lib.hid (nw_next hlt HF.out (show nrV (lim a k) (lim b k) = v by rw [HXX.out, HYY.out]; exact e5))
                have HG2 := Lib.hid (show ∀ i, 36 ≤ i → put f (k * 6) 6 v i = (mkL nul (false) (false) (min (a 38) (b 38)) (min (a 39) (b 39))) i from fun i hi => (put_high hlt hi).trans (HG.out i hi))
                clear HZ HF HG HXX HYY HSE ee e5 hl hx hy
                go_upto_region 10 with (first | ((with_reducible show wpList _ _ _ (⟨_, .load 23 (.tmp 14), _, _, _, none⟩ :: _) _ _); refine wpList_load_row rfl 23 (.tmp 14) rfl N rfl 23 _ (0, 0) _ HN.out.raw Try.underlying23 rfl infoL ?_) | ((with_reducible show wpList _ _ _ (⟨_, .store 23 (.tmp 104) (.tmp 102), _, _, _, none⟩ :: _) _ _); refine wpList_store_fam fam_lz rfl 23 (.tmp 104) (.tmp 102) rfl A (k * 6) 6 (v) rfl (cz 6 v) rfl rfl HA.out (by omega) infoL ?_))
                have hb9 := HA.out.row (lz (put f (k * 6) 6 v))
                have h9HB := HB.out.rowfar hneB (lz (put f (k * 6) 6 v))
                have h9HC := HC.out.rowfar hneC (lz (put f (k * 6) 6 v))
                have h9HR := HR.out.rowfar hneR (lz (put f (k * 6) 6 v))
                replace g0 := own_setRow g0 hA0 (lz (put f (k * 6) 6 v))
                clear HA HB HC HR
                generalize w10.setRow A (lz (put f (k * 6) 6 v)) = w11 at *
                have HA := Lib.hid hb9
                have HB := Lib.hid h9HB
                have HC := Lib.hid h9HC
                have HR := Lib.hid h9HR
                clear hb9 h9HB h9HC h9HR
                go_wp2
                go_roundw
                case rel => exact ⟨k + 1, _, by go_num, hlt, HZ2.out, HF2.out, HG2.out, g0, HB.out, HC.out, HR.out, HA.out⟩
                case measure => simp [intOf]; omega
              · have ee : nrE x y = 25 := if_neg hl
                have e1 : nwE a b = 25 := nw_lim HC1.out HC2.out hlt (by rw [HXX.out, HYY.out, ee]; decide)
                obtain rfl : 25 = e := e1.symm.trans HE1.out
                have H1 := Lib.hid (show lz nul = lz r by rw [← nw_nul (by rw [e1]; decide)]; exact HR1.out)
                have hw := (sr_is x y).1
                rw [HSE.out.2] at hw
                by_cases hl1 : max (x 0) (y 0) ≤ min (x 1) (y 1)
                · have d1 : decide (min (x 1) (y 1) < max (x 0) (y 0)) = false := decide_eq_false (by omega)
                  have d2 : decide (wi < 0) = true := decide_eq_true (hw.2 (fun h => hl ⟨hl1, h⟩))
                  clear e1 ee hl hl1 hw HZ HF HG HXX HYY HSE HE1 HR1 HA HB HC HN hx hy
                  go_wp2_with ((with_reducible show wpList _ _ _ (⟨_, .store 26 (.tmp 4) (.tmp 100), _, _, _, none⟩ :: _) _ _); refine wpList_store_row rfl 26 (.tmp 4) (.tmp 100) rfl R (lz (nul)) rfl (congrArg Value.agg lz_nul) 26 _ HR.out.raw infoLs rfl (lz_one _) ?_)
                  have hp := HR.out.row (lz nul)
                  exact bodyPost_ret (blk_results rfl rfl rfl hp Try.underlying26 rfl infoLs) rfl ⟨(by rw [H1.out]; rfl), own_setRow g0 hR0 _⟩
                · have d1 : decide (min (x 1) (y 1) < max (x 0) (y 0)) = true := decide_eq_true (by omega)
                  clear e1 ee hl hl1 hw HZ HF HG HXX HYY HSE HE1 HR1 HA HB HC HN hx hy
                  go_wp2_with ((with_reducible show wpList _ _ _ (⟨_, .store 26 (.tmp 4) (.tmp 100), _, _, _, none⟩ :: _) _ _); refine wpList_store_row rfl 26 (.tmp 4) (.tmp 100) rfl R (lz (nul)) rfl (congrArg Value.agg lz_nul) 26 _ HR.out.raw infoLs rfl (lz_one _) ?_)
                  have hp := HR.out.row (lz nul)
                  exact bodyPost_ret (blk_results rfl rfl rfl hp Try.underlying26 rfl infoLs) rfl ⟨(by rw [H1.out]; rfl), own_setRow g0 hR0 _⟩
            · obtain rfl : k = 6 := by omega
              obtain ⟨e1, e2⟩ := nw_ok HC1.out HC2.out HZ.out
              obtain rfl : 0 = e := e1.symm.trans HE1.out
              have H1 := Lib.hid (show lz f = lz r by rw [mk_end HF.out HG.out HPV.out HQV.out, ← e2]; exact HR1.out)
              clear e1 e2 HE1 HR1 HZ HF HG HB HC
              go_wp2_with (first | ((with_reducible show wpList _ _ _ (⟨_, .load 26 (.tmp 8), _, _, _, none⟩ :: _) _ _); refine wpList_load_row rfl 26 (.tmp 8) rfl A rfl 26 _ (0, 0) _ HA.out.raw Try.underlying26 rfl infoLs ?_) | ((with_reducible show wpList _ _ _ (⟨_, .store 26 (.tmp 4) (.tmp 105), _, _, _, none⟩ :: _) _ _); refine wpList_store_row rfl 26 (.tmp 4) (.tmp 105) rfl R (lz (f)) rfl rfl 26 _ HR.out.raw infoLs rfl (lz_one _) ?_))
              have hz := HR.out.row (lz f)
              exact bodyPost_ret (blk_results rfl rfl rfl hz Try.underlying26 rfl infoLs) rfl ⟨(by rw [H1.out]; rfl), own_setRow g0 hR0 _⟩
    · obtain ⟨d, hd⟩ : ∃ d, chE b = d := ⟨_, rfl⟩
      have e1 : nwE a b = d := (nw_snd h1 h2).trans hd
      rw [nw_nul (by rw [e1, ← hd]; exact h2)] at hr
      rw [hd] at h2
      obtain rfl : d = e := e1.symm.trans he
      have H1 := Lib.hid hr
      have HB0 := Lib.hid hd
      have kd : (d != 0) = true := bne_iff_ne.2 h2
      clear hr he e1 h1 hd h2
      go_enter Try.func20, Try.ntmps20
      go_upto_region 1 with (fail)
      obtain ⟨W0, B, C, R, hW, hR, hC, hB, hb, hc, hr, g0, -, -, hR0, hneBC, hneBR, hneCR⟩ := three_new w (lz a) 26 (lz b) 26 (lz nul) 26
      rw [← lz_nul] at hW
      rw [hW, hR, hC, hB]
      have HB := Lib.hid hb
      have HC := Lib.hid hc
      have HR := Lib.hid hr
      clear hW hR hC hB hb hc hr
      go_wp2_with (first | ((with_reducible show wpList _ _ _ (⟨_, .load 26 (.tmp 2), _, _, _, none⟩ :: _) _ _); refine wpList_load_row rfl 26 (.tmp 2) rfl B rfl 26 _ (0, 0) _ HB.out.raw Try.underlying26 rfl infoLs ?_) | ((with_reducible show wpList _ _ _ (⟨_, .load 26 (.tmp 3), _, _, _, none⟩ :: _) _ _); refine wpList_load_row rfl 26 (.tmp 3) rfl C rfl 26 _ (0, 0) _ HC.out.raw Try.underlying26 rfl infoLs ?_) | (go_at_call 15; with_reducible refine (rck_at a 0 _ HA0).mono ?_; rintro r w1 ⟨rfl, hg⟩; replace g0 := g0.trans hg; replace HB := Lib.hid (HB.out.own hg); replace HC := Lib.hid (HC.out.own hg); replace HR := Lib.hid (HR.out.own hg); clear hg) | (go_at_call 15; with_reducible refine (rck_at b d _ HB0).mono ?_; rintro r w2 ⟨rfl, hg⟩; replace g0 := g0.trans hg; replace HB := Lib.hid (HB.out.own hg); replace HC := Lib.hid (HC.out.own hg); replace HR := Lib.hid (HR.out.own hg); clear hg) | ((with_reducible show wpList _ _ _ (⟨_, .store 26 (.tmp 4) (.tmp 25), _, _, _, none⟩ :: _) _ _); refine wpList_store_row rfl 26 (.tmp 4) (.tmp 25) rfl R (lz (nul)) rfl (congrArg Value.agg lz_nul) 26 _ HR.out.raw infoLs rfl (lz_one _) ?_))
      have hp := HR.out.row (lz nul)
      exact bodyPost_ret (blk_results rfl rfl rfl hp Try.underlying26 rfl infoLs) rfl ⟨(by rw [H1.out]; rfl), own_setRow g0 hR0 _⟩
  · obtain ⟨d, hd⟩ : ∃ d, chE a = d := ⟨_, rfl⟩
    have e1 : nwE a b = d := (nw_fst h1).trans hd
    rw [nw_nul (by rw [e1, ← hd]; exact h1)] at hr
    rw [hd] at h1
    obtain rfl : d = e := e1.symm.trans he
    have H1 := Lib.hid hr
    have HA0 := Lib.hid hd
    have kd : (d != 0) = true := bne_iff_ne.2 h1
    clear hr he e1 hd h1
    go_enter Try.func20, Try.ntmps20
    go_upto_region 1 with (fail)
    obtain ⟨W0, B, C, R, hW, hR, hC, hB, hb, hc, hr, g0, -, -, hR0, hneBC, hneBR, hneCR⟩ := three_new w (lz a) 26 (lz b) 26 (lz nul) 26
    rw [← lz_nul] at hW
    rw [hW, hR, hC, hB]
    have HB := Lib.hid hb
    have HC := Lib.hid hc
    have HR := Lib.hid hr
    clear hW hR hC hB hb hc hr
    go_wp2_with (first | ((with_reducible show wpList _ _ _ (⟨_, .load 26 (.tmp 2), _, _, _, none⟩ :: _) _ _); refine wpList_load_row rfl 26 (.tmp 2) rfl B rfl 26 _ (0, 0) _ HB.out.raw Try.underlying26 rfl infoLs ?_) | ((with_reducible show wpList _ _ _ (⟨_, .load 26 (.tmp 3), _, _, _, none⟩ :: _) _ _); refine wpList_load_row rfl 26 (.tmp 3) rfl C rfl 26 _ (0, 0) _ HC.out.raw Try.underlying26 rfl infoLs ?_) | (go_at_call 15; with_reducible refine (rck_at a d _ HA0).mono ?_; rintro r w1 ⟨rfl, hg⟩; replace g0 := g0.trans hg; replace HB := Lib.hid (HB.out.own hg); replace HC := Lib.hid (HC.out.own hg); replace HR := Lib.hid (HR.out.own hg); clear hg) | ((with_reducible show wpList _ _ _ (⟨_, .store 26 (.tmp 4) (.tmp 19), _, _, _, none⟩ :: _) _ _); refine wpList_store_row rfl 26 (.tmp 4) (.tmp 19) rfl R (lz (nul)) rfl (congrArg Value.agg lz_nul) 26 _ HR.out.raw infoLs rfl (lz_one _) ?_))
    have hp := HR.out.row (lz nul)
    exact bodyPost_ret (blk_results rfl rfl rfl hp Try.underlying26 rfl infoLs) rfl ⟨(by rw [H1.out]; rfl), own_setRow g0 hR0 _⟩
end Go.Proofs.Ytmjokgddhainlaa.LimW
