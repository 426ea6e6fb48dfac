/-
  Package graph: the law Closure. Condition: none.
-/
import Derived.Test.YtkdfmjhhdfiiiaaGraphL1
namespace Go.Proofs.Ytkdfmjhhdfiiiaa.GraW
open Go.ChangeShapes Go.WideShapes Go.ChangeAt Go.RowKit
open PairW CelW GraP TabW RowA
theorem clo_chk {n : Nat} {l : List Ar} (hn : n ≤ 64) (h : ¬ 512 < (cloL n l).length) : chkE (n : Int) (cloL n l) = 0 := chk_ok.2 ⟨by omega, by omega, by omega, by rw [Int.toNat_natCast]; exact cloL_fit n l⟩
theorem clo_has {n : Nat} {l : List Ar} (G : Fit n l) (a b : Nat) : decide (((a : Int), (b : Int)) ∈ cloL n l) = clo n l a b := by
  rw [← cloL_ar G, Bool.eq_iff_iff, decide_eq_true_eq, ar_iff]
theorem slice0 {w : World} {v : Value} (h : Pts w v []) : ∃ A k, v = .slice A 0 k := by
  obtain ⟨A, k, e, _⟩ := h.open
  exact ⟨A, k, e⟩
theorem rch_clo_ne {n : Nat} {l : List Ar} (G : Fit n l) {a b : Nat} (ha : a < n) (h : a ≠ b) : clo n l a b = rch n l a b := by
  rw [Bool.eq_iff_iff]
  exact ⟨clo_rch G, fun k => rch_clo G ha k h⟩
set_option maxRecDepth 100000 in
set_option maxHeartbeats 4000000 in
theorem lclosure_at (N : Int) (l : List Ar) (sv : Value) (w : World) (HP : Hid (Pts w sv l)) :
    Calls Try.prog 10 #[grV N sv] w fun e w' => e = .returned (.bool true) ∧ Own w w' := by
  obtain ⟨A, cap, rfl, a1, a2⟩ := slice_of HP.out
  unfold maxLen at a2
  obtain ⟨m, hm⟩ : ∃ m, l.length = m := ⟨_, rfl⟩
  have HM := Lib.hid hm
  rw [hm] at a1 HP ⊢
  obtain ⟨ce, hce⟩ : ∃ f, chkE N l = f := ⟨_, rfl⟩
  have HCE := Lib.hid hce
  cases hlg : ligB N l with
  | false =>
    have HLG := Lib.hid hlg
    clear hlg hm hce
    go_enter Try.func10, Try.ntmps10
    go_upto_region 1 with (fail)
    obtain ⟨W0, hW, k0, k1, g0⟩ := box_new w N (.slice A m cap)
    rw [hW]
    clear hW
    have HP0 := Lib.hid (HP.out.own g0)
    go_wp2_with (first
      | (go_at_call 14; with_reducible refine (rlight_at N l _ false _ HP0 HLG).mono ?_; rintro e w1 ⟨rfl, q1⟩; have HP1 := Lib.hid (HP0.out.own q1); replace k0 := q1.cell k0; replace k1 := q1.cell k1)
      | (go_at_call 13; with_reducible refine (awake_at _).mono ?_; rintro e wz ⟨rfl, qz⟩))
    go_ret
    exact ⟨rfl, g0.trans (q1.trans qz)⟩
  | true =>
    have HLG := Lib.hid hlg
    clear hlg hm
    by_cases c0 : ce = 0
    · subst c0
      obtain ⟨b0, b1, b2, Gf⟩ := chk_ok.1 hce
      obtain ⟨n, rfl⟩ : ∃ n : Nat, N = n := ⟨N.toNat, by omega⟩
      rw [Int.toNat_natCast] at Gf
      have HG := Lib.hid Gf
      have hn64 : n ≤ 64 := by omega
      clear hce Gf b0 b1 b2
      obtain ⟨z, hz⟩ : ∃ z, (cloL n l).length = z := ⟨_, rfl⟩
      have HZ := Lib.hid hz
      by_cases h512 : 512 < z
      · have HF := Lib.hid (clz_full HCE.out (by rw [hz]; exact h512))
        clear hz
        go_enter Try.func10, Try.ntmps10
        go_upto_region 1 with (fail)
        obtain ⟨W0, hW, k0, k1, g0⟩ := box_new w (n : Int) (.slice A m cap)
        rw [hW]
        clear hW
        have HP0 := Lib.hid (HP.out.own g0)
        go_upto_region 3 with (first
          | (go_at_call 14; with_reducible refine (rlight_at n l _ true _ HP0 HLG).mono ?_; rintro e w1 ⟨rfl, q1⟩; have HP1 := Lib.hid (HP0.out.own q1); replace k0 := q1.cell k0; replace k1 := q1.cell k1)
          | (go_at_call 11; with_reducible refine (pcheck_at n l _ 0 _ HP1 HCE).mono ?_; rintro e w2 ⟨rfl, q2⟩; have HP2 := Lib.hid (HP1.out.own q2); replace k0 := q2.cell k0; replace k1 := q2.cell k1))
        go_upto_region 4 with (go_at_call 25; with_reducible refine (pclose_at n l _ 3 0 [] _ HP2 HF).mono ?_; rintro e w3 ⟨v3, rfl, hr3, q3⟩; obtain ⟨A3, c3, rfl⟩ := slice0 hr3; clear hr3)
        obtain ⟨w4, hw4, b0, b1, q4⟩ := box_new w3 0 (.slice A3 0 c3)
        rw [hw4]
        clear hw4
        go_wp2_with (go_at_call 13; with_reducible refine (awake_at _).mono ?_; rintro e w5 ⟨rfl, q5⟩)
        go_ret
        exact ⟨rfl, g0.trans (q1.trans (q2.trans (q3.trans (q4.trans q5))))⟩
      · have HF := Lib.hid (clz_ok HCE.out (by rw [hz]; exact h512))
        have HCC := Lib.hid (clo_chk hn64 (by rw [hz]; exact h512))
        have HF2 := Lib.hid (show clzE n (cloL n l) = 0 ∧ clzN n (cloL n l) = n ∧ clzL n (cloL n l) = cloL n l by
          have h := clz_ok HCC.out (by rw [cloL_cloL HG.out, hz]; exact h512)
          rw [cloL_cloL HG.out] at h
          exact h)
        have HPA := Lib.hid (show chkE (n : Int) l = 0 ∧ parW n l = parV n l from ⟨HCE.out, by unfold parW; rw [if_pos HCE.out, Int.toNat_natCast]⟩)
        have HPB := Lib.hid (show chkE (n : Int) (cloL n l) = 0 ∧ parW n (cloL n l) = parV n l from ⟨HCC.out, by unfold parW; rw [if_pos HCC.out, Int.toNat_natCast, parV_cloL HG.out]⟩)
        clear hz
        go_enter Try.func10, Try.ntmps10
        go_upto_region 1 with (fail)
        obtain ⟨W0, hW, k0, k1, g0⟩ := box_new w (n : Int) (.slice A m cap)
        rw [hW]
        clear hW
        have HP0 := Lib.hid (HP.out.own g0)
        go_upto_region 3 with (first
          | (go_at_call 14; with_reducible refine (rlight_at n l _ true _ HP0 HLG).mono ?_; rintro e w1 ⟨rfl, q1⟩; have HP1 := Lib.hid (HP0.out.own q1); replace k0 := q1.cell k0; replace k1 := q1.cell k1)
          | (go_at_call 11; with_reducible refine (pcheck_at n l _ 0 _ HP1 HCE).mono ?_; rintro e w2 ⟨rfl, q2⟩; have HP2 := Lib.hid (HP1.out.own q2); replace k0 := q2.cell k0; replace k1 := q2.cell k1))
        go_upto_region 4 with (go_at_call 25; with_reducible refine (pclose_at n l _ 0 n (cloL n l) _ HP2 HF).mono ?_; rintro e w3 ⟨v3, rfl, hr3, q3⟩; obtain ⟨A3, c3, rfl, _⟩ := slice_of hr3; have HC3 := Lib.hid hr3; have HP3 := Lib.hid (HP2.out.own q3); replace k0 := q3.cell k0; replace k1 := q3.cell k1; clear hr3)
        rw [HZ.out] at HC3 ⊢
        obtain ⟨w4, hw4, b0, b1, q4⟩ := box_new w3 (n : Int) (.slice A3 z c3)
        rw [hw4]
        have HC4 := Lib.hid (HC3.out.own q4)
        have HP4 := Lib.hid (HP3.out.own q4)
        replace k0 := q4.cell k0
        replace k1 := q4.cell k1
        obtain ⟨C, hC⟩ : ∃ C, w3.heap.size = C := ⟨_, rfl⟩
        rw [hC] at b0 b1 ⊢
        clear hw4 hC HC3
        go_upto_region 7 with (go_at_call 25; with_reducible refine (pclose_at n (cloL n l) _ 0 n (cloL n l) _ HC4 HF2).mono ?_; rintro e w5 ⟨v5, rfl, hr5, q5⟩; obtain ⟨A5, c5, rfl, _⟩ := slice_of hr5; have HD5 := Lib.hid hr5; have HC5 := Lib.hid (HC4.out.own q5); replace b0 := q5.cell b0; replace b1 := q5.cell b1; have HP5 := Lib.hid (HP4.out.own q5); replace k0 := q5.cell k0; replace k1 := q5.cell k1; clear hr5)
        rw [HZ.out] at HD5 ⊢
        obtain ⟨w6, hw6, d0, d1, q6⟩ := box_new w5 (n : Int) (.slice A5 z c5)
        rw [hw6]
        have HD6 := Lib.hid (HD5.out.own q6)
        have HC6 := Lib.hid (HC5.out.own q6)
        have HP6 := Lib.hid (HP5.out.own q6)
        replace k0 := q6.cell k0
        replace k1 := q6.cell k1
        replace b0 := q6.cell b0
        replace b1 := q6.cell b1
        obtain ⟨D, hD⟩ : ∃ D, w5.heap.size = D := ⟨_, rfl⟩
        rw [hD] at d0 d1 ⊢
        clear hw6 hD HD5 HC5
        go_upto_region 8 with (go_at_call 23; with_reducible refine (pparts_at n l _ 0 (parV n l) _ HP6 HPA).mono ?_; rintro e w7 ⟨v7, vs7, rfl, ht7, q7⟩; have HX7 := Lib.hid ht7.cels; have HC7 := Lib.hid (HC6.out.own q7); have HD7 := Lib.hid (HD6.out.own q7); replace b0 := q7.cell b0; replace b1 := q7.cell b1; replace d0 := q7.cell d0; replace d1 := q7.cell d1; have HP7 := Lib.hid (HP6.out.own q7); replace k0 := q7.cell k0; replace k1 := q7.cell k1; clear ht7)
        go_upto_region 9 with (go_at_call 23; with_reducible refine (pparts_at n (cloL n l) _ 0 (parV n l) _ HC7 HPB).mono ?_; rintro e w8 ⟨v8, vs8, rfl, ht8, q8⟩; have HY8 := Lib.hid ht8.cels; have HX8 := Lib.hid (HX7.out.own q8); have HC8 := Lib.hid (HC7.out.own q8); have HD8 := Lib.hid (HD7.out.own q8); replace b0 := q8.cell b0; replace b1 := q8.cell b1; replace d0 := q8.cell d0; replace d1 := q8.cell d1; have HP8 := Lib.hid (HP7.out.own q8); replace k0 := q8.cell k0; replace k1 := q8.cell k1; clear ht8)
        obtain ⟨Ax, cx, rfl, x1, x2, x3⟩ := cels_open HX8.out
        obtain ⟨Ay, cy, rfl, y1, y2, y3⟩ := cels_open HY8.out
        obtain ⟨y, hy⟩ : ∃ y, (cellsL (parV n l)).length = y := ⟨_, rfl⟩
        rw [hy] at x1 x3 y1 y3 ⊢
        unfold maxLen at x2 y2
        have H2 := Lib.hid x3
        have H3 := Lib.hid y3
        have HYL := Lib.hid hy
        clear x3 y3 hy HX7 HX8 HY8
        go_upto_region 12 with (go_at_call 27; with_reducible refine (rsame_yes n (cloL n l) _ _ _ HC8 HD8).mono ?_; rintro e w9 ⟨rfl, q9⟩; have HC9 := Lib.hid (HC8.out.own q9); replace b0 := q9.cell b0; replace b1 := q9.cell b1; have HP9 := Lib.hid (HP8.out.own q9); replace k0 := q9.cell k0; replace k1 := q9.cell k1)
        have HQ9 := Lib.hid (g0.trans (q1.trans (q2.trans (q3.trans (q4.trans (q5.trans (q6.trans (q7.trans (q8.trans q9)))))))))
        have HK0 := Lib.hid k0
        have HK1 := Lib.hid k1
        have HB0 := Lib.hid b0
        have HB1 := Lib.hid b1
        have HQ89 := Lib.hid q9
        clear k0 k1 b0 b1 d0 d1 q1 q2 q3 q4 q5 q6 q7 q8 q9 g0
        go_loopw [11] (fun vi wr => ∃ i : Nat, vi = .int .i64 (i : Int) ∧ i ≤ y ∧ Own w9 wr) (fun vi _ => y - (intOf vi).toNat)
        case atStart => exact ⟨0, rfl, Nat.zero_le _, Own.refl _⟩
        case round =>
          obtain ⟨i, rfl, hi, q⟩ := hrel
          by_cases hlt : i < y
          · have hiz : (i : Int) < y := by omega
            obtain ⟨g2, o2, rfl, e2⟩ := H2.out (by omega)
            obtain ⟨g3, o3, rfl, e3⟩ := H3.out (by omega)
            obtain ⟨r, hr⟩ : ∃ r, (parV n l)[i]? = some r := ⟨_, List.getElem?_eq_getElem (show i < (parV n l).length by have := HYL.out; rw [cellsL_len] at this; omega)⟩
            have hrr : (cellsL (parV n l))[i]? = some (cellsI (ints r)) := by unfold cellsL; rw [List.getElem?_map, hr]; rfl
            obtain ⟨u2, x2, y2⟩ := e2 i _ hrr
            obtain ⟨u3, x3, y3⟩ := e3 i _ hrr
            have qf := HQ89.out.trans q
            have HY2 := Lib.hid (y2.own qf)
            have HY3 := Lib.hid (y3.own qf)
            have ka : ∀ x : After wr, x.w.cell? ⟨g2, o2 + i, none⟩ = some u2 := fun x => x.o.cell (qf.cell x2)
            have kb : ∀ x : After wr, x.w.cell? ⟨g3, o3 + i, none⟩ = some u3 := fun x => x.o.cell (qf.cell x3)
            clear e2 e3 hr hrr y2 y3 x2 x3 qf
            go_upto_region 14 with (fail)
            refine region_after wr (by kernel_rfl) (by kernel_rfl) ?_
            repeat (first
              | go_big_quiet_step ((first   | (go_at_call 17; with_reducible refine (rints_yes (ints r) _ _ _ (Lib.hid (HY2.out.own (After.o _))) (Lib.hid (HY3.out.own (After.o _)))).mono ?_; rintro e w2 ⟨rfl, hg⟩; exact ⟨rfl, ⟨w2, (After.o _).trans hg⟩, rfl⟩)))
              | quiet_step ((first   | (go_at_call 17; with_reducible refine (rints_yes (ints r) _ _ _ (Lib.hid (HY2.out.own (After.o _))) (Lib.hid (HY3.out.own (After.o _)))).mono ?_; rintro e w2 ⟨rfl, hg⟩; exact ⟨rfl, ⟨w2, (After.o _).trans hg⟩, rfl⟩))))
            refine wpQuiet_nil ?_
            rintro _ ⟨x, rfl⟩
            have qq := x.o
            generalize x.w = w5 at *
            clear ka kb
            go_wp2
            go_roundw
            case rel => exact ⟨i + 1, by go_num, hlt, q.trans qq⟩
            case measure => simp [intOf]; omega
          · obtain rfl : i = y := by omega
            have HQA := Lib.hid (HQ9.out.trans q)
            have HPZ := Lib.hid (HP9.out.own q)
            have HCZ := Lib.hid (HC9.out.own q)
            have HKA := Lib.hid (q.cell HK0.out)
            have HKB := Lib.hid (q.cell HK1.out)
            have HBA := Lib.hid (q.cell HB0.out)
            have HBB := Lib.hid (q.cell HB1.out)
            clear q
            generalize wr = wz at *
            go_upto_region 17 with (fail)
            go_loopw [12, 13, 14, 15] (fun va _ _ _ wr => ∃ a : Nat, va = .int .i64 (a : Int) ∧ a ≤ n ∧ Own wz wr) (fun va _ _ _ _ => n - (intOf va).toNat)
            case atStart => exact ⟨0, rfl, Nat.zero_le _, Own.refl _⟩
            case round =>
              obtain ⟨a, rfl, han, q⟩ := hrel
              have k0 := q.cell HKA.out
              have k1 := q.cell HKB.out
              by_cases hla : a < n
              · have haz : (a : Int) < n := by omega
                have HPY := Lib.hid (HPZ.out.own q)
                have HRE := Lib.hid (show reaE (n : Int) l (a : Int) = 0 ∧ reaV (n : Int) l (a : Int) = rchV n l a by
                  have h1 : reaE (n : Int) l (a : Int) = 0 := by unfold reaE; rw [if_neg (by rw [HCE.out]; simp), if_pos (inN_iff.2 ⟨by omega, haz⟩)]
                  exact ⟨h1, by unfold reaV; rw [if_pos h1, Int.toNat_natCast, Int.toNat_natCast]⟩)
                have HVL := Lib.hid (rchV_len n l a)
                go_upto_region 20 with (go_at_call 18; with_reducible refine (preach_at n a l _ 0 _ _ HPY HRE).mono ?_; rintro e wa ⟨va, rfl, hra, qa⟩; rw [HVL.out] at hra; obtain ⟨Ar, cr, rfl⟩ := row_sh hra; have HRA := Lib.hid hra; have HQB := Lib.hid (q.trans qa); replace k0 := qa.cell k0; clear hra qa)
                go_upto_region 23 with (fail)
                clear k0 k1
                obtain ⟨gr, cr', e, _, _⟩ := row_form HRA.out (by omega)
                injection e with e1 e2 e3
                subst e1
                subst e3
                go_loopw [15] (fun vb wy => ∃ b : Nat, vb = .int .i64 (b : Int) ∧ b ≤ n ∧ Own wa wy) (fun vb _ => n - (intOf vb).toNat)
                case atStart => exact ⟨0, rfl, Nat.zero_le _, Own.refl _⟩
                case round =>
                  clear q
                  obtain ⟨b, rfl, hbn, q⟩ := hrel
                  have k0 := (HQB.out.trans q).cell HKA.out
                  have k1 := (HQB.out.trans q).cell HKB.out
                  by_cases hlb : b < n
                  · have hbz : (b : Int) < n := by omega
                    obtain ⟨bb, e0, hbb, _⟩ := row_bool HRA.out (rchV_len n l a) hlb
                    have hbv : bb = rch n l a b := by
                      have h1 : (rchV n l a)[b]? = some (rch n l a b) := by unfold rchV; rw [List.getElem?_map, List.getElem?_range hlb]; rfl
                      rw [h1] at hbb
                      injection hbb with hbb
                      exact hbb.symm
                    subst hbv
                    clear hbb
                    obtain ⟨t, ht⟩ : ∃ t, rch n l a b = t := ⟨_, rfl⟩
                    rw [ht] at e0
                    have HCY := Lib.hid (HCZ.out.own (HQB.out.trans q))
                    have ka : ∀ x : After wr, x.w.cell? ⟨gr, b, none⟩ = some (.bool t) := fun x => x.o.cell (q.cell e0)
                    have kb : ∀ x : After wr, x.w.cell? ⟨C, 0, none⟩ = some (.int .i64 (n : Int)) := fun x => x.o.cell ((HQB.out.trans q).cell HBA.out)
                    have kc : ∀ x : After wr, x.w.cell? ⟨C, 1, none⟩ = some (.slice A3 z c3) := fun x => x.o.cell ((HQB.out.trans q).cell HBB.out)
                    by_cases hab : a = b
                    · have d1 : ((a : Int) != (b : Int)) = false := bne_eq_false_iff_eq.2 (by omega)
                      clear hab ht e0
                      go_upto_region 25 with (fail)
                      refine region_after wr (by kernel_rfl) (by kernel_rfl) ?_
                      repeat (first
                        | go_big_quiet_step ((first   | (go_at_call 28; with_reducible refine (rhas_at n (cloL n l) _ a b t _ (Lib.hid (HCY.out.own (After.o _))) HHA).mono ?_; rintro e w2 ⟨rfl, hg⟩; exact ⟨rfl, ⟨w2, (After.o _).trans hg⟩, rfl⟩)))
                        | quiet_step ((first   | (go_at_call 28; with_reducible refine (rhas_at n (cloL n l) _ a b t _ (Lib.hid (HCY.out.own (After.o _))) HHA).mono ?_; rintro e w2 ⟨rfl, hg⟩; exact ⟨rfl, ⟨w2, (After.o _).trans hg⟩, rfl⟩))))
                      refine wpQuiet_nil ?_
                      rintro _ ⟨x, rfl⟩
                      have qq := x.o
                      generalize x.w = w5 at *
                      clear ka kb kc
                      go_wp2
                      go_roundw
                      case rel => exact ⟨b + 1, by go_num, hlb, q.trans qq⟩
                      case measure => simp [intOf]; omega
                    · have d1 : ((a : Int) != (b : Int)) = true := bne_iff_ne.2 (by omega)
                      have HHA := Lib.hid (show decide (((a : Int), (b : Int)) ∈ cloL n l) = t by rw [clo_has HG.out, rch_clo_ne HG.out hla hab, ht])
                      clear hab ht e0
                      go_upto_region 25 with (fail)
                      refine region_after wr (by kernel_rfl) (by kernel_rfl) ?_
                      repeat (first
                        | go_big_quiet_step ((first   | (go_at_call 28; with_reducible refine (rhas_at n (cloL n l) _ a b t _ (Lib.hid (HCY.out.own (After.o _))) HHA).mono ?_; rintro e w2 ⟨rfl, hg⟩; exact ⟨rfl, ⟨w2, (After.o _).trans hg⟩, rfl⟩)))
                        | quiet_step ((first   | (go_at_call 28; with_reducible refine (rhas_at n (cloL n l) _ a b t _ (Lib.hid (HCY.out.own (After.o _))) HHA).mono ?_; rintro e w2 ⟨rfl, hg⟩; exact ⟨rfl, ⟨w2, (After.o _).trans hg⟩, rfl⟩))))
                      refine wpQuiet_nil ?_
                      rintro _ ⟨x, rfl⟩
                      have qq := x.o
                      generalize x.w = w5 at *
                      clear ka kb kc
                      go_wp2
                      go_roundw
                      case rel => exact ⟨b + 1, by go_num, hlb, q.trans qq⟩
                      case measure => simp [intOf]; omega
                  · obtain rfl : b = n := by omega
                    go_wp2
                    go_roundw
                    case rel => exact ⟨a + 1, by go_num, hla, HQB.out.trans q⟩
                    case measure => simp [intOf]; omega
              · obtain rfl : a = n := by omega
                go_wp2_with (go_at_call 13; with_reducible refine (awake_at _).mono ?_; rintro e wb ⟨rfl, qb⟩)
                go_ret
                exact ⟨rfl, HQA.out.trans (q.trans qb)⟩
    · have d1 : (ce == 0) = false := beq_eq_false_iff_ne.2 c0
      clear hce
      go_enter Try.func10, Try.ntmps10
      go_upto_region 1 with (fail)
      obtain ⟨W0, hW, k0, k1, g0⟩ := box_new w N (.slice A m cap)
      rw [hW]
      clear hW
      have HP0 := Lib.hid (HP.out.own g0)
      go_wp2_with (first
        | (go_at_call 14; with_reducible refine (rlight_at N l _ true _ HP0 HLG).mono ?_; rintro e w1 ⟨rfl, q1⟩; have HP1 := Lib.hid (HP0.out.own q1); replace k0 := q1.cell k0; replace k1 := q1.cell k1)
        | (go_at_call 11; with_reducible refine (pcheck_at N l _ ce _ HP1 HCE).mono ?_; rintro e w2 ⟨rfl, q2⟩; have HP2 := Lib.hid (HP1.out.own q2); replace k0 := q2.cell k0; replace k1 := q2.cell k1)
        | (go_at_call 13; with_reducible refine (awake_at _).mono ?_; rintro e wz ⟨rfl, qz⟩))
      go_ret
      exact ⟨rfl, g0.trans (q1.trans (q2.trans qz))⟩
end Go.Proofs.Ytkdfmjhhdfiiiaa.GraW
