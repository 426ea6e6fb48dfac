/-
  Package share: the law ShareFair walked, over what it asks of the program. Condition: none.
-/
import Derived.Test.YtmliajkbknjacaaShareT
import Derived.Test.YtmliajkbknjacaaNumH
namespace Go.Proofs.Ytmliajkbknjacaa.ShaW
open Go.ChangeShapes Go.WideShapes Go.ChangeAt Go.RowKit
open PairW CelW MchW ShaP
open AsgP (su su_zero su_succ)
open NumP (smallB small_iff cmpOk cmpOk_iff cmpV cmpE cmp3)
theorem cmp_low {a b c d : Int} (h : cmpOk a b c d = true) (hl : a * b < c * d) : cmpV a b c d = -1 ∧ cmpE a b c d = 0 := by
  unfold cmpV cmpE cmp3
  rw [if_pos h, if_pos h, if_pos hl]
  exact ⟨rfl, rfl⟩
theorem cmp_high {a b c d : Int} (h : cmpOk a b c d = true) (hl : c * d < a * b) : cmpV a b c d = 1 ∧ cmpE a b c d = 0 := by
  unfold cmpV cmpE cmp3
  rw [if_pos h, if_pos h, if_neg (by omega), if_pos hl]
  exact ⟨rfl, rfl⟩
theorem cmp_okb {a b c d : Int} (ha : -1125899906842624 ≤ a ∧ a ≤ 1125899906842624) (hb : -1125899906842624 ≤ b ∧ b ≤ 1125899906842624) (hc : -1125899906842624 ≤ c ∧ c ≤ 1125899906842624) (hd : -1125899906842624 ≤ d ∧ d ≤ 1125899906842624) : cmpOk a b c d = true :=
  (cmpOk_iff a b c d).2 ⟨(small_iff _).2 ha, (small_iff _).2 hb, (small_iff _).2 hc, (small_iff _).2 hd⟩
section
variable (S : ShaC)
include S
set_option maxRecDepth 100000 in
set_option maxHeartbeats 8000000 in
theorem lfair_at (t : Int) (ws : List Int) (v : Value) (w : World) (hb : I64 t) (HB : Hid (∀ x ∈ ws, I64 x)) (HV : Hid (Cel w v (cellsI ws))) :
    Calls Try.prog 5 #[.int .i64 t, v] w fun e w' => e = .returned (.bool true) ∧ Own w w' := by
  obtain ⟨f, hf⟩ : ∃ f, splE t ws = f := ⟨_, rfl⟩
  obtain ⟨M, hm⟩ : ∃ M, splV t ws = M := ⟨_, rfl⟩
  have HF := Lib.hid hf
  have HM := Lib.hid hm
  clear hf hm
  have hsp := S.split t ws v f M w hb HB HV HF HM
  obtain ⟨A, cap, rfl, h1, h2, h3⟩ := cel_int HV.out
  unfold maxLen at h2
  obtain ⟨n, hn⟩ : ∃ n, ws.length = n := ⟨_, rfl⟩
  rw [hn] at h1 h3 HV hsp ⊢
  have HN := Lib.hid hn
  have H3 := Lib.hid h3
  clear hn h3
  by_cases hbig : 60 < n
  · have a1 : (60 : Int) < n := by omega
    go_enter Try.func5, Try.ntmps5
    go_wp2_with (go_at_call 9; with_reducible refine (awake_at S _).mono ?_; rintro e w9 ⟨rfl, q9⟩; have Q9 := Lib.hid q9; clear q9)
    go_ret
    exact ⟨rfl, Q9.out⟩
  · have a1 : ¬ (60 : Int) < n := by omega
    have hn6 : n ≤ 60 := by omega
    clear hbig
    by_cases h0 : f = 0
    · subst h0
      obtain ⟨o1, o2, o3, o4, o5⟩ := splE_ok HF.out
      obtain ⟨ht0, ht1⟩ := okW_iff.1 o1
      obtain ⟨s, hs⟩ : ∃ s, sumW ws = s := ⟨_, rfl⟩
      have hw := splE_wts HF.out
      have hwl := fun i (hi : i < ws.length) => w_le HF.out hi
      rw [hs] at o4 o5 hw hwl
      rw [HN.out] at hw hwl o2
      have hmv : mpF (shF t s (wF ws) n) n = M := by rw [← HM.out, splV_ok HF.out, hs, HN.out]
      have HW := Lib.hid hw
      have HWL := Lib.hid hwl
      have HSW := Lib.hid hs
      have HMV := Lib.hid hmv
      have hsp1 := hw.pos
      have hnp : 0 < n := o2.1
      clear o1 o2 o3 o4 hw hwl hs hmv
      go_enter Try.func5, Try.ntmps5
      go_upto_region 4 with (go_at_call 10; refine hsp.mono ?_; rintro e w1 ⟨x1, rfl, c1, q1⟩; have C1 := Lib.hid c1; have Q1 := Lib.hid q1; clear c1 q1)
      clear hsp
      obtain ⟨AM, capm, rfl, m1, m2, m3⟩ := cel_int C1.out
      unfold maxLen at m2
      have hml : M.length = n := by rw [← HMV.out, mpF_len]
      rw [hml] at m1 m3 ⊢
      have M3 := Lib.hid m3
      clear hml m3
      go_wp2
      go_loopw [7, 8, 9] (fun v7 v8 v9 wr => ∃ (i : Nat) (sm lf : Int), v7 = .int .i64 sm ∧ v8 = .int .i64 lf ∧ v9 = .int .i64 (i : Int) ∧ i ≤ n ∧ w1 = wr ∧ su (wF ws) i = sm ∧ t - su (shF t s (wF ws) n) i = lf) (fun _ _ v9 _ => n - (intOf v9).toNat)
      case atStart => exact ⟨0, 0, t, rfl, rfl, rfl, Nat.zero_le _, rfl, rfl, by rw [su_zero]; omega⟩
      case round =>
        obtain ⟨i, sm, lf, rfl, rfl, rfl, hi, rfl, hsm, hlf⟩ := hrel
        have b1 := su_mono HW.out.nn hi
        have b2 := su_mono (f := wF ws) (n := i) (k := 0) (fun j hj => HW.out.nn j (by omega)) (Nat.zero_le _)
        have b3 := su_mono (f := shF t s (wF ws) n) (n := i) (k := 0) (fun j hj => HW.out.sh0 (by omega)) (Nat.zero_le _)
        rw [HW.out.sum] at b1
        rw [su_zero] at b2 b3
        rw [hsm] at b1 b2
        have hlf1 : lf ≤ t := by omega
        have HSM := Lib.hid hsm
        have HLF := Lib.hid hlf
        by_cases hlt : i < n
        · have hin : (i : Int) < n := by omega
          obtain ⟨g, off, rfl, h4⟩ := H3.out hnp
          obtain ⟨gm, om, rfl, m4⟩ := M3.out hnp
          have e0 := Q1.out.cell (h4 i _ (wF_cell (by rw [HN.out]; exact hlt)))
          have e1 := m4 i _ (by rw [← HMV.out]; exact mpF_at hlt)
          have b4 := su_mono (f := shF t s (wF ws) n) (n := n) (k := i + 1) (fun j hj => HW.out.sh0 hj) (by omega)
          rw [HW.out.total, su_succ] at b4
          have b5 := HW.out.sh0 hlt
          have b6 := HW.out.nn i hlt
          have b7 := HWL.out i hlt
          obtain ⟨y, hy⟩ : ∃ y, shF t s (wF ws) n i = y := ⟨_, rfl⟩
          obtain ⟨x, hx⟩ : ∃ x, wF ws i = x := ⟨_, rfl⟩
          rw [hy] at e1 b4 b5
          rw [hx] at e0 b6 b7
          have HN1 := Lib.hid (show su (wF ws) (i + 1) = sm + x by rw [su_succ, HSM.out, hx])
          have HN2 := Lib.hid (show t - su (shF t s (wF ws) n) (i + 1) = lf - y by rw [su_succ, hy]; have := HLF.out; omega)
          have b8 : y ≤ lf := by omega
          clear h4 m4 hy hx hsm hlf b3 b4
          go_wp2
          go_roundw
          case rel => exact ⟨i + 1, sm + x, lf - y, by go_num, by go_num, by go_num, hlt, trivial, HN1.out, HN2.out⟩
          case measure => simp [intOf]; omega
        · obtain rfl : n = i := by omega
          obtain rfl : s = sm := by rw [← HSM.out]; exact HW.out.sum.symm
          obtain rfl : 0 = lf := by rw [← HLF.out, HW.out.total]; omega
          clear hsm hlf b1 b2 b3 HSM HLF
          go_wp2
          go_loopw [10, 11, 12, 13, 14, 15] (fun v10 _ _ _ _ _ wr => ∃ i : Nat, v10 = .int .i64 (i : Int) ∧ i ≤ n ∧ Own w1 wr) (fun v10 _ _ _ _ _ _ => n - (intOf v10).toNat)
          case atStart => exact ⟨0, rfl, Nat.zero_le _, Own.refl _⟩
          case round =>
            obtain ⟨i, rfl, hi, hq⟩ := hrel
            have HQ := Lib.hid hq
            clear hq
            by_cases hlt : i < n
            · have hin : (i : Int) < n := by omega
              obtain ⟨g, off, rfl, h4⟩ := H3.out hnp
              obtain ⟨gm, om, rfl, m4⟩ := M3.out hnp
              have E0 := Lib.hid ((Q1.out.trans HQ.out).cell (h4 i _ (wF_cell (by rw [HN.out]; exact hlt))))
              have E1 := Lib.hid (HQ.out.cell (m4 i _ (by rw [← HMV.out]; exact mpF_at hlt)))
              have H4 := Lib.hid (fun k (hk : k < n) => Q1.out.cell (h4 k _ (wF_cell (by rw [HN.out]; exact hk))))
              have M4 := Lib.hid (fun k (hk : k < n) => m4 k _ (by rw [← HMV.out]; exact mpF_at (f := shF t s (wF ws) n) hk))
              have b5 := HW.out.sh0 hlt
              have b6 := HW.out.nn i hlt
              have b7 := HWL.out i hlt
              have b8 : shF t s (wF ws) n i ≤ t := by
                have := su_elem (f := shF t s (wF ws) n) (fun j hj => HW.out.sh0 hj) hlt
                rwa [HW.out.total] at this
              obtain ⟨f1, f2⟩ := HW.out.fair i
              have hz0 : wF ws i = 0 → shF t s (wF ws) n i = 0 := HW.out.zero
              obtain ⟨y, hy⟩ : ∃ y, shF t s (wF ws) n i = y := ⟨_, rfl⟩
              obtain ⟨x, hx⟩ : ∃ x, wF ws i = x := ⟨_, rfl⟩
              rw [hy] at E1 b5 b8 f1 f2 hz0
              rw [hx] at E0 b6 b7 f1 f2 hz0
              have HY := Lib.hid hy
              have HX := Lib.hid hx
              have HZ0 := Lib.hid hz0
              have K1 := Lib.hid (fun w => NumW.cmp_at (y - 1) s t x (-1) 0 w (Lib.hid (cmp_low (cmp_okb (by omega) (by omega) (by omega) (by omega)) f1)))
              have K2 := Lib.hid (fun w => NumW.cmp_at (y + 1) s t x 1 0 w (Lib.hid (cmp_high (cmp_okb (by omega) (by omega) (by omega) (by omega)) f2)))
              have E0A : ∀ z : After wr, z.w.cell? ⟨g, off + i, none⟩ = some (.int .i64 x) := fun z => z.o.cell E0.out
              have E1A : ∀ z : After wr, z.w.cell? ⟨gm, om + i, none⟩ = some (.int .i64 y) := fun z => z.o.cell E1.out
              clear h4 m4 hy hx f1 f2 hz0
              go_upto_region 19 with (fail)
              refine region_after wr (by kernel_rfl) (by kernel_rfl) ?_
              repeat (first
                | go_big_quiet_step ((go_at_call 15; refine (K1.out _).mono ?_; rintro e w2 ⟨rfl, rfl⟩; exact ⟨rfl, ⟨_, rfl⟩⟩))
                | quiet_step ((go_at_call 15; refine (K1.out _).mono ?_; rintro e w2 ⟨rfl, rfl⟩; exact ⟨rfl, ⟨_, rfl⟩⟩)))
              refine wpQuiet_nil ?_
              rintro _ ⟨z, rfl⟩
              have HQ5 := Lib.hid (HQ.out.trans z.o)
              have E05 := Lib.hid (E0A z)
              have E15 := Lib.hid (E1A z)
              clear E0A E1A
              generalize z.w = w5 at *
              have E0A : ∀ z : After w5, z.w.cell? ⟨g, off + i, none⟩ = some (.int .i64 x) := fun z => z.o.cell E05.out
              have E1A : ∀ z : After w5, z.w.cell? ⟨gm, om + i, none⟩ = some (.int .i64 y) := fun z => z.o.cell E15.out
              go_upto_region 20 with (fail)
              refine region_after w5 (by kernel_rfl) (by kernel_rfl) ?_
              repeat (first
                | go_big_quiet_step ((go_at_call 15; refine (K2.out _).mono ?_; rintro e w2 ⟨rfl, rfl⟩; exact ⟨rfl, ⟨_, rfl⟩⟩))
                | quiet_step ((go_at_call 15; refine (K2.out _).mono ?_; rintro e w2 ⟨rfl, rfl⟩; exact ⟨rfl, ⟨_, rfl⟩⟩)))
              refine wpQuiet_nil ?_
              rintro _ ⟨z', rfl⟩
              have HQ6 := Lib.hid (HQ5.out.trans z'.o)
              have E06 := Lib.hid (E0A z')
              have E16 := Lib.hid (E1A z')
              clear E0A E1A
              generalize z'.w = w6 at *
              have e0 := E06.out
              have e1 := E16.out
              have HXY := Lib.hid (show x = 0 ∨ x ≠ 0 from by omega)
              rcases HXY.out with hx0 | hx0
              all_goals
                first
                  | (have hy0 := HZ0.out hx0
                     have d1 : (x == 0) = true := beq_iff_eq.2 hx0
                     have d2 : (y != 0) = false := bne_eq_false_iff_eq.2 hy0
                     clear hx0 hy0)
                  | (have d1 : (x == 0) = false := beq_eq_false_iff_ne.2 hx0
                     clear hx0)
                go_wp2
                go_loopw [15] (fun v15 wr => ∃ k : Nat, v15 = .int .i64 (k : Int) ∧ k ≤ i ∧ Own w6 wr) (fun v15 _ => i - (intOf v15).toNat)
                case atStart => exact ⟨0, rfl, Nat.zero_le _, Own.refl _⟩
                case round =>
                  obtain ⟨k, rfl, hk, hq⟩ := hrel
                  have HQ7 := Lib.hid hq
                  clear hq
                  by_cases hlt2 : k < i
                  · have hki : (k : Int) < i := by omega
                    have hkn : k < n := by omega
                    have hkz : (k : Int) < n := by omega
                    have g0 := HQ7.out.cell E06.out
                    have g1 := HQ7.out.cell E16.out
                    have g2 := (HQ6.out.trans HQ7.out).cell (H4.out k hkn)
                    have g3 := (HQ6.out.trans HQ7.out).cell (M4.out k hkn)
                    have mo1 : wF ws i < wF ws k → shF t s (wF ws) n i ≤ shF t s (wF ws) n k := fun h => shF_mono HW.out hkn (.inl h)
                    have mo2 : wF ws k < wF ws i → shF t s (wF ws) n k ≤ shF t s (wF ws) n i := fun h => shF_mono HW.out hlt (.inl h)
                    have mo3 : wF ws k = wF ws i → shF t s (wF ws) n i ≤ shF t s (wF ws) n k := fun h => shF_mono HW.out hkn (.inr ⟨h, hlt2⟩)
                    obtain ⟨xk, hxk⟩ : ∃ u, wF ws k = u := ⟨_, rfl⟩
                    obtain ⟨yk, hyk⟩ : ∃ u, shF t s (wF ws) n k = u := ⟨_, rfl⟩
                    rw [hxk] at g2
                    rw [hyk] at g3
                    rw [HX.out, hxk, HY.out, hyk] at mo1 mo2 mo3
                    clear hxk hyk
                    rcases Int.lt_trichotomy xk x with h | h | h
                    · have h1 := mo2 h
                      have c1 : decide (x < xk) = false := decide_eq_false (by omega)
                      have c2 : decide (xk < x) = true := decide_eq_true h
                      have c3 : decide (y < yk) = false := decide_eq_false (by omega)
                      have c4 : (xk == x) = false := beq_eq_false_iff_ne.2 (by omega)
                      clear mo1 mo2 mo3 h h1
                      go_upto_region 26 with (fail)
                      go_quiet (fail)
                      go_wp2
                      go_roundw
                      case rel => exact ⟨k + 1, by go_num, hlt2, HQ7.out.drewN _⟩
                      case measure => simp [intOf]; omega
                    · have h1 := mo3 h
                      have c1 : decide (x < xk) = false := decide_eq_false (by omega)
                      have c2 : decide (xk < x) = false := decide_eq_false (by omega)
                      have c3 : decide (yk < y) = false := decide_eq_false (by omega)
                      have c4 : (xk == x) = true := beq_iff_eq.2 h
                      clear mo1 mo2 mo3 h h1
                      go_upto_region 26 with (fail)
                      go_quiet (fail)
                      go_wp2
                      go_roundw
                      case rel => exact ⟨k + 1, by go_num, hlt2, HQ7.out.drewN _⟩
                      case measure => simp [intOf]; omega
                    · have h1 := mo1 h
                      have c1 : decide (x < xk) = true := decide_eq_true h
                      have c2 : decide (xk < x) = false := decide_eq_false (by omega)
                      have c3 : decide (yk < y) = false := decide_eq_false (by omega)
                      have c4 : (xk == x) = false := beq_eq_false_iff_ne.2 (by omega)
                      clear mo1 mo2 mo3 h h1
                      go_upto_region 26 with (fail)
                      go_quiet (fail)
                      go_wp2
                      go_roundw
                      case rel => exact ⟨k + 1, by go_num, hlt2, HQ7.out.drewN _⟩
                      case measure => simp [intOf]; omega
                  · obtain rfl : k = i := by omega
                    go_wp2
                    go_roundw
                    case rel => exact ⟨k + 1, by go_num, hlt, HQ6.out.trans HQ7.out⟩
                    case measure => simp [intOf]; omega
            · obtain rfl : n = i := by omega
              go_wp2_with (go_at_call 9; with_reducible refine (awake_at S _).mono ?_; rintro e w9 ⟨rfl, q9⟩; have Q9 := Lib.hid q9; clear q9)
              go_ret
              exact ⟨rfl, (Q1.out.trans HQ.out).trans Q9.out⟩
    · obtain rfl : [] = M := by rw [← HM.out, splV_bad (by rw [HF.out]; exact h0)]
      have df : (f != 0) = true := bne_iff_ne.2 h0
      clear h0
      go_enter Try.func5, Try.ntmps5
      go_wp2_with (first
        | (go_at_call 10; refine hsp.mono ?_; rintro e w1 ⟨x1, rfl, c1, q1⟩; obtain ⟨A1, p1, rfl, _, _, _⟩ := cel_int c1; have Q1 := Lib.hid q1; clear c1 q1)
        | (go_at_call 9; with_reducible refine (awake_at S _).mono ?_; rintro e w9 ⟨rfl, q9⟩; have Q9 := Lib.hid q9; clear q9))
      go_ret
      exact ⟨rfl, Q1.out.trans Q9.out⟩
end
end Go.Proofs.Ytmliajkbknjacaa.ShaW
