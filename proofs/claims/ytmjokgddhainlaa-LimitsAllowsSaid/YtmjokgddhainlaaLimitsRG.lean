/-
  Walks of the specification of package limits: First. Condition: none.
-/
import Derived.Test.YtmjokgddhainlaaLimitsRF
namespace Go.Proofs.Ytmjokgddhainlaa.LimW
open Go.ChangeShapes Go.WideShapes Go.ChangeAt Go.RowKit
open MovW PairW AimP AimW BlkW PrtW PstP PstW RegD LimP
set_option maxRecDepth 100000 in
set_option maxHeartbeats 16000000 in
theorem rfi_at (l : Vl) (sv tv : Value) (f : Nat → Vl) (q : Nat → Int) (n m : Nat) (fc ft fp e : Int) (w : World) (HM : Hid (Mov sv tv f q n m w)) (H : Hid (fvE l f q n m = fc ∧ fvT l f q n m = ft ∧ fvP l f q n m = fp ∧ fsE l f n m = e)) :
    Calls Try.prog 27 #[.agg (lz l), .agg #[sv, tv]] w fun r w' => r = .returned (.tuple #[.agg #[.int .i64 fc, .int .i64 ft, .int .i64 fp], .int .i64 e]) ∧ Own w w' := by
  by_cases h1 : chE l = 0
  · have HA0 := Lib.hid h1
    by_cases h2 : m = 0 ∨ n ≠ m + 1
    · obtain ⟨⟨A, ca, rfl, -⟩, ⟨A2, cb, rfl, -⟩, hnl, hml⟩ := HM.out
      unfold maxLen at hnl hml
      have e1 := fs_form (f := f) h1 h2
      obtain ⟨g1, g2, g3⟩ := fv_nul (q := q) (l := l) (f := f) (n := n) (m := m) (by rw [e1]; exact by decide)
      obtain ⟨q1, q2, q3, q4⟩ := H.out
      obtain rfl : 0 = fc := g1.symm.trans q1
      obtain rfl : 0 = ft := g2.symm.trans q2
      obtain rfl : 0 = fp := g3.symm.trans q3
      obtain rfl : 2 = e := e1.symm.trans q4
      clear g1 g2 g3 q1 q2 q3 q4 e1 H
      clear h1
      by_cases h0 : m = 0
      · have d1 : decide ((m : Int) < 1) = true := decide_eq_true (by omega)
        clear h2 h0 HM hnl hml
        go_enter Try.func27, Try.ntmps27
        go_upto_region 1 with (fail)
        obtain ⟨W0, B, C, Rr, hW, hR, hC, hB, hb, hc, hr, g0, -, -, hR0, hneBC, hneBR, hneCR⟩ := three_new w (lz l) 26 #[.slice A n ca, .slice A2 m cb] 52 (#[.int .i64 0, .int .i64 0, .int .i64 0]) 55
        rw [hW, hR, hC, hB]
        have HB := Lib.hid hb
        have HC := Lib.hid hc
        have HR := Lib.hid hr
        clear hW hR hC hB hb hc hr
        go_upto_region 4 with (first | ((with_reducible show wpList _ _ _ (⟨_, .load 26 (.tmp 2), _, _, _, none⟩ :: _) _ _); refine wpList_load_row rfl 26 (.tmp 2) rfl B rfl 26 _ (0, 0) _ HB.out.raw Try.underlying26 rfl infoLs ?_) | (go_at_call 15; with_reducible refine (rck_at l 0 _ HA0).mono ?_; rintro r w1 ⟨rfl, hg⟩; replace g0 := g0.trans hg; replace HB := Lib.hid (HB.out.own hg); replace HC := Lib.hid (HC.out.own hg); replace HR := Lib.hid (HR.out.own hg); clear hg))
        have m0 := HC.out.cell 0
        have m1 := HC.out.cell 1
        go_wp2_with ((with_reducible show wpList _ _ _ (⟨_, .store 55 (.tmp 4) (.tmp 31), _, _, _, none⟩ :: _) _ _); refine wpList_store_row rfl 55 (.tmp 4) (.tmp 31) rfl Rr #[.int .i64 0, .int .i64 0, .int .i64 0] rfl rfl 55 _ HR.out.raw infoF rfl (by simp [Value.oneCell']) ?_)
        have hp := HR.out.row (#[.int .i64 0, .int .i64 0, .int .i64 0])
        exact bodyPost_ret (blk_results rfl rfl rfl hp Try.underlying55 rfl infoF) rfl ⟨rfl, own_setRow g0 hR0 _⟩
      · have d1 : decide ((m : Int) < 1) = false := decide_eq_false (by omega)
        obtain ⟨z, i1⟩ : ∃ z, IntKind.i64.wrap ((m : Int) + 1) = z := ⟨_, rfl⟩
        have hz : (n : Int) ≠ z := by rw [← i1]; exact form_ne (by omega) (by omega) (by omega)
        have d2 : decide ((n : Int) = z) = false := decide_eq_false hz
        have d3 : ((n : Int) == z) = false := beq_eq_false_iff_ne.2 hz
        have d4 : ((n : Int) != z) = true := bne_iff_ne.2 hz
        clear h2 h0 HM hnl hml hz
        go_enter Try.func27, Try.ntmps27
        go_upto_region 1 with (fail)
        obtain ⟨W0, B, C, Rr, hW, hR, hC, hB, hb, hc, hr, g0, -, -, hR0, hneBC, hneBR, hneCR⟩ := three_new w (lz l) 26 #[.slice A n ca, .slice A2 m cb] 52 (#[.int .i64 0, .int .i64 0, .int .i64 0]) 55
        rw [hW, hR, hC, hB]
        have HB := Lib.hid hb
        have HC := Lib.hid hc
        have HR := Lib.hid hr
        clear hW hR hC hB hb hc hr
        go_upto_region 4 with (first | ((with_reducible show wpList _ _ _ (⟨_, .load 26 (.tmp 2), _, _, _, none⟩ :: _) _ _); refine wpList_load_row rfl 26 (.tmp 2) rfl B rfl 26 _ (0, 0) _ HB.out.raw Try.underlying26 rfl infoLs ?_) | (go_at_call 15; with_reducible refine (rck_at l 0 _ HA0).mono ?_; rintro r w1 ⟨rfl, hg⟩; replace g0 := g0.trans hg; replace HB := Lib.hid (HB.out.own hg); replace HC := Lib.hid (HC.out.own hg); replace HR := Lib.hid (HR.out.own hg); clear hg))
        have m0 := HC.out.cell 0
        have m1 := HC.out.cell 1
        go_wp2_with ((with_reducible show wpList _ _ _ (⟨_, .store 55 (.tmp 4) (.tmp 31), _, _, _, none⟩ :: _) _ _); refine wpList_store_row rfl 55 (.tmp 4) (.tmp 31) rfl Rr #[.int .i64 0, .int .i64 0, .int .i64 0] rfl rfl 55 _ HR.out.raw infoF rfl (by simp [Value.oneCell']) ?_)
        have hp := HR.out.row (#[.int .i64 0, .int .i64 0, .int .i64 0])
        exact bodyPost_ret (blk_results rfl rfl rfl hp Try.underlying55 rfl infoF) rfl ⟨rfl, own_setRow g0 hR0 _⟩
    · have HCL := Lib.hid h1
      obtain ⟨hm0, hnm⟩ : m ≠ 0 ∧ n = m + 1 := by omega
      have HFS := Lib.hid (fs_else (f := f) h1 hm0 hnm)
      have hm1 : 0 < m := by omega
      clear h1 h2
      obtain ⟨⟨A, ca, rfl, hps⟩, ⟨A2, cb, rfl, hss⟩, hnl, hml⟩ := HM.out
      obtain ⟨pb, po, rfl, hpl⟩ := hps (by omega)
      obtain ⟨sb, so, rfl, hsl⟩ := hss (by omega)
      have HPL := Lib.hid hpl
      have HSL := Lib.hid hsl
      unfold maxLen at hnl hml
      clear hps hss hpl hsl
      have d1 : decide ((m : Int) < 1) = false := decide_eq_false (by omega)
      have i1 : IntKind.i64.wrap ((m : Int) + 1) = (n : Int) := (IntWalk.i64_in _ (by omega)).trans (by omega)
      have HNM := Lib.hid hnm
      clear hnm hm0 HSL
      go_enter Try.func27, Try.ntmps27
      go_upto_region 1 with (fail)
      obtain ⟨W0, B, C, Rr, hW, hR, hC, hB, hb, hc, hr, g0, -, -, hR0, hneBC, hneBR, hneCR⟩ := three_new w (lz l) 26 #[.slice (some ⟨pb, po, none⟩) n ca, .slice (some ⟨sb, so, none⟩) m cb] 52 (#[.int .i64 0, .int .i64 0, .int .i64 0]) 55
      rw [hW, hR, hC, hB]
      have HB := Lib.hid hb
      have HC := Lib.hid hc
      have HR := Lib.hid hr
      clear hW hR hC hB hb hc hr
      go_upto_region 4 with (first | ((with_reducible show wpList _ _ _ (⟨_, .load 26 (.tmp 2), _, _, _, none⟩ :: _) _ _); refine wpList_load_row rfl 26 (.tmp 2) rfl B rfl 26 _ (0, 0) _ HB.out.raw Try.underlying26 rfl infoLs ?_) | (go_at_call 15; with_reducible refine (rck_at l 0 _ HA0).mono ?_; rintro r w1 ⟨rfl, hg⟩; replace g0 := g0.trans hg; replace HB := Lib.hid (HB.out.own hg); replace HC := Lib.hid (HC.out.own hg); replace HR := Lib.hid (HR.out.own hg); clear hg))
      have m0 := HC.out.cell 0
      have m1 := HC.out.cell 1
      go_wp2
      clear d1 i1 m0 m1
      go_loopw [7, 8] (fun vi _ wr => ∃ k : Nat, vi = .int .i64 (k : Int) ∧ k ≤ n ∧ (∀ i, i < k → vaE (f i) = 0) ∧ Own w wr ∧ Blk wr B (lz l) 26 ∧ Blk wr C #[.slice (some ⟨pb, po, none⟩) n ca, .slice (some ⟨sb, so, none⟩) m cb] 52 ∧ Blk wr Rr (#[.int .i64 0, .int .i64 0, .int .i64 0]) 55) (fun vi _ _ => n - (intOf vi).toNat)
      case atStart => exact ⟨0, rfl, by omega, fun i hi => absurd hi (by omega), g0, HB.out, HC.out, HR.out⟩
      case round =>
        clear g0 HB HC HR
        obtain ⟨k, rfl, hk, hz, g0, hb, hc, hr⟩ := hrel
        have HZ := Lib.hid hz
        have HB := Lib.hid hb
        have HC := Lib.hid hc
        have HR := Lib.hid hr
        have m0 := hc.cell 0
        clear hz hb hc hr
        by_cases hlt : k < n
        · have hkn : (k : Int) < n := by omega
          obtain ⟨c', hc⟩ : ∃ c, vaE (f k) = c := ⟨_, rfl⟩
          have HPX := Lib.hid ((HPL.out k hlt).own g0)
          have HFK := Lib.hid hc
          have HV := Lib.hid hc
          generalize f k = p at HPX HV
          clear hc
          by_cases hc0 : c' = 0
          · subst hc0
            go_wp2_with (first | ((with_reducible show wpList _ _ _ (⟨_, .load 63 (.tmp 42), _, _, _, none⟩ :: _) _ _); refine wpList_load_lie rfl 63 (.tmp 42) rfl pb (po + k * 22) rfl (cz 22 p) HPX.out _ Try.underlying63 rfl infoP ?_) | (go_at_call 45; with_reducible refine (rvalid_at p 0 _ HV).mono ?_; rintro r w9 ⟨rfl, hg⟩; replace g0 := g0.trans hg; replace HB := Lib.hid (HB.out.own hg); replace HC := Lib.hid (HC.out.own hg); replace HR := Lib.hid (HR.out.own hg); clear hg))
            go_roundw
            case rel =>
              refine ⟨k + 1, by go_num, hlt, fun i hi => ?_, g0, HB.out, HC.out, HR.out⟩
              by_cases e : i = k
              · rw [e]; exact HFK.out
              · exact HZ.out i (by omega)
            case measure => simp [intOf]; omega
          · have kc : (c' != 0) = true := bne_iff_ne.2 hc0
            have e1 : fsE l f n m = c' := by
              rw [HFS.out, feN_at (E := fsN f) HZ.out (show fsN f k ≠ 0 by show vaE (f k) ≠ 0; rw [HFK.out]; exact hc0) hlt]
              exact HFK.out
            obtain ⟨g1, g2, g3⟩ := fv_nul (q := q) (l := l) (f := f) (n := n) (m := m) (by rw [e1]; exact hc0)
            obtain ⟨q1, q2, q3, q4⟩ := H.out
            obtain rfl : 0 = fc := g1.symm.trans q1
            obtain rfl : 0 = ft := g2.symm.trans q2
            obtain rfl : 0 = fp := g3.symm.trans q3
            obtain rfl : c' = e := e1.symm.trans q4
            clear g1 g2 g3 q1 q2 q3 q4 e1 H
            clear HZ HFK hc0
            go_wp2_with (first | ((with_reducible show wpList _ _ _ (⟨_, .load 63 (.tmp 42), _, _, _, none⟩ :: _) _ _); refine wpList_load_lie rfl 63 (.tmp 42) rfl pb (po + k * 22) rfl (cz 22 p) HPX.out _ Try.underlying63 rfl infoP ?_) | (go_at_call 45; with_reducible refine (rvalid_at p c' _ HV).mono ?_; rintro r w9 ⟨rfl, hg⟩; replace g0 := g0.trans hg; replace HB := Lib.hid (HB.out.own hg); replace HC := Lib.hid (HC.out.own hg); replace HR := Lib.hid (HR.out.own hg); clear hg) | ((with_reducible show wpList _ _ _ (⟨_, .store 55 (.tmp 4) (.tmp 47), _, _, _, none⟩ :: _) _ _); refine wpList_store_row rfl 55 (.tmp 4) (.tmp 47) rfl Rr #[.int .i64 0, .int .i64 0, .int .i64 0] rfl rfl 55 _ HR.out.raw infoF rfl (by simp [Value.oneCell']) ?_))
            have hp := HR.out.row (#[.int .i64 0, .int .i64 0, .int .i64 0])
            exact bodyPost_ret (blk_results rfl rfl rfl hp Try.underlying55 rfl infoF) rfl ⟨rfl, own_setRow g0 hR0 _⟩
        · obtain rfl : k = n := by omega
          have hf0 : fsE l f k m = 0 := HFS.out.trans (feN_ok (E := fsN f) HZ.out)
          have HF0 := Lib.hid hf0
          have HVA := HZ
          clear HZ HFS hf0 hlt hk
          generalize hn9 : k = n at *
          clear hn9 k
          go_wp2
          clear m0
          generalize wr = wz at *
          go_loopw [9, 10] (fun vi _ wr => ∃ k : Nat, vi = .int .i64 (k : Int) ∧ k ≤ n ∧ (∀ i, i < k → tiE l f q i = 0) ∧ Own w wr ∧ Blk wr B (lz l) 26 ∧ Blk wr C #[.slice (some ⟨pb, po, none⟩) n ca, .slice (some ⟨sb, so, none⟩) m cb] 52 ∧ Blk wr Rr (#[.int .i64 0, .int .i64 0, .int .i64 0]) 55) (fun vi _ _ => n - (intOf vi).toNat)
          case atStart => exact ⟨0, rfl, by omega, fun i hi => absurd hi (by omega), g0, HB.out, HC.out, HR.out⟩
          case round =>
            clear g0 HB HC HR
            obtain ⟨k, rfl, hk, hz, g0, hb, hc, hr⟩ := hrel
            have HZ := Lib.hid hz
            have HB := Lib.hid hb
            have HC := Lib.hid hc
            have HR := Lib.hid hr
            have m0 := hc.cell 0
            clear hz hb hc hr
            by_cases hlt : k < n
            · have hkn : (k : Int) < n := by omega
              have hkm : k ≤ m := by have := HNM.out; omega
              obtain ⟨c, hc⟩ : ∃ c, tiE l f q k = c := ⟨_, rfl⟩
              obtain ⟨i, hi⟩ : ∃ c, tiP l f q k = c := ⟨_, rfl⟩
              by_cases hc0 : c = 0
              · subst hc0
                have hi0 : tiP l f q k = 0 := if_pos hc
                have HTI := Lib.hid (show tiE l f q k = 0 ∧ (if tiE l f q k = 0 then 0 else (k : Int)) = 0 ∧ tiP l f q k = 0 from ⟨hc, if_pos hc, hi0⟩)
                clear hc hi hi0
                go_upto_region 16 with (first | ((with_reducible show wpList _ _ _ (⟨_, .load 26 (.tmp 2), _, _, _, none⟩ :: _) _ _); refine wpList_load_row rfl 26 (.tmp 2) rfl B rfl 26 _ (0, 0) _ HB.out.raw Try.underlying26 rfl infoLs ?_) | ((with_reducible show wpList _ _ _ (⟨_, .load 52 (.tmp 3), _, _, _, none⟩ :: _) _ _); refine wpList_load_row rfl 52 (.tmp 3) rfl C rfl 52 _ (0, 0) _ HC.out.raw Try.underlying52 rfl infoMv2 ?_) | (go_at_call 46; with_reducible refine (rat_at l (.slice (some ⟨pb, po, none⟩) n ca) (.slice (some ⟨sb, so, none⟩) m cb) f q n m k (0) (0) (0) _ (Lib.hid (HM.out.own g0)) hlt hkm hm1 HCL.out HVA.out HTI).mono ?_; rintro r w9 ⟨rfl, hg⟩; replace g0 := g0.trans hg; replace HB := Lib.hid (HB.out.own hg); replace HC := Lib.hid (HC.out.own hg); replace HR := Lib.hid (HR.out.own hg); clear hg) | ((with_reducible show wpList _ _ _ (⟨_, .store 55 (.tmp 10) (.tmp 59), _, _, _, none⟩ :: _) _ _); refine wpList_store_row rfl 55 (.tmp 10) (.tmp 59) rfl _ #[.int .i64 0, .int .i64 0, .int .i64 0] rfl rfl 55 _ (heap_new _ _) infoF rfl (by simp [Value.oneCell']) ?_; rw [World.setRow_alloc_new]))
                obtain ⟨w10, Q, hW, hBq, hb, hg, Qg⟩ := blk_new w9 (#[.int .i64 0, .int .i64 0, .int .i64 0]) 55
                rw [hW, hBq]
                have HQ := Lib.hid hb
                replace g0 := g0.trans hg
                replace HB := Lib.hid (HB.out.own hg)
                replace HC := Lib.hid (HC.out.own hg)
                replace HR := Lib.hid (HR.out.own hg)
                clear hW hBq hb hg
                have z0 := HQ.out.cell 0
                clear Qg
                go_wp2
                go_roundw
                case rel =>
                  refine ⟨k + 1, by go_num, hlt, fun i hi => ?_, g0, HB.out, HC.out, HR.out⟩
                  by_cases e : i = k
                  · rw [e]; exact HTI.out.1
                  · exact HZ.out i (by omega)
                case measure => simp [intOf]; omega
              · have kc : (c != 0) = true := bne_iff_ne.2 hc0
                have HTI := Lib.hid (show tiE l f q k = c ∧ (if tiE l f q k = 0 then 0 else (k : Int)) = (k : Int) ∧ tiP l f q k = i from ⟨hc, if_neg (by rw [hc]; exact hc0), hi⟩)
                obtain ⟨q1, q2, q3, q4⟩ := H.out
                obtain ⟨g1, g2, g3⟩ := fv_at (l := l) (f := f) (q := q) (n := n) (m := m) HF0.out HZ.out (by rw [hc]; exact hc0) hlt
                obtain rfl : c = fc := by rw [← q1, g1]; exact hc.symm
                obtain rfl : (k : Int) = ft := by rw [← q2, g2]
                obtain rfl : i = fp := by rw [← q3, g3]; exact hi.symm
                obtain rfl : 0 = e := HF0.out.symm.trans q4
                clear q1 q2 q3 q4 g1 g2 g3 hc0 H HZ hc hi
                go_upto_region 16 with (first | ((with_reducible show wpList _ _ _ (⟨_, .load 26 (.tmp 2), _, _, _, none⟩ :: _) _ _); refine wpList_load_row rfl 26 (.tmp 2) rfl B rfl 26 _ (0, 0) _ HB.out.raw Try.underlying26 rfl infoLs ?_) | ((with_reducible show wpList _ _ _ (⟨_, .load 52 (.tmp 3), _, _, _, none⟩ :: _) _ _); refine wpList_load_row rfl 52 (.tmp 3) rfl C rfl 52 _ (0, 0) _ HC.out.raw Try.underlying52 rfl infoMv2 ?_) | (go_at_call 46; with_reducible refine (rat_at l (.slice (some ⟨pb, po, none⟩) n ca) (.slice (some ⟨sb, so, none⟩) m cb) f q n m k (c) (k) (i) _ (Lib.hid (HM.out.own g0)) hlt hkm hm1 HCL.out HVA.out HTI).mono ?_; rintro r w9 ⟨rfl, hg⟩; replace g0 := g0.trans hg; replace HB := Lib.hid (HB.out.own hg); replace HC := Lib.hid (HC.out.own hg); replace HR := Lib.hid (HR.out.own hg); clear hg) | ((with_reducible show wpList _ _ _ (⟨_, .store 55 (.tmp 10) (.tmp 59), _, _, _, none⟩ :: _) _ _); refine wpList_store_row rfl 55 (.tmp 10) (.tmp 59) rfl _ #[.int .i64 c, .int .i64 (k : Int), .int .i64 i] rfl rfl 55 _ (heap_new _ _) infoF rfl (by simp [Value.oneCell']) ?_; rw [World.setRow_alloc_new]))
                obtain ⟨w10, Q, hW, hBq, hb, hg, Qg⟩ := blk_new w9 (#[.int .i64 c, .int .i64 (k : Int), .int .i64 i]) 55
                rw [hW, hBq]
                have HQ := Lib.hid hb
                replace g0 := g0.trans hg
                replace HR := Lib.hid (HR.out.own hg)
                clear hW hBq hb hg
                have z0 := HQ.out.cell 0
                clear Qg
                go_wp2_with (first | ((with_reducible show wpList _ _ _ (⟨_, .load 55 (.tmp 10), _, _, _, none⟩ :: _) _ _); refine wpList_load_row rfl 55 (.tmp 10) rfl Q rfl 55 _ (0, 0) _ HQ.out.raw Try.underlying55 rfl infoF ?_) | ((with_reducible show wpList _ _ _ (⟨_, .store 55 (.tmp 4) (.tmp 63), _, _, _, none⟩ :: _) _ _); refine wpList_store_row rfl 55 (.tmp 4) (.tmp 63) rfl Rr #[.int .i64 c, .int .i64 (k : Int), .int .i64 i] rfl rfl 55 _ HR.out.raw infoF rfl (by simp [Value.oneCell']) ?_))
                have hp := HR.out.row (#[.int .i64 c, .int .i64 (k : Int), .int .i64 i])
                exact bodyPost_ret (blk_results rfl rfl rfl hp Try.underlying55 rfl infoF) rfl ⟨rfl, own_setRow g0 hR0 _⟩
            · obtain rfl : k = n := by omega
              obtain ⟨g1, g2, g3⟩ := fv_ok (l := l) (f := f) (q := q) (n := k) (m := m) HZ.out
              obtain ⟨q1, q2, q3, q4⟩ := H.out
              obtain rfl : 0 = fc := g1.symm.trans q1
              obtain rfl : 0 = ft := g2.symm.trans q2
              obtain rfl : 0 = fp := g3.symm.trans q3
              obtain rfl : 0 = e := HF0.out.symm.trans q4
              clear g1 g2 g3 q1 q2 q3 q4 H HZ HB HC
              go_wp2_with ((with_reducible show wpList _ _ _ (⟨_, .store 55 (.tmp 4) (.tmp 64), _, _, _, none⟩ :: _) _ _); refine wpList_store_row rfl 55 (.tmp 4) (.tmp 64) rfl Rr #[.int .i64 0, .int .i64 0, .int .i64 0] rfl rfl 55 _ HR.out.raw infoF rfl (by simp [Value.oneCell']) ?_)
              have hp := HR.out.row (#[.int .i64 0, .int .i64 0, .int .i64 0])
              exact bodyPost_ret (blk_results rfl rfl rfl hp Try.underlying55 rfl infoF) rfl ⟨rfl, own_setRow g0 hR0 _⟩
  · obtain ⟨d, hd⟩ : ∃ d, chE l = d := ⟨_, rfl⟩
    have e1 := (fs_chk (f := f) (n := n) (m := m) h1).trans hd
    rw [hd] at h1
    obtain ⟨g1, g2, g3⟩ := fv_nul (q := q) (l := l) (f := f) (n := n) (m := m) (by rw [e1]; exact h1)
    obtain ⟨q1, q2, q3, q4⟩ := H.out
    obtain rfl : 0 = fc := g1.symm.trans q1
    obtain rfl : 0 = ft := g2.symm.trans q2
    obtain rfl : 0 = fp := g3.symm.trans q3
    obtain rfl : d = e := e1.symm.trans q4
    clear g1 g2 g3 q1 q2 q3 q4 e1 H
    have HA0 := Lib.hid hd
    have kd : (d != 0) = true := bne_iff_ne.2 h1
    clear hd h1
    go_enter Try.func27, Try.ntmps27
    go_upto_region 1 with (fail)
    obtain ⟨W0, B, C, Rr, hW, hR, hC, hB, hb, hc, hr, g0, -, -, hR0, hneBC, hneBR, hneCR⟩ := three_new w (lz l) 26 #[sv, tv] 52 (#[.int .i64 0, .int .i64 0, .int .i64 0]) 55
    rw [hW, hR, hC, hB]
    have HB := Lib.hid hb
    have HC := Lib.hid hc
    have HR := Lib.hid hr
    clear hW hR hC hB hb hc hr
    go_wp2_with (first | ((with_reducible show wpList _ _ _ (⟨_, .load 26 (.tmp 2), _, _, _, none⟩ :: _) _ _); refine wpList_load_row rfl 26 (.tmp 2) rfl B rfl 26 _ (0, 0) _ HB.out.raw Try.underlying26 rfl infoLs ?_) | (go_at_call 15; with_reducible refine (rck_at l d _ HA0).mono ?_; rintro r w1 ⟨rfl, hg⟩; replace g0 := g0.trans hg; replace HB := Lib.hid (HB.out.own hg); replace HC := Lib.hid (HC.out.own hg); replace HR := Lib.hid (HR.out.own hg); clear hg) | ((with_reducible show wpList _ _ _ (⟨_, .store 55 (.tmp 4) (.tmp 15), _, _, _, none⟩ :: _) _ _); refine wpList_store_row rfl 55 (.tmp 4) (.tmp 15) rfl Rr #[.int .i64 0, .int .i64 0, .int .i64 0] rfl rfl 55 _ HR.out.raw infoF rfl (by simp [Value.oneCell']) ?_))
    have hp := HR.out.row (#[.int .i64 0, .int .i64 0, .int .i64 0])
    exact bodyPost_ret (blk_results rfl rfl rfl hp Try.underlying55 rfl infoF) rfl ⟨rfl, own_setRow g0 hR0 _⟩
end Go.Proofs.Ytmjokgddhainlaa.LimW
