/-
  Walk of the program of package limits: checkMovement, First. Condition: none.
-/
import Derived.Test.YtmjokgddhainlaaLimitsPI
namespace Go.Proofs.Ytmjokgddhainlaa.LimW
open Go.ChangeShapes Go.WideShapes Go.ChangeAt Go.RowKit
open MovW PairW AimP AimW BlkW PrtW PstP PstW RegD LimP
/-- The error of a movement alone. -/
def cmE (f : Nat → Vl) (n m : Nat) : Int := if m = 0 ∨ n ≠ m + 1 then 2 else feN (fsN f) n
theorem cm_fs {l : Vl} {f : Nat → Vl} {n m : Nat} (h : chE l = 0) : fsE l f n m = cmE f n m := if_pos h
theorem cm_yes {f : Nat → Vl} {n m : Nat} (h : cmE f n m = 0) : m ≠ 0 ∧ n = m + 1 ∧ ∀ k, k < n → vaE (f k) = 0 := by
  unfold cmE at h
  by_cases d : m = 0 ∨ n ≠ m + 1
  · rw [if_pos d] at h; exact absurd h (by decide)
  · rw [if_neg d] at h
    exact ⟨by omega, by omega, feN_no h⟩
set_option maxRecDepth 100000 in
set_option maxHeartbeats 8000000 in
theorem lcm_at (sv tv : Value) (f : Nat → Vl) (q : Nat → Int) (n m : Nat) (c : Int) (w : World) (HM : Hid (Mov sv tv f q n m w)) (H : Hid (cmE f n m = c)) :
    Calls Try.prog 43 #[.agg #[sv, tv]] w fun r w' => r = .returned (.int .i64 c) ∧ Own w w' := by
  by_cases h : m = 0 ∨ n ≠ m + 1
  · obtain rfl : 2 = c := (if_pos h).symm.trans H.out
    obtain ⟨⟨A, ca, rfl, -⟩, ⟨A2, cb, rfl, -⟩, hnl, hml⟩ := HM.out
    unfold maxLen at hnl hml
    clear H
    by_cases h0 : m = 0
    · have d1 : decide ((m : Int) = 0) = true := decide_eq_true (by omega)
      have d5 : ((m : Int) == 0) = true := beq_iff_eq.2 (by omega)
      clear h h0 HM hnl hml
      go_enter Try.func43, Try.ntmps43
      go_upto_region 1 with (fail)
      obtain ⟨W0, B, hW, hBq, hb, g0, -⟩ := blk_new w #[.slice A n ca, .slice A2 m cb] 52
      rw [hW, hBq]
      have k0 := hb.cell 0
      have k1 := hb.cell 1
      clear hW hBq hb
      go_wp2
      go_ret
      exact ⟨rfl, g0⟩
    · have d1 : decide ((m : Int) = 0) = false := decide_eq_false (by omega)
      have d5 : ((m : Int) == 0) = false := beq_eq_false_iff_ne.2 (by omega)
      obtain ⟨z, i1⟩ : ∃ z, IntKind.i64.wrap ((m : Int) + 1) = z := ⟨_, rfl⟩
      have hz : (n : Int) ≠ z := by rw [← i1]; exact form_ne (by omega) (by omega) (by omega)
      have d2 : decide ((n : Int) = z) = false := decide_eq_false hz
      have d3 : ((n : Int) == z) = false := beq_eq_false_iff_ne.2 hz
      have d4 : ((n : Int) != z) = true := bne_iff_ne.2 hz
      clear h h0 HM hnl hml hz
      go_enter Try.func43, Try.ntmps43
      go_upto_region 1 with (fail)
      obtain ⟨W0, B, hW, hBq, hb, g0, -⟩ := blk_new w #[.slice A n ca, .slice A2 m cb] 52
      rw [hW, hBq]
      have k0 := hb.cell 0
      have k1 := hb.cell 1
      clear hW hBq hb
      go_wp2
      go_ret
      exact ⟨rfl, g0⟩
  · obtain ⟨hm0, hnm⟩ : m ≠ 0 ∧ n = m + 1 := by omega
    have H1 := Lib.hid (show feN (fsN f) n = c by rw [← H.out]; exact (if_neg h).symm)
    clear H h
    obtain ⟨⟨A, ca, rfl, hps⟩, ⟨A2, cb, rfl, hss⟩, hnl, hml⟩ := HM.out
    obtain ⟨pb, po, rfl, hpl⟩ := hps (by omega)
    obtain ⟨sb, so, rfl, hsl⟩ := hss (by omega)
    have HPL := Lib.hid hpl
    have HSL := Lib.hid hsl
    unfold maxLen at hnl hml
    clear hps hss hpl hsl HM
    have d1 : decide ((m : Int) = 0) = false := decide_eq_false (by omega)
    have d5 : ((m : Int) == 0) = false := beq_eq_false_iff_ne.2 (by omega)
    have i1 : IntKind.i64.wrap ((m : Int) + 1) = (n : Int) := (IntWalk.i64_in _ (by omega)).trans (by omega)
    clear hnm hm0
    go_enter Try.func43, Try.ntmps43
    go_upto_region 1 with (fail)
    obtain ⟨W0, B, hW, hBq, hb, g0, -⟩ := blk_new w #[.slice (some ⟨pb, po, none⟩) n ca, .slice (some ⟨sb, so, none⟩) m cb] 52
    rw [hW, hBq]
    have k0 := hb.cell 0
    have k1 := hb.cell 1
    clear hW hBq hb
    go_wp2
    clear d1 d5 i1 k0 k1 HSL
    go_loopw [4, 5, 23] (fun _ _ vi wr => ∃ k : Nat, vi = .int .i64 (k : Int) ∧ k ≤ n ∧ (∀ i, i < k → vaE (f i) = 0) ∧ Own w wr) (fun _ _ vi _ => n - (intOf vi).toNat)
    case atStart => exact ⟨0, rfl, by omega, fun i hi => absurd hi (by omega), g0⟩
    case round =>
      clear g0
      obtain ⟨k, rfl, hk, hz, g0⟩ := hrel
      have HZ := Lib.hid hz
      clear hz
      by_cases hlt : k < n
      · have hkn : (k : Int) < n := by omega
        obtain ⟨c', hc⟩ : ∃ c, vaE (f k) = c := ⟨_, rfl⟩
        have HPX := Lib.hid ((HPL.out k hlt).own g0)
        have HFK := Lib.hid hc
        have HV := Lib.hid hc
        generalize f k = p at HPX HV
        clear hc
        go_upto_region 6 with (first | ((with_reducible show wpList _ _ _ (⟨_, .load 63 (.tmp 25), _, _, _, none⟩ :: _) _ _); refine wpList_load_lie rfl 63 (.tmp 25) rfl pb (po + k * 22) rfl (cz 22 p) HPX.out _ Try.underlying63 rfl infoP ?_) | ((with_reducible show wpList _ _ _ (⟨_, .store 63 (.tmp 4) (.tmp 26), _, _, _, none⟩ :: _) _ _); refine wpList_store_row rfl 63 (.tmp 4) (.tmp 26) rfl _ (cz 22 (p)) rfl rfl 63 _ (heap_new _ _) infoP rfl (cz_one _ _) ?_; rw [World.setRow_alloc_new]))
        obtain ⟨w1, E, hW, hBq, hb, hg, Eg⟩ := blk_new wr (cz 22 p) 63
        rw [hW, hBq]
        have HE := Lib.hid hb
        replace g0 := g0.trans hg
        clear hW hBq hb hg
        clear HPX Eg
        by_cases hc0 : c' = 0
        · subst hc0
          go_wp2_with (first | ((with_reducible show wpList _ _ _ (⟨_, .load 63 (.tmp 4), _, _, _, none⟩ :: _) _ _); refine wpList_load_row rfl 63 (.tmp 4) rfl E rfl 63 _ (0, 0) _ HE.out.raw Try.underlying63 rfl infoP ?_) | (go_at_call 62; with_reducible refine (qvalid_at p 0 _ HV).mono ?_; rintro r w9 ⟨rfl, hg⟩; replace g0 := g0.trans hg; clear hg))
          go_roundw
          case rel =>
            refine ⟨k + 1, by go_num, hlt, fun i hi => ?_, g0⟩
            by_cases e : i = k
            · rw [e]; exact HFK.out
            · exact HZ.out i (by omega)
          case measure => simp [intOf]; omega
        · have kc : (c' != 0) = true := bne_iff_ne.2 hc0
          obtain rfl : c' = c := by
            rw [← H1.out, feN_at (E := fsN f) HZ.out (show fsN f k ≠ 0 by show vaE (f k) ≠ 0; rw [HFK.out]; exact hc0) hlt]
            exact HFK.out.symm
          clear H1 HZ HFK hc0
          go_wp2_with (first | ((with_reducible show wpList _ _ _ (⟨_, .load 63 (.tmp 4), _, _, _, none⟩ :: _) _ _); refine wpList_load_row rfl 63 (.tmp 4) rfl E rfl 63 _ (0, 0) _ HE.out.raw Try.underlying63 rfl infoP ?_) | (go_at_call 62; with_reducible refine (qvalid_at p c' _ HV).mono ?_; rintro r w9 ⟨rfl, hg⟩; replace g0 := g0.trans hg; clear hg))
          go_ret
          exact ⟨rfl, g0⟩
      · obtain rfl : k = n := by omega
        obtain rfl : 0 = c := (feN_ok (E := fsN f) HZ.out).symm.trans H1.out
        clear H1 HZ
        go_wp2
        go_ret
        exact ⟨rfl, g0⟩
theorem infoMv : (Try.prog.info? 52).map (·.size) = some 2 := by kernel_rfl
set_option maxRecDepth 100000 in
set_option maxHeartbeats 16000000 in
theorem lfi_at (l : Vl) (sv tv : Value) (f : Nat → Vl) (q : Nat → Int) (n m : Nat) (fc ft fp e : Int) (w : World) (HM : Hid (Mov sv tv f q n m w)) (H : Hid (fvE l f q n m = fc ∧ fvT l f q n m = ft ∧ fvP l f q n m = fp ∧ fsE l f n m = e)) :
    Calls Try.prog 26 #[.agg (lz l), .agg #[sv, tv]] w fun r w' => r = .returned (.tuple #[.agg #[.int .i64 fc, .int .i64 ft, .int .i64 fp], .int .i64 e]) ∧ Own w w' := by
  by_cases h1 : chE l = 0
  · have HA0 := Lib.hid h1
    by_cases h2 : cmE f n m = 0
    · have HCL := Lib.hid h1
      obtain ⟨hm0, hnm, hva⟩ := cm_yes h2
      have HFS := Lib.hid ((cm_fs (f := f) (n := n) (m := m) h1).trans h2)
      have HVA := Lib.hid hva
      have HCM := Lib.hid h2
      clear h1 h2 hva
      have HM2 := HM
      obtain ⟨⟨A, ca, rfl, hps⟩, ⟨A2, cb, rfl, hss⟩, hnl, hml⟩ := HM2.out
      obtain ⟨pb, po, rfl, hpl⟩ := hps (by omega)
      obtain ⟨sb, so, rfl, hsl⟩ := hss (by omega)
      have HPL := Lib.hid hpl
      have HSL := Lib.hid hsl
      unfold maxLen at hnl hml
      have hn0 : 0 < n := by omega
      have hn1 : (0 : Int) < n := by omega
      have HNM := Lib.hid hnm
      clear hps hss hpl hsl HM2 hnm hm0
      go_enter Try.func26, Try.ntmps26
      go_upto_region 1 with (fail)
      obtain ⟨W0, B, C, R, hW, hR, hC, hB, hb, hc, hr, g0, -, -, hR0, hneBC, hneBR, hneCR⟩ := three_new w (lz l) 26 #[.slice (some ⟨pb, po, none⟩) n ca, .slice (some ⟨sb, so, none⟩) m cb] 52 (#[.int .i64 0, .int .i64 0, .int .i64 0]) 55
      rw [hW, hR, hC, hB]
      have HB := Lib.hid hb
      have HC := Lib.hid hc
      have HR := Lib.hid hr
      clear hW hR hC hB hb hc hr
      go_upto_region 7 with (first | ((with_reducible show wpList _ _ _ (⟨_, .load 26 (.tmp 2), _, _, _, none⟩ :: _) _ _); refine wpList_load_row rfl 26 (.tmp 2) rfl B rfl 26 _ (0, 0) _ HB.out.raw Try.underlying26 rfl infoLs ?_) | (go_at_call 14; with_reducible refine (lck_at l 0 _ HA0).mono ?_; rintro r w1 ⟨rfl, hg⟩; replace g0 := g0.trans hg; replace HB := Lib.hid (HB.out.own hg); replace HC := Lib.hid (HC.out.own hg); replace HR := Lib.hid (HR.out.own hg); clear hg) | ((with_reducible show wpList _ _ _ (⟨_, .load 52 (.tmp 3), _, _, _, none⟩ :: _) _ _); refine wpList_load_row rfl 52 (.tmp 3) rfl C rfl 52 _ (0, 0) _ HC.out.raw Try.underlying52 rfl infoMv ?_) | (go_at_call 43; with_reducible refine (lcm_at (.slice (some ⟨pb, po, none⟩) n ca) (.slice (some ⟨sb, so, none⟩) m cb) f q n m 0 _ (Lib.hid (HM.out.own g0)) HCM).mono ?_; rintro r w2 ⟨rfl, hg⟩; replace g0 := g0.trans hg; replace HB := Lib.hid (HB.out.own hg); replace HC := Lib.hid (HC.out.own hg); replace HR := Lib.hid (HR.out.own hg); clear hg))
      have k0 := HC.out.cell 0
      have HPX := Lib.hid ((HPL.out 0 hn0).own g0)
      obtain ⟨p0, hp0⟩ : ∃ p, f 0 = p := ⟨_, rfl⟩
      rw [hp0] at HPX
      go_upto_region 8 with (first | ((with_reducible show wpList _ _ _ (⟨_, .load 63 (.tmp 27), _, _, _, none⟩ :: _) _ _); refine wpList_load_lie rfl 63 (.tmp 27) rfl pb (po) rfl (cz 22 p0) (show Lie _ pb po (cz 22 p0) from by have := HPX.out; simpa using this) _ Try.underlying63 rfl infoP ?_) | ((with_reducible show wpList _ _ _ (⟨_, .store 63 (.tmp 8) (.tmp 28), _, _, _, none⟩ :: _) _ _); refine wpList_store_row rfl 63 (.tmp 8) (.tmp 28) rfl _ (cz 22 (p0)) rfl rfl 63 _ (heap_new _ _) infoP rfl (cz_one _ _) ?_; rw [World.setRow_alloc_new]))
      obtain ⟨w3, F, hW, hBq, hb, hg, Fg⟩ := blk_new w2 (cz 22 p0) 63
      have hF0 : w.heap.size ≤ F := Nat.le_trans g0.size Fg
      have hneB := Nat.ne_of_lt (Nat.lt_of_lt_of_le HB.out.lt Fg)
      have hneC := Nat.ne_of_lt (Nat.lt_of_lt_of_le HC.out.lt Fg)
      have hneR := Nat.ne_of_lt (Nat.lt_of_lt_of_le HR.out.lt Fg)
      replace k0 := hg.cell k0
      rw [hW, hBq]
      have HF := Lib.hid hb
      replace g0 := g0.trans hg
      replace HB := Lib.hid (HB.out.own hg)
      replace HC := Lib.hid (HC.out.own hg)
      replace HR := Lib.hid (HR.out.own hg)
      clear hW hBq hb hg
      clear HPX Fg
      go_wp2
      clear k0
      go_loopw [9, 10, 11, 12, 32] (fun va _ _ _ vi wr => ∃ (k : Nat) (a : Int), vi = .int .i64 (k : Int) ∧ k ≤ n ∧ (∀ i, i < k → tiE l f q i = 0) ∧ va = .int .i64 a ∧ a = (airN q (k - 1) : Int) ∧ Own w wr ∧ Blk wr B (lz l) 26 ∧ Blk wr C #[.slice (some ⟨pb, po, none⟩) n ca, .slice (some ⟨sb, so, none⟩) m cb] 52 ∧ Blk wr R (#[.int .i64 0, .int .i64 0, .int .i64 0]) 55 ∧ Blk wr F (cz 22 (f (k - 1))) 63) (fun _ _ _ _ vi _ => n - (intOf vi).toNat)
      case atStart => exact ⟨0, 0, rfl, by omega, fun i hi => absurd hi (by omega), rfl, rfl, g0, HB.out, HC.out, HR.out, by rw [show f (0 - 1) = p0 from hp0]; exact HF.out⟩
      case round =>
        clear g0 HB HC HR HF hp0
        obtain ⟨k, a0, rfl, hk, hz, rfl, ha0, g0, hb, hc, hr, hf⟩ := hrel
        have HZ := Lib.hid hz
        have HB := Lib.hid hb
        have HC := Lib.hid hc
        have HR := Lib.hid hr
        have HF := Lib.hid hf
        have HAI := Lib.hid ha0
        clear hz hb hc hr hf ha0
        by_cases hlt : k < n
        · have hkn : (k : Int) < n := by omega
          have HPX := Lib.hid ((HPL.out k hlt).own g0)
          obtain ⟨p, hp⟩ : ∃ p, f k = p := ⟨_, rfl⟩
          obtain ⟨p0, hp0⟩ : ∃ p, f (k - 1) = p := ⟨_, rfl⟩
          have HVP := Lib.hid (show vaE p0 = 0 by rw [← hp0]; exact HVA.out _ (by omega))
          have HVQ := Lib.hid (show vaE p = 0 by rw [← hp]; exact HVA.out _ hlt)
          obtain ⟨c, hc⟩ : ∃ c, tiE l f q k = c := ⟨_, rfl⟩
          obtain ⟨i, hi⟩ : ∃ c, tiP l f q k = c := ⟨_, rfl⟩
          have HTI := Lib.hid (show tiE l f q k = c ∧ tiP l f q k = i from ⟨hc, hi⟩)
          rw [hp] at HPX
          rw [hp0] at HF
          have HPK := Lib.hid hp
          have HP0 := Lib.hid hp0
          clear hp hp0 hc hi
          go_upto_region 11 with (first | ((with_reducible show wpList _ _ _ (⟨_, .load 63 (.tmp 35), _, _, _, none⟩ :: _) _ _); refine wpList_load_lie rfl 63 (.tmp 35) rfl pb (po + k * 22) rfl (cz 22 p) HPX.out _ Try.underlying63 rfl infoP ?_) | ((with_reducible show wpList _ _ _ (⟨_, .store 63 (.tmp 11) (.tmp 36), _, _, _, none⟩ :: _) _ _); refine wpList_store_row rfl 63 (.tmp 11) (.tmp 36) rfl _ (cz 22 (p)) rfl rfl 63 _ (heap_new _ _) infoP rfl (cz_one _ _) ?_; rw [World.setRow_alloc_new]))
          obtain ⟨w4, T, hW, hBq, hb, hg, Tg⟩ := blk_new wr (cz 22 p) 63
          rw [hW, hBq]
          have HT := Lib.hid hb
          replace g0 := g0.trans hg
          replace HB := Lib.hid (HB.out.own hg)
          replace HC := Lib.hid (HC.out.own hg)
          replace HR := Lib.hid (HR.out.own hg)
          replace HF := Lib.hid (HF.out.own hg)
          clear hW hBq hb hg
          have k1 := HC.out.cell 1
          clear HPX Tg
          by_cases hk0 : k = 0
          · have dk : ¬ 0 < k := by omega
            have HAK := Lib.hid (show (0 : Int) = (airN q k : Int) by rw [hk0]; rfl)
            clear hk0 HAI
            go_upto_region 14 with (fail)
            clear k1 dk
            have HFT := Lib.hid (show ftE l p0 p (0) = c ∧ ftP l p0 p (0) = i by rw [← HP0.out, ← HPK.out, HAK.out]; exact HTI.out)
            by_cases hc0 : c = 0
            · obtain rfl : i = 0 := by
                rw [← HFT.out.2]
                unfold ftP
                rw [HFT.out.1, if_pos hc0]
              subst hc0
              have hfa : fa3 0 0 0 = true := rfl
              go_upto_region 15 with (first | ((with_reducible show wpList _ _ _ (⟨_, .load 26 (.tmp 2), _, _, _, none⟩ :: _) _ _); refine wpList_load_row rfl 26 (.tmp 2) rfl B rfl 26 _ (0, 0) _ HB.out.raw Try.underlying26 rfl infoLs ?_) | ((with_reducible show wpList _ _ _ (⟨_, .load 63 (.tmp 8), _, _, _, none⟩ :: _) _ _); refine wpList_load_row rfl 63 (.tmp 8) rfl F rfl 63 _ (0, 0) _ HF.out.raw Try.underlying63 rfl infoP ?_) | ((with_reducible show wpList _ _ _ (⟨_, .load 63 (.tmp 11), _, _, _, none⟩ :: _) _ _); refine wpList_load_row rfl 63 (.tmp 11) rfl T rfl 63 _ (0, 0) _ HT.out.raw Try.underlying63 rfl infoP ?_) | (go_at_call 44; with_reducible refine (lfa_at l p0 p (0) 0 0 _ HCL.out HVP.out HVQ.out HFT).mono ?_; rintro r w9 ⟨rfl, hg⟩; replace g0 := g0.trans hg; replace HB := Lib.hid (HB.out.own hg); replace HC := Lib.hid (HC.out.own hg); replace HR := Lib.hid (HR.out.own hg); replace HF := Lib.hid (HF.out.own hg); replace HT := Lib.hid (HT.out.own hg); clear hg) | ((with_reducible show wpList _ _ _ (⟨_, .store 55 (.tmp 12) (.tmp 54), _, _, _, none⟩ :: _) _ _); refine wpList_store_row rfl 55 (.tmp 12) (.tmp 54) rfl _ #[.int .i64 0, .int .i64 0, .int .i64 0] rfl rfl 55 _ (heap_new _ _) infoF rfl (by simp [Value.oneCell']) ?_; rw [World.setRow_alloc_new]))
              obtain ⟨w10, Q, hW, hBq, hb, hg, Qg⟩ := blk_new w9 (#[.int .i64 0, .int .i64 0, .int .i64 0]) 55
              rw [hW, hBq]
              have HQ := Lib.hid hb
              replace g0 := g0.trans hg
              replace HB := Lib.hid (HB.out.own hg)
              replace HC := Lib.hid (HC.out.own hg)
              replace HR := Lib.hid (HR.out.own hg)
              replace HF := Lib.hid (HF.out.own hg)
              replace HT := Lib.hid (HT.out.own hg)
              clear hW hBq hb hg
              clear Qg
              go_upto_region 19 with (first | ((with_reducible show wpList _ _ _ (⟨_, .load 55 (.tmp 12), _, _, _, none⟩ :: _) _ _); refine wpList_load_row rfl 55 (.tmp 12) rfl Q rfl 55 _ (0, 0) _ HQ.out.raw Try.underlying55 rfl infoF ?_) | ((with_reducible show wpList _ _ _ (⟨_, .load 63 (.tmp 11), _, _, _, none⟩ :: _) _ _); refine wpList_load_row rfl 63 (.tmp 11) rfl T rfl 63 _ (0, 0) _ HT.out.raw Try.underlying63 rfl infoP ?_) | ((with_reducible show wpList _ _ _ (⟨_, .store 63 (.tmp 8) (.tmp 61), _, _, _, none⟩ :: _) _ _); refine wpList_store_row rfl 63 (.tmp 8) (.tmp 61) rfl F (cz 22 (p)) rfl rfl 63 _ HF.out.raw infoP rfl (cz_one _ _) ?_))
              have hb9 := HF.out.row (cz 22 p)
              have h9HB := HB.out.rowfar hneB (cz 22 p)
              have h9HC := HC.out.rowfar hneC (cz 22 p)
              have h9HR := HR.out.rowfar hneR (cz 22 p)
              replace g0 := own_setRow g0 hF0 (cz 22 p)
              clear HF HB HC HR
              generalize w10.setRow F (cz 22 p) = w11 at *
              have HF := Lib.hid hb9
              have HB := Lib.hid h9HB
              have HC := Lib.hid h9HC
              have HR := Lib.hid h9HR
              clear hb9 h9HB h9HC h9HR
              have HZ2 := Lib.hid (show ∀ i, i < k + 1 → tiE l f q i = 0 from fun i hi => by
                by_cases e : i = k
                · rw [e]; exact HTI.out.1
                · exact HZ.out i (by omega))
              have HA2 := Lib.hid (show (0) = (airN q (k + 1 - 1) : Int) by rw [Nat.add_sub_cancel]; exact HAK.out)
              have HF2 := Lib.hid (show Blk w11 F (cz 22 (f (k + 1 - 1))) 63 by rw [Nat.add_sub_cancel, HPK.out]; exact HF.out)
              clear HZ HTI HFT HAK HPK HP0 HF HQ HT HVP HVQ
              go_wp2
              go_roundw
              case rel => exact ⟨k + 1, (0), by go_num, hlt, HZ2.out, rfl, HA2.out, g0, HB.out, HC.out, HR.out, HF2.out⟩
              case measure => simp [intOf]; omega
            · have hfa : fa3 c 0 i = false := by
                unfold fa3
                rw [beq_eq_false_iff_ne.2 hc0]
                rfl
              obtain ⟨q1, q2, q3, q4⟩ := H.out
              obtain ⟨g1, g2, g3⟩ := fv_at (l := l) (f := f) (q := q) (n := n) (m := m) HFS.out HZ.out (by rw [HTI.out.1]; exact hc0) hlt
              obtain rfl : c = fc := by rw [← q1, g1]; exact HTI.out.1.symm
              obtain rfl : (k : Int) = ft := by rw [← q2, g2]
              obtain rfl : i = fp := by rw [← q3, g3]; exact HTI.out.2.symm
              obtain rfl : 0 = e := HFS.out.symm.trans q4
              clear q1 q2 q3 q4 g1 g2 g3 hc0 H HZ HTI
              go_upto_region 15 with (first | ((with_reducible show wpList _ _ _ (⟨_, .load 26 (.tmp 2), _, _, _, none⟩ :: _) _ _); refine wpList_load_row rfl 26 (.tmp 2) rfl B rfl 26 _ (0, 0) _ HB.out.raw Try.underlying26 rfl infoLs ?_) | ((with_reducible show wpList _ _ _ (⟨_, .load 63 (.tmp 8), _, _, _, none⟩ :: _) _ _); refine wpList_load_row rfl 63 (.tmp 8) rfl F rfl 63 _ (0, 0) _ HF.out.raw Try.underlying63 rfl infoP ?_) | ((with_reducible show wpList _ _ _ (⟨_, .load 63 (.tmp 11), _, _, _, none⟩ :: _) _ _); refine wpList_load_row rfl 63 (.tmp 11) rfl T rfl 63 _ (0, 0) _ HT.out.raw Try.underlying63 rfl infoP ?_) | (go_at_call 44; with_reducible refine (lfa_at l p0 p (0) c i _ HCL.out HVP.out HVQ.out HFT).mono ?_; rintro r w9 ⟨rfl, hg⟩; replace g0 := g0.trans hg; replace HB := Lib.hid (HB.out.own hg); replace HC := Lib.hid (HC.out.own hg); replace HR := Lib.hid (HR.out.own hg); replace HF := Lib.hid (HF.out.own hg); replace HT := Lib.hid (HT.out.own hg); clear hg) | ((with_reducible show wpList _ _ _ (⟨_, .store 55 (.tmp 12) (.tmp 54), _, _, _, none⟩ :: _) _ _); refine wpList_store_row rfl 55 (.tmp 12) (.tmp 54) rfl _ #[.int .i64 c, .int .i64 0, .int .i64 i] rfl rfl 55 _ (heap_new _ _) infoF rfl (by simp [Value.oneCell']) ?_; rw [World.setRow_alloc_new]))
              obtain ⟨w10, Q, hW, hBq, hb, hg, Qg⟩ := blk_new w9 (#[.int .i64 c, .int .i64 0, .int .i64 i]) 55
              have hQ0 : w.heap.size ≤ Q := Nat.le_trans g0.size Qg
              have hRQ := Nat.ne_of_lt (Nat.lt_of_lt_of_le HR.out.lt Qg)
              rw [hW, hBq]
              have HQ := Lib.hid hb
              replace g0 := g0.trans hg
              replace HR := Lib.hid (HR.out.own hg)
              clear hW hBq hb hg
              have c1 := HQ.out.cell 1
              have s1 := HQ.out.frozen 1
              clear Qg HFT HB HC HF HT
              go_upto_region 17 with ((with_reducible show wpList _ _ _ (⟨_, .load 55 (.tmp 12), _, _, _, none⟩ :: _) _ _); refine wpList_load_row rfl 55 (.tmp 12) rfl Q rfl 55 _ (0, 0) _ HQ.out.raw Try.underlying55 rfl infoF ?_)
              have hq := HQ.out.put 1 (.int .i64 (k : Int))
              have hr := HR.out.far (p := ⟨Q, 1, none⟩) hRQ (.int .i64 (k : Int))
              replace g0 := g0.setCell (p := ⟨Q, 1, none⟩) hQ0 (.int .i64 (k : Int))
              clear HQ HR c1 s1
              generalize w10.setCell ⟨Q, 1, none⟩ (.int .i64 (k : Int)) = w11 at *
              have HQ := Lib.hid (show Blk w11 Q (#[.int .i64 c, .int .i64 (k : Int), .int .i64 i]) 55 from hq)
              have HR := Lib.hid hr
              clear hq hr
              go_wp2_with (first | ((with_reducible show wpList _ _ _ (⟨_, .load 55 (.tmp 12), _, _, _, none⟩ :: _) _ _); refine wpList_load_row rfl 55 (.tmp 12) rfl Q rfl 55 _ (0, 0) _ HQ.out.raw Try.underlying55 rfl infoF ?_) | ((with_reducible show wpList _ _ _ (⟨_, .store 55 (.tmp 4) (.tmp 60), _, _, _, none⟩ :: _) _ _); refine wpList_store_row rfl 55 (.tmp 4) (.tmp 60) rfl R #[.int .i64 c, .int .i64 (k : Int), .int .i64 i] rfl rfl 55 _ HR.out.raw infoF rfl (by simp [Value.oneCell']) ?_))
              have hp := HR.out.row (#[.int .i64 c, .int .i64 (k : Int), .int .i64 i])
              exact bodyPost_ret (blk_results rfl rfl rfl hp Try.underlying55 rfl infoF) rfl ⟨rfl, own_setRow g0 hR0 _⟩
          · obtain ⟨j, hj⟩ : ∃ j, k = j + 1 := ⟨k - 1, by omega⟩
            have hjm : j < m := by have := HNM.out; omega
            have hjz : (j : Int) < m := by omega
            have hj0 : (0 : Int) ≤ j := by omega
            have ej := g0.cell (HSL.out j hjm)
            have i2 : IntKind.i64.wrap ((k : Int) - 1) = (k : Int) - 1 := IntWalk.i64_in _ (by omega)
            have hj2 : (0 : Int) ≤ (k : Int) - 1 := by omega
            have hj3 : (k : Int) - 1 < m := by omega
            rw [show j = k - 1 by omega] at ej
            have dk : 0 < k := by omega
            obtain ⟨qj, hqj⟩ : ∃ v, q j = v := ⟨_, rfl⟩
            rw [show q (k - 1) = qj by rw [← hqj, hj, Nat.add_sub_cancel]] at ej
            have hab : airN q j ≤ j := (air_is q j).1
            have ha0 := HAI.out
            rw [hj, Nat.add_sub_cancel] at ha0
            by_cases hq0 : qj = 0
            · obtain ⟨a1, ha1⟩ : ∃ a : Int, a0 + 1 = a := ⟨_, rfl⟩
              have i5 : IntKind.i64.wrap (a0 + 1) = a1 := (IntWalk.i64_in _ (by omega)).trans ha1
              have HAK := Lib.hid (show a1 = (airN q k : Int) by
                rw [hj, show airN q (j + 1) = airN q j + 1 from if_pos (by rw [hqj]; exact hq0)]
                omega)
              have dq : (qj == 0) = true := beq_iff_eq.2 hq0
              clear hj hqj hab ha0 hq0 ha1 hk0 HAI
              go_upto_region 14 with (fail)
              clear k1 dk dq i5 ej i2 hjz hj0 hj2 hj3
              have HFT := Lib.hid (show ftE l p0 p (a1) = c ∧ ftP l p0 p (a1) = i by rw [← HP0.out, ← HPK.out, HAK.out]; exact HTI.out)
              by_cases hc0 : c = 0
              · obtain rfl : i = 0 := by
                  rw [← HFT.out.2]
                  unfold ftP
                  rw [HFT.out.1, if_pos hc0]
                subst hc0
                have hfa : fa3 0 0 0 = true := rfl
                go_upto_region 15 with (first | ((with_reducible show wpList _ _ _ (⟨_, .load 26 (.tmp 2), _, _, _, none⟩ :: _) _ _); refine wpList_load_row rfl 26 (.tmp 2) rfl B rfl 26 _ (0, 0) _ HB.out.raw Try.underlying26 rfl infoLs ?_) | ((with_reducible show wpList _ _ _ (⟨_, .load 63 (.tmp 8), _, _, _, none⟩ :: _) _ _); refine wpList_load_row rfl 63 (.tmp 8) rfl F rfl 63 _ (0, 0) _ HF.out.raw Try.underlying63 rfl infoP ?_) | ((with_reducible show wpList _ _ _ (⟨_, .load 63 (.tmp 11), _, _, _, none⟩ :: _) _ _); refine wpList_load_row rfl 63 (.tmp 11) rfl T rfl 63 _ (0, 0) _ HT.out.raw Try.underlying63 rfl infoP ?_) | (go_at_call 44; with_reducible refine (lfa_at l p0 p (a1) 0 0 _ HCL.out HVP.out HVQ.out HFT).mono ?_; rintro r w9 ⟨rfl, hg⟩; replace g0 := g0.trans hg; replace HB := Lib.hid (HB.out.own hg); replace HC := Lib.hid (HC.out.own hg); replace HR := Lib.hid (HR.out.own hg); replace HF := Lib.hid (HF.out.own hg); replace HT := Lib.hid (HT.out.own hg); clear hg) | ((with_reducible show wpList _ _ _ (⟨_, .store 55 (.tmp 12) (.tmp 54), _, _, _, none⟩ :: _) _ _); refine wpList_store_row rfl 55 (.tmp 12) (.tmp 54) rfl _ #[.int .i64 0, .int .i64 0, .int .i64 0] rfl rfl 55 _ (heap_new _ _) infoF rfl (by simp [Value.oneCell']) ?_; rw [World.setRow_alloc_new]))
                obtain ⟨w10, Q, hW, hBq, hb, hg, Qg⟩ := blk_new w9 (#[.int .i64 0, .int .i64 0, .int .i64 0]) 55
                rw [hW, hBq]
                have HQ := Lib.hid hb
                replace g0 := g0.trans hg
                replace HB := Lib.hid (HB.out.own hg)
                replace HC := Lib.hid (HC.out.own hg)
                replace HR := Lib.hid (HR.out.own hg)
                replace HF := Lib.hid (HF.out.own hg)
                replace HT := Lib.hid (HT.out.own hg)
                clear hW hBq hb hg
                clear Qg
                go_upto_region 19 with (first | ((with_reducible show wpList _ _ _ (⟨_, .load 55 (.tmp 12), _, _, _, none⟩ :: _) _ _); refine wpList_load_row rfl 55 (.tmp 12) rfl Q rfl 55 _ (0, 0) _ HQ.out.raw Try.underlying55 rfl infoF ?_) | ((with_reducible show wpList _ _ _ (⟨_, .load 63 (.tmp 11), _, _, _, none⟩ :: _) _ _); refine wpList_load_row rfl 63 (.tmp 11) rfl T rfl 63 _ (0, 0) _ HT.out.raw Try.underlying63 rfl infoP ?_) | ((with_reducible show wpList _ _ _ (⟨_, .store 63 (.tmp 8) (.tmp 61), _, _, _, none⟩ :: _) _ _); refine wpList_store_row rfl 63 (.tmp 8) (.tmp 61) rfl F (cz 22 (p)) rfl rfl 63 _ HF.out.raw infoP rfl (cz_one _ _) ?_))
                have hb9 := HF.out.row (cz 22 p)
                have h9HB := HB.out.rowfar hneB (cz 22 p)
                have h9HC := HC.out.rowfar hneC (cz 22 p)
                have h9HR := HR.out.rowfar hneR (cz 22 p)
                replace g0 := own_setRow g0 hF0 (cz 22 p)
                clear HF HB HC HR
                generalize w10.setRow F (cz 22 p) = w11 at *
                have HF := Lib.hid hb9
                have HB := Lib.hid h9HB
                have HC := Lib.hid h9HC
                have HR := Lib.hid h9HR
                clear hb9 h9HB h9HC h9HR
                have HZ2 := Lib.hid (show ∀ i, i < k + 1 → tiE l f q i = 0 from fun i hi => by
                  by_cases e : i = k
                  · rw [e]; exact HTI.out.1
                  · exact HZ.out i (by omega))
                have HA2 := Lib.hid (show (a1) = (airN q (k + 1 - 1) : Int) by rw [Nat.add_sub_cancel]; exact HAK.out)
                have HF2 := Lib.hid (show Blk w11 F (cz 22 (f (k + 1 - 1))) 63 by rw [Nat.add_sub_cancel, HPK.out]; exact HF.out)
                clear HZ HTI HFT HAK HPK HP0 HF HQ HT HVP HVQ
                go_wp2
                go_roundw
                case rel => exact ⟨k + 1, (a1), by go_num, hlt, HZ2.out, rfl, HA2.out, g0, HB.out, HC.out, HR.out, HF2.out⟩
                case measure => simp [intOf]; omega
              · have hfa : fa3 c 0 i = false := by
                  unfold fa3
                  rw [beq_eq_false_iff_ne.2 hc0]
                  rfl
                obtain ⟨q1, q2, q3, q4⟩ := H.out
                obtain ⟨g1, g2, g3⟩ := fv_at (l := l) (f := f) (q := q) (n := n) (m := m) HFS.out HZ.out (by rw [HTI.out.1]; exact hc0) hlt
                obtain rfl : c = fc := by rw [← q1, g1]; exact HTI.out.1.symm
                obtain rfl : (k : Int) = ft := by rw [← q2, g2]
                obtain rfl : i = fp := by rw [← q3, g3]; exact HTI.out.2.symm
                obtain rfl : 0 = e := HFS.out.symm.trans q4
                clear q1 q2 q3 q4 g1 g2 g3 hc0 H HZ HTI
                go_upto_region 15 with (first | ((with_reducible show wpList _ _ _ (⟨_, .load 26 (.tmp 2), _, _, _, none⟩ :: _) _ _); refine wpList_load_row rfl 26 (.tmp 2) rfl B rfl 26 _ (0, 0) _ HB.out.raw Try.underlying26 rfl infoLs ?_) | ((with_reducible show wpList _ _ _ (⟨_, .load 63 (.tmp 8), _, _, _, none⟩ :: _) _ _); refine wpList_load_row rfl 63 (.tmp 8) rfl F rfl 63 _ (0, 0) _ HF.out.raw Try.underlying63 rfl infoP ?_) | ((with_reducible show wpList _ _ _ (⟨_, .load 63 (.tmp 11), _, _, _, none⟩ :: _) _ _); refine wpList_load_row rfl 63 (.tmp 11) rfl T rfl 63 _ (0, 0) _ HT.out.raw Try.underlying63 rfl infoP ?_) | (go_at_call 44; with_reducible refine (lfa_at l p0 p (a1) c i _ HCL.out HVP.out HVQ.out HFT).mono ?_; rintro r w9 ⟨rfl, hg⟩; replace g0 := g0.trans hg; replace HB := Lib.hid (HB.out.own hg); replace HC := Lib.hid (HC.out.own hg); replace HR := Lib.hid (HR.out.own hg); replace HF := Lib.hid (HF.out.own hg); replace HT := Lib.hid (HT.out.own hg); clear hg) | ((with_reducible show wpList _ _ _ (⟨_, .store 55 (.tmp 12) (.tmp 54), _, _, _, none⟩ :: _) _ _); refine wpList_store_row rfl 55 (.tmp 12) (.tmp 54) rfl _ #[.int .i64 c, .int .i64 0, .int .i64 i] rfl rfl 55 _ (heap_new _ _) infoF rfl (by simp [Value.oneCell']) ?_; rw [World.setRow_alloc_new]))
                obtain ⟨w10, Q, hW, hBq, hb, hg, Qg⟩ := blk_new w9 (#[.int .i64 c, .int .i64 0, .int .i64 i]) 55
                have hQ0 : w.heap.size ≤ Q := Nat.le_trans g0.size Qg
                have hRQ := Nat.ne_of_lt (Nat.lt_of_lt_of_le HR.out.lt Qg)
                rw [hW, hBq]
                have HQ := Lib.hid hb
                replace g0 := g0.trans hg
                replace HR := Lib.hid (HR.out.own hg)
                clear hW hBq hb hg
                have c1 := HQ.out.cell 1
                have s1 := HQ.out.frozen 1
                clear Qg HFT HB HC HF HT
                go_upto_region 17 with ((with_reducible show wpList _ _ _ (⟨_, .load 55 (.tmp 12), _, _, _, none⟩ :: _) _ _); refine wpList_load_row rfl 55 (.tmp 12) rfl Q rfl 55 _ (0, 0) _ HQ.out.raw Try.underlying55 rfl infoF ?_)
                have hq := HQ.out.put 1 (.int .i64 (k : Int))
                have hr := HR.out.far (p := ⟨Q, 1, none⟩) hRQ (.int .i64 (k : Int))
                replace g0 := g0.setCell (p := ⟨Q, 1, none⟩) hQ0 (.int .i64 (k : Int))
                clear HQ HR c1 s1
                generalize w10.setCell ⟨Q, 1, none⟩ (.int .i64 (k : Int)) = w11 at *
                have HQ := Lib.hid (show Blk w11 Q (#[.int .i64 c, .int .i64 (k : Int), .int .i64 i]) 55 from hq)
                have HR := Lib.hid hr
                clear hq hr
                go_wp2_with (first | ((with_reducible show wpList _ _ _ (⟨_, .load 55 (.tmp 12), _, _, _, none⟩ :: _) _ _); refine wpList_load_row rfl 55 (.tmp 12) rfl Q rfl 55 _ (0, 0) _ HQ.out.raw Try.underlying55 rfl infoF ?_) | ((with_reducible show wpList _ _ _ (⟨_, .store 55 (.tmp 4) (.tmp 60), _, _, _, none⟩ :: _) _ _); refine wpList_store_row rfl 55 (.tmp 4) (.tmp 60) rfl R #[.int .i64 c, .int .i64 (k : Int), .int .i64 i] rfl rfl 55 _ HR.out.raw infoF rfl (by simp [Value.oneCell']) ?_))
                have hp := HR.out.row (#[.int .i64 c, .int .i64 (k : Int), .int .i64 i])
                exact bodyPost_ret (blk_results rfl rfl rfl hp Try.underlying55 rfl infoF) rfl ⟨rfl, own_setRow g0 hR0 _⟩
            · have HAK := Lib.hid (show (0 : Int) = (airN q k : Int) by
                rw [hj, show airN q (j + 1) = 0 from if_neg (by rw [hqj]; exact hq0)]
                rfl)
              have dq : (qj == 0) = false := beq_eq_false_iff_ne.2 hq0
              clear hj hqj hab ha0 hq0 hk0 HAI
              go_upto_region 14 with (fail)
              clear k1 dk dq ej i2 hjz hj0 hj2 hj3
              have HFT := Lib.hid (show ftE l p0 p (0) = c ∧ ftP l p0 p (0) = i by rw [← HP0.out, ← HPK.out, HAK.out]; exact HTI.out)
              by_cases hc0 : c = 0
              · obtain rfl : i = 0 := by
                  rw [← HFT.out.2]
                  unfold ftP
                  rw [HFT.out.1, if_pos hc0]
                subst hc0
                have hfa : fa3 0 0 0 = true := rfl
                go_upto_region 15 with (first | ((with_reducible show wpList _ _ _ (⟨_, .load 26 (.tmp 2), _, _, _, none⟩ :: _) _ _); refine wpList_load_row rfl 26 (.tmp 2) rfl B rfl 26 _ (0, 0) _ HB.out.raw Try.underlying26 rfl infoLs ?_) | ((with_reducible show wpList _ _ _ (⟨_, .load 63 (.tmp 8), _, _, _, none⟩ :: _) _ _); refine wpList_load_row rfl 63 (.tmp 8) rfl F rfl 63 _ (0, 0) _ HF.out.raw Try.underlying63 rfl infoP ?_) | ((with_reducible show wpList _ _ _ (⟨_, .load 63 (.tmp 11), _, _, _, none⟩ :: _) _ _); refine wpList_load_row rfl 63 (.tmp 11) rfl T rfl 63 _ (0, 0) _ HT.out.raw Try.underlying63 rfl infoP ?_) | (go_at_call 44; with_reducible refine (lfa_at l p0 p (0) 0 0 _ HCL.out HVP.out HVQ.out HFT).mono ?_; rintro r w9 ⟨rfl, hg⟩; replace g0 := g0.trans hg; replace HB := Lib.hid (HB.out.own hg); replace HC := Lib.hid (HC.out.own hg); replace HR := Lib.hid (HR.out.own hg); replace HF := Lib.hid (HF.out.own hg); replace HT := Lib.hid (HT.out.own hg); clear hg) | ((with_reducible show wpList _ _ _ (⟨_, .store 55 (.tmp 12) (.tmp 54), _, _, _, none⟩ :: _) _ _); refine wpList_store_row rfl 55 (.tmp 12) (.tmp 54) rfl _ #[.int .i64 0, .int .i64 0, .int .i64 0] rfl rfl 55 _ (heap_new _ _) infoF rfl (by simp [Value.oneCell']) ?_; rw [World.setRow_alloc_new]))
                obtain ⟨w10, Q, hW, hBq, hb, hg, Qg⟩ := blk_new w9 (#[.int .i64 0, .int .i64 0, .int .i64 0]) 55
                rw [hW, hBq]
                have HQ := Lib.hid hb
                replace g0 := g0.trans hg
                replace HB := Lib.hid (HB.out.own hg)
                replace HC := Lib.hid (HC.out.own hg)
                replace HR := Lib.hid (HR.out.own hg)
                replace HF := Lib.hid (HF.out.own hg)
                replace HT := Lib.hid (HT.out.own hg)
                clear hW hBq hb hg
                clear Qg
                go_upto_region 19 with (first | ((with_reducible show wpList _ _ _ (⟨_, .load 55 (.tmp 12), _, _, _, none⟩ :: _) _ _); refine wpList_load_row rfl 55 (.tmp 12) rfl Q rfl 55 _ (0, 0) _ HQ.out.raw Try.underlying55 rfl infoF ?_) | ((with_reducible show wpList _ _ _ (⟨_, .load 63 (.tmp 11), _, _, _, none⟩ :: _) _ _); refine wpList_load_row rfl 63 (.tmp 11) rfl T rfl 63 _ (0, 0) _ HT.out.raw Try.underlying63 rfl infoP ?_) | ((with_reducible show wpList _ _ _ (⟨_, .store 63 (.tmp 8) (.tmp 61), _, _, _, none⟩ :: _) _ _); refine wpList_store_row rfl 63 (.tmp 8) (.tmp 61) rfl F (cz 22 (p)) rfl rfl 63 _ HF.out.raw infoP rfl (cz_one _ _) ?_))
                have hb9 := HF.out.row (cz 22 p)
                have h9HB := HB.out.rowfar hneB (cz 22 p)
                have h9HC := HC.out.rowfar hneC (cz 22 p)
                have h9HR := HR.out.rowfar hneR (cz 22 p)
                replace g0 := own_setRow g0 hF0 (cz 22 p)
                clear HF HB HC HR
                generalize w10.setRow F (cz 22 p) = w11 at *
                have HF := Lib.hid hb9
                have HB := Lib.hid h9HB
                have HC := Lib.hid h9HC
                have HR := Lib.hid h9HR
                clear hb9 h9HB h9HC h9HR
                have HZ2 := Lib.hid (show ∀ i, i < k + 1 → tiE l f q i = 0 from fun i hi => by
                  by_cases e : i = k
                  · rw [e]; exact HTI.out.1
                  · exact HZ.out i (by omega))
                have HA2 := Lib.hid (show (0) = (airN q (k + 1 - 1) : Int) by rw [Nat.add_sub_cancel]; exact HAK.out)
                have HF2 := Lib.hid (show Blk w11 F (cz 22 (f (k + 1 - 1))) 63 by rw [Nat.add_sub_cancel, HPK.out]; exact HF.out)
                clear HZ HTI HFT HAK HPK HP0 HF HQ HT HVP HVQ
                go_wp2
                go_roundw
                case rel => exact ⟨k + 1, (0), by go_num, hlt, HZ2.out, rfl, HA2.out, g0, HB.out, HC.out, HR.out, HF2.out⟩
                case measure => simp [intOf]; omega
              · have hfa : fa3 c 0 i = false := by
                  unfold fa3
                  rw [beq_eq_false_iff_ne.2 hc0]
                  rfl
                obtain ⟨q1, q2, q3, q4⟩ := H.out
                obtain ⟨g1, g2, g3⟩ := fv_at (l := l) (f := f) (q := q) (n := n) (m := m) HFS.out HZ.out (by rw [HTI.out.1]; exact hc0) hlt
                obtain rfl : c = fc := by rw [← q1, g1]; exact HTI.out.1.symm
                obtain rfl : (k : Int) = ft := by rw [← q2, g2]
                obtain rfl : i = fp := by rw [← q3, g3]; exact HTI.out.2.symm
                obtain rfl : 0 = e := HFS.out.symm.trans q4
                clear q1 q2 q3 q4 g1 g2 g3 hc0 H HZ HTI
                go_upto_region 15 with (first | ((with_reducible show wpList _ _ _ (⟨_, .load 26 (.tmp 2), _, _, _, none⟩ :: _) _ _); refine wpList_load_row rfl 26 (.tmp 2) rfl B rfl 26 _ (0, 0) _ HB.out.raw Try.underlying26 rfl infoLs ?_) | ((with_reducible show wpList _ _ _ (⟨_, .load 63 (.tmp 8), _, _, _, none⟩ :: _) _ _); refine wpList_load_row rfl 63 (.tmp 8) rfl F rfl 63 _ (0, 0) _ HF.out.raw Try.underlying63 rfl infoP ?_) | ((with_reducible show wpList _ _ _ (⟨_, .load 63 (.tmp 11), _, _, _, none⟩ :: _) _ _); refine wpList_load_row rfl 63 (.tmp 11) rfl T rfl 63 _ (0, 0) _ HT.out.raw Try.underlying63 rfl infoP ?_) | (go_at_call 44; with_reducible refine (lfa_at l p0 p (0) c i _ HCL.out HVP.out HVQ.out HFT).mono ?_; rintro r w9 ⟨rfl, hg⟩; replace g0 := g0.trans hg; replace HB := Lib.hid (HB.out.own hg); replace HC := Lib.hid (HC.out.own hg); replace HR := Lib.hid (HR.out.own hg); replace HF := Lib.hid (HF.out.own hg); replace HT := Lib.hid (HT.out.own hg); clear hg) | ((with_reducible show wpList _ _ _ (⟨_, .store 55 (.tmp 12) (.tmp 54), _, _, _, none⟩ :: _) _ _); refine wpList_store_row rfl 55 (.tmp 12) (.tmp 54) rfl _ #[.int .i64 c, .int .i64 0, .int .i64 i] rfl rfl 55 _ (heap_new _ _) infoF rfl (by simp [Value.oneCell']) ?_; rw [World.setRow_alloc_new]))
                obtain ⟨w10, Q, hW, hBq, hb, hg, Qg⟩ := blk_new w9 (#[.int .i64 c, .int .i64 0, .int .i64 i]) 55
                have hQ0 : w.heap.size ≤ Q := Nat.le_trans g0.size Qg
                have hRQ := Nat.ne_of_lt (Nat.lt_of_lt_of_le HR.out.lt Qg)
                rw [hW, hBq]
                have HQ := Lib.hid hb
                replace g0 := g0.trans hg
                replace HR := Lib.hid (HR.out.own hg)
                clear hW hBq hb hg
                have c1 := HQ.out.cell 1
                have s1 := HQ.out.frozen 1
                clear Qg HFT HB HC HF HT
                go_upto_region 17 with ((with_reducible show wpList _ _ _ (⟨_, .load 55 (.tmp 12), _, _, _, none⟩ :: _) _ _); refine wpList_load_row rfl 55 (.tmp 12) rfl Q rfl 55 _ (0, 0) _ HQ.out.raw Try.underlying55 rfl infoF ?_)
                have hq := HQ.out.put 1 (.int .i64 (k : Int))
                have hr := HR.out.far (p := ⟨Q, 1, none⟩) hRQ (.int .i64 (k : Int))
                replace g0 := g0.setCell (p := ⟨Q, 1, none⟩) hQ0 (.int .i64 (k : Int))
                clear HQ HR c1 s1
                generalize w10.setCell ⟨Q, 1, none⟩ (.int .i64 (k : Int)) = w11 at *
                have HQ := Lib.hid (show Blk w11 Q (#[.int .i64 c, .int .i64 (k : Int), .int .i64 i]) 55 from hq)
                have HR := Lib.hid hr
                clear hq hr
                go_wp2_with (first | ((with_reducible show wpList _ _ _ (⟨_, .load 55 (.tmp 12), _, _, _, none⟩ :: _) _ _); refine wpList_load_row rfl 55 (.tmp 12) rfl Q rfl 55 _ (0, 0) _ HQ.out.raw Try.underlying55 rfl infoF ?_) | ((with_reducible show wpList _ _ _ (⟨_, .store 55 (.tmp 4) (.tmp 60), _, _, _, none⟩ :: _) _ _); refine wpList_store_row rfl 55 (.tmp 4) (.tmp 60) rfl R #[.int .i64 c, .int .i64 (k : Int), .int .i64 i] rfl rfl 55 _ HR.out.raw infoF rfl (by simp [Value.oneCell']) ?_))
                have hp := HR.out.row (#[.int .i64 c, .int .i64 (k : Int), .int .i64 i])
                exact bodyPost_ret (blk_results rfl rfl rfl hp Try.underlying55 rfl infoF) rfl ⟨rfl, own_setRow g0 hR0 _⟩
        · obtain rfl : k = n := by omega
          obtain ⟨g1, g2, g3⟩ := fv_ok (l := l) (f := f) (q := q) (n := k) (m := m) HZ.out
          obtain ⟨q1, q2, q3, q4⟩ := H.out
          obtain rfl : 0 = fc := g1.symm.trans q1
          obtain rfl : 0 = ft := g2.symm.trans q2
          obtain rfl : 0 = fp := g3.symm.trans q3
          obtain rfl : 0 = e := HFS.out.symm.trans q4
          clear g1 g2 g3 q1 q2 q3 q4 H HZ HB HC HF
          go_wp2_with ((with_reducible show wpList _ _ _ (⟨_, .store 55 (.tmp 4) (.tmp 63), _, _, _, none⟩ :: _) _ _); refine wpList_store_row rfl 55 (.tmp 4) (.tmp 63) rfl R #[.int .i64 0, .int .i64 0, .int .i64 0] rfl rfl 55 _ HR.out.raw infoF rfl (by simp [Value.oneCell']) ?_)
          have hp := HR.out.row (#[.int .i64 0, .int .i64 0, .int .i64 0])
          exact bodyPost_ret (blk_results rfl rfl rfl hp Try.underlying55 rfl infoF) rfl ⟨rfl, own_setRow g0 hR0 _⟩
    · obtain ⟨d, hd⟩ : ∃ d, cmE f n m = d := ⟨_, rfl⟩
      have e1 := (cm_fs (f := f) (n := n) (m := m) h1).trans hd
      rw [hd] at h2
      obtain ⟨g1, g2, g3⟩ := fv_nul (q := q) (l := l) (f := f) (n := n) (m := m) (by rw [e1]; exact h2)
      obtain ⟨q1, q2, q3, q4⟩ := H.out
      obtain rfl : 0 = fc := g1.symm.trans q1
      obtain rfl : 0 = ft := g2.symm.trans q2
      obtain rfl : 0 = fp := g3.symm.trans q3
      obtain rfl : d = e := e1.symm.trans q4
      have HCM := Lib.hid hd
      have kd : (d != 0) = true := bne_iff_ne.2 h2
      clear g1 g2 g3 q1 q2 q3 q4 e1 h1 hd h2 H
      go_enter Try.func26, Try.ntmps26
      go_upto_region 1 with (fail)
      obtain ⟨W0, B, C, R, hW, hR, hC, hB, hb, hc, hr, g0, -, -, hR0, hneBC, hneBR, hneCR⟩ := three_new w (lz l) 26 #[sv, tv] 52 (#[.int .i64 0, .int .i64 0, .int .i64 0]) 55
      rw [hW, hR, hC, hB]
      have HB := Lib.hid hb
      have HC := Lib.hid hc
      have HR := Lib.hid hr
      clear hW hR hC hB hb hc hr
      go_wp2_with (first | ((with_reducible show wpList _ _ _ (⟨_, .load 26 (.tmp 2), _, _, _, none⟩ :: _) _ _); refine wpList_load_row rfl 26 (.tmp 2) rfl B rfl 26 _ (0, 0) _ HB.out.raw Try.underlying26 rfl infoLs ?_) | (go_at_call 14; with_reducible refine (lck_at l 0 _ HA0).mono ?_; rintro r w1 ⟨rfl, hg⟩; replace g0 := g0.trans hg; replace HB := Lib.hid (HB.out.own hg); replace HC := Lib.hid (HC.out.own hg); replace HR := Lib.hid (HR.out.own hg); clear hg) | ((with_reducible show wpList _ _ _ (⟨_, .load 52 (.tmp 3), _, _, _, none⟩ :: _) _ _); refine wpList_load_row rfl 52 (.tmp 3) rfl C rfl 52 _ (0, 0) _ HC.out.raw Try.underlying52 rfl infoMv ?_) | (go_at_call 43; with_reducible refine (lcm_at (sv) (tv) f q n m d _ (Lib.hid (HM.out.own g0)) HCM).mono ?_; rintro r w2 ⟨rfl, hg⟩; replace g0 := g0.trans hg; replace HB := Lib.hid (HB.out.own hg); replace HC := Lib.hid (HC.out.own hg); replace HR := Lib.hid (HR.out.own hg); clear hg) | ((with_reducible show wpList _ _ _ (⟨_, .store 55 (.tmp 4) (.tmp 23), _, _, _, none⟩ :: _) _ _); refine wpList_store_row rfl 55 (.tmp 4) (.tmp 23) rfl R #[.int .i64 0, .int .i64 0, .int .i64 0] rfl rfl 55 _ HR.out.raw infoF rfl (by simp [Value.oneCell']) ?_))
      have hp := HR.out.row (#[.int .i64 0, .int .i64 0, .int .i64 0])
      exact bodyPost_ret (blk_results rfl rfl rfl hp Try.underlying55 rfl infoF) rfl ⟨rfl, own_setRow g0 hR0 _⟩
  · obtain ⟨d, hd⟩ : ∃ d, chE l = d := ⟨_, rfl⟩
    have e1 := (fs_chk (f := f) (n := n) (m := m) h1).trans hd
    rw [hd] at h1
    obtain ⟨g1, g2, g3⟩ := fv_nul (q := q) (l := l) (f := f) (n := n) (m := m) (by rw [e1]; exact h1)
    obtain ⟨q1, q2, q3, q4⟩ := H.out
    obtain rfl : 0 = fc := g1.symm.trans q1
    obtain rfl : 0 = ft := g2.symm.trans q2
    obtain rfl : 0 = fp := g3.symm.trans q3
    obtain rfl : d = e := e1.symm.trans q4
    have HA0 := Lib.hid hd
    have kd : (d != 0) = true := bne_iff_ne.2 h1
    clear g1 g2 g3 q1 q2 q3 q4 e1 hd h1 H
    go_enter Try.func26, Try.ntmps26
    go_upto_region 1 with (fail)
    obtain ⟨W0, B, C, R, hW, hR, hC, hB, hb, hc, hr, g0, -, -, hR0, hneBC, hneBR, hneCR⟩ := three_new w (lz l) 26 #[sv, tv] 52 (#[.int .i64 0, .int .i64 0, .int .i64 0]) 55
    rw [hW, hR, hC, hB]
    have HB := Lib.hid hb
    have HC := Lib.hid hc
    have HR := Lib.hid hr
    clear hW hR hC hB hb hc hr
    go_wp2_with (first | ((with_reducible show wpList _ _ _ (⟨_, .load 26 (.tmp 2), _, _, _, none⟩ :: _) _ _); refine wpList_load_row rfl 26 (.tmp 2) rfl B rfl 26 _ (0, 0) _ HB.out.raw Try.underlying26 rfl infoLs ?_) | (go_at_call 14; with_reducible refine (lck_at l d _ HA0).mono ?_; rintro r w1 ⟨rfl, hg⟩; replace g0 := g0.trans hg; replace HB := Lib.hid (HB.out.own hg); replace HC := Lib.hid (HC.out.own hg); replace HR := Lib.hid (HR.out.own hg); clear hg) | ((with_reducible show wpList _ _ _ (⟨_, .store 55 (.tmp 4) (.tmp 17), _, _, _, none⟩ :: _) _ _); refine wpList_store_row rfl 55 (.tmp 4) (.tmp 17) rfl R #[.int .i64 0, .int .i64 0, .int .i64 0] rfl rfl 55 _ HR.out.raw infoF rfl (by simp [Value.oneCell']) ?_))
    have hp := HR.out.row (#[.int .i64 0, .int .i64 0, .int .i64 0])
    exact bodyPost_ret (blk_results rfl rfl rfl hp Try.underlying55 rfl infoF) rfl ⟨rfl, own_setRow g0 hR0 _⟩
end Go.Proofs.Ytmjokgddhainlaa.LimW
