/-
  Walks of the specification of package match: most, Size, Match. Condition: none.
-/
import Derived.Test.YtdgahlojdllkbaaMatchB
namespace Go.Proofs.Ytdgahlojdllkbaa.MchW
open Go.ChangeShapes Go.WideShapes Go.ChangeAt Go.RowKit
open PairW CelW TabW MchP
set_option maxRecDepth 100000 in
set_option maxHeartbeats 2000000 in
theorem rmost_at (l : List (List Bool)) (fr W R : Nat) (used : List Int) (vl vu : Value) (w : World) (HT : Hid (Cels w vl (cellsB l))) (HU : Hid (Cel w vu (cellsI used))) (HS : Hid (Sq l)) (HR : Hid (l.length = R)) (HW : Hid (wd l = W)) (hW : W ≤ 24) (hR : R ≤ 24) (hfr : fr ≤ R) :
    Calls Try.prog 26 #[vl, .int .i64 (fr : Int), vu] w fun e w' => ∃ n : Nat, e = .returned (.int .i64 (n : Int)) ∧ Own w w' ∧ Mx (Pu l fr used) n ∧ n ≤ 24 := by
  obtain ⟨AL, capl, rfl, t1, t2, _⟩ := tb_open HT.out
  rw [HR.out] at t1 HT ⊢
  unfold maxLen at t2
  have hcols := rcols_at l (.slice AL R capl) W w HT HW
  go_enter Try.func26, Try.ntmps26
  go_wp2_with (first
    | (go_at_call 28; refine hcols.mono ?_; rintro e w1 ⟨rfl, rfl⟩)
    | (go_at_call 36; refine (rnone_at W _ hW).mono ?_; rintro e w1 ⟨g, c, rfl, hr1, q1⟩; have HR1 := Lib.hid hr1; have HQ1 := Lib.hid q1; clear hr1 q1))
  have HC1 := Lib.hid (show Cel w1 (.slice (some ⟨g, 0, none⟩) W c) (cellsI (List.replicate W (-1))) from cel_of_row HR1.out)
  have HIN := Lib.hid (in2_start (Pu l fr used) W fr)
  have HZ0 := Lib.hid (ow_zero (Pu l fr used) W).2
  go_loopw [7, 8, 9, 10, 11] (fun vo vn vi _ _ wr => ∃ (i n g c : Nat) (o : List Int) (V S : Nat → Prop), vo = .slice (some ⟨g, 0, none⟩) W c ∧ vn = .int .i64 (n : Int) ∧ vi = .int .i64 (i : Int) ∧ fr ≤ i ∧ i ≤ R ∧ n ≤ i ∧ Own w wr ∧ Cel wr (.slice (some ⟨g, 0, none⟩) W c) (cellsI o) ∧ In2 (Pu l fr used) W fr i o V S ∧ sz o = n) (fun _ _ vi _ _ _ => R - (intOf vi).toNat)
  case atStart => exact ⟨fr, 0, g, c, _, _, _, rfl, rfl, rfl, Nat.le_refl _, hfr, Nat.zero_le _, HQ1.out, HC1.out, HIN.out, HZ0.out⟩
  case round =>
    clear HR1 HQ1 HC1 HIN HZ0
    obtain ⟨i, n, g, c, o, V, S, rfl, rfl, rfl, hfi, hiR, hni, q, hc, hin, hz⟩ := hrel
    have HQ := Lib.hid q
    have HC := Lib.hid hc
    have HIN := Lib.hid hin
    have HZ := Lib.hid hz
    clear q hc hin hz
    by_cases hlt : i < R
    · have hiz : (i : Int) < R := by omega
      have hlg := rlarge_at l fr W R used o V S i (.slice AL R capl) (.slice (some ⟨g, 0, none⟩) W c) vu wr (Lib.hid (HT.out.own HQ.out)) HC (Lib.hid (HU.out.own HQ.out)) HIN HS HR HW hW hlt hfi
      go_upto_region 6 with (go_at_call 37; refine hlg.mono ?_; rintro e w3 (⟨g3, c3, out, rfl, hr3, q3, hx3⟩ | ⟨rfl, q3, V2, S2, hcw, hv2⟩))
      · have HR3 := Lib.hid (show Cel w3 (.slice (some ⟨g3, 0, none⟩) W c3) (cellsI out) from cel_of_row hr3)
        have HQ3 := Lib.hid q3
        have HX3 := Lib.hid hx3
        have HN := Lib.hid (HIN.out.found hx3)
        clear hr3 q3 hx3
        go_wp2
        go_roundw
        case rel => exact ⟨i + 1, n + 1, g3, c3, out, V, S, rfl, by go_num, by go_num, by omega, hlt, by omega, HQ.out.trans HQ3.out, HR3.out, HN.out, by rw [HX3.out.sz, HZ.out]⟩
        case measure => simp [intOf]; omega
      · have HQ3 := Lib.hid q3
        have HN := Lib.hid (HIN.out.fails hcw hv2)
        clear q3 hcw hv2
        go_wp2
        go_roundw
        case rel => exact ⟨i + 1, n, g, c, o, _, _, rfl, rfl, by go_num, by omega, hlt, by omega, HQ.out.trans HQ3.out, HC.out.own HQ3.out, HN.out, HZ.out⟩
        case measure => simp [intOf]; omega
    · obtain rfl : R = i := by omega
      have HM := Lib.hid (HIN.out.great fun i c hp => ⟨hp.1, by rw [← HR.out]; exact at2_row hp.2.1⟩)
      go_wp2
      go_ret
      exact ⟨n, rfl, HQ.out, by rw [← HZ.out]; exact HM.out, by omega⟩
set_option maxRecDepth 100000 in
set_option maxHeartbeats 1000000 in
theorem rsize_at (l : List (List Bool)) (vl : Value) (n : Nat) (f : Int) (w : World) (HT : Hid (Cels w vl (cellsB l))) (HF : Hid (chkE l = f)) (HN : Hid (nuV l = n)) :
    Calls Try.prog 12 #[vl] w fun e w' => e = .returned (.tuple #[.int .i64 (n : Int), .int .i64 f]) ∧ Own w w' ∧ (f = 0 → Mx (Pl l) n) := by
  have hcall := rcheck_at l vl f w HT HF
  by_cases h0 : f = 0
  · subst h0
    obtain ⟨b1, b2, b3⟩ := chk_ok HF.out
    obtain ⟨R, hR⟩ : ∃ R, l.length = R := ⟨_, rfl⟩
    obtain ⟨W, hW⟩ : ∃ W, wd l = W := ⟨_, rfl⟩
    rw [hR] at b1
    rw [hW] at b2
    have HR := Lib.hid hR
    have HW := Lib.hid hW
    have HS := Lib.hid b3
    clear hR hW b3
    go_enter Try.func12, Try.ntmps12
    go_wp2_with (first
      | (go_at_call 14; refine hcall.mono ?_; rintro e w1 ⟨rfl, q1⟩; have HQ1 := Lib.hid q1; have HT1 := Lib.hid (HT.out.own q1); have HNIL := Lib.hid (show Cel w1 (.slice none 0 0) (cellsI []) from cel_nil w1); clear q1)
      | (go_at_call 26; refine (rmost_at l 0 W R [] vl (.slice none 0 0) w1 HT1 HNIL HS HR HW b2 b1 (Nat.zero_le _)).mono ?_; rintro e w2 ⟨n', rfl, q2, hm, _⟩; have HQ2 := Lib.hid q2; have HM := Lib.hid (show Mx (Pl l) n' from Mx.congr hm fun i c => ⟨fun h => h.2.1, fun h => ⟨Nat.zero_le _, h, List.not_mem_nil⟩⟩); clear q2 hm))
    obtain rfl : n' = n := by rw [← HN.out]; unfold nuV; rw [if_pos HF.out, nu_of HM.out]
    go_ret2
    exact ⟨rfl, HQ1.out.trans HQ2.out, fun _ => HM.out⟩
  · obtain rfl : 0 = n := by rw [← HN.out]; exact (maV_bad (by rw [HF.out]; exact h0)).2.symm
    have d1 : (f == 0) = false := beq_eq_false_iff_ne.2 h0
    have d2 : (f != 0) = true := bne_iff_ne.2 h0
    go_enter Try.func12, Try.ntmps12
    go_wp2_with (go_at_call 14; refine hcall.mono ?_; rintro e w1 ⟨rfl, q1⟩; have HQ1 := Lib.hid q1; clear q1)
    go_ret2
    exact ⟨rfl, HQ1.out, fun e => absurd e h0⟩
end Go.Proofs.Ytdgahlojdllkbaa.MchW
