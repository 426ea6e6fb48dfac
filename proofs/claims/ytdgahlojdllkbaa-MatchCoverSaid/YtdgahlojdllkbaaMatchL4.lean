/-
  Package match: the law MatchCover walked. Condition: none.
-/
import Derived.Test.YtdgahlojdllkbaaMatchT
namespace Go.Proofs.Ytdgahlojdllkbaa.MchW
open Go.ChangeShapes Go.WideShapes Go.ChangeAt Go.RowKit
open PairW CelW TabW MchP
theorem natsI_mem {A : List Nat} {x : Nat} : (x : Int) ∈ natsI A ↔ x ∈ A := by
  unfold natsI
  rw [List.mem_map]
  constructor
  · rintro ⟨y, h, e⟩
    obtain rfl : y = x := by omega
    exact h
  · exact fun h => ⟨x, h, rfl⟩
set_option maxRecDepth 100000 in
set_option maxHeartbeats 4000000 in
theorem lcover_at (l : List (List Bool)) (vl : Value) (w : World) (HT : Hid (Cels w vl (cellsB l))) :
    Calls Try.prog 5 #[vl] w fun e w' => e = .returned (.bool true) ∧ Own w w' := by
  have HK := Lib.hid (show ∀ w, Calls Try.prog 15 #[] w fun e w' => e = .returned (.bool true) ∧ Own w w' from awake_at)
  obtain ⟨f, hf⟩ : ∃ f, chkE l = f := ⟨_, rfl⟩
  have HF := Lib.hid hf
  clear hf
  by_cases h0 : f = 0
  · subst h0
    obtain ⟨n, hn⟩ : ∃ n, nuV l = n := ⟨_, rfl⟩
    obtain ⟨M, hm⟩ : ∃ M, maV l = M := ⟨_, rfl⟩
    have HN := Lib.hid hn
    have HMV := Lib.hid hm
    obtain ⟨b1, b2, b3⟩ := chk_ok HF.out
    obtain ⟨AL, capl, rfl, s1, s2, _⟩ := tb_open HT.out
    unfold maxLen at s2
    obtain ⟨R, hR⟩ : ∃ R, l.length = R := ⟨_, rfl⟩
    obtain ⟨W, hW⟩ : ∃ W, wd l = W := ⟨_, rfl⟩
    rw [hR] at b1 s1 HT ⊢
    rw [hW] at b2
    have HR := Lib.hid hR
    have HW := Lib.hid hW
    have HS := Lib.hid b3
    clear hn hm hR hW b3
    go_enter Try.func5, Try.ntmps5
    go_upto_region 2 with (go_at_call 11; with_reducible refine (psizeOf_at l _ n 0 _ HT HF HN).mono ?_; rintro e w1 ⟨rfl, q1, hmx⟩; have HQ1 := Lib.hid q1; have HT1 := Lib.hid (HT.out.own q1); have HMX := Lib.hid (hmx rfl); clear q1 hmx)
    go_upto_region 3 with (go_at_call 16; with_reducible refine (pmatch_at l _ M 0 _ HT1 HF HMV).mono ?_; rintro e w2 ⟨v2, rfl, hr2, q2, hb2⟩; have HQ2 := Lib.hid q2; have HR2 := Lib.hid hr2; have HB2 := Lib.hid (hb2 rfl); have HT2 := Lib.hid (HT1.out.own q2); clear q2 hr2 hb2)
    go_upto_region 4 with (go_at_call 19; with_reducible refine (pcover_at l _ n _ HT2 HF HN).mono ?_; rintro e w3 hcv; obtain ⟨a, b, A, B, rfl, q3, ra, rb, hcov⟩ := CovR.out hcv; have HQ3 := Lib.hid q3; have HRA := Lib.hid ra; have HRB := Lib.hid rb; have HCV := Lib.hid hcov; have HT3 := Lib.hid (HT2.out.own q3); clear q3 ra rb hcov hcv)
    go_upto_region 5 with (go_at_call 13; with_reducible refine (pcheck_at l _ 0 _ HT3 HF).mono ?_; rintro e w4 ⟨rfl, rfl⟩)
    obtain ⟨za, hza⟩ : ∃ z, A.length = z := ⟨_, rfl⟩
    obtain ⟨zb, hzb⟩ : ∃ z, B.length = z := ⟨_, rfl⟩
    have HLM := Lib.hid (show M.length = R by rw [HB2.out.len, HR.out])
    have HRM := HR2
    rw [HLM.out] at HRM
    rw [hza] at HRA
    rw [hzb] at HRB
    obtain ⟨Am, cm, rfl⟩ := rows_shape HRM.out
    obtain ⟨Aa, ca, rfl⟩ := rows_shape HRA.out
    obtain ⟨Ab, cb, rfl⟩ := rows_shape HRB.out
    have hsum : za + zb = n := by rw [← hza, ← hzb]; exact HCV.out.len
    have hn24 : n ≤ 24 := by
      have h1 := HB2.out.mx.uniq HMX.out
      have h2 := sz_le M
      rw [HLM.out] at h2
      omega
    have dsum : (za : Int) + (zb : Int) = (n : Int) := by omega
    have hza24 : za ≤ 24 := by omega
    have hzb24 : zb ≤ 24 := by omega
    have HCM := Lib.hid (show Cel w3 (.slice Am R cm) (cellsI M) from (cel_of_row HRM.out).own HQ3.out)
    have HCA := Lib.hid (show Cel w3 (.slice Aa za ca) (cellsI (natsI A)) from cel_of_row HRA.out)
    have HCB := Lib.hid (show Cel w3 (.slice Ab zb cb) (cellsI (natsI B)) from cel_of_row HRB.out)
    have HVV := Lib.hid (iff_t (show VOk l M from ⟨HF.out, HB2.out.len, HB2.out.isP⟩))
    have HZM := Lib.hid (show sz M = n from HB2.out.mx.uniq HMX.out)
    have HAA := Lib.hid HCV.out.ra
    have HAL := Lib.hid (show ∀ x, x ∈ A → x < R from fun x hx => by rw [← HR.out]; exact HCV.out.la x hx)
    have HBA := Lib.hid HCV.out.rb
    have HBL := Lib.hid (show ∀ x, x ∈ B → x < W from fun x hx => by rw [← HW.out]; exact HCV.out.lb x hx)
    have HQW := Lib.hid ((HQ1.out.trans HQ2.out).trans HQ3.out)
    clear hza hzb hsum HR2 HRM HRA HRB HT1 HT2 HQ1 HQ2 HQ3
    go_upto_region 11 with (first
      | (go_at_call 20; with_reducible refine (pvalid_at l M _ _ true _ HT3 HCM HVV).mono ?_; rintro e w5 ⟨rfl, q5⟩; have HQ5 := Lib.hid q5; have HCM5 := Lib.hid (HCM.out.own q5); have HCA5 := Lib.hid (HCA.out.own q5); clear q5)
      | (go_at_call 21; with_reducible refine (lsize_at M _ n _ HCM5 HZM).mono ?_; rintro e w6 ⟨rfl, rfl⟩)
      | (go_at_call 22; with_reducible refine (asc_yes A _ R _ HCA5 HAA HAL).mono ?_; rintro e w7 ⟨rfl, q7⟩; have HQ7 := Lib.hid (HQ5.out.trans q7); clear q7))
    go_wp2
    go_loopw [11, 12] (fun vi _ wr => ∃ i : Nat, vi = .int .i64 (i : Int) ∧ i ≤ R ∧ Own w3 wr) (fun vi _ _ => R - (intOf vi).toNat)
    case atStart => exact ⟨0, rfl, Nat.zero_le _, HQ7.out⟩
    case round =>
      obtain ⟨i, rfl, hi, q⟩ := hrel
      have HQ := Lib.hid q
      clear q
      by_cases hlt : i < R
      · have hiz : (i : Int) < R := by omega
        obtain ⟨gl, ol, cpl, A2, cr, he, _, _, e1, h4, h5, hrow⟩ := tb_row HT3.out HS.out HR.out HW.out hlt
        injection he with ea eb ec
        subst ea
        subst ec
        have HE1 := Lib.hid e1
        have HROW := Lib.hid hrow
        replace e1 := HQ.out.cell e1
        unfold maxLen at h5
        have HCBX := Lib.hid (HCB.out.own HQ.out)
        clear eb hrow
        go_upto_region 16 with (go_at_call 22; with_reducible refine (asc_yes B _ W _ HCBX HBA HBL).mono ?_; rintro e w8 ⟨rfl, q8⟩; have HQ8 := Lib.hid (HQ.out.trans q8); clear q8)
        clear e1
        go_wp2
        go_loopw [12] (fun vc wx => ∃ c : Nat, vc = .int .i64 (c : Int) ∧ c ≤ W ∧ Own w3 wx) (fun vc _ => W - (intOf vc).toNat)
        case atStart => exact ⟨0, rfl, Nat.zero_le _, HQ8.out⟩
        case round =>
          obtain ⟨c, rfl, hc, q⟩ := hrel
          have HQX := Lib.hid q
          clear q
          have e1 := HQX.out.cell HE1.out
          by_cases hcW : c < W
          · have hcz : (c : Int) < W := by omega
            obtain ⟨g2, og, rfl, e2⟩ := HROW.out c hcW
            replace e2 := HQX.out.cell e2
            cases hp : at2 l i c with
            | false =>
              rw [hp] at e2
              clear hp
              go_wp2
              go_roundw
              case rel => exact ⟨c + 1, by go_num, hcW, HQX.out⟩
              case measure => simp [intOf]; omega
            | true =>
              rw [hp] at e2
              have HCOV := Lib.hid (HCV.out.cov i c hp)
              clear hp
              have HCAX := Lib.hid (HCA.out.own HQX.out)
              have HCBX2 := Lib.hid (HCB.out.own HQX.out)
              by_cases hA : i ∈ A
              · have HTA := Lib.hid (show decide ((i : Int) ∈ natsI A) = true from decide_eq_true (natsI_mem.2 hA))
                clear hA
                go_wp2_with (go_at_call 23; with_reducible refine (lhas_at (natsI A) _ _ true _ HCAX HTA).mono ?_; rintro e w9 ⟨rfl, rfl⟩)
                go_roundw
                case rel => exact ⟨c + 1, by go_num, hcW, HQX.out⟩
                case measure => simp [intOf]; omega
              · have HTA := Lib.hid (show decide ((i : Int) ∈ natsI A) = false from decide_eq_false fun h => hA (natsI_mem.1 h))
                have HTB := Lib.hid (show decide ((c : Int) ∈ natsI B) = true from decide_eq_true (natsI_mem.2 (HCOV.out.resolve_left hA)))
                clear hA
                go_wp2_with (first
                  | (go_at_call 23; with_reducible refine (lhas_at (natsI A) _ _ false _ HCAX HTA).mono ?_; rintro e w9 ⟨rfl, rfl⟩)
                  | (go_at_call 23; with_reducible refine (lhas_at (natsI B) _ _ true _ HCBX2 HTB).mono ?_; rintro e w9 ⟨rfl, rfl⟩))
                go_roundw
                case rel => exact ⟨c + 1, by go_num, hcW, HQX.out⟩
                case measure => simp [intOf]; omega
          · obtain rfl : W = c := by omega
            go_wp2
            go_roundw
            case rel => exact ⟨i + 1, by go_num, hlt, HQX.out⟩
            case measure => simp [intOf]; omega
      · obtain rfl : R = i := by omega
        go_wp2_with (go_at_call 15; with_reducible refine (HK.out _).mono ?_; rintro e w9 ⟨rfl, q9⟩; have HQ9 := Lib.hid q9; clear q9)
        go_ret
        exact ⟨rfl, (HQW.out.trans HQ.out).trans HQ9.out⟩
  · have hbad := maV_bad (l := l) (by rw [HF.out]; exact h0)
    have HMV := Lib.hid hbad.1
    have HN := Lib.hid hbad.2
    have d1 : (f == 0) = false := beq_eq_false_iff_ne.2 h0
    have d2 : (f != 0) = true := bne_iff_ne.2 h0
    clear hbad
    go_enter Try.func5, Try.ntmps5
    go_upto_region 2 with (go_at_call 11; with_reducible refine (psizeOf_at l _ 0 f _ HT HF HN).mono ?_; rintro e w1 ⟨rfl, q1, _⟩; have HQ1 := Lib.hid q1; have HT1 := Lib.hid (HT.out.own q1); clear q1)
    go_upto_region 3 with (go_at_call 16; with_reducible refine (pmatch_at l _ [] f _ HT1 HF HMV).mono ?_; rintro e w2 ⟨v2, rfl, hr2, q2, _⟩; obtain ⟨A2, c2, rfl⟩ := rows_shape hr2; have HQ2 := Lib.hid q2; have HT2 := Lib.hid (HT1.out.own q2); clear q2 hr2)
    go_wp2_with (first
      | (go_at_call 19; with_reducible refine (pcover_bad l _ f _ HT2 HF h0).mono ?_; rintro e w3 ⟨rfl, rfl⟩)
      | (go_at_call 13; with_reducible refine (pcheck_at l _ f _ HT2 HF).mono ?_; rintro e w4 ⟨rfl, rfl⟩)
      | (go_at_call 15; with_reducible refine (HK.out _).mono ?_; rintro e w9 ⟨rfl, q9⟩; have HQ9 := Lib.hid q9; clear q9))
    go_ret
    exact ⟨rfl, (HQ1.out.trans HQ2.out).trans HQ9.out⟩
end Go.Proofs.Ytdgahlojdllkbaa.MchW
