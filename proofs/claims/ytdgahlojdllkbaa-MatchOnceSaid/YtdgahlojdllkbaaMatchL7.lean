/-
  Package match: the law MatchOnce walked. Condition: none.
-/
import Derived.Test.YtdgahlojdllkbaaMatchL5
import Derived.Test.YtdgahlojdllkbaaTabMid
namespace Go.Proofs.Ytdgahlojdllkbaa.MchW
open Go.ChangeShapes Go.WideShapes Go.ChangeAt Go.RowKit
open PairW CelW TabW MchP
theorem row_below {w : World} {base n : Nat} {e : TypeId} {v : Value} {xs : List Value} (h : w.ownsRow base e 1 v n xs) {p : Addr} (hp : p.block < base) (u : Value) : (w.setCell p u).ownsRow base e 1 v n xs :=
  row_stays h fun k hk => Below.heap_setCell _ _ _ _ (by have := (h.lt k hk).1; omega)
set_option maxRecDepth 100000 in
set_option maxHeartbeats 8000000 in
theorem lonce_at (l : List (List Bool)) (vl : Value) (w : World) (HT : Hid (Cels w vl (cellsB l))) (HB : Hid (l.length * 24 ≤ 140737488351232 ∧ ∀ r, r ∈ l → r.length ≤ 140737488351232)) :
    Calls Try.prog 10 #[vl] w fun e w' => e = .returned (.bool true) ∧ Own w w' := by
  have HK := Lib.hid (show ∀ w, Calls Try.prog 15 #[] w fun e w' => e = .returned (.bool true) ∧ Own w w' from awake_at)
  obtain ⟨f, hf⟩ : ∃ f, chkE l = f := ⟨_, rfl⟩
  obtain ⟨n, hn⟩ : ∃ n, nuV l = n := ⟨_, rfl⟩
  obtain ⟨M, hm⟩ : ∃ M, maV l = M := ⟨_, rfl⟩
  obtain ⟨z, hz⟩ : ∃ z, M.length = z := ⟨_, rfl⟩
  have HF := Lib.hid hf
  have HN := Lib.hid hn
  have HM := Lib.hid hm
  have HZ := Lib.hid hz
  clear hf hn hm hz
  obtain ⟨AL, capl, rfl, s1, s2, hop⟩ := tb_open HT.out
  unfold maxLen at s2
  obtain ⟨R, hR⟩ : ∃ R, l.length = R := ⟨_, rfl⟩
  rw [hR] at s1 HT hop ⊢
  have HR := Lib.hid hR
  have hR24 := HB.out.1
  rw [hR] at hR24
  clear hR
  obtain ⟨bi, hi, hz0, hz1, hz2⟩ := info_parts (show (Try.prog.info? 4).map (fun i => (i.zero, i.size, i.bytes)) = some (some (.bool false), 1, 1) by kernel_rfl)
  have HI := Lib.hid hi
  have HZ0 := Lib.hid hz0
  have HZ1 := Lib.hid hz1
  have HZ2 := Lib.hid hz2
  obtain ⟨ri, hi, hz0, hz1, hz2⟩ := info_parts (show (Try.prog.info? 38).map (fun i => (i.zero, i.size, i.bytes)) = some (some (.slice none 0 0), 1, 24) by kernel_rfl)
  have JI := Lib.hid hi
  have JZ0 := Lib.hid hz0
  have JZ1 := Lib.hid hz1
  have JZ2 := Lib.hid hz2
  have HROWS := Lib.hid (show ∀ i, i < R → ∃ (g off : Nat) (A : Option Addr) (cr k : Nat) (r : List Bool), AL = some ⟨g, off, none⟩ ∧ l[i]? = some r ∧ r.length = k ∧ k ≤ 140737488351232 ∧ w.cell? ⟨g, off + i, none⟩ = some (.slice A k cr) ∧ k ≤ cr ∧ cr ≤ 9223372036854775807 ∧ Cel w (.slice A k cr) (cellsT r) from fun i hi => by
    obtain ⟨r, hr⟩ : ∃ r, l[i]? = some r := ⟨_, List.getElem?_eq_getElem (by rw [HR.out]; exact hi)⟩
    obtain ⟨g, off, rfl, hrows⟩ := hop (by omega)
    obtain ⟨u, h1, h2⟩ := hrows i r hr
    obtain ⟨A, cr, rfl, h3, h4, _⟩ := cel_bool h2
    unfold maxLen at h4
    exact ⟨g, off, A, cr, r.length, r, rfl, hr, rfl, HB.out.2 r (List.mem_of_getElem? hr), h1, h3, h4, h2⟩)
  clear hop hi hz0 hz1 hz2
  go_enter Try.func10, Try.ntmps10
  have HTV0 := Lib.hid (show TabV (w.alloc (.cells #[] 38)) w.heap.size 38 4 (.slice (some ⟨w.heap.size, 0, none⟩) 0 0) [] [] from ⟨rfl, World.ownsRow_made w #[] 0 (Nat.le_refl _) (Nat.zero_le _) rfl, fun i xs u h => by simp at h, fun i j u x _ h => by simp at h⟩)
  have HQ2 := Lib.hid (show Own w (w.alloc (.cells #[] 38)) from (Own.refl w).alloc _)
  obtain ⟨b0, hb0⟩ : ∃ b, w.heap.size = b := ⟨_, rfl⟩
  rw [hb0] at HTV0
  have HB0 := Lib.hid hb0
  go_wp2
  clear hb0
  generalize w.alloc (.cells #[] 38) = w2 at *
  go_loopw [3, 4] (fun vo vi wr => ∃ (j go co : Nat) (vs : List Value), vi = .int .i64 (j : Int) ∧ vo = .slice (some ⟨go, 0, none⟩) j co ∧ j ≤ R ∧ Own w wr ∧ TabV wr b0 38 4 (.slice (some ⟨go, 0, none⟩) j co) (cellsB (l.take j)) vs) (fun _ vi _ => R - (intOf vi).toNat)
  case atStart => exact ⟨0, b0, 0, [], rfl, rfl, Nat.zero_le _, HQ2.out, by rw [List.take_zero]; exact HTV0.out⟩
  case round =>
    clear HTV0 HQ2
    obtain ⟨j, go, co, vs, rfl, rfl, hj, q, htv⟩ := hrel
    have HQ := Lib.hid q
    have HTV := Lib.hid htv
    have HBB := Lib.hid (show b0 ≤ wr.heap.size by rw [← HB0.out]; exact q.size)
    have HLT := Lib.hid (show (cellsB (l.take j)).length = j by rw [cellsB_len, List.length_take, HR.out]; omega)
    clear q htv
    by_cases hlt : j < R
    · have hjz : (j : Int) < R := by omega
      obtain ⟨g, off, A, cr, k, r, rfl, hr, hw, hk47, e1', p1, p2, hcel⟩ := HROWS.out j hlt
      have HRJ := Lib.hid hr
      have HWJ := Lib.hid hw
      have e1 := HQ.out.cell e1'
      have HCJ := Lib.hid ((hcel.own HQ.out).own ((Own.refl wr).alloc (.cells #[] 4)))
      have HRM := Lib.hid (show (wr.alloc (.cells #[] 4)).ownsRow wr.heap.size 4 1 (.slice (some ⟨wr.heap.size, 0, none⟩) 0 0) 0 [] from World.ownsRow_made wr #[] 0 (Nat.le_refl _) (Nat.zero_le _) rfl)
      have HQA := Lib.hid (show Own wr (wr.alloc (.cells #[] 4)) from (Own.refl wr).alloc _)
      have e1a := HQA.out.cell e1
      have HL1 := Lib.hid (show 0 + (cellsT r).length = k by rw [cellsT_len, HWJ.out, Nat.zero_add])
      have K1 := Lib.hid (show k ≤ maxLen by unfold maxLen; omega)
      have K2 := Lib.hid (show k * 1 ≤ 140737488355328 by omega)
      have K3 := Lib.hid (show j + 1 ≤ maxLen by unfold maxLen; omega)
      have K4 := Lib.hid (show (j + 1) * 24 ≤ 140737488355328 by omega)
      clear hr hw e1' hcel
      go_wp2_with (first
        | (at_builtin; refine wpList_append_c (by go_simp) _ _ 38 rfl wr.heap.size 4 bi (.bool false) 1 Try.underlying38 HI.out HZ0.out HZ1.out HZ2.out rfl wr.heap.size 0 0 [] rfl HRM.out _ (cellsT r) rfl HCJ.out (cellsT_one r) k HL1.out K1.out K2.out HQA.out.size ?_; intro g8 c8 w8 hown8 hgr8; have HOWN8 := Lib.hid hown8; have HQ8 := Lib.hid (row_after HQA.out HRM.out hgr8 (Nat.le_refl _)); have HU9 := Lib.hid (row_own hown8 ((Own.refl w8).alloc (.cells #[.slice (some ⟨g8, 0, none⟩) k c8] 38))); have HQ9 := Lib.hid (HQ8.out.alloc (.cells #[.slice (some ⟨g8, 0, none⟩) k c8] 38)); have HRO := Lib.hid (by have h := row_own HTV.out.out HQ9.out; rw [HLT.out] at h; exact h); have HCE := Lib.hid (cel_lit (w := w8) (T := 38) (cs := #[.slice (some ⟨g8, 0, none⟩) k c8]) (xs := [.slice (some ⟨g8, 0, none⟩) k c8]) (k := 1) rfl rfl (by unfold maxLen; decide)); have HBS := Lib.hid (Nat.le_trans HBB.out HQ9.out.size); clear hown8 hgr8)
        | (at_builtin; refine wpList_append_c (by go_simp) _ _ 22 rfl b0 38 ri (.slice none 0 0) 24 Try.underlying22 JI.out JZ0.out JZ1.out JZ2.out rfl go j co vs rfl HRO.out _ [.slice (some ⟨g8, 0, none⟩) k c8] rfl HCE.out (fun x hx => by rw [List.mem_singleton.1 hx]; rfl) (j + 1) rfl K3.out K4.out HBS.out ?_; intro g10 c10 w10 hown10 hgr10; have HOWN10 := Lib.hid hown10; have HGR10 := Lib.hid hgr10; clear hown10 hgr10))
      go_roundw
      case rel =>
        have hys : (cellsT r).length = k := by rw [cellsT_len, HWJ.out]
        refine ⟨j + 1, g10, c10, vs ++ [.slice (some ⟨g8, 0, none⟩) k c8], by go_num, rfl, hlt, row_after (HQ.out.trans HQ9.out) HRO.out HGR10.out (Nat.le_of_eq HB0.out), ?_⟩
        rw [cellsB_take HRJ.out]
        refine TabV.more (by decide) HTV.out HQ9.out (by rw [hys]; have h := HU9.out; rw [List.nil_append] at h; exact h) (Nat.le_refl _) HBB.out HGR10.out ?_
        rw [HLT.out]
        exact HOWN10.out
      case measure => simp [intOf]; omega
    · obtain rfl : R = j := by omega
      have HTK := Lib.hid (show l.take R = l from List.take_of_length_le (by rw [HR.out]; exact Nat.le_refl _))
      have hcm := HTV.out.cels
      rw [HTK.out] at hcm
      have HCM := Lib.hid hcm
      clear hcm HTV HBB HLT HROWS
      generalize wr = w5 at *
      go_upto_region 7 with (go_at_call 16; with_reducible refine (pmatch_at l _ M f _ HCM HF HM).mono ?_; rintro e w6 ⟨va, rfl, hra, q6, _⟩; have HRA := Lib.hid hra; have HQ6 := Lib.hid q6; have HCM6 := Lib.hid (HCM.out.own q6); clear hra q6)
      go_upto_region 8 with (go_at_call 16; with_reducible refine (pmatch_at l _ M f _ HCM6 HF HM).mono ?_; rintro e w7 ⟨vb, rfl, hrb, q7, _⟩; have HRB := Lib.hid hrb; have HQ7 := Lib.hid q7; clear hrb q7)
      rw [HZ.out] at HRA HRB
      obtain ⟨Aa, ca, rfl⟩ := rows_shape HRA.out
      obtain ⟨Ab, cb, rfl⟩ := rows_shape HRB.out
      have hca : z ≤ ca ∧ ca ≤ 9223372036854775807 := by
        obtain ⟨A', c', e', h1, h2, _⟩ := cel_int (cel_of_row HRA.out)
        injection e' with _ _ e3
        rw [HZ.out] at h1
        unfold maxLen at h2
        rw [e3]
        exact ⟨h1, h2⟩
      obtain ⟨hca1, hca2⟩ := hca
      have HIA := Lib.hid ((cel_of_row HRA.out).own HQ7.out)
      have HIB := Lib.hid (show Cel w7 (.slice Ab z cb) (cellsI M) from cel_of_row HRB.out)
      go_upto_region 10 with (go_at_call 18; with_reducible refine (rints_yes M _ _ _ HIA HIB).mono ?_; rintro e w8 ⟨rfl, q8⟩; have HQ8 := Lib.hid q8; clear q8)
      have HRA8 := Lib.hid (row_own (row_own HRA.out HQ7.out) HQ8.out)
      have HRB8 := Lib.hid (row_own HRB.out HQ8.out)
      have HQ58 := Lib.hid ((HQ6.out.trans HQ7.out).trans HQ8.out)
      have HLA := Lib.hid (HRA.out.lt)
      go_wp2
      go_loopw [9] (fun vi wx => ∃ (i : Nat) (X : List Int), vi = .int .i64 (i : Int) ∧ i ≤ z ∧ X.length = z ∧ Own w5 wx ∧ wx.ownsRow w5.heap.size 3 1 (.slice Aa z ca) z (cellsI X) ∧ wx.ownsRow w6.heap.size 3 1 (.slice Ab z cb) z (cellsI M)) (fun vi _ => z - (intOf vi).toNat)
      case atStart => exact ⟨0, M, rfl, Nat.zero_le _, HZ.out, HQ58.out, HRA8.out, HRB8.out⟩
      case round =>
        clear HRA8 HRB8 HQ58 HIA HIB HRB HQ7 HQ8
        obtain ⟨i, X, rfl, hi, hX, q, hra, hrb⟩ := hrel
        have HQX := Lib.hid q
        have HRX := Lib.hid hra
        have HRB := Lib.hid hrb
        clear q hra hrb
        by_cases hlt2 : i < z
        · have hiz : (i : Int) < z := by omega
          obtain ⟨ga, ca', he, _⟩ := row_form HRX.out (by omega)
          injection he with ea eb ec
          subst ea
          subst ec
          obtain ⟨y, e0, _, f0⟩ := row_int HRX.out hX hlt2
          have hga := HLA.out ga rfl
          have HPU := Lib.hid (row_puti HRX.out i (-7))
          have HQP := Lib.hid (HQX.out.setCell (p := ⟨ga, i, none⟩) hga.1 (.int .i64 (-7)))
          have HRB2 := Lib.hid (row_below HRB.out (p := ⟨ga, i, none⟩) hga.2 (.int .i64 (-7)))
          clear eb hga
          go_wp2
          go_roundw
          case rel => exact ⟨i + 1, X.set i (-7), by go_num, hlt2, by rw [List.length_set]; exact hX, HQP.out, HPU.out, HRB2.out⟩
          case measure => simp [intOf]; omega
        · obtain rfl : z = i := by omega
          have HCMX := Lib.hid (HCM.out.own HQX.out)
          have HCB := Lib.hid (show Cel wr (.slice Ab z cb) (cellsI M) from cel_of_row HRB.out)
          have HCVR := Lib.hid (show Calls Try.prog 19 #[.slice (some ⟨go, 0, none⟩) R co] wr fun e w' => ∃ v, e = .returned v ∧ Own wr w' from by
            by_cases h0 : f = 0
            · refine (pcover_at l _ n wr HCMX (Lib.hid (by rw [HF.out, h0])) HN).mono ?_
              rintro e w' hcv
              obtain ⟨a, b, A, B, rfl, q, _⟩ := CovR.out hcv
              exact ⟨_, rfl, q⟩
            · refine (pcover_bad l _ f wr HCMX HF h0).mono ?_
              rintro e w' ⟨rfl, rfl⟩
              exact ⟨_, rfl, Own.refl _⟩)
          go_upto_region 15 with (go_at_call 19; refine HCVR.out.mono ?_; rintro e w9 ⟨vv, rfl, q9⟩; have HQ9 := Lib.hid q9; have HCM9 := Lib.hid (HCMX.out.own q9); clear q9)
          go_upto_region 16 with (go_at_call 16; with_reducible refine (pmatch_at l _ M f _ HCM9 HF HM).mono ?_; rintro e w10 ⟨vc, rfl, hrc, q10, _⟩; obtain ⟨Ac, cc, rfl⟩ := rows_shape hrc; have HCC := Lib.hid (cel_of_row hrc); have HQ10 := Lib.hid (HQ9.out.trans q10); clear hrc q10)
          have HCB10 := Lib.hid (HCB.out.own HQ10.out)
          have HT10 := Lib.hid (tb_open (HT.out.own ((HQ.out.trans HQX.out).trans HQ10.out)))
          have HO10 := Lib.hid (tb_open (HCMX.out.own HQ10.out))
          have HQW := Lib.hid ((HQ.out.trans HQX.out).trans HQ10.out)
          have hco : R ≤ co ∧ co ≤ 9223372036854775807 := by
            obtain ⟨A', c', e', h1, h2, _⟩ := HO10.out
            injection e' with _ _ e3
            rw [HR.out] at h1
            unfold maxLen at h2
            rw [e3]
            exact ⟨h1, h2⟩
          obtain ⟨hco1, hco2⟩ := hco
          go_wp2
          go_loopw [12, 13] (fun vi _ wx => ∃ i : Nat, vi = .int .i64 (i : Int) ∧ i ≤ R ∧ Own w10 wx) (fun vi _ _ => R - (intOf vi).toNat)
          case atStart => exact ⟨0, rfl, Nat.zero_le _, Own.refl _⟩
          case round =>
            obtain ⟨i, rfl, hi, q⟩ := hrel
            have HQY := Lib.hid q
            clear q
            by_cases hlt3 : i < R
            · have hiR : (i : Int) < R := by omega
              obtain ⟨r, hr⟩ : ∃ r, l[i]? = some r := ⟨_, List.getElem?_eq_getElem (by rw [HR.out]; exact hlt3)⟩
              obtain ⟨A1, c1, e1, _, _, h1'⟩ := HT10.out
              rw [HR.out] at e1 h1'
              injection e1 with ea eb ec
              subst ea
              subst ec
              obtain ⟨g1, o1, rfl, h1⟩ := h1' (by omega)
              obtain ⟨u1, k1, hu1⟩ := h1 i r hr
              obtain ⟨B1, d1, rfl, p1, p2, hb1⟩ := cel_bool hu1
              obtain ⟨A2, c2, e2, _, _, h2'⟩ := HO10.out
              rw [HR.out] at e2 h2'
              injection e2 with ea2 eb2 ec2
              subst ec2
              obtain ⟨g2, o2, e3, h2⟩ := h2' (by omega)
              rw [← ea2] at e3
              injection e3 with e3
              injection e3 with e4 e5
              subst e4
              subst e5
              obtain ⟨u2, k2, hu2⟩ := h2 i r hr
              obtain ⟨B2, d2, rfl, p3, p4, hb2⟩ := cel_bool hu2
              rw [Nat.zero_add] at k2
              obtain ⟨k, hk⟩ : ∃ k, r.length = k := ⟨_, rfl⟩
              rw [hk] at k1 k2 p1 p3 hb1 hb2
              unfold maxLen at p2 p4
              have HK1 := Lib.hid k1
              have HK2 := Lib.hid k2
              have HB1 := Lib.hid hb1
              have HB2 := Lib.hid hb2
              have HRL := Lib.hid hk
              have k1' := HQY.out.cell k1
              clear h1 h2 h1' h2' hu1 hu2 hb1 hb2 k1 k2 hr hk eb eb2 ea2
              go_wp2
              clear k1'
              go_loopw [13] (fun vc wy => ∃ c : Nat, vc = .int .i64 (c : Int) ∧ c ≤ k ∧ Own w10 wy) (fun vc _ => k - (intOf vc).toNat)
              case atStart => exact ⟨0, rfl, Nat.zero_le _, HQY.out⟩
              case round =>
                obtain ⟨c, rfl, hc, q⟩ := hrel
                have HQZ := Lib.hid q
                have k1 := q.cell HK1.out
                have k2 := q.cell HK2.out
                clear q
                by_cases hck : c < k
                · have hcz : (c : Int) < k := by omega
                  obtain ⟨b, hb⟩ : ∃ b, r[c]? = some b := ⟨_, List.getElem?_eq_getElem (by rw [HRL.out]; exact hck)⟩
                  obtain ⟨x1, y1, rfl, hx1⟩ := HB1.out (by omega)
                  obtain ⟨x2, y2, rfl, hx2⟩ := HB2.out (by omega)
                  have m1 := HQZ.out.cell (hx1 c b hb)
                  have m2 := HQZ.out.cell (hx2 c b hb)
                  have dbb : (b != b) = false := by simp
                  clear hb hx1 hx2
                  go_upto_region 22 with (fail)
                  go_quiet (fail)
                  go_wp2
                  go_roundw
                  case rel => exact ⟨c + 1, by go_num, hck, HQZ.out.drewN _⟩
                  case measure => simp [intOf]; omega
                · obtain rfl : k = c := by omega
                  go_wp2
                  go_roundw
                  case rel => exact ⟨i + 1, by go_num, hlt3, HQZ.out⟩
                  case measure => simp [intOf]; omega
            · obtain rfl : R = i := by omega
              have HCBY := Lib.hid (HCB10.out.own HQY.out)
              have HCCY := Lib.hid (HCC.out.own HQY.out)
              go_wp2_with (first
                | (go_at_call 18; with_reducible refine (rints_yes M _ _ _ HCBY HCCY).mono ?_; rintro e w11 ⟨rfl, q11⟩; have HQ11 := Lib.hid q11; clear q11)
                | (go_at_call 15; with_reducible refine (HK.out _).mono ?_; rintro e w12 ⟨rfl, q12⟩; have HQ12 := Lib.hid q12; clear q12))
              go_ret
              exact ⟨rfl, ((HQW.out.trans HQY.out).trans HQ11.out).trans HQ12.out⟩
end Go.Proofs.Ytdgahlojdllkbaa.MchW
