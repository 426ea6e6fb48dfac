/-
  Walks of the program of package assign: lower. Condition: none.
-/
import Derived.Test.YtfhdoeajoeaddaaAssignPF
namespace Go.Proofs.Ytfhdoeajoeaddaa.AsgW
open Go.ChangeShapes Go.WideShapes Go.ChangeAt Go.RowKit
open PairW CelW TabW MchW AsgP
theorem nx_of {c : Tb} {n i j : Nat} {U V L L' : List Int} (h : ∀ r, r < i → L'.getD r 0 = L.getD r 0) (x : AsgP.Nx c U V n L i j) : AsgP.Nx c U V n L' i j := fun l hl ht hb => x l hl ht fun r hr => (hb r hr).trans (h r hr)
set_option maxRecDepth 100000 in
set_option maxHeartbeats 4000000 in
theorem plower_at (c : Tb) (vc : Value) (w0 : World) (P n gU gV gL gH i : Nat) (U V L H : List Int) (w : World) (HT : Hid (Cels w0 vc (cellsG c))) (HO : Hid (Own w0 w)) (HP : Hid (Pn w w0.heap.size P vc n gU gV gL gH U V L H)) (HS : Hid (Sqa c)) (HR : Hid (Rga c)) (HN : Hid (c.length = n)) (b1 : n ≤ 16) (HPF : Hid (Pf c n U V L H)) (hi : i < n) :
    Calls Try.prog 24 #[.pointer (some ⟨P, 0, none⟩), .int .i64 (i : Int)] w fun e w' => e = .returned (.tuple #[]) ∧ ∃ L' H', Pn w' w0.heap.size P vc n gU gV gL gH U V L' H' ∧ Kp [gU, gV, gL, gH] w w' ∧ Pf c n U V L' H' ∧ (∀ r, r < i → L'.getD r 0 = L.getD r 0) ∧ ∀ j : Nat, (j : Int) < L'.getD i 0 → AsgP.Nx c U V n L' i j := by
  obtain ⟨old, ho, hlo, _⟩ := HPF.out.at hi
  have k3 := HP.out.c3
  have e3 := (HP.out.aL hi).1
  rw [hlo] at e3
  have HLO := Lib.hid hlo
  have hin : (i : Int) < n := by omega
  have HSB := Lib.hid (show ∀ x : Nat, x ∈ [gL, gH] → x < w.heap.size → x ∈ [gU, gV, gL, gH] from fun x hx _ => by simp at hx ⊢; rcases hx with h | h <;> simp [h])
  clear hlo
  go_enter Try.func24, Try.ntmps24
  go_wp2
  clear k3 e3
  go_loopw [5, 6, 7, 16] (fun _ _ _ v16 wr => ∃ x : Nat, v16 = .int .i64 (x : Int) ∧ x ≤ old ∧ Pn wr w0.heap.size P vc n gU gV gL gH U V L H ∧ Kp [gL, gH] w wr ∧ ∀ j, j < x → AsgP.Nx c U V n L i j) (fun _ _ _ v16 _ => old - (intOf v16).toNat)
  case atStart => exact ⟨0, rfl, Nat.zero_le _, HP.out, Kp.refl _ _, fun j h => absurd h (Nat.not_lt_zero _)⟩
  case round =>
    obtain ⟨x, rfl, hx, hp, hkp, hno⟩ := hrel
    have HPP := Lib.hid hp
    have HKP := Lib.hid hkp
    have HNO := Lib.hid hno
    have k4 := hp.c4
    have HKW := Lib.hid (show Kp [gU, gV, gL, gH] w wr from (Kp.refl _ w).more hkp HSB.out)
    have HTW := Lib.hid (HP.out.ok HT.out HO.out HKW.out).2
    clear hp hkp hno
    by_cases hlt : x < old
    · have hxn : x < n := by omega
      have hxo : (x : Int) < old := by omega
      have hxz : (x : Int) < n := by omega
      obtain ⟨h, hh, hhx, hlh⟩ := HPF.out.col hxn
      have e4 := (HPP.out.aH hxn).1
      rw [hhx] at e4
      have HHX := Lib.hid hhx
      clear hhx hlh
      by_cases d1 : (h : Int) < i
      · have HNX := Lib.hid (show ∀ j, j < x + 1 → AsgP.Nx c U V n L i j from fun j hj => by
          by_cases e : j = x
          · subst e; exact nx_taken HPF.out hi hxn HHX.out (by omega)
          · exact HNO.out j (by omega))
        go_wp2
        go_roundw
        case rel => exact ⟨x + 1, by go_num, hlt, HPP.out, HKP.out, HNX.out⟩
        case measure => simp [intOf]; omega
      · obtain ⟨q, hq⟩ : ∃ q, sl c U V i x = q := ⟨_, rfl⟩
        have HQ := Lib.hid hq
        clear hq
        have hslack := pslack_at c vc _ P n gU gV gL gH U V L H i x q wr HTW HPP HS HR HN (Lib.hid HPF.out.fe) hi hxn HQ
        by_cases d2 : 0 < q
        · have HNX := Lib.hid (show ∀ j, j < x + 1 → AsgP.Nx c U V n L i j from fun j hj => by
            by_cases e : j = x
            · subst e; exact nx_slack hi (by unfold Ti; rw [HQ.out]; omega)
            · exact HNO.out j (by omega))
          go_wp2_with (go_at_call 34; refine hslack.mono ?_; rintro e w5 ⟨rfl, kk, hw5⟩; have P5 := Lib.hid (show Pn w5 _ P vc n gU gV gL gH U V L H from by rw [hw5]; exact HPP.out.drewN kk); have K5 := Lib.hid (show Kp [gL, gH] w w5 from by rw [hw5]; exact HKP.out.drewN kk); clear hw5)
          go_roundw
          case rel => exact ⟨x + 1, by go_num, hlt, P5.out, K5.out, HNX.out⟩
          case measure => simp [intOf]; omega
        · have HTI := Lib.hid (show Ti c U V i x by unfold Ti; rw [HQ.out]; omega)
          obtain ⟨_, hne, _, hmh, hz⟩ := HPF.out.try hi hxn HHX.out HLO.out (by omega)
          have HMH := Lib.hid hmh
          have hih : i + 1 ≤ h := by omega
          clear hmh hz
          go_upto_region 7 with (first
            | (go_at_call 34; refine hslack.mono ?_; rintro e w5 ⟨rfl, kk, hw5⟩; have P5 := Lib.hid (show Pn w5 _ P vc n gU gV gL gH U V L H from by rw [hw5]; exact HPP.out.drewN kk); have K5 := Lib.hid (show Kp [gL, gH] w w5 from by rw [hw5]; exact HKP.out.drewN kk); clear hw5)
            | (go_at_call 35; refine (pgive_at vc _ P n gU gV gL gH U V L H i x _ P5 hi hxn).mono ?_; rintro e w6 ⟨rfl, p6, k6⟩; have P6 := Lib.hid p6; have K6 := Lib.hid (K5.out.trans k6); clear p6 k6))
          have k9 := P6.out.c4
          obtain ⟨e9, f9⟩ := P6.out.aH ho
          have hoz : (old : Int) < n := by omega
          obtain ⟨ho9, hho9⟩ : ∃ y, (H.set x (i : Int)).getD old 0 = y := ⟨_, rfl⟩
          rw [hho9] at e9
          clear hho9 k4 e4 hslack
          have P7 := Lib.hid (P6.out.putH old (-1))
          have K7 := Lib.hid (K6.out.put (p := ⟨gH, old, none⟩) (fun _ => by simp) (.int .i64 (-1)))
          go_upto_region 8 with (fail)
          generalize w6.setCell ⟨gH, old, none⟩ (.int .i64 (-1)) = w7 at *
          clear k9 e9 f9
          have HK7 := Lib.hid (show Kp [gU, gV, gL, gH] w w7 from (Kp.refl _ w).more K7.out HSB.out)
          have HT7 := Lib.hid (HP.out.ok HT.out HO.out HK7.out).2
          have hsea : Calls Try.prog 36 #[.pointer (some ⟨P, 0, none⟩), .int .i64 (h : Int), .int .i64 ((i : Int) + 1)] w7 _ := psearch_at c vc _ P n gU gV gL gH U V _ _ h (i + 1) w7 HT7 P7 HS HR HN (Lib.hid HPF.out.fe) HMH b1 hh hih
          go_upto_region 9 with (go_at_call 36; refine hsea.mono ?_; rintro e w8 ⟨gF, vr, f, R, F, rfl, q8, r2, r3, s8⟩; obtain ⟨A, cr, rfl⟩ := rows_shape r2; have HQ8 := Lib.hid q8; have HR2 := Lib.hid r2; have HR3 := Lib.hid r3; have HS8 := Lib.hid s8; clear q8 r2 r3 s8)
          have HBK := Lib.hid (Blk.new w8 #[.slice A R.length cr, .slice (some ⟨gF, 0, none⟩) n n, .int .i64 f] 57)
          have HQ9 := Lib.hid ((Own.refl w8).alloc (.cells #[.slice A R.length cr, .slice (some ⟨gF, 0, none⟩) n n, .int .i64 f] 57))
          generalize w8.alloc (.cells #[.slice A R.length cr, .slice (some ⟨gF, 0, none⟩) n n, .int .i64 f] 57) = w9 at *
          generalize w8.heap.size = B at *
          have y0 : w9.cell? ⟨B, 0, none⟩ = some (.slice A R.length cr) := HBK.out.cell 0
          have y1 : w9.cell? ⟨B, 1, none⟩ = some (.slice (some ⟨gF, 0, none⟩) n n) := HBK.out.cell 1
          have y2 : w9.cell? ⟨B, 2, none⟩ = some (.int .i64 f) := HBK.out.cell 2
          have P9 := Lib.hid ((P7.out.own HQ8.out).own HQ9.out)
          have K9 := Lib.hid ((K7.out.trans (Kp.of_own HQ8.out)).trans (Kp.of_own HQ9.out))
          have R2 := Lib.hid (row_own HR2.out HQ9.out)
          have R3 := Lib.hid (row_own HR3.out HQ9.out)
          clear hsea
          by_cases d3 : f = -1
          · subst d3
            obtain ⟨_, hbf, hclo⟩ | ⟨free, hfr, _⟩ := HS8.out
            · have HNX := Lib.hid (show ∀ j, j < x + 1 → AsgP.Nx c U V n L i j from fun j hj => by
                by_cases e : j = x
                · subst e; exact HPF.out.nx hi hxn HHX.out HLO.out (by omega) hbf hclo
                · exact HNO.out j (by omega))
              have HBK2 := Lib.hid (HPF.out.back hi hxn HHX.out HLO.out)
              clear hbf hclo
              have hg1 := pgive_at vc _ P n gU gV gL gH U V _ _ i old w9 P9 hi ho
              go_upto_region 12 with (go_at_call 35; refine hg1.mono ?_; rintro e w10 ⟨rfl, p10, k10⟩; have P10 := Lib.hid p10; have K10 := Lib.hid (K9.out.trans k10); clear p10 k10)
              have hg2 := pgive_at vc _ P n gU gV gL gH U V _ _ h x w10 P10 hh hxn
              go_wp2_with (go_at_call 35; refine hg2.mono ?_; rintro e w11 ⟨rfl, p11, k11⟩; rw [HBK2.out.1, HBK2.out.2] at p11; have P11 := Lib.hid p11; have K11 := Lib.hid (K10.out.trans k11); clear p11 k11)
              go_roundw
              case rel => exact ⟨x + 1, by go_num, hlt, P11.out, K11.out, HNX.out⟩
              case measure => simp [intOf]; omega
            · omega
          · have d3b : (f != -1) = true := bne_iff_ne.2 d3
            obtain ⟨hf1, _⟩ | ⟨free, rfl, hsf⟩ := HS8.out
            · exact absurd hf1 d3
            · have HSF := Lib.hid hsf
              have hlt7 := P7.out.lt
              have hshift := pshift_at (Ti c U V) vc _ P n gU gV gL gH w7.heap.size gF h (i + 1) free U V _ _ R F _ w9 P9 ⟨hlt7.2.2.2.1, hlt7.2.2.2.2⟩ R2 R3 HSF HMH (Lib.hid (HPF.out.tight hi HTI.out)) hh
              clear hsf hlt7
              go_wp2_with (go_at_call 37; refine hshift.mono ?_; rintro e w10 ⟨rfl, L', H', p10, k10, d10⟩; have P10 := Lib.hid p10; have K10 := Lib.hid (K9.out.trans k10); have D10 := Lib.hid d10; clear p10 k10 d10)
              refine bodyPost_ret (results_none rfl _ _ _) rfl ?_
              obtain ⟨z1, z2, z3⟩ := HPF.out.lower hi HSF.out D10.out
              refine ⟨rfl, L', H', P10.out, (Kp.refl _ w).more K10.out HSB.out, z1, z2, fun j hj => nx_of z2 (HNO.out j (by omega))⟩
    · obtain rfl : x = old := by omega
      go_wp2
      go_end0
      exact ⟨rfl, L, H, HPP.out, HKW.out, HPF.out, fun _ _ => rfl, fun j hj => HNO.out j (by rw [HLO.out] at hj; omega)⟩
end Go.Proofs.Ytfhdoeajoeaddaa.AsgW
