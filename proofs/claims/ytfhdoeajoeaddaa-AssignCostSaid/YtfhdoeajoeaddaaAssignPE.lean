/-
  Walks of the program of package assign: reprice. Condition: none.
-/
import Derived.Test.YtfhdoeajoeaddaaAssignPD
namespace Go.Proofs.Ytfhdoeajoeaddaa.AsgW
open Go.ChangeShapes Go.WideShapes Go.ChangeAt Go.RowKit
open PairW CelW TabW MchW AsgP
/-- The prices of the first m rows of R raised. -/
structure Ru (n : Nat) (R : List Nat) (b : Int) (U U' : List Int) (m : Nat) : Prop where
  len : U'.length = n
  at' : ∀ i, i < n → U'.getD i 0 = U.getD i 0 + if i ∈ R.take m then b else 0
theorem ru_start {n : Nat} {R : List Nat} {b : Int} {U : List Int} (h : U.length = n) : Ru n R b U U 0 := ⟨h, fun i _ => by rw [List.take_zero, if_neg List.not_mem_nil]; omega⟩
theorem Ru.next {n m r : Nat} {R : List Nat} {b : Int} {U U' : List Int} (k : Ru n R b U U' m) (hn : R.Nodup) (hr : R[m]? = some r) (hrn : r < n) : Ru n R b U (U'.set r (U.getD r 0 + b)) (m + 1) ∧ U'.getD r 0 = U.getD r 0 := by
  have hno : r ∉ R.take m := fun h => by
    obtain ⟨t, ht⟩ := mem_idx h
    have htm : t < (R.take m).length := (List.getElem?_eq_some_iff.1 ht).1
    rw [List.length_take] at htm
    rw [List.getElem?_take] at ht
    split at ht
    · have := idx_eq hn ht hr; omega
    · cases ht
  have h0 : U'.getD r 0 = U.getD r 0 := by rw [k.at' r hrn, if_neg hno]; omega
  have lr : r < U'.length := by rw [k.len]; exact hrn
  refine ⟨⟨by rw [List.length_set]; exact k.len, fun i hi => ?_⟩, h0⟩
  rw [MchW.take_next hr]
  by_cases d : r = i
  · subst d
    rw [gset_of lr, if_pos (List.mem_append.2 (.inr (List.mem_singleton.2 rfl)))]
  · rw [gset_ne _ lr d, k.at' i hi]
    by_cases e : i ∈ R.take m
    · rw [if_pos e, if_pos (List.mem_append.2 (.inl e))]
    · rw [if_neg e, if_neg fun q => ?_]
      rcases List.mem_append.1 q with q | q
      · exact e q
      · exact d (List.mem_singleton.1 q).symm
/-- The prices of the first m columns lowered. -/
structure Rv (n : Nat) (F : List Int) (b : Int) (V V' : List Int) (m : Nat) : Prop where
  len : V'.length = n
  at' : ∀ j, j < n → V'.getD j 0 = V.getD j 0 - if j < m then (if F.getD j 0 = -1 then 0 else b) else 0
theorem rv_start {n : Nat} {F : List Int} {b : Int} {V : List Int} (h : V.length = n) : Rv n F b V V 0 := ⟨h, fun i _ => by rw [if_neg (Nat.not_lt_zero _)]; omega⟩
theorem Rv.skip {n m : Nat} {F : List Int} {b : Int} {V V' : List Int} (k : Rv n F b V V' m) (h : F.getD m 0 = -1) : Rv n F b V V' (m + 1) := ⟨k.len, fun j hj => by
  rw [k.at' j hj]
  by_cases d : j = m
  · subst d
    rw [if_neg (Nat.lt_irrefl _), if_pos (Nat.lt_succ_self _), if_pos h]
  · by_cases e : j < m
    · rw [if_pos e, if_pos (show j < m + 1 by omega)]
    · rw [if_neg e, if_neg (show ¬ j < m + 1 by omega)]⟩
theorem Rv.next {n m : Nat} {F : List Int} {b : Int} {V V' : List Int} (k : Rv n F b V V' m) (hm : m < n) (h : F.getD m 0 ≠ -1) : Rv n F b V (V'.set m (V.getD m 0 - b)) (m + 1) ∧ V'.getD m 0 = V.getD m 0 := by
  have lr : m < V'.length := by rw [k.len]; exact hm
  refine ⟨⟨by rw [List.length_set]; exact k.len, fun j hj => ?_⟩, by rw [k.at' m hm, if_neg (Nat.lt_irrefl _)]; omega⟩
  by_cases d : m = j
  · subst d
    rw [gset_of lr, if_pos (Nat.lt_succ_self _), if_neg h]
  · rw [gset_ne _ lr d, k.at' j hj]
    by_cases e : j < m
    · rw [if_pos e, if_pos (show j < m + 1 by omega)]
    · rw [if_neg e, if_neg (show ¬ j < m + 1 by omega)]
theorem rai_of {n : Nat} {R : List Nat} {F : List Int} {b : Int} {U V U' V' : List Int} (k : Ru n R b U U' R.length) (l : Rv n F b V V' n) : Rai n R F b U V U' V' :=
  ⟨k.len, l.len, fun i hi => by rw [k.at' i hi, List.take_length], fun j hj => by rw [l.at' j hj, if_pos hj]⟩
set_option maxRecDepth 100000 in
set_option maxHeartbeats 4000000 in
theorem preprice_at (c : Tb) (vc : Value) (bs P n gU gV gL gH b2 gF s : Nat) (U V L H : List Int) (f : Int) (R : List Nat) (F : List Int) (vr : Value) (w : World) (HT : Hid (Cels w vc (cellsG c))) (HP : Hid (Pn w bs P vc n gU gV gL gH U V L H)) (HS : Hid (Sqa c)) (HR : Hid (Rga c)) (HN : Hid (c.length = n)) (HFE : Hid (Fe c n U V)) (b1 : n ≤ 16) (hb : gU < b2 ∧ gV < b2)
    (HRR : Hid (w.ownsRow b2 3 1 vr R.length (cellsI (natsI R)))) (HRF : Hid (w.ownsRow b2 3 1 (.slice (some ⟨gF, 0, none⟩) n n) n (cellsI F))) (HBF : Hid (Bf n (Ti c U V) H s 0 R F)) (HFR : Hid (∃ j, j < n ∧ F.getD j 0 = -1)) :
    Calls Try.prog 42 #[.pointer (some ⟨P, 0, none⟩), .agg #[vr, .slice (some ⟨gF, 0, none⟩) n n, .int .i64 f]] w fun e w' => e = .returned (.tuple #[]) ∧ ∃ U' V' b, Pn w' bs P vc n gU gV gL gH U' V' L H ∧ Kp [gU, gV] w w' ∧ Rai n R F b U V U' V' ∧ Lm c U V n R F R.length 0 b := by
  have hRp := HBF.out.bb.pos
  have hRn := HBF.out.few
  obtain ⟨g, cap, hv, hg1, _⟩ := row_form HRR.out hRp
  subst hv
  have hFb := (HRF.out.lt gF rfl).1
  have HNG := Lib.hid (show g ∉ [gU, gV] by simp; omega)
  have HNF := Lib.hid (show gF ∉ [gU, gV] by simp; omega)
  obtain ⟨z, hz⟩ : ∃ z, R.length = z := ⟨_, rfl⟩
  rw [hz] at hRp hRn ⊢
  have HZ := Lib.hid hz
  clear hz hg1 hFb
  have hn0 : 0 < n := by omega
  go_enter Try.func42, Try.ntmps42
  go_upto_region 1 with (fail)
  have B1 := Lib.hid (Blk.new w #[.slice (some ⟨g, 0, none⟩) z cap, .slice (some ⟨gF, 0, none⟩) n n, .int .i64 f] 57)
  have q1 := (Own.refl w).alloc (.cells #[.slice (some ⟨g, 0, none⟩) z cap, .slice (some ⟨gF, 0, none⟩) n n, .int .i64 f] 57)
  generalize w.alloc (.cells #[.slice (some ⟨g, 0, none⟩) z cap, .slice (some ⟨gF, 0, none⟩) n n, .int .i64 f] 57) = w1 at *
  have HQ1 := Lib.hid q1
  have HP1 := Lib.hid (HP.out.own q1)
  have hbx : w.heap.size ∉ [gU, gV] := by have := HP.out.lt; simp; omega
  have HBX := Lib.hid hbx
  have HRR1 := Lib.hid (row_own HRR.out q1)
  have HRF1 := Lib.hid (row_own HRF.out q1)
  have HT1 := Lib.hid (HT.out.own q1)
  generalize hbx' : w.heap.size = bx at *
  clear hbx q1 hbx'
  have k0 : w1.cell? ⟨bx, 0, none⟩ = some (.slice (some ⟨g, 0, none⟩) z cap) := B1.out.cell 0
  go_wp2
  clear k0
  go_loopw [4, 6, 7, 8, 16, 23] (fun v4 _ _ _ v16 _ wr => ∃ (m : Nat) (b : Int), v4 = .int .i64 b ∧ v16 = .int .i64 (m : Int) ∧ m ≤ z ∧ (-4398046511104 ≤ b ∧ b ≤ 9223372036854775807) ∧ Own w1 wr ∧ Lm c U V n R F m 0 b) (fun _ _ _ _ v16 _ _ => z - (intOf v16).toNat)
  case atStart => exact ⟨0, _, rfl, rfl, Nat.zero_le _, by omega, Own.refl _, Lm.start⟩
  case round =>
    obtain ⟨m, b, rfl, rfl, hm, ⟨hb1, hb2⟩, hq, hlm⟩ := hrel
    have HQ := Lib.hid hq
    have HLM := Lib.hid hlm
    have k1 : wr.cell? ⟨bx, 1, none⟩ = some (.slice (some ⟨gF, 0, none⟩) n n) := (B1.out.own hq).cell 1
    clear hq hlm
    by_cases hlt : m < z
    · obtain ⟨r, hr⟩ : ∃ r, R[m]? = some r := ⟨_, List.getElem?_eq_getElem (by rw [HZ.out]; exact hlt)⟩
      have hrn := HBF.out.bb.lt r (mem_of hr)
      obtain ⟨r', e0, hr', _⟩ := row_int (row_own HRR1.out HQ.out) (natsI_len R) (i := m) (by rw [HZ.out]; exact hlt)
      rw [natsI_at hr] at hr'
      injection hr' with hr'
      subst hr'
      have HRM := Lib.hid hr
      have hmz : (m : Int) < z := by omega
      clear hr
      go_wp2
      go_loopw [4, 7, 8, 23] (fun v4 _ _ v23 wx => ∃ (x : Nat) (b : Int), v4 = .int .i64 b ∧ v23 = .int .i64 (x : Int) ∧ x ≤ n ∧ (-4398046511104 ≤ b ∧ b ≤ 9223372036854775807) ∧ Own w1 wx ∧ Lm c U V n R F m x b) (fun _ _ _ v23 _ => n - (intOf v23).toNat)
      case atStart => exact ⟨0, b, rfl, rfl, Nat.zero_le _, ⟨hb1, hb2⟩, HQ.out, HLM.out⟩
      case round =>
        clear HQ HLM k1 e0 hb1 hb2
        obtain ⟨x, b, rfl, rfl, hx, ⟨hb1, hb2⟩, hq, hlm⟩ := hrel
        have HQ := Lib.hid hq
        have HLM := Lib.hid hlm
        clear hq hlm
        by_cases hlt2 : x < n
        · have hxn : (x : Int) < n := by omega
          have e2 := (row_get (row_own HRF1.out HQ.out) hlt2).1
          obtain ⟨fx, hfx⟩ : ∃ fx, F.getD x 0 = fx := ⟨_, rfl⟩
          rw [hfx] at e2
          have HFX := Lib.hid hfx
          clear hfx
          by_cases d1 : fx = -1
          · subst d1
            obtain ⟨q, hq⟩ : ∃ q, sl c U V r x = q := ⟨_, rfl⟩
            have hq0 := HFE.out.ge r hrn x hlt2
            rw [hq] at hq0
            have HSX := Lib.hid hq
            have HNX := Lib.hid (HLM.out.take HRM.out hlt2 HFX.out)
            rw [hq] at HNX
            clear hq
            have hslack := pslack_at c vc bs P n gU gV gL gH U V L H r x q wr (Lib.hid (HT1.out.own HQ.out)) (Lib.hid (HP1.out.own HQ.out)) HS HR HN HFE hrn hlt2 HSX
            go_wp2_with (go_at_call 34; refine hslack.mono ?_; rintro e w5 ⟨rfl, kk, hw5⟩; have HQ5 := Lib.hid (show Own w1 w5 from by rw [hw5]; exact HQ.out.drewN kk); clear hw5)
            go_roundw
            case rel => exact ⟨x + 1, _, by go_num, by go_num, hlt2, by omega, HQ5.out, HNX.out⟩
            case measure => simp [intOf]; omega
          · have d1b : (fx == -1) = false := beq_eq_false_iff_ne.2 d1
            have HNX := Lib.hid (HLM.out.skip (by rw [HFX.out]; exact d1))
            go_wp2
            go_roundw
            case rel => exact ⟨x + 1, b, rfl, by go_num, hlt2, ⟨hb1, hb2⟩, HQ.out, HNX.out⟩
            case measure => simp [intOf]; omega
        · obtain rfl : x = n := by omega
          have HNX := Lib.hid HLM.out.row
          go_wp2
          go_roundw
          case rel => exact ⟨m + 1, b, rfl, by go_num, hlt, ⟨hb1, hb2⟩, HQ.out, HNX.out⟩
          case measure => simp [intOf]; omega
    · obtain rfl : m = z := by omega
      obtain ⟨j0, hj0, hf0⟩ := HFR.out
      obtain ⟨⟨r1, hr1, j1, hj1, _, hbs⟩, _⟩ := (show Lm c U V n R F R.length 0 b by rw [HZ.out]; exact HLM.out).all HFE.out (okc_of HR.out) HBF.out.bb.lt HBF.out.bb.pos hj0 hf0
      have hb0 := HFE.out.ge r1 (HBF.out.bb.lt r1 hr1) j1 hj1
      have hb9 := HFE.out.ub (okc_of HR.out) (HBF.out.bb.lt r1 hr1) hj1
      rw [← hbs] at hb0 hb9
      have HP2 := Lib.hid (HP1.out.own HQ.out)
      have HRR2 := Lib.hid (row_own HRR1.out HQ.out)
      have HRF2 := Lib.hid (row_own HRF1.out HQ.out)
      have k0 : wr.cell? ⟨bx, 0, none⟩ = some (.slice (some ⟨g, 0, none⟩) R.length cap) := (by rw [HZ.out]; exact (B1.out.own HQ.out).cell 0)
      rw [HZ.out] at k0
      have HK1 := Lib.hid k1
      have HRU := Lib.hid (ru_start (n := n) (R := R) (b := b) HP2.out.lU)
      clear hbs hr1 hj1 hj0 hf0 hb1 hb2 k1
      generalize wr = w2 at *
      go_wp2
      clear k0
      go_loopw [10, 41] (fun _ v41 wx => ∃ (k : Nat) (U' : List Int), v41 = .int .i64 (k : Int) ∧ k ≤ m ∧ Pn wx bs P vc n gU gV gL gH U' V L H ∧ Kp [gU] w2 wx ∧ Ru n R b U U' k) (fun _ v41 _ => m - (intOf v41).toNat)
      case atStart => exact ⟨0, U, rfl, Nat.zero_le _, HP2.out, Kp.refl _ _, HRU.out⟩
      case round =>
        clear HRU
        obtain ⟨k, U', rfl, hk, hp, hkp, hru⟩ := hrel
        have HPP := Lib.hid hp
        have HKP := Lib.hid hkp
        have HRU := Lib.hid hru
        clear hp hkp hru
        have k1 := HPP.out.c1
        by_cases hlt2 : k < m
        · obtain ⟨r, hr⟩ : ∃ r, R[k]? = some r := ⟨_, List.getElem?_eq_getElem (by rw [HZ.out]; exact hlt2)⟩
          have hrn := HBF.out.bb.lt r (mem_of hr)
          obtain ⟨r', e0', hr', _⟩ := row_int HRR2.out (natsI_len R) (i := k) (by rw [HZ.out]; exact hlt2)
          rw [natsI_at hr] at hr'
          injection hr' with hr'
          subst hr'
          have e0 := HKP.out.cell e0' (by have := HNG.out; simp at this ⊢; exact this.1)
          obtain ⟨e1, f1⟩ := HPP.out.aU hrn
          obtain ⟨hnx, hux⟩ := HRU.out.next HBF.out.bb.nd hr hrn
          rw [hux] at e1
          obtain ⟨u1, u2⟩ := HFE.out.bu r hrn
          obtain ⟨ux, hu⟩ : ∃ ux, U.getD r 0 = ux := ⟨_, rfl⟩
          rw [hu] at e1 u1 u2 hnx
          have HNX := Lib.hid hnx
          have hkz : (k : Int) < m := by omega
          have hrz : (r : Int) < n := by omega
          have HP5 := Lib.hid (HPP.out.putU r (ux + b))
          have HK5 := Lib.hid (HKP.out.put (p := ⟨gU, r, none⟩) (fun _ => by simp) (.int .i64 (ux + b)))
          clear hr e0' hux hu hnx
          go_wp2
          go_roundw
          case rel => exact ⟨k + 1, _, by go_num, hlt2, HP5.out, HK5.out, HNX.out⟩
          case measure => simp [intOf]; omega
        · obtain rfl : k = m := by omega
          have HRUF := Lib.hid (show Ru n R b U U' R.length by rw [HZ.out]; exact HRU.out)
          have hV := HPP.out.lV
          have HRV := Lib.hid (rv_start (n := n) (F := F) (b := b) hV)
          have HRF3 := Lib.hid (HKP.out.row HRF2.out (by have := HNF.out; simp at this ⊢; exact this.1))
          have k9 := HKP.out.cell HK1.out (by have := HBX.out; simp at this ⊢; exact this.1)
          generalize wr = w3 at *
          clear hV
          go_wp2
          clear k9
          go_loopw [11, 12, 59] (fun _ _ v59 wx => ∃ (x : Nat) (V' : List Int), v59 = .int .i64 (x : Int) ∧ x ≤ n ∧ Pn wx bs P vc n gU gV gL gH U' V' L H ∧ Kp [gV] w3 wx ∧ Rv n F b V V' x) (fun _ _ v59 _ => n - (intOf v59).toNat)
          case atStart => exact ⟨0, V, rfl, Nat.zero_le _, HPP.out, Kp.refl _ _, HRV.out⟩
          case round =>
            clear HRV k1
            obtain ⟨x, V', rfl, hx, hp, hkp2, hrv⟩ := hrel
            have HPQ := Lib.hid hp
            have HKQ := Lib.hid hkp2
            have HRV := Lib.hid hrv
            clear hp hkp2 hrv
            have k2 := HPQ.out.c2
            by_cases hlt3 : x < n
            · have hxn : (x : Int) < n := by omega
              have e2 := (row_get (HKQ.out.row HRF3.out (by have := HNF.out; simp at this ⊢; exact this.2)) hlt3).1
              obtain ⟨fx, hfx⟩ : ∃ fx, F.getD x 0 = fx := ⟨_, rfl⟩
              rw [hfx] at e2
              by_cases d1 : fx = -1
              · subst d1
                have HNX := Lib.hid (HRV.out.skip hfx)
                clear hfx
                go_wp2
                go_roundw
                case rel => exact ⟨x + 1, V', by go_num, hlt3, HPQ.out, HKQ.out, HNX.out⟩
                case measure => simp [intOf]; omega
              · have d1b : (fx != -1) = true := bne_iff_ne.2 d1
                obtain ⟨hnx, hvx⟩ := HRV.out.next hlt3 (by rw [hfx]; exact d1)
                obtain ⟨e3, f3⟩ := HPQ.out.aV hlt3
                rw [hvx] at e3
                obtain ⟨v1, v2⟩ := HFE.out.bv x hlt3
                obtain ⟨yx, hy⟩ : ∃ yx, V.getD x 0 = yx := ⟨_, rfl⟩
                rw [hy] at e3 v1 v2 hnx
                have HNX := Lib.hid hnx
                have HP5 := Lib.hid (HPQ.out.putV x (yx - b))
                have HK5 := Lib.hid (HKQ.out.put (p := ⟨gV, x, none⟩) (fun _ => by simp) (.int .i64 (yx - b)))
                clear hfx hvx hy hnx
                go_wp2
                go_roundw
                case rel => exact ⟨x + 1, _, by go_num, hlt3, HP5.out, HK5.out, HNX.out⟩
                case measure => simp [intOf]; omega
            · obtain rfl : x = n := by omega
              have HFIN := Lib.hid (rai_of HRUF.out HRV.out)
              go_wp2
              go_end0
              refine ⟨rfl, U', V', b, HPQ.out, ?_, HFIN.out, HLM.out⟩
              exact (((Kp.of_own (G := [gU, gV]) (HQ1.out.trans HQ.out)).more HKP.out (fun y hy _ => by simp at hy ⊢; exact .inl hy)).more HKQ.out (fun y hy _ => by simp at hy ⊢; exact .inr hy))
end Go.Proofs.Ytfhdoeajoeaddaa.AsgW
