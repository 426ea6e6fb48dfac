/-
  Walk of the specification of package balance: First. Condition: none.
-/
import Derived.Test.YtighpjhipgobiaaGreatDoorBalanceRB
import Derived.Test.YtighpjhipgobiaaGreatDoorBalancePH
namespace Go.Proofs.YtighpjhipgobiaaGreatDoor.BalW
open Go.ChangeShapes Go.WideShapes Go.ChangeAt Go.RowKit
open PairW AimP AimW BlkW PrtW PstP PstW JntP JntW RegD BalP
set_option maxRecDepth 100000 in
set_option maxHeartbeats 2000000 in
theorem rFirst_bad (b : Vl) (sv tv : Value) (f : Nat → Vl) (q : Nat → Int) (n m : Nat) (w : World) (HM : Hid (Mov sv tv f q n m w)) (hf : m = 0 ∨ n ≠ m + 1) :
    Calls Tryz.prog 11 #[.agg (cz 15 b), .agg #[sv, tv]] w fun r w' => r = .returned (.tuple #[.int .i64 0, .int .i64 2]) ∧ PairW.Own w w' := by
  obtain ⟨⟨A, ca, rfl, -⟩, ⟨A2, cb, rfl, -⟩, hnl, hml⟩ := HM.out
  unfold maxLen at hnl hml
  by_cases h0 : m = 0
  · have d1 : decide ((m : Int) < 1) = true := decide_eq_true (by omega)
    clear hf h0 HM hnl hml
    go_enter Tryz.func11, Tryz.ntmps11
    go_upto_region 1 with (fail)
    obtain ⟨W0, B, Mb, hW, hMb, hB, hb1, hm2, g0, -, -, -⟩ := two_new w (cz 15 b) 24 #[.slice A n ca, .slice A2 m cb] 42
    rw [hW, hMb, hB]
    have k0 := hm2.cell 0
    have k1 := hm2.cell 1
    clear hW hMb hB hb1 hm2
    go_wp2
    go_ret2
    exact ⟨rfl, g0⟩
  · have d1 : decide ((m : Int) < 1) = false := decide_eq_false (by omega)
    obtain ⟨z, i1⟩ : ∃ z, IntKind.i64.wrap ((m : Int) + 1) = z := ⟨_, rfl⟩
    have hz : (n : Int) ≠ z := by rw [← i1]; exact form_ne (by omega) (by omega) (by omega)
    have d2 : decide ((n : Int) = z) = false := decide_eq_false hz
    have d3 : ((n : Int) == z) = false := beq_eq_false_iff_ne.2 hz
    have d4 : ((n : Int) != z) = true := bne_iff_ne.2 hz
    clear hf h0 HM hnl hml hz
    go_enter Tryz.func11, Tryz.ntmps11
    go_upto_region 1 with (fail)
    obtain ⟨W0, B, Mb, hW, hMb, hB, hb1, hm2, g0, -, -, -⟩ := two_new w (cz 15 b) 24 #[.slice A n ca, .slice A2 m cb] 42
    rw [hW, hMb, hB]
    have k0 := hm2.cell 0
    have k1 := hm2.cell 1
    clear hW hMb hB hb1 hm2
    go_wp2
    go_ret2
    exact ⟨rfl, g0⟩
set_option maxRecDepth 100000 in
set_option maxHeartbeats 4000000 in
theorem rFirst_good (b : Vl) (sv tv : Value) (f : Nat → Vl) (q : Nat → Int) (n m : Nat) (v c : Int) (w : World) (HM : Hid (Mov sv tv f q n m w)) (hm0 : m ≠ 0) (hnm : n = m + 1) (H : Hid (fiV b f q n m = v ∧ fiE b f q n m = c)) :
    Calls Tryz.prog 11 #[.agg (cz 15 b), .agg #[sv, tv]] w fun r w' => r = .returned (.tuple #[.int .i64 v, .int .i64 c]) ∧ PairW.Own w w' := by
  obtain ⟨hv, hc⟩ := H.out
  rw [(fi_else hm0 hnm).1] at hc
  rw [(fi_else hm0 hnm).2] at hv
  have HV := Lib.hid hv
  have HC := Lib.hid hc
  obtain ⟨⟨A, ca, rfl, hps⟩, ⟨A2, cb, rfl, hss⟩, hnl, hml⟩ := HM.out
  obtain ⟨pb, po, rfl, hpl⟩ := hps (by omega)
  obtain ⟨sb, so, rfl, hsl⟩ := hss (by omega)
  have HNL := Lib.hid hnl
  unfold maxLen at hnl hml
  have HPL := Lib.hid hpl
  have HSL := Lib.hid hsl
  clear hps hss hpl hsl hv hc H HM
  have d1 : decide ((m : Int) < 1) = false := decide_eq_false (by omega)
  have i1 : IntKind.i64.wrap ((m : Int) + 1) = (n : Int) := (IntWalk.i64_in _ (by omega)).trans (by omega)
  have hm1 : 0 < m := by omega
  clear hnm hm0
  go_enter Tryz.func11, Tryz.ntmps11
  go_upto_region 1 with (fail)
  obtain ⟨W0, B, Mb, hW, hMb, hB, hb1, hm2, g0, -, -, -⟩ := two_new w (cz 15 b) 24 #[.slice (some ⟨pb, po, none⟩) n ca, .slice (some ⟨sb, so, none⟩) m cb] 42
  rw [hW, hMb, hB]
  have HB := Lib.hid hb1
  have HMB := Lib.hid hm2
  have k0 := hm2.cell 0
  have k1 := hm2.cell 1
  clear hW hMb hB hb1 hm2
  go_wp2
  clear d1 i1 k0 k1
  go_loopw [6, 7] (fun tv kv wr => ∃ k : Nat, kv = .int .i64 (k : Int) ∧ k ≤ n ∧ tv = .int .i64 (tA b f q m k) ∧ fA b f q m k = 0 ∧ PairW.Own w wr ∧ Blk wr B (cz 15 b) 24 ∧ Blk wr Mb #[.slice (some ⟨pb, po, none⟩) n ca, .slice (some ⟨sb, so, none⟩) m cb] 42) (fun _ kv _ => n - (intOf kv).toNat)
  case atStart => exact ⟨0, rfl, by omega, rfl, rfl, g0, HB.out, HMB.out⟩
  case round =>
    clear g0 HB HMB
    obtain ⟨k, rfl, hk, rfl, hok, g0, hb1, hm2⟩ := hrel
    have HB := Lib.hid hb1
    have HMB := Lib.hid hm2
    have k0 := hm2.cell 0
    have HK := Lib.hid hok
    clear hb1 hm2 hok
    obtain ⟨τ, hτ⟩ : ∃ t, tA b f q m k = t := ⟨_, rfl⟩
    rw [hτ]
    by_cases hlt : k < n
    · obtain ⟨mi, hmi⟩ : ∃ x, min k (m - 1) = x := ⟨_, rfl⟩
      have hsu : su q m k = q mi := by unfold su; rw [hmi]
      have i1 : IntKind.i64.wrap ((m : Int) - 1) = ((m - 1 : Nat) : Int) := (IntWalk.i64_in _ (by omega)).trans (by omega)
      have hmn := fun (w : World) (ts : Array TypeId) (t : TypeId) => min2_at (P := Tryz.prog) (k : Int) ((m - 1 : Nat) : Int) w ts t
      rw [show min (k : Int) ((m - 1 : Nat) : Int) = (mi : Int) by omega] at hmn
      have hmlt : mi < m := by omega
      have hmz : (mi : Int) < m := by omega
      have hkn : (k : Int) < n := by omega
      have HE2 := Lib.hid (show fA b f q m (k + 1) = joE b (f k) (q mi) by rw [fA_next HK.out, hsu])
      have HT2 := Lib.hid (show tA b f q m (k + 1) = if τ < 0 ∧ stV b (f k) (q mi) = false then (k : Int) else τ by rw [← hτ, ← hsu]; rfl)
      obtain ⟨ce, hce⟩ : ∃ c, joE b (f k) (q mi) = c := ⟨_, rfl⟩
      obtain ⟨st, hst⟩ : ∃ t, stV b (f k) (q mi) = t := ⟨_, rfl⟩
      have HST := Lib.hid (show stV b (f k) (q mi) = st ∧ joE b (f k) (q mi) = ce from ⟨hst, hce⟩)
      rw [hce] at HE2
      rw [hst] at HT2
      have HPX := Lib.hid ((HPL.out k hlt).own g0)
      have HSU := Lib.hid (g0.cell (HSL.out mi hmlt))
      clear hτ hce hst hsu hmi hmlt HK
      go_upto_region 7 with (fail)
      refine RegD.region_duty [32, 33, 34, 35, 36, 37, 38, 39, 40, 41, 42, 43, 44, 45, 46, 47, 48, 31, 49, 50, 8, 9] (RegI.upd (RegI.upd (RegI.upd (RegI.upd (RegI.upd (RegI.upd (RegI.upd (RegI.upd (RegI.upd (RegI.upd (RegI.upd (RegI.upd (RegI.upd (RegI.upd (RegI.upd (RegI.upd (RegI.upd (RegI.upd (RegI.upd (RegI.upd (RegI.upd (RegI.upd (fun _ => undef) 32 (.agg (cz 15 b))) 33 (.pointer (some ⟨Mb, 0, none⟩))) 34 (.slice (some ⟨pb, po, none⟩) n ca)) 35 (.int .i64 (k : Int))) 36 (.pointer (some ⟨pb, po + k * 22, none⟩))) 37 (.agg (cz 22 (f k)))) 38 (.pointer (some ⟨Mb, 1, none⟩))) 39 (.slice (some ⟨sb, so, none⟩) m cb)) 40 (.int .i64 (k : Int))) 41 (.pointer (some ⟨Mb, 1, none⟩))) 42 (.slice (some ⟨sb, so, none⟩) m cb)) 43 (.int .i64 (m : Int))) 44 (.int .i64 ((m - 1 : Nat) : Int))) 45 (.int .i64 (mi : Int))) 46 (.pointer (some ⟨sb, so + mi, none⟩))) 47 (.int .i64 (q mi))) 48 (.tuple #[.bool st, .int .i64 ce])) 31 (.tuple #[.bool st, .int .i64 ce])) 49 (.bool st)) 50 (.int .i64 ce)) 8 (.bool st)) 9 (.int .i64 ce)) (by kernel_rfl) (by kernel_rfl) (by intro d hd; simp at hd; simp; omega) ?_
      simp only [RegD.FF, RegI.FX, RegI.upd, List.foldl_cons, List.foldl_nil, List.not_mem_nil, if_true, if_false, Nat.reduceEqDiff]
      simp only [List.setIfInBounds_toArray, List.set_cons_succ, List.set_cons_zero]
      refine And.intro ?hs1 ?he1
      case hs1 =>
        refine And.intro ?s1_0 (And.intro ?s1_1 (And.intro ?s1_2 (And.intro ?s1_3 (And.intro ?s1_4 (And.intro ?s1_5 (And.intro ?s1_6 (And.intro ?s1_7 (And.intro ?s1_8 (And.intro ?s1_9 (And.intro ?s1_10 (And.intro ?s1_11 (And.intro ?s1_12 (And.intro ?s1_13 (And.intro ?s1_14 (And.intro ?s1_15 (And.intro ?s1_16 (And.intro ?s1_17 (And.intro ?s1_18 (And.intro ?s1_19 (And.intro ?s1_20 (And.intro ?s1_21 (trivial))))))))))))))))))))))
        case s1_0 =>
          intro u w1 hO
          have HB9 := Lib.hid (HB.out.own hO)
          go_wp2_with ((with_reducible show wpList _ _ _ (⟨_, .load 24 (.tmp 2), _, _, _, none⟩ :: _) _ _); refine wpList_load_row rfl 24 (.tmp 2) rfl B rfl 24 _ (0, 0) _ HB9.out.raw Tryz.underlying24 rfl infoB ?_)
          exact ⟨rfl, rfl, rfl, PairW.Own.refl _⟩
        case s1_1 =>
          intro u w1 hO
          go_wp2
          exact ⟨rfl, rfl, rfl, PairW.Own.refl _⟩
        case s1_2 =>
          intro u w1 hO
          have kk := (HMB.out.own hO).cell 0
          go_wp2
          exact ⟨rfl, rfl, rfl, PairW.Own.refl _⟩
        case s1_3 =>
          intro u w1 hO
          go_wp2
          exact ⟨rfl, rfl, rfl, PairW.Own.refl _⟩
        case s1_4 =>
          intro u w1 hO
          go_wp2
          exact ⟨rfl, rfl, rfl, PairW.Own.refl _⟩
        case s1_5 =>
          intro u w1 hO
          have HB9 := Lib.hid (HPX.out.own hO)
          go_wp2_with ((with_reducible show wpList _ _ _ (⟨_, .load 31 (.tmp 36), _, _, _, none⟩ :: _) _ _); refine wpList_load_lie rfl 31 (.tmp 36) rfl pb (po + k * 22) rfl (cz 22 (f k)) HB9.out _ Tryz.underlying31 rfl infoP ?_)
          exact ⟨rfl, rfl, rfl, PairW.Own.refl _⟩
        case s1_6 =>
          intro u w1 hO
          go_wp2
          exact ⟨rfl, rfl, rfl, PairW.Own.refl _⟩
        case s1_7 =>
          intro u w1 hO
          have kk := (HMB.out.own hO).cell 1
          go_wp2
          exact ⟨rfl, rfl, rfl, PairW.Own.refl _⟩
        case s1_8 =>
          intro u w1 hO
          go_wp2
          exact ⟨rfl, rfl, rfl, PairW.Own.refl _⟩
        case s1_9 =>
          intro u w1 hO
          go_wp2
          exact ⟨rfl, rfl, rfl, PairW.Own.refl _⟩
        case s1_10 =>
          intro u w1 hO
          have kk := (HMB.out.own hO).cell 1
          go_wp2
          exact ⟨rfl, rfl, rfl, PairW.Own.refl _⟩
        case s1_11 =>
          intro u w1 hO
          go_wp2
          exact ⟨rfl, rfl, rfl, PairW.Own.refl _⟩
        case s1_12 =>
          intro u w1 hO
          go_wp2
          exact ⟨rfl, rfl, rfl, PairW.Own.refl _⟩
        case s1_13 =>
          intro u w1 hO
          go_wp2
          exact ⟨rfl, rfl, rfl, PairW.Own.refl _⟩
        case s1_14 =>
          intro u w1 hO
          go_wp2
          exact ⟨rfl, rfl, rfl, PairW.Own.refl _⟩
        case s1_15 =>
          intro u w1 hO
          have kk := hO.cell HSU.out
          go_wp2
          exact ⟨rfl, rfl, rfl, PairW.Own.refl _⟩
        case s1_16 =>
          intro u w1 hO
          go_wp2_with (go_at_call 6; with_reducible refine (rSta_at b (f k) (q mi) st ce _ HST).mono ?_; rintro r w2 ⟨rfl, hg⟩)
          exact ⟨rfl, rfl, rfl, hg⟩
        case s1_17 =>
          intro u w1 hO
          go_wp2
          exact ⟨rfl, rfl, rfl, PairW.Own.refl _⟩
        case s1_18 =>
          intro u w1 hO
          go_wp2
          exact ⟨rfl, rfl, rfl, PairW.Own.refl _⟩
        case s1_19 =>
          intro u w1 hO
          go_wp2
          exact ⟨rfl, rfl, rfl, PairW.Own.refl _⟩
        case s1_20 =>
          intro u w1 hO
          go_wp2
          exact ⟨rfl, rfl, rfl, PairW.Own.refl _⟩
        case s1_21 =>
          intro u w1 hO
          go_wp2
          exact ⟨rfl, rfl, rfl, PairW.Own.refl _⟩
      intro u w9 hO
      replace g0 := g0.trans hO
      replace HB := Lib.hid (HB.out.own hO)
      replace HMB := Lib.hid (HMB.out.own hO)
      clear hO HPX HSU hmn k0 i1
      by_cases hce : ce = 0
      · subst hce
        cases st with
        | true =>
          have e1 : tA b f q m (k + 1) = τ := by rw [HT2.out, if_neg (fun h => absurd h.2 (by decide))]
          have HT3 := Lib.hid e1
          clear HT2 e1
          go_wp2
          go_roundw
          case rel => exact ⟨k + 1, by go_num, hlt, by rw [HT3.out], HE2.out, g0, HB.out, HMB.out⟩
          case measure => simp [intOf]; omega
        | false =>
          by_cases hτ : τ < 0
          · have e1 : tA b f q m (k + 1) = (k : Int) := by rw [HT2.out, if_pos (by first | exact ⟨hτ, rfl⟩ | exact ⟨hτ, trivial⟩)]
            have HT3 := Lib.hid e1
            have d3 : decide (τ < 0) = true := decide_eq_true hτ
            clear HT2 e1 hτ
            go_wp2
            go_roundw
            case rel => exact ⟨k + 1, by go_num, hlt, by rw [HT3.out], HE2.out, g0, HB.out, HMB.out⟩
            case measure => simp [intOf]; omega
          · have e1 : tA b f q m (k + 1) = τ := by rw [HT2.out, if_neg (fun h => by have := h.1; omega)]
            have HT3 := Lib.hid e1
            have d3 : decide (τ < 0) = false := decide_eq_false hτ
            clear HT2 e1 hτ
            go_wp2
            go_roundw
            case rel => exact ⟨k + 1, by go_num, hlt, by rw [HT3.out], HE2.out, g0, HB.out, HMB.out⟩
            case measure => simp [intOf]; omega
      · have kc : (ce != 0) = true := bne_iff_ne.2 hce
        have e0 : fA b f q m n = ce := (fA_end (by rw [HE2.out]; exact hce) (by omega)).trans HE2.out
        obtain rfl : ce = c := by rw [← HC.out, e0]
        obtain rfl : (0 : Int) = v := by rw [← HV.out, e0, if_neg hce]
        clear HT2 HE2 HV HC e0 hce HB HMB
        go_wp2
        go_ret2
        exact ⟨rfl, g0⟩
    · obtain rfl : k = n := by omega
      have e0 := HK.out
      obtain rfl : (0 : Int) = c := by rw [← HC.out, e0]
      obtain rfl : τ = v := by rw [← HV.out, if_pos e0, hτ]
      clear HV HC HK e0 HB hτ
      go_wp2
      go_ret2
      exact ⟨rfl, g0⟩
theorem rFirst_at (b : Vl) (sv tv : Value) (f : Nat → Vl) (q : Nat → Int) (n m : Nat) (v c : Int) (w : World) (HM : Hid (Mov sv tv f q n m w)) (H : Hid (fiV b f q n m = v ∧ fiE b f q n m = c)) :
    Calls Tryz.prog 11 #[.agg (cz 15 b), .agg #[sv, tv]] w fun r w' => r = .returned (.tuple #[.int .i64 v, .int .i64 c]) ∧ PairW.Own w w' := by
  by_cases h : m = 0 ∨ n ≠ m + 1
  · obtain ⟨hv, hc⟩ := H.out
    rw [(fi_form h).1] at hc
    rw [(fi_form h).2] at hv
    subst hv
    subst hc
    exact rFirst_bad b sv tv f q n m w HM h
  · exact rFirst_good b sv tv f q n m v c w HM (by omega) (by omega) H
end Go.Proofs.YtighpjhipgobiaaGreatDoor.BalW
