/-
  Package match: the law MatchBest walked. Condition: none.
-/
import Derived.Test.YtdgahlojdllkbaaMatchT
namespace Go.Proofs.Ytdgahlojdllkbaa.MchW
open Go.ChangeShapes Go.WideShapes Go.ChangeAt Go.RowKit
open PairW CelW TabW MchP
set_option maxRecDepth 100000 in
set_option maxHeartbeats 4000000 in
theorem lbest_at (l : List (List Bool)) (m : List Int) (vl vm : Value) (w : World) (HT : Hid (Cels w vl (cellsB l))) (HM : Hid (Cel w vm (cellsI m))) :
    Calls Try.prog 7 #[vl, vm] w fun e w' => e = .returned (.bool true) ∧ Own w w' := by
  have HK := Lib.hid (show ∀ w, Calls Try.prog 15 #[] w fun e w' => e = .returned (.bool true) ∧ Own w w' from awake_at)
  by_cases hv : VOk l m
  · have HV := Lib.hid (iff_t hv)
    obtain ⟨hck, hlen, hisp⟩ := hv
    obtain ⟨n, hn⟩ : ∃ n, nuV l = n := ⟨_, rfl⟩
    obtain ⟨M, hm⟩ : ∃ M, maV l = M := ⟨_, rfl⟩
    obtain ⟨z, hz⟩ : ∃ z, sz m = z := ⟨_, rfl⟩
    obtain ⟨k, hk⟩ : ∃ k, m.length = k := ⟨_, rfl⟩
    have HF := Lib.hid hck
    have HN := Lib.hid hn
    have HMV := Lib.hid hm
    have HZ := Lib.hid hz
    have HL := Lib.hid hk
    have HLR := Lib.hid hlen
    have HP := Lib.hid hisp
    have hk24 : k ≤ 24 := by
      have := (chk_ok hck).1
      omega
    obtain ⟨Am, cm, rfl, t1, t2, _⟩ := cel_int HM.out
    unfold maxLen at t2
    rw [hk] at t1 HM ⊢
    clear hck hlen hisp hn hm hz hk
    go_enter Try.func7, Try.ntmps7
    go_upto_region 3 with (go_at_call 20; with_reducible refine (pvalid_at l m _ _ true _ HT HM HV).mono ?_; rintro e w1 ⟨rfl, q1⟩; have HQ1 := Lib.hid q1; have HT1 := Lib.hid (HT.out.own q1); clear q1)
    go_upto_region 4 with (go_at_call 11; with_reducible refine (psizeOf_at l vl n 0 _ HT1 HF HN).mono ?_; rintro e w2 ⟨rfl, q2, hmx⟩; have HQ2 := Lib.hid q2; have HT2 := Lib.hid (HT1.out.own q2); have HMX := Lib.hid (hmx rfl); clear q2 hmx)
    go_upto_region 5 with (go_at_call 16; with_reducible refine (pmatch_at l _ M 0 _ HT2 HF HMV).mono ?_; rintro e w3 ⟨v3, rfl, hr3, q3, hb3⟩; have HQ3 := Lib.hid q3; have HR3 := Lib.hid hr3; have HB3 := Lib.hid (hb3 rfl); clear q3 hr3 hb3)
    have HLM := Lib.hid (show M.length = k by rw [HB3.out.len, ← HLR.out, HL.out])
    rw [HLM.out] at HR3
    obtain ⟨Ab, cb, rfl⟩ := rows_shape HR3.out
    have hcb : k ≤ cb ∧ cb ≤ 9223372036854775807 := by
      obtain ⟨A', c', e', h1, h2, _⟩ := cel_int (cel_of_row HR3.out)
      injection e' with _ _ e3
      rw [HLM.out] at h1
      unfold maxLen at h2
      rw [e3]
      exact ⟨h1, h2⟩
    obtain ⟨hcb1, hcb2⟩ := hcb
    have HMC := Lib.hid (HM.out.own ((HQ1.out.trans HQ2.out).trans HQ3.out))
    have hzn : z ≤ n := by
      have := HMX.out.2 (edg m) HP.out.pm
      rw [edg_len, HZ.out] at this
      exact this
    have hz24 : z ≤ 24 := by
      have := sz_le m
      rw [HZ.out, HL.out] at this
      omega
    have dz : ¬ (n : Int) < (z : Int) := by omega
    have HQW := Lib.hid ((HQ1.out.trans HQ2.out).trans HQ3.out)
    have HBC := Lib.hid (cel_int (cel_of_row HR3.out))
    have HMO := Lib.hid (cel_int HMC.out)
    by_cases hlt : z < n
    · have dz2 : (z : Int) < (n : Int) := by omega
      go_wp2_with (first
        | (go_at_call 21; with_reducible refine (lsize_at m _ z _ HMC HZ).mono ?_; rintro e w4 ⟨rfl, rfl⟩)
        | (go_at_call 15; with_reducible refine (HK.out _).mono ?_; rintro e w5 ⟨rfl, q5⟩; have HQ5 := Lib.hid q5; clear q5))
      go_ret
      exact ⟨rfl, HQW.out.trans HQ5.out⟩
    · have hzn2 : z = n := by omega
      have HZN := Lib.hid hzn2
      have dz2 : ¬ (z : Int) < (n : Int) := by omega
      go_wp2_with (go_at_call 21; with_reducible refine (lsize_at m _ z _ HMC HZ).mono ?_; rintro e w4 ⟨rfl, rfl⟩)
      go_loopw [9] (fun vi wr => ∃ j : Nat, vi = .int .i64 (j : Int) ∧ j ≤ k ∧ Own w wr ∧ Own w3 wr ∧ M.take j = m.take j) (fun vi _ => k - (intOf vi).toNat)
      case atStart => exact ⟨0, rfl, Nat.zero_le _, HQW.out, Own.refl _, rfl⟩
      case round =>
        obtain ⟨j, rfl, hj, q, q3, htk⟩ := hrel
        have HQ := Lib.hid q
        have HTK := Lib.hid htk
        have HQ3' := Lib.hid q3
        clear q htk q3
        by_cases hjk : j < k
        · have hjz : (j : Int) < k := by omega
          obtain ⟨A1, c1, e1, _, _, hop1⟩ := HBC.out
          rw [HLM.out] at e1 hop1
          injection e1 with ea eb ec
          subst ea
          subst ec
          obtain ⟨gb, ob, rfl, hb⟩ := hop1 (by omega)
          obtain ⟨A2, c2, e2, _, _, hop2⟩ := HMO.out
          rw [HL.out] at e2 hop2
          injection e2 with ea eb2 ec
          subst ea
          subst ec
          obtain ⟨gm, om, rfl, hm⟩ := hop2 (by omega)
          obtain ⟨x, hx⟩ : ∃ x, M[j]? = some x := ⟨_, List.getElem?_eq_getElem (by rw [HLM.out]; exact hjk)⟩
          obtain ⟨y, hy⟩ : ∃ y, m[j]? = some y := ⟨_, List.getElem?_eq_getElem (by rw [HL.out]; exact hjk)⟩
          have c0 := HQ3'.out.cell (hb j x hx)
          have c1' := HQ3'.out.cell (hm j y hy)
          have HX := Lib.hid hx
          have HY := Lib.hid hy
          clear hop1 hop2 hb hm hx hy eb eb2
          by_cases e : x = y
          · subst e
            have dxx : (x == x) = true := by simp
            have HTN := Lib.hid (show M.take (j + 1) = m.take (j + 1) by rw [take_one HX.out, take_one HY.out, HTK.out])
            go_upto_region 12 with (fail)
            go_quiet (fail)
            go_wp2
            go_roundw
            case rel => exact ⟨j + 1, by go_num, hjk, HQ.out.drewN _, HQ3'.out.drewN _, HTN.out⟩
            case measure => simp [intOf]; omega
          · have hbt : bt x y := HB3.out.ch.best HP.out HMX.out (by rw [HZ.out, HZN.out]) HTK.out HX.out HY.out e
            obtain ⟨b1, b2⟩ := hbt
            have d1 : (x != y) = true := bne_iff_ne.2 e
            have d2 : (x == y) = false := beq_eq_false_iff_ne.2 e
            have d3 : (x == -1) = false := beq_eq_false_iff_ne.2 (by omega)
            have d4 : (x != -1) = true := bne_iff_ne.2 (by omega)
            have d5 : decide (x = -1) = false := decide_eq_false (by omega)
            have HFS := Lib.hid (show ∀ N w6, wr.drewN N = w6 → Own wr w6 ∧ w6.cell? ⟨gb, ob + j, none⟩ = some (.int .i64 x) ∧ w6.cell? ⟨gm, om + j, none⟩ = some (.int .i64 y) from fun N w6 h => by rw [← h]; exact ⟨(Own.refl wr).drewN N, ((Own.refl wr).drewN N).cell c0, ((Own.refl wr).drewN N).cell c1'⟩)
            go_upto_region 12 with (fail)
            go_quiet (fail)
            go_upto_region 13 with (fail)
            generalize hN : wr.drewN _ = w6
            have hfs := HFS.out _ _ hN
            obtain ⟨f0, f1, f2⟩ := hfs
            clear hN HFS c0 c1'
            by_cases hy1 : y = -1
            · subst hy1
              have ka : ∀ aw : After w6, aw.w.cell? ⟨gb, ob + j, none⟩ = some (.int .i64 x) := fun aw => aw.o.cell f1
              have kb : ∀ aw : After w6, aw.w.cell? ⟨gm, om + j, none⟩ = some (.int .i64 (-1)) := fun aw => aw.o.cell f2
              refine region_after w6 (by kernel_rfl) (by kernel_rfl) ?_
              repeat (first
                | go_big_quiet_step ((go_at_call 15; with_reducible refine (HK.out _).mono ?_; rintro e w2 ⟨rfl, hg⟩; exact ⟨rfl, ⟨w2, (After.o _).trans hg⟩, rfl⟩))
                | quiet_step ((go_at_call 15; with_reducible refine (HK.out _).mono ?_; rintro e w2 ⟨rfl, hg⟩; exact ⟨rfl, ⟨w2, (After.o _).trans hg⟩, rfl⟩)))
              refine wpQuiet_nil ?_
              rintro _ ⟨aw, rfl⟩
              have qq := aw.o
              generalize aw.w = w9 at *
              clear ka kb
              go_wp2
              go_ret
              exact ⟨rfl, (HQ.out.trans f0).trans qq⟩
            · have hxy : x < y := by omega
              have e1 : (y == -1) = false := beq_eq_false_iff_ne.2 hy1
              have e2 : decide (y = -1) = false := decide_eq_false hy1
              have e3 : decide (x < y) = true := decide_eq_true hxy
              have ka : ∀ aw : After w6, aw.w.cell? ⟨gb, ob + j, none⟩ = some (.int .i64 x) := fun aw => aw.o.cell f1
              have kb : ∀ aw : After w6, aw.w.cell? ⟨gm, om + j, none⟩ = some (.int .i64 y) := fun aw => aw.o.cell f2
              refine region_after w6 (by kernel_rfl) (by kernel_rfl) ?_
              repeat (first
                | go_big_quiet_step ((go_at_call 15; with_reducible refine (HK.out _).mono ?_; rintro e w2 ⟨rfl, hg⟩; exact ⟨rfl, ⟨w2, (After.o _).trans hg⟩, rfl⟩))
                | quiet_step ((go_at_call 15; with_reducible refine (HK.out _).mono ?_; rintro e w2 ⟨rfl, hg⟩; exact ⟨rfl, ⟨w2, (After.o _).trans hg⟩, rfl⟩)))
              refine wpQuiet_nil ?_
              rintro _ ⟨aw, rfl⟩
              have qq := aw.o
              generalize aw.w = w9 at *
              clear ka kb
              go_wp2
              go_ret
              exact ⟨rfl, (HQ.out.trans f0).trans qq⟩
        · obtain rfl : k = j := by omega
          go_wp2_with (go_at_call 15; with_reducible refine (HK.out _).mono ?_; rintro e w5 ⟨rfl, q5⟩; have HQ5 := Lib.hid q5; clear q5)
          go_ret
          exact ⟨rfl, HQ.out.trans HQ5.out⟩
  · have HV := Lib.hid (iff_f hv)
    clear hv
    go_enter Try.func7, Try.ntmps7
    go_wp2_with (first
      | (go_at_call 20; with_reducible refine (pvalid_at l m _ _ false _ HT HM HV).mono ?_; rintro e w1 ⟨rfl, q1⟩; have HQ1 := Lib.hid q1; clear q1)
      | (go_at_call 15; with_reducible refine (HK.out _).mono ?_; rintro e w5 ⟨rfl, q5⟩; have HQ5 := Lib.hid q5; clear q5))
    go_ret
    exact ⟨rfl, HQ1.out.trans HQ5.out⟩
end Go.Proofs.Ytdgahlojdllkbaa.MchW
