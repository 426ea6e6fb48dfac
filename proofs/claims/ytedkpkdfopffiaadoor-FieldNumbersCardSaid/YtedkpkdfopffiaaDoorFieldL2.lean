/-
  Walks of the laws of package field about numbers. Condition: none.
-/
import Derived.Test.YtedkpkdfopffiaaDoorFieldL1
namespace Go.Proofs.YtedkpkdfopffiaaDoor.NamW
open Go.ChangeShapes Go.WideShapes Go.ChangeAt Go.RowKit
open PairW NamP StrW FldP
open Go.Lib (decDigits itoa)
theorem itoa_len (n : Int) (h : -9223372036854775808 ≤ n ∧ n ≤ 9223372036854775807) : (itoa n).length ≤ 20 := by
  by_cases c : n < 0
  · obtain ⟨u, rfl⟩ : ∃ u : Nat, n = -(u : Int) := ⟨n.natAbs, by omega⟩
    rw [itoa_neg (by omega), List.length_cons]
    have := dec_short u (by omega)
    omega
  · obtain ⟨u, rfl⟩ : ∃ u : Nat, n = (u : Int) := ⟨n.toNat, by omega⟩
    rw [itoa_pos]
    have := dec_short u (by omega)
    omega
theorem number_bound {s : Bs} (h : numberE s = 0) : -1125899906842624 ≤ numberV s ∧ numberV s ≤ 1125899906842624 := by
  have hv : numberV s = if s.head? = some 45 then -(valD (numD s) : Int) else valD (numD s) := by unfold numberV; rw [if_pos h]
  have hb : valD (numD s) ≤ 1125899906842624 := by
    unfold numberE at h
    by_cases c : numD s = [] ∨ ((numD s).head? = some 48 ∧ (1 < (numD s).length ∨ s.head? = some 45))
    · rw [if_pos c] at h; cases h
    · rw [if_neg c] at h
      by_cases d : (numD s).all digB = true
      · rw [if_pos d] at h
        by_cases e : 2 ^ 50 < valD (numD s)
        · rw [if_pos e] at h; cases h
        · omega
      · rw [if_neg d] at h; cases h
  rw [hv]
  by_cases c : s.head? = some 45
  · rw [if_pos c]; omega
  · rw [if_neg c]; omega
theorem number_zero {s : Bs} (h : numberE s ≠ 0) : numberV s = 0 := by unfold numberV; rw [if_neg h]
set_option maxRecDepth 100000 in
set_option maxHeartbeats 2000000 in
theorem FieldDigits_walk (C : FieldC) (n : Int) (s : ByteArray) (w : World) (hn : -9223372036854775808 ≤ n ∧ n ≤ 9223372036854775807) (M : Hid (Mx w)) :
    Calls Tryd.prog 9 #[.int .i64 n, .string s] w fun e w' => e = .returned (.bool true) ∧ Own w w' := by
  have g0 := Own.refl w
  have HNB := Lib.hid hn
  by_cases hb : 300 < s.size
  · have hbi : (300 : Int) < s.size := by omega
    clear hn
    go_enter Tryd.func9, Tryd.ntmps9
    go_wp2_with (go_at_call 11; with_reducible refine (awake_any C _ (mxo M g0)).mono ?_; rintro e w9 ⟨rfl, hq⟩; replace g0 := g0.trans hq; clear hq)
    go_ret
    exact ⟨rfl, g0⟩
  · have hbi : ¬ (300 : Int) < s.size := by omega
    have HS := Lib.hid (show s.size ≤ 100000 by omega)
    have HIL := Lib.hid (itoa_len n hn)
    have hni := number_itoa n
    clear hb hn
    by_cases c : -(2 ^ 50) ≤ n ∧ n ≤ 2 ^ 50
    · rw [if_pos c, if_pos c] at hni
      have c1 : ¬ n < -1125899906842624 := by omega
      have c2 : ¬ 1125899906842624 < n := by omega
      have HNI := Lib.hid (And.intro hni.2 hni.1)
      clear c hni
      go_enter Tryd.func9, Tryd.ntmps9
      go_upto_region 9 with (first | (go_at_call 24; with_reducible refine (print_at n _ HNB.out).mono ?_; rintro e w1 ⟨r1, rfl, h1, rfl⟩; have HR := Lib.hid h1; have HRS := Lib.hid (show r1.size ≤ 100000 from by have := HIL.out; rw [← h1, bs_len] at this; omega); clear h1) | (go_at_call 22; with_reducible refine (C.number r1 n 0 _ HRS.out (Lib.hid (by rw [HR.out]; exact HNI.out))).mono ?_; rintro e w2 ⟨rfl, hg⟩; replace g0 := g0.trans hg; clear hg))
      obtain ⟨m, hm⟩ : ∃ m, numberV (bs s) = m := ⟨_, rfl⟩
      obtain ⟨f, hf⟩ : ∃ f, numberE (bs s) = f := ⟨_, rfl⟩
      have HM := Lib.hid (And.intro hm hf)
      by_cases f0 : f = 0
      · subst f0
        have hmb := number_bound hf
        rw [hm] at hmb
        have HMB := Lib.hid (show -9223372036854775808 ≤ m ∧ m ≤ 9223372036854775807 by omega)
        have HIT := Lib.hid (itoa_number hf)
        rw [hm] at HIT
        clear hm hf hmb
        go_upto_region 12 with (go_at_call 22; with_reducible refine (C.number _ _ _ _ HS.out HM).mono ?_; rintro e w2 ⟨rfl, hg⟩; replace g0 := g0.trans hg; clear hg)
        go_wp2_with (first | (go_at_call 24; with_reducible refine (print_at m _ HMB.out).mono ?_; rintro e w3 ⟨r3, rfl, h3, rfl⟩; obtain rfl : r3 = s := bytes_inj (h3.trans HIT.out); clear h3; have hx := xeq (rfl : r3 = r3)) | (go_at_call 11; with_reducible refine (awake_any C _ (mxo M g0)).mono ?_; rintro e w9 ⟨rfl, hq⟩; replace g0 := g0.trans hq; clear hq))
        go_ret
        exact ⟨rfl, g0⟩
      · have fb : (f != 0) = true := bne_iff_ne.2 f0
        have hm0 := number_zero (s := bs s) (by rw [hf]; exact f0)
        obtain rfl : m = 0 := hm.symm.trans hm0
        clear hm hf hm0
        go_wp2_with (first | (go_at_call 22; with_reducible refine (C.number _ _ _ _ HS.out HM).mono ?_; rintro e w2 ⟨rfl, hg⟩; replace g0 := g0.trans hg; clear hg) | (go_at_call 11; with_reducible refine (awake_any C _ (mxo M g0)).mono ?_; rintro e w9 ⟨rfl, hq⟩; replace g0 := g0.trans hq; clear hq))
        go_ret
        exact ⟨rfl, g0⟩
    · rw [if_neg c, if_neg c] at hni
      have HNI := Lib.hid (And.intro hni.2 hni.1)
      clear hni
      by_cases c1 : n < -1125899906842624
      · clear c
        go_enter Tryd.func9, Tryd.ntmps9
        go_upto_region 9 with (first | (go_at_call 24; with_reducible refine (print_at n _ HNB.out).mono ?_; rintro e w1 ⟨r1, rfl, h1, rfl⟩; have HR := Lib.hid h1; have HRS := Lib.hid (show r1.size ≤ 100000 from by have := HIL.out; rw [← h1, bs_len] at this; omega); clear h1) | (go_at_call 22; with_reducible refine (C.number r1 0 1 _ HRS.out (Lib.hid (by rw [HR.out]; exact HNI.out))).mono ?_; rintro e w2 ⟨rfl, hg⟩; replace g0 := g0.trans hg; clear hg))
        obtain ⟨m, hm⟩ : ∃ m, numberV (bs s) = m := ⟨_, rfl⟩
        obtain ⟨f, hf⟩ : ∃ f, numberE (bs s) = f := ⟨_, rfl⟩
        have HM := Lib.hid (And.intro hm hf)
        by_cases f0 : f = 0
        · subst f0
          have hmb := number_bound hf
          rw [hm] at hmb
          have HMB := Lib.hid (show -9223372036854775808 ≤ m ∧ m ≤ 9223372036854775807 by omega)
          have HIT := Lib.hid (itoa_number hf)
          rw [hm] at HIT
          clear hm hf hmb
          go_upto_region 12 with (go_at_call 22; with_reducible refine (C.number _ _ _ _ HS.out HM).mono ?_; rintro e w2 ⟨rfl, hg⟩; replace g0 := g0.trans hg; clear hg)
          go_wp2_with (first | (go_at_call 24; with_reducible refine (print_at m _ HMB.out).mono ?_; rintro e w3 ⟨r3, rfl, h3, rfl⟩; obtain rfl : r3 = s := bytes_inj (h3.trans HIT.out); clear h3; have hx := xeq (rfl : r3 = r3)) | (go_at_call 11; with_reducible refine (awake_any C _ (mxo M g0)).mono ?_; rintro e w9 ⟨rfl, hq⟩; replace g0 := g0.trans hq; clear hq))
          go_ret
          exact ⟨rfl, g0⟩
        · have fb : (f != 0) = true := bne_iff_ne.2 f0
          have hm0 := number_zero (s := bs s) (by rw [hf]; exact f0)
          obtain rfl : m = 0 := hm.symm.trans hm0
          clear hm hf hm0
          go_wp2_with (first | (go_at_call 22; with_reducible refine (C.number _ _ _ _ HS.out HM).mono ?_; rintro e w2 ⟨rfl, hg⟩; replace g0 := g0.trans hg; clear hg) | (go_at_call 11; with_reducible refine (awake_any C _ (mxo M g0)).mono ?_; rintro e w9 ⟨rfl, hq⟩; replace g0 := g0.trans hq; clear hq))
          go_ret
          exact ⟨rfl, g0⟩
      · have c2 : 1125899906842624 < n := by omega
        clear c
        go_enter Tryd.func9, Tryd.ntmps9
        go_upto_region 9 with (first | (go_at_call 24; with_reducible refine (print_at n _ HNB.out).mono ?_; rintro e w1 ⟨r1, rfl, h1, rfl⟩; have HR := Lib.hid h1; have HRS := Lib.hid (show r1.size ≤ 100000 from by have := HIL.out; rw [← h1, bs_len] at this; omega); clear h1) | (go_at_call 22; with_reducible refine (C.number r1 0 1 _ HRS.out (Lib.hid (by rw [HR.out]; exact HNI.out))).mono ?_; rintro e w2 ⟨rfl, hg⟩; replace g0 := g0.trans hg; clear hg))
        obtain ⟨m, hm⟩ : ∃ m, numberV (bs s) = m := ⟨_, rfl⟩
        obtain ⟨f, hf⟩ : ∃ f, numberE (bs s) = f := ⟨_, rfl⟩
        have HM := Lib.hid (And.intro hm hf)
        by_cases f0 : f = 0
        · subst f0
          have hmb := number_bound hf
          rw [hm] at hmb
          have HMB := Lib.hid (show -9223372036854775808 ≤ m ∧ m ≤ 9223372036854775807 by omega)
          have HIT := Lib.hid (itoa_number hf)
          rw [hm] at HIT
          clear hm hf hmb
          go_upto_region 12 with (go_at_call 22; with_reducible refine (C.number _ _ _ _ HS.out HM).mono ?_; rintro e w2 ⟨rfl, hg⟩; replace g0 := g0.trans hg; clear hg)
          go_wp2_with (first | (go_at_call 24; with_reducible refine (print_at m _ HMB.out).mono ?_; rintro e w3 ⟨r3, rfl, h3, rfl⟩; obtain rfl : r3 = s := bytes_inj (h3.trans HIT.out); clear h3; have hx := xeq (rfl : r3 = r3)) | (go_at_call 11; with_reducible refine (awake_any C _ (mxo M g0)).mono ?_; rintro e w9 ⟨rfl, hq⟩; replace g0 := g0.trans hq; clear hq))
          go_ret
          exact ⟨rfl, g0⟩
        · have fb : (f != 0) = true := bne_iff_ne.2 f0
          have hm0 := number_zero (s := bs s) (by rw [hf]; exact f0)
          obtain rfl : m = 0 := hm.symm.trans hm0
          clear hm hf hm0
          go_wp2_with (first | (go_at_call 22; with_reducible refine (C.number _ _ _ _ HS.out HM).mono ?_; rintro e w2 ⟨rfl, hg⟩; replace g0 := g0.trans hg; clear hg) | (go_at_call 11; with_reducible refine (awake_any C _ (mxo M g0)).mono ?_; rintro e w9 ⟨rfl, hq⟩; replace g0 := g0.trans hq; clear hq))
          go_ret
          exact ⟨rfl, g0⟩
theorem cnumbers (N : NumbersC) (l : Ss) (sv : Value) (f : Int) (z : List Int) (n : Nat) (w : World) (HP : Hid (Strs w sv l)) (HS : Hid (Sm l)) (hl : l.length ≤ 10000) (H : Hid (numbersE (fl l) = f)) (HZ : Hid (numbersV (fl l) = z)) (HN : Hid (z.length = n)) :
    Calls Tryd.prog 20 #[sv] w fun e w' => ∃ A c, e = .returned (.tuple #[.slice A n c, .int .i64 f]) ∧ Ints w' (.slice A n c) z ∧ Own w w' := by
  refine (N l sv f w HP HS hl H).mono ?_
  rintro e w' ⟨v, rfl, h1, hg⟩
  rw [HZ.out] at h1
  have h1' := h1
  obtain ⟨A, c, rfl, _⟩ := h1'
  rw [HN.out] at h1
  exact ⟨A, c, by rw [HN.out], h1, hg⟩
theorem rnumbers2 (l : Ss) (sv : Value) (f : Int) (z : List Int) (n : Nat) (w : World) (HP : Hid (Strs w sv l)) (HS : Hid (Sm l)) (hl : l.length ≤ 10000) (H : Hid (numbersE (fl l) = f)) (HZ : Hid (numbersV (fl l) = z)) (HN : Hid (z.length = n)) :
    Calls Tryd.prog 21 #[sv] w fun e w' => ∃ A c, e = .returned (.tuple #[.slice A n c, .int .i64 f]) ∧ Ints w' (.slice A n c) z ∧ Own w w' := by
  refine (rnumbers_at l sv f w HP HS hl H).mono ?_
  rintro e w' ⟨v, rfl, h0, hg⟩
  rw [HZ.out] at h0
  have h1 := ints_of_row h0
  have h1' := h1
  obtain ⟨A, c, rfl, _⟩ := h1'
  rw [HN.out] at h1
  exact ⟨A, c, by rw [HN.out], h1, hg⟩
set_option maxRecDepth 100000 in
set_option maxHeartbeats 2000000 in
theorem FieldNumbers_walk (C : FieldC) (N : NumbersC) (l : Ss) (sv : Value) (w : World) (HP : Hid (Strs w sv l)) (M : Hid (Mx w)) :
    Calls Tryd.prog 8 #[sv] w fun e w' => e = .returned (.bool true) ∧ Own w w' := by
  have g0 := Own.refl w
  obtain ⟨t, ht⟩ : ∃ t, fewB l = t := ⟨_, rfl⟩
  have HT := Lib.hid ht
  cases t
  · clear ht
    go_enter Tryd.func8, Tryd.ntmps8
    go_wp2_with (first | (go_at_call 10; with_reducible refine (few_at l _ _ _ HP HT).mono ?_; rintro e w0 ⟨rfl, rfl⟩) | (go_at_call 11; with_reducible refine (awake_any C _ (mxo M g0)).mono ?_; rintro e w9 ⟨rfl, hq⟩; replace g0 := g0.trans hq; clear hq))
    go_ret
    exact ⟨rfl, g0⟩
  · have hf := few_sm ht
    have HLE := Lib.hid hf.1
    have HSM := Lib.hid hf.2
    have HL16 := Lib.hid (few_facts ht).1
    obtain ⟨f, hf2⟩ : ∃ f, numbersE (fl l) = f := ⟨_, rfl⟩
    obtain ⟨z, hz⟩ : ∃ z, numbersV (fl l) = z := ⟨_, rfl⟩
    obtain ⟨n, hn⟩ : ∃ n, z.length = n := ⟨_, rfl⟩
    have HF := Lib.hid hf2
    have HZ := Lib.hid hz
    have HN := Lib.hid hn
    have HNM := Lib.hid (show n ≤ 16 from by
      have h1 := HL16.out
      rw [← hn, ← hz]
      unfold numbersV
      by_cases c : numbersE (fl l) = 0
      · rw [if_pos c, List.length_map]; unfold fl; rw [List.length_map]; exact h1
      · rw [if_neg c]; exact Nat.zero_le _)
    clear ht hf hf2 hz hn
    go_enter Tryd.func8, Tryd.ntmps8
    go_upto_region 4 with (first | (go_at_call 10; with_reducible refine (few_at l _ _ _ HP HT).mono ?_; rintro e w0 ⟨rfl, rfl⟩) | (go_at_call 20; with_reducible refine (cnumbers N l _ f z n _ HP HSM HLE.out HF HZ HN).mono ?_; rintro e w1 ⟨A1, c1, rfl, ha, hg⟩; replace g0 := g0.trans hg; replace HP := Lib.hid (HP.out.own hg); clear hg))
    have HA := Lib.hid ha
    clear ha
    go_upto_region 5 with (go_at_call 21; with_reducible refine (rnumbers2 l _ f z n _ HP HSM HLE.out HF HZ HN).mono ?_; rintro e w2 ⟨A2, c2, rfl, hb, hg⟩; replace g0 := g0.trans hg; replace HP := Lib.hid (HP.out.own hg); replace HA := Lib.hid (HA.out.own hg); clear hg)
    obtain ⟨_, _, ea, _, _, ha⟩ := HA.out
    injection ea with ea1 ea2 ea3
    subst ea1
    subst ea3
    clear ea2
    obtain ⟨_, _, eb, _, _, hb⟩ := hb
    injection eb with eb1 eb2 eb3
    subst eb1
    subst eb3
    clear eb2
    rw [HN.out] at ha hb
    have HCA := Lib.hid ha
    have HCB := Lib.hid hb
    have hn16 := HNM.out
    obtain ⟨AL, cl, rfl, hl1, hl2, hlc⟩ := HP.out
    unfold maxLen at hl2
    have HLC := Lib.hid hlc
    have HSX := Lib.hid (fun k (h : k < l.length) => HSM.out.at_ h)
    have hl16 := HL16.out
    clear ha hb HA hlc HP HZ
    obtain ⟨k0, hk0⟩ : ∃ k0, l.length = k0 := ⟨_, rfl⟩
    rw [hk0] at HLC HSX hl1 hl16
    rw [hk0]
    clear hk0
    go_wp2
    go_loopw [7] (fun i wr => ∃ k : Nat, i = .int .i64 k ∧ k ≤ n ∧ Drew w2 wr) (fun i _ => n - (intOf i).toNat)
    case atStart => exact ⟨0, rfl, Nat.zero_le _, Drew.refl' w2⟩
    case round =>
      obtain ⟨k, rfl, hk, q⟩ := hrel
      by_cases hlt : k < n
      · obtain ⟨b, off, rfl, hc⟩ := HCA.out (by omega)
        obtain ⟨b2, off2, rfl, hc2⟩ := HCB.out (by omega)
        have e0 := Drew.cell q (hc k hlt)
        have e1 := Drew.cell q (hc2 k hlt)
        clear hc hc2
        have hkn : (k : Int) < n := by omega
        generalize z.getD k 0 = x at e0 e1
        go_upto_region 10 with (fail)
        go_quiet (fail)
        go_wp2
        go_roundw
        case rel => exact ⟨k + 1, by go_num, hlt, Drew.more q _⟩
        case measure => simp [intOf]; omega
      · obtain rfl : n = k := by omega
        have HLC2 := Lib.hid (fun (h : 0 < k0) => HLC.out h)
        have g1 := g0.trans (Drew.own q)
        have HQ := Lib.hid q
        clear q
        generalize wr = wa at *
        go_wp2
        go_loopw [8] (fun i wr => ∃ k : Nat, i = .int .i64 k ∧ k ≤ k0 ∧ Own wa wr) (fun i _ => k0 - (intOf i).toNat)
        case atStart => exact ⟨0, rfl, Nat.zero_le _, Own.refl wa⟩
        case round =>
          obtain ⟨j, rfl, hj, q⟩ := hrel
          by_cases hjt : j < k0
          · obtain ⟨b, off, rfl, hc⟩ := HLC.out (by omega)
            have e0 := q.cell (Drew.cell HQ.out (hc j hjt))
            clear hc
            have hjn : (j : Int) < k0 := by omega
            have hxs := HSX.out j hjt
            obtain ⟨x, hx⟩ : ∃ x, atS l j = x := ⟨_, rfl⟩
            rw [hx] at e0 hxs
            have HXS := Lib.hid hxs
            obtain ⟨nv, hnv⟩ : ∃ v, numberV (bs x) = v := ⟨_, rfl⟩
            obtain ⟨ne, hne⟩ : ∃ v, numberE (bs x) = v := ⟨_, rfl⟩
            have HX := Lib.hid (And.intro hnv hne)
            clear hx hxs hnv hne
            go_upto_region 16 with (go_at_call 22; with_reducible refine (C.number x nv ne _ HXS.out HX).mono ?_; rintro e w3 ⟨rfl, hg⟩; replace e0 := hg.cell e0; replace q := q.trans hg; clear hg)
            go_wp2_with (go_at_call 23; with_reducible refine (rnumber_at x nv ne _ HXS.out HX).mono ?_; rintro e w4 ⟨rfl, rfl⟩)
            go_roundw
            case rel => exact ⟨j + 1, by go_num, hjt, q⟩
            case measure => simp [intOf]; omega
          · obtain rfl : k0 = j := by omega
            have g0 := g1.trans q
            clear g1 q
            go_wp2_with (go_at_call 11; with_reducible refine (awake_any C _ (mxo M g0)).mono ?_; rintro e w9 ⟨rfl, hq⟩; replace g0 := g0.trans hq; clear hq)
            go_ret
            exact ⟨rfl, g0⟩
end Go.Proofs.YtedkpkdfopffiaaDoor.NamW
