/-
  Walks of the laws of package field that only call and compare. Condition: none.
-/
import Derived.Test.YtedkpkdfopffiaaDoorFieldW
import Derived.Test.YtedkpkdfopffiaaDoorFieldQ
namespace Go.Proofs.YtedkpkdfopffiaaDoor.NamW
open Go.ChangeShapes Go.WideShapes Go.ChangeAt Go.RowKit
open PairW NamP StrW FldP
theorem few_sm {l : Ss} (h : fewB l = true) : l.length ≤ 10000 ∧ Sm l := by
  obtain ⟨h1, h2⟩ := few_facts h
  exact ⟨by omega, fun s hs => by have := h2 s hs; omega⟩
theorem xeq {x y : ByteArray} (h : x = y) : (x.toList == y.toList) = true := str_eq h
/-- Split, its slice written out. -/
theorem csplit (C : FieldC) (s : ByteArray) (f : Int) (w : World) (hs : s.size ≤ 100000) (H : Hid (splitE (bs s) = f)) (M : Hid (Mx w)) :
    Calls Tryd.prog 14 #[.string s] w fun e w' => ∃ l n A c, e = .returned (.tuple #[.slice A n c, .int .i64 f]) ∧ l.length = n ∧ Strs w' (.slice A n c) l ∧ fl l = splitV (bs s) ∧ Own w w' := by
  refine (C.split s f w hs H M).mono ?_
  rintro e w' ⟨l, v, rfl, h1, h2, hg⟩
  have h1' := h1
  obtain ⟨A, c, rfl, _⟩ := h1'
  exact ⟨l, l.length, A, c, rfl, rfl, h1, h2, hg⟩
theorem clines (C : FieldC) (s : ByteArray) (f : Int) (w : World) (hs : s.size ≤ 100000) (H : Hid (linesE (bs s) = f)) (M : Hid (Mx w)) :
    Calls Tryd.prog 17 #[.string s] w fun e w' => ∃ M n A c, e = .returned (.tuple #[.slice A n c, .int .i64 f]) ∧ M.length = n ∧ Lns w' (.slice A n c) M ∧ M.map fl = linesV (bs s) ∧ Own w w' := by
  refine (C.lines s f w hs H M).mono ?_
  rintro e w' ⟨L, v, rfl, h1, h2, hg⟩
  have h1' := h1
  obtain ⟨A, c, rfl, _⟩ := h1'
  exact ⟨L, L.length, A, c, rfl, rfl, h1, h2, hg⟩
set_option maxRecDepth 100000 in
theorem FieldJoins_walk (C : FieldC) (l : Ss) (sv : Value) (w : World) (HP : Hid (Strs w sv l)) (M : Hid (Mx w)) :
    Calls Tryd.prog 3 #[sv] w fun e w' => e = .returned (.bool true) ∧ Own w w' := by
  have g0 := Own.refl w
  obtain ⟨t, ht⟩ : ∃ t, fewB l = t := ⟨_, rfl⟩
  have HT := Lib.hid ht
  cases t
  · clear ht
    go_enter Tryd.func3, Tryd.ntmps3
    go_wp2_with (first | (go_at_call 10; with_reducible refine (few_at l _ _ _ HP HT).mono ?_; rintro e w0 ⟨rfl, rfl⟩) | (go_at_call 11; with_reducible refine (awake_any C _ (mxo M g0)).mono ?_; rintro e w9 ⟨rfl, hq⟩; replace g0 := g0.trans hq; clear hq))
    go_ret
    exact ⟨rfl, g0⟩
  · have hf := few_sm ht
    have HLE := Lib.hid hf.1
    have HSM := Lib.hid hf.2
    have HSH := Lib.hid hf.2.short
    obtain ⟨f, hf2⟩ : ∃ f, joinE (fl l) = f := ⟨_, rfl⟩
    have HF := Lib.hid hf2
    clear ht hf hf2
    go_enter Tryd.func3, Tryd.ntmps3
    go_upto_region 4 with (first | (go_at_call 10; with_reducible refine (few_at l _ _ _ HP HT).mono ?_; rintro e w0 ⟨rfl, rfl⟩) | (go_at_call 12; with_reducible refine (C.join l _ f _ HP HSM HLE.out HF (mxo M g0)).mono ?_; rintro e w1 ⟨r, rfl, hr, hg⟩; replace g0 := g0.trans hg; replace HP := Lib.hid (HP.out.own hg); clear hg))
    have HR := Lib.hid hr
    clear hr
    go_upto_region 5 with (go_at_call 13; with_reducible refine (rjoin_at l _ f _ HP HSH HLE.out HF).mono ?_; rintro e w2 ⟨r2, rfl, hr2, rfl⟩)
    obtain rfl : r = r2 := bytes_inj (HR.out.trans hr2.symm)
    have hx := xeq (rfl : r = r)
    clear hr2
    go_wp2_with (go_at_call 11; with_reducible refine (awake_any C _ (mxo M g0)).mono ?_; rintro e w9 ⟨rfl, hq⟩; replace g0 := g0.trans hq; clear hq)
    go_ret
    exact ⟨rfl, g0⟩
set_option maxRecDepth 100000 in
theorem FieldSplits_walk (C : FieldC) (s : ByteArray) (w : World) (M : Hid (Mx w)) :
    Calls Tryd.prog 4 #[.string s] w fun e w' => e = .returned (.bool true) ∧ Own w w' := by
  have g0 := Own.refl w
  by_cases hb : 1100 < s.size
  · have hbi : (1100 : Int) < s.size := by omega
    go_enter Tryd.func4, Tryd.ntmps4
    go_wp2_with (go_at_call 11; with_reducible refine (awake_any C _ (mxo M g0)).mono ?_; rintro e w9 ⟨rfl, hq⟩; replace g0 := g0.trans hq; clear hq)
    go_ret
    exact ⟨rfl, g0⟩
  · have hbi : ¬ (1100 : Int) < s.size := by omega
    have HS := Lib.hid (show s.size ≤ 100000 by omega)
    obtain ⟨f, hf⟩ : ∃ f, splitE (bs s) = f := ⟨_, rfl⟩
    have HF := Lib.hid hf
    clear hf hb
    go_enter Tryd.func4, Tryd.ntmps4
    go_upto_region 4 with (go_at_call 14; with_reducible refine (csplit C s f _ HS.out HF (mxo M g0)).mono ?_; rintro e w1 ⟨l, n, A, c, rfl, hn, hp, hl, hg⟩; replace g0 := g0.trans hg; clear hg)
    have HP := Lib.hid hp
    have HL := Lib.hid hl
    clear hp hl
    go_upto_region 5 with (go_at_call 15; with_reducible refine (rsplit_at s f _ HS.out HF).mono ?_; rintro e w2 ⟨l2, v2, rfl, hp2, hl2, _, hg⟩; replace g0 := g0.trans hg; replace HP := Lib.hid (HP.out.own hg); clear hg)
    obtain rfl : l = l2 := fl_inj (HL.out.trans hl2.symm)
    have HP2 := Lib.hid (strs_of_row hp2)
    clear hp2 hl2
    go_wp2_with (first | (go_at_call 16; with_reducible refine (same_yes l _ _ _ HP HP2).mono ?_; rintro e w3 ⟨rfl, hd⟩; replace g0 := g0.trans (Drew.own hd); clear hd) | (go_at_call 11; with_reducible refine (awake_any C _ (mxo M g0)).mono ?_; rintro e w9 ⟨rfl, hq⟩; replace g0 := g0.trans hq; clear hq))
    go_ret
    exact ⟨rfl, g0⟩
set_option maxRecDepth 100000 in
theorem FieldLines_walk (C : FieldC) (s : ByteArray) (w : World) (M : Hid (Mx w)) :
    Calls Tryd.prog 6 #[.string s] w fun e w' => e = .returned (.bool true) ∧ Own w w' := by
  have g0 := Own.refl w
  by_cases hb : 2500 < s.size
  · have hbi : (2500 : Int) < s.size := by omega
    go_enter Tryd.func6, Tryd.ntmps6
    go_wp2_with (go_at_call 11; with_reducible refine (awake_any C _ (mxo M g0)).mono ?_; rintro e w9 ⟨rfl, hq⟩; replace g0 := g0.trans hq; clear hq)
    go_ret
    exact ⟨rfl, g0⟩
  · have hbi : ¬ (2500 : Int) < s.size := by omega
    have HS := Lib.hid (show s.size ≤ 100000 by omega)
    obtain ⟨f, hf⟩ : ∃ f, linesE (bs s) = f := ⟨_, rfl⟩
    have HF := Lib.hid hf
    clear hf hb
    go_enter Tryd.func6, Tryd.ntmps6
    go_upto_region 4 with (go_at_call 17; with_reducible refine (clines C s f _ HS.out HF (mxo M g0)).mono ?_; rintro e w1 ⟨l, n, A, c, rfl, hn, hp, hl, hg⟩; replace g0 := g0.trans hg; clear hg)
    have HP := Lib.hid hp
    have HL := Lib.hid hl
    clear hp hl
    go_upto_region 5 with (go_at_call 18; with_reducible refine (rlines_at s f _ HS.out HF).mono ?_; rintro e w2 ⟨l2, v2, rfl, hp2, hl2, hg⟩; replace g0 := g0.trans hg; replace HP := Lib.hid (HP.out.own hg); clear hg)
    obtain rfl : l = l2 := fl_inj2 (HL.out.trans hl2.symm)
    have HP2 := Lib.hid hp2
    clear hp2 hl2
    go_wp2_with (first | (go_at_call 19; with_reducible refine (sameL_yes l _ _ _ HP HP2).mono ?_; rintro e w3 ⟨rfl, hd⟩; replace g0 := g0.trans (Drew.own hd); clear hd) | (go_at_call 11; with_reducible refine (awake_any C _ (mxo M g0)).mono ?_; rintro e w9 ⟨rfl, hq⟩; replace g0 := g0.trans hq; clear hq))
    go_ret
    exact ⟨rfl, g0⟩
set_option maxRecDepth 100000 in
set_option maxHeartbeats 2000000 in
theorem FieldRoundTrip_walk (C : FieldC) (l : Ss) (sv : Value) (s : ByteArray) (w : World) (HP : Hid (Strs w sv l)) (M : Hid (Mx w)) :
    Calls Tryd.prog 5 #[sv, .string s] w fun e w' => e = .returned (.bool true) ∧ Own w w' := by
  have g0 := Own.refl w
  obtain ⟨t, ht⟩ : ∃ t, fewB l = t := ⟨_, rfl⟩
  have HT := Lib.hid ht
  cases t
  · clear ht
    go_enter Tryd.func5, Tryd.ntmps5
    go_wp2_with (first | (go_at_call 10; with_reducible refine (few_at l _ _ _ HP HT).mono ?_; rintro e w0 ⟨rfl, rfl⟩) | (go_at_call 11; with_reducible refine (awake_any C _ (mxo M g0)).mono ?_; rintro e w9 ⟨rfl, hq⟩; replace g0 := g0.trans hq; clear hq))
    go_ret
    exact ⟨rfl, g0⟩
  · by_cases hb : 1100 < s.size
    · have hbi : (1100 : Int) < s.size := by omega
      clear ht hb
      go_enter Tryd.func5, Tryd.ntmps5
      go_wp2_with (first | (go_at_call 10; with_reducible refine (few_at l _ _ _ HP HT).mono ?_; rintro e w0 ⟨rfl, rfl⟩) | (go_at_call 11; with_reducible refine (awake_any C _ (mxo M g0)).mono ?_; rintro e w9 ⟨rfl, hq⟩; replace g0 := g0.trans hq; clear hq))
      go_ret
      exact ⟨rfl, g0⟩
    · have hbi : ¬ (1100 : Int) < s.size := by omega
      have HS := Lib.hid (show s.size ≤ 100000 by omega)
      have HSZ := Lib.hid (show s.size ≤ 1100 by omega)
      have hf := few_sm ht
      have HLE := Lib.hid hf.1
      have HSM := Lib.hid hf.2
      obtain ⟨f, hf2⟩ : ∃ f, joinE (fl l) = f := ⟨_, rfl⟩
      have HF := Lib.hid hf2
      clear ht hf hb
      by_cases f0 : f = 0
      · subst f0
        have HSJ := Lib.hid (split_join hf2)
        have HRL := Lib.hid (show (joinB (fl l)).length ≤ 1024 from by
          have h := hf2
          unfold joinE at h
          by_cases c : fieldsE (fl l) ≠ 0
          · rw [if_pos c] at h; exact absurd h c
          · rw [if_neg c] at h
            by_cases d : 1024 < (joinB (fl l)).length
            · rw [if_pos d] at h; cases h
            · omega)
        have HJV := Lib.hid (show joinV (fl l) = joinB (fl l) by unfold joinV; rw [if_pos hf2])
        clear hf2
        go_enter Tryd.func5, Tryd.ntmps5
        go_upto_region 4 with (first | (go_at_call 10; with_reducible refine (few_at l _ _ _ HP HT).mono ?_; rintro e w0 ⟨rfl, rfl⟩) | (go_at_call 12; with_reducible refine (C.join l _ 0 _ HP HSM HLE.out HF (mxo M g0)).mono ?_; rintro e w1 ⟨r, rfl, hr, hg⟩; replace g0 := g0.trans hg; replace HP := Lib.hid (HP.out.own hg); clear hg))
        rw [HJV.out] at hr
        have HRS := Lib.hid (show r.size ≤ 100000 from by have := HRL.out; rw [← hr, bs_len] at this; omega)
        have HR := Lib.hid (show splitE (bs r) = 0 by rw [hr]; exact HSJ.out.1)
        have HRV := Lib.hid (show splitV (bs r) = fl l by rw [hr]; exact HSJ.out.2)
        clear hr
        go_upto_region 8 with (go_at_call 14; with_reducible refine (csplit C r 0 _ HRS.out HR (mxo M g0)).mono ?_; rintro e w2 ⟨l2, n2, A2, c2, rfl, hn2, hp2, hl2, hg⟩; replace g0 := g0.trans hg; replace HP := Lib.hid (HP.out.own hg); clear hg)
        obtain rfl : l2 = l := fl_inj (hl2.trans HRV.out)
        have HP3 := Lib.hid hp2
        clear hp2 hl2 hn2
        go_upto_region 10 with (go_at_call 16; with_reducible refine (same_yes l2 _ _ _ HP3 HP).mono ?_; rintro e w3 ⟨rfl, hd⟩; replace g0 := g0.trans (Drew.own hd); clear hd)
        clear HP3 HP
        obtain ⟨g, hg⟩ : ∃ g, splitE (bs s) = g := ⟨_, rfl⟩
        have HG := Lib.hid hg
        by_cases g1 : g = 0
        · subst g1
          have HSM2 := Lib.hid (split_small hg (by rw [bs_len]; exact HSZ.out))
          have HOK := Lib.hid (split_ok hg)
          clear hg
          go_upto_region 13 with (go_at_call 14; with_reducible refine (csplit C s 0 _ HS.out HG (mxo M g0)).mono ?_; rintro e w4 ⟨m, k, A2, c2, rfl, hn2, hp2, hl2, hg⟩; replace g0 := g0.trans hg; clear hg)
          have HP2 := Lib.hid hp2
          have HJ := Lib.hid (show joinE (fl m) = 0 by rw [hl2]; exact HOK.out.1)
          have HJB := Lib.hid (show joinV (fl m) = bs s by unfold joinV; rw [if_pos HJ.out, hl2]; exact HOK.out.2)
          have HML := Lib.hid (show m.length ≤ 10000 from by have := HSM2.out.1; rw [← hl2] at this; unfold fl at this; rw [List.length_map] at this; omega)
          have HMS := Lib.hid (show Sm m from fun x hx => by
            have := HSM2.out.2 (bs x) (by rw [← hl2]; exact List.mem_map.2 ⟨x, hx, rfl⟩)
            rw [bs_len] at this
            omega)
          clear hp2 hl2 hn2
          go_upto_region 14 with (go_at_call 12; with_reducible refine (C.join m _ 0 _ HP2 HMS HML.out HJ (mxo M g0)).mono ?_; rintro e w5 ⟨r2, rfl, hr2, hg⟩; replace g0 := g0.trans hg; clear hg)
          obtain rfl : r2 = s := bytes_inj (hr2.trans HJB.out)
          have hx2 := xeq (rfl : r2 = r2)
          clear hr2
          go_wp2_with (go_at_call 11; with_reducible refine (awake_any C _ (mxo M g0)).mono ?_; rintro e w9 ⟨rfl, hq⟩; replace g0 := g0.trans hq; clear hq)
          go_ret
          exact ⟨rfl, g0⟩
        · have gb : (g != 0) = true := bne_iff_ne.2 g1
          have HV := Lib.hid (show splitV (bs s) = [] by unfold splitV; rw [hg, if_neg g1])
          clear hg
          go_upto_region 11 with (go_at_call 14; with_reducible refine (csplit C s g _ HS.out HG (mxo M g0)).mono ?_; rintro e w4 ⟨m, k, A2, c2, rfl, hn2, hp2, hl2, hg⟩; replace g0 := g0.trans hg; clear hg)
          rw [HV.out] at hl2
          have hm0 : m = [] := by cases m with
            | nil => rfl
            | cons x r => cases hl2
          subst hm0
          have hk0 : k = 0 := hn2.symm
          subst hk0
          clear hn2 hl2 hp2
          go_wp2_with (go_at_call 11; with_reducible refine (awake_any C _ (mxo M g0)).mono ?_; rintro e w9 ⟨rfl, hq⟩; replace g0 := g0.trans hq; clear hq)
          go_ret
          exact ⟨rfl, g0⟩
      · have fb : (f != 0) = true := bne_iff_ne.2 f0
        have fb2 : (f == 0) = false := beq_eq_false_iff_ne.2 f0
        have HJV := Lib.hid (show joinV (fl l) = [] by unfold joinV; rw [if_neg (by rw [hf2]; exact f0)])
        clear hf2
        go_enter Tryd.func5, Tryd.ntmps5
        go_upto_region 4 with (first | (go_at_call 10; with_reducible refine (few_at l _ _ _ HP HT).mono ?_; rintro e w0 ⟨rfl, rfl⟩) | (go_at_call 12; with_reducible refine (C.join l _ f _ HP HSM HLE.out HF (mxo M g0)).mono ?_; rintro e w1 ⟨r, rfl, hr, hg⟩; replace g0 := g0.trans hg; replace HP := Lib.hid (HP.out.own hg); clear hg))
        rw [HJV.out] at hr
        obtain rfl : r = ⟨#[]⟩ := bytes_inj hr
        clear hr HP
        go_upto_region 10 with (fail)
        obtain ⟨g, hg⟩ : ∃ g, splitE (bs s) = g := ⟨_, rfl⟩
        have HG := Lib.hid hg
        by_cases g1 : g = 0
        · subst g1
          have HSM2 := Lib.hid (split_small hg (by rw [bs_len]; exact HSZ.out))
          have HOK := Lib.hid (split_ok hg)
          clear hg
          go_upto_region 13 with (go_at_call 14; with_reducible refine (csplit C s 0 _ HS.out HG (mxo M g0)).mono ?_; rintro e w4 ⟨m, k, A2, c2, rfl, hn2, hp2, hl2, hg⟩; replace g0 := g0.trans hg; clear hg)
          have HP2 := Lib.hid hp2
          have HJ := Lib.hid (show joinE (fl m) = 0 by rw [hl2]; exact HOK.out.1)
          have HJB := Lib.hid (show joinV (fl m) = bs s by unfold joinV; rw [if_pos HJ.out, hl2]; exact HOK.out.2)
          have HML := Lib.hid (show m.length ≤ 10000 from by have := HSM2.out.1; rw [← hl2] at this; unfold fl at this; rw [List.length_map] at this; omega)
          have HMS := Lib.hid (show Sm m from fun x hx => by
            have := HSM2.out.2 (bs x) (by rw [← hl2]; exact List.mem_map.2 ⟨x, hx, rfl⟩)
            rw [bs_len] at this
            omega)
          clear hp2 hl2 hn2
          go_upto_region 14 with (go_at_call 12; with_reducible refine (C.join m _ 0 _ HP2 HMS HML.out HJ (mxo M g0)).mono ?_; rintro e w5 ⟨r2, rfl, hr2, hg⟩; replace g0 := g0.trans hg; clear hg)
          obtain rfl : r2 = s := bytes_inj (hr2.trans HJB.out)
          have hx2 := xeq (rfl : r2 = r2)
          clear hr2
          go_wp2_with (go_at_call 11; with_reducible refine (awake_any C _ (mxo M g0)).mono ?_; rintro e w9 ⟨rfl, hq⟩; replace g0 := g0.trans hq; clear hq)
          go_ret
          exact ⟨rfl, g0⟩
        · have gb : (g != 0) = true := bne_iff_ne.2 g1
          have HV := Lib.hid (show splitV (bs s) = [] by unfold splitV; rw [hg, if_neg g1])
          clear hg
          go_upto_region 11 with (go_at_call 14; with_reducible refine (csplit C s g _ HS.out HG (mxo M g0)).mono ?_; rintro e w4 ⟨m, k, A2, c2, rfl, hn2, hp2, hl2, hg⟩; replace g0 := g0.trans hg; clear hg)
          rw [HV.out] at hl2
          have hm0 : m = [] := by cases m with
            | nil => rfl
            | cons x r => cases hl2
          subst hm0
          have hk0 : k = 0 := hn2.symm
          subst hk0
          clear hn2 hl2 hp2
          go_wp2_with (go_at_call 11; with_reducible refine (awake_any C _ (mxo M g0)).mono ?_; rintro e w9 ⟨rfl, hq⟩; replace g0 := g0.trans hq; clear hq)
          go_ret
          exact ⟨rfl, g0⟩
end Go.Proofs.YtedkpkdfopffiaaDoor.NamW
