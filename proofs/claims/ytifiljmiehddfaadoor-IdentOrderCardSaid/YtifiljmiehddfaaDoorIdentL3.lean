/-
  Walk of the law IdentAdd. Condition: none.
-/
import Derived.Test.YtifiljmiehddfaaDoorIdentL2
namespace Go.Proofs.YtifiljmiehddfaaDoor.NamW
open Go.ChangeShapes Go.WideShapes Go.ChangeAt Go.RowKit
open PairW NamP StrW
theorem new_none : newE [] = 0 := by decide
theorem short_nil : Short [] := fun s h => by cases h
theorem sort_strs {w : World} {base n : Nat} {e : TypeId} {sv : Value} {l : Ss} (h : w.ownsRow base e 1 sv n (cellsS (sortS l))) (hn : l.length = n) : Strs w sv (sortS l) := strs_row h (by rw [sort_len, hn])
set_option maxRecDepth 100000 in
set_option maxHeartbeats 4000000 in
theorem IdentAdd_walk {T : World → (Nat → Prop) → Nat → Ss → Prop} (C : IdentC T) (D : IdentA T) (RN : RNew) (l : Ss) (sv : Value) (w : World) (HP : Hid (Strs w sv l)) (HS : Hid (Short l)) :
    Calls Tryd.prog 8 #[sv] w fun e w' => e = .returned (.bool true) ∧ Own w w' := by
  obtain ⟨A, cap, rfl, hc1, hcm, hcell⟩ := HP.out
  unfold maxLen at hcm
  have HC := Lib.hid hcell
  have HXS := Lib.hid (fun k (h : k < l.length) => HS.out.at_ h)
  obtain ⟨n, hn⟩ : ∃ n, l.length = n := ⟨_, rfl⟩
  rw [hn] at HC HXS
  rw [hn]
  clear hn hcell HP HS
  by_cases c : 40 < n
  · have c1 : (40 : Int) < n := by omega
    go_enter Tryd.func8, Tryd.ntmps8
    go_wp2_with (go_at_call 13; refine (awake_any C _).mono ?_; rintro e w3 ⟨rfl, hg⟩)
    go_ret
    exact ⟨rfl, hg⟩
  · have c1 : ¬ (40 : Int) < n := by omega
    have hn40 : n ≤ 40 := by omega
    have HE := Lib.hid new_none
    have HSN := Lib.hid short_nil
    go_enter Tryd.func8, Tryd.ntmps8
    go_upto_region 4 with (go_at_call 16; refine (C.new [] _ 0 _ (Lib.hid (strs_nil w)) HSN (by simp) HE).mono ?_; rintro e w1 hq; obtain ⟨tg, F, rfl, g, hT, hF⟩ := hq.ok; clear hq)
    go_upto_region 5 with (go_at_call 20; refine (RN [] _ 0 _ (Lib.hid (strs_nil w1)) HSN (by simp) HE).mono ?_; rintro e w2 hq; obtain ⟨ug, G, rfl, hg, hU, hG⟩ := hq.ok; clear hq)
    have HT := Lib.hid (C.own hT hg)
    have HU := Lib.hid hU
    have HDJ := Lib.hid (show ∀ k, F k → ¬ G k from fun k h1 h2 => by have := C.lt hT h1; have := hG k h2; omega)
    have HF := Lib.hid hF
    have HG := Lib.hid (show ∀ k, G k → w.heap.size ≤ k from fun k h => Nat.le_trans g.size (hG k h))
    replace g := g.trans hg
    clear hT hU hF hG hg HE HSN
    go_wp2
    go_loopw [7] (fun v wr => ∃ (k : Nat) (L : Ss) (F G : Nat → Prop), v = .int .i64 k ∧ k ≤ n ∧ Own w wr ∧ L.length ≤ k ∧ T wr F tg L ∧ RTab wr G ug L ∧ (∀ j, F j → w.heap.size ≤ j) ∧ (∀ j, G j → w.heap.size ≤ j) ∧ ∀ j, F j → ¬ G j) (fun v _ => n - (intOf v).toNat)
    case atStart => exact ⟨0, [], F, G, rfl, Nat.zero_le _, g, Nat.le_refl _, HT.out, HU.out, HF.out, HG.out, HDJ.out⟩
    case round =>
      clear HT HU HF HG HDJ g
      obtain ⟨k, L, F, G, rfl, hk, g, hL, hT, hU, hF, hG, hd⟩ := hrel
      have HT := Lib.hid hT
      have HU := Lib.hid hU
      have HF := Lib.hid hF
      have HG := Lib.hid hG
      have HD := Lib.hid hd
      clear hT hU hF hG hd
      by_cases hlt : k < n
      · have hkn : (k : Int) < n := by omega
        obtain ⟨b, off, rfl, hc⟩ := HC.out (by omega)
        have hc0 := hc k hlt
        have e0 := g.cell hc0
        have hxs := HXS.out k hlt
        obtain ⟨x, hx⟩ : ∃ x, atS l k = x := ⟨_, rfl⟩
        rw [hx] at e0 hc0 hxs
        have HX := Lib.hid hxs
        have HC0 := Lib.hid hc0
        clear hc hx hxs hc0
        obtain ⟨f, hf⟩ : ∃ f, addE L x = f := ⟨_, rfl⟩
        have HA := Lib.hid hf
        clear hf
        obtain ⟨nL, hnL⟩ : ∃ m, L.length = m := ⟨_, rfl⟩
        have HNL := Lib.hid hnL
        rw [hnL] at hL
        clear hnL
        by_cases c0 : f = 0
        · subst c0
          have HD := HD
          go_upto_region 11 with (go_at_call 23; refine (D.ok L x tg F _ HX.out HT HA).mono ?_; rintro e w3 ⟨rfl, hch, F', hT', hF'⟩; rw [HNL.out])
          have hU3 := HU.out.chg hch (fun j h1 h2 => HD.out j h2 h1)
          have g3 := hch.own g HF.out
          have hd3 : ∀ j, F' j → ¬ G j := fun j h1 h2 => by
            rcases hF' j h1 with h | h
            · exact HD.out j h h2
            · have := HU.out.lt h2; omega
          have hf3 : ∀ j, F' j → w.heap.size ≤ j := fun j h => by
            rcases hF' j h with h | h
            · exact HF.out j h
            · exact Nat.le_trans g.size h
          replace e0 := g3.cell HC0.out
          have HU3 := Lib.hid hU3
          have HT3 := Lib.hid hT'
          have HD3 := Lib.hid hd3
          have HF3 := Lib.hid hf3
          clear hU3 hT' hd3 hf3 hF' hch HT HU
          go_upto_region 12 with (go_at_call 24; refine (radd_ok L x ug G _ HX.out HU3 HA).mono ?_; rintro e w4 ⟨rfl, hch, G', hU', hG'⟩; rw [HNL.out])
          have hT4 := C.chg HT3.out hch HD3.out
          have g4 := hch.own g3 HG.out
          have hd4 : ∀ j, F' j → ¬ G' j := fun j h1 h2 => by
            rcases hG' j h2 with h | h
            · exact HD3.out j h1 h
            · have := C.lt HT3.out h1; omega
          have hg4 : ∀ j, G' j → w.heap.size ≤ j := fun j h => by
            rcases hG' j h with h | h
            · exact HG.out j h
            · exact Nat.le_trans g3.size h
          have HT4 := Lib.hid hT4
          have HU4 := Lib.hid hU'
          have HD4 := Lib.hid hd4
          have HG4 := Lib.hid hg4
          have HLN := Lib.hid (show (L ++ [x]).length = nL + 1 by rw [List.length_append, HNL.out]; rfl)
          clear hT4 hU' hd4 hg4 hG' hch HT3 HU3
          have hnn : nL + 1 ≤ 1000 := by omega
          have gg : Own w4 w4 := Own.refl w4
          go_wp2_with (first
            | (go_at_call 26; refine (C.sorted (L ++ [x]) tg (nL + 1) F' _ (Lib.hid (C.own HT4.out gg)) HLN.out hnn).mono ?_; rintro e w5 ⟨A1, cap1, rfl, hr1, hg⟩; replace gg := gg.trans hg; have HR1 := Lib.hid (sort_strs hr1 HLN.out); clear hr1 hg)
            | (go_at_call 27; refine (rsorted_at (L ++ [x]) ug G' _ (Lib.hid (HU4.out.own gg)) (by rw [HLN.out]; exact hnn)).mono ?_; rintro e w6 ⟨v6, rfl, hr2, hg⟩; replace gg := gg.trans hg; have HR2 := Lib.hid (sort_strs hr2 rfl); replace HR1 := Lib.hid (HR1.out.own hg); clear hr2 hg)
            | (go_at_call 25; refine (same_at (sortS (L ++ [x])) (sortS (L ++ [x])) _ _ true _ HR1 HR2 (Lib.hid (decide_eq_true rfl))).mono ?_; rintro e w7 ⟨rfl, hg⟩; replace gg := gg.trans hg; clear hg))
          go_roundw
          case rel => exact ⟨k + 1, L ++ [x], F', G', by go_num, hlt, g4.trans gg, by rw [HLN.out]; omega, C.own HT4.out gg, HU4.out.own gg, HF3.out, HG4.out, HD4.out⟩
          case measure => simp [intOf]; omega
        · have HC1 := Lib.hid c0
          clear c0
          go_upto_region 11 with (go_at_call 23; refine (D.bad L x tg F f _ HX.out HT HA HC1.out).mono ?_; rintro e w3 ⟨rfl, hg⟩; replace HT := Lib.hid (C.own HT.out hg); replace HU := Lib.hid (HU.out.own hg); replace g := g.trans hg; clear hg)
          replace e0 := g.cell HC0.out
          go_upto_region 12 with (go_at_call 24; refine (radd_bad L x ug G f _ HX.out HU HA HC1.out).mono ?_; rintro e w4 ⟨rfl, hg⟩; replace HT := Lib.hid (C.own HT.out hg); replace HU := Lib.hid (HU.out.own hg); replace g := g.trans hg; clear hg)
          have hnn : nL ≤ 1000 := by omega
          have gg : Own w4 w4 := Own.refl w4
          go_wp2_with (first
            | (go_at_call 26; refine (C.sorted L tg nL F _ (Lib.hid (C.own HT.out gg)) HNL.out hnn).mono ?_; rintro e w5 ⟨A1, cap1, rfl, hr1, hg⟩; replace gg := gg.trans hg; have HR1 := Lib.hid (sort_strs hr1 HNL.out); clear hr1 hg)
            | (go_at_call 27; refine (rsorted_at L ug G _ (Lib.hid (HU.out.own gg)) (by rw [HNL.out]; exact hnn)).mono ?_; rintro e w6 ⟨v6, rfl, hr2, hg⟩; replace gg := gg.trans hg; have HR2 := Lib.hid (sort_strs hr2 rfl); replace HR1 := Lib.hid (HR1.out.own hg); clear hr2 hg)
            | (go_at_call 25; refine (same_at (sortS L) (sortS L) _ _ true _ HR1 HR2 (Lib.hid (decide_eq_true rfl))).mono ?_; rintro e w7 ⟨rfl, hg⟩; replace gg := gg.trans hg; clear hg))
          go_roundw
          case rel => exact ⟨k + 1, L, F, G, by go_num, hlt, g.trans gg, by rw [HNL.out]; omega, C.own HT.out gg, HU.out.own gg, HF.out, HG.out, HD.out⟩
          case measure => simp [intOf]; omega
      · obtain rfl : n = k := by omega
        go_wp2_with (go_at_call 13; refine (awake_any C _).mono ?_; rintro e w7 ⟨rfl, hg⟩)
        go_ret
        exact ⟨rfl, g.trans hg⟩
end Go.Proofs.YtifiljmiehddfaaDoor.NamW
