/-
  Walks of the program's cut, compareRows, comparePieces, compare and Less: what a call returns for every input. Condition: none.
-/
import Derived.Test.YtifiljmiehddfaaDoorIdentPC
import Derived.Test.YtifiljmiehddfaaDoorIdentPV
namespace Go.Proofs.YtifiljmiehddfaaDoor.NamW
open Go.ChangeShapes Go.WideShapes Go.ChangeAt Go.RowKit
open PairW NamP
set_option maxRecDepth 100000 in
theorem cutG_at (s : ByteArray) (n : Nat) (w : World) (hs : s.size ≤ maxLen) (h0 : 0 < s.size) (H : Hid ((pieceB (bs s)).length = n)) (hn : n ≤ s.size) :
    Calls Tryd.prog 39 #[.string s] w fun e w' => e = .returned (.tuple #[.string (s.extract 0 n), .string (s.extract n s.size)]) ∧ Drew w w' := by
  unfold maxLen at hs
  obtain ⟨r, hr⟩ : ∃ r, (runD (bs s)).length = r := ⟨_, rfl⟩
  have hrn : (r = 0 ∧ n = 1) ∨ (0 < r ∧ n = r) := by
    have hc := bs_cons s 0 h0
    rw [List.drop_zero] at hc
    have h1 := H.out
    rw [hc] at h1 hr
    by_cases hd : digB s[0] = true
    · rw [piece_yes hd] at h1
      have := run_ne (l := (bs s).drop 1) hd
      rw [this] at hr h1
      simp only [List.length_cons] at hr h1
      exact .inr ⟨by omega, by omega⟩
    · rw [piece_no hd] at h1
      rw [run_no (Bool.of_not_eq_true hd)] at hr
      exact .inl ⟨hr.symm, h1.symm⟩
  have hmax : max (r : Int) 1 = (n : Int) := by omega
  have hr2 : r ≤ s.size := by omega
  have h00 := (show (0 : Int) < s.size by omega)
  have HX := Lib.hid (show s.extract 0 s.size = s ∧ s.extract s.size s.size = ByteArray.empty by simp)
  clear H
  go_enter Tryd.func39, Tryd.ntmps39
  go_wp2
  go_loop [4] (fun v => ∃ k : Nat, v = .int .i64 k ∧ k ≤ s.size ∧ k + (runD ((bs s).drop k)).length = r) (fun v => s.size - (intOf v).toNat)
  case atStart => exact ⟨0, rfl, Nat.zero_le _, by rw [List.drop_zero]; omega⟩
  case round =>
    obtain ⟨k, rfl, hk, he⟩ := hrel
    by_cases hlt : k < s.size
    · have hki : (k : Int) < s.size := by omega
      rw [bs_cons s k hlt] at he
      obtain ⟨td, htd⟩ : ∃ td, digB s[k] = td := ⟨_, rfl⟩
      have HD := Lib.hid htd
      cases td
      · obtain rfl : k = r := by rw [run_no htd] at he; simpa using he
        clear htd he
        rcases hrn with ⟨h1, h2⟩ | ⟨h1, h2⟩
        · subst h1
          subst h2
          go_wp2_with (go_at_call 29; with_reducible refine (pdigit_at s[0] _ _ HD).mono ?_; rintro e w1 ⟨rfl, rfl⟩)
          go_quiet (fail)
          go_wp2
          go_ret2
          exact ⟨rfl, _, rfl⟩
        · subst h2
          go_wp2_with (go_at_call 29; with_reducible refine (pdigit_at s[n] _ _ HD).mono ?_; rintro e w1 ⟨rfl, rfl⟩)
          go_quiet (fail)
          go_wp2
          go_ret2
          exact ⟨rfl, _, rfl⟩
      · rw [run_yes htd] at he
        have HE := Lib.hid (show k + 1 + (runD ((bs s).drop (k + 1))).length = r by simp only [List.length_cons] at he; omega)
        clear htd he
        go_wp2_with (go_at_call 29; with_reducible refine (pdigit_at s[k] _ _ HD).mono ?_; rintro e w1 ⟨rfl, rfl⟩)
        go_round
        case rel => exact ⟨k + 1, by go_num, hlt, HE.out⟩
        case measure => simp [intOf]; omega
    · obtain rfl : k = s.size := by omega
      rw [bs_end s s.size (Nat.le_refl _)] at he
      obtain rfl : s.size = r := he
      obtain rfl : n = s.size := by omega
      go_wp2
      go_quiet (fail)
      go_wp2
      go_ret2
      refine ⟨?_, _, rfl⟩
      rw [HX.out.1, HX.out.2]
      rfl
theorem cut_parts (s : ByteArray) : bs (s.extract 0 (pieceB (bs s)).length) = pieceB (bs s) ∧ bs (s.extract (pieceB (bs s)).length s.size) = afterB (bs s) ∧ (pieceB (bs s)).length ≤ s.size ∧ (s.extract 0 (pieceB (bs s)).length).size ≤ s.size ∧ (s.extract (pieceB (bs s)).length s.size).size = s.size - (pieceB (bs s)).length := by
  have h := piece_after (bs s)
  generalize pieceB (bs s) = P at h ⊢
  generalize afterB (bs s) = A at h ⊢
  have hl := congrArg List.length h
  rw [List.length_append, bs_len] at hl
  have hle : P.length ≤ s.size := by omega
  refine ⟨?_, ?_, hle, ?_, ?_⟩
  · rw [bs_extract, List.drop_zero, Nat.sub_zero]
    rw [← h, List.take_left]
  · rw [bs_extract, List.take_of_length_le (by rw [List.length_drop, bs_len]; omega)]
    rw [← h, List.drop_left]
  · rw [ByteArray.size_extract]; omega
  · rw [ByteArray.size_extract]; omega
theorem cut_at (s p q : ByteArray) (w : World) (hs : s.size ≤ maxLen) (h0 : 0 < s.size) (H : Hid (s.extract 0 (pieceB (bs s)).length = p ∧ s.extract (pieceB (bs s)).length s.size = q)) :
    Calls Tryd.prog 39 #[.string s] w fun e w' => e = .returned (.tuple #[.string p, .string q]) ∧ Drew w w' := by
  obtain ⟨rfl, rfl⟩ := H.out
  exact cutG_at s _ w hs h0 (Lib.hid rfl) (cut_parts s).2.2.1
set_option maxRecDepth 100000 in
theorem rows_at (a b : ByteArray) (c : Int) (w : World) (ha : a.size ≤ maxLen) (hb : b.size ≤ maxLen) (H : Hid (numC (bs a) (bs b) = c)) :
    Calls Tryd.prog 47 #[.string a, .string b] w fun e w' => e = .returned (.int .i64 c) ∧ Lays w w' := by
  have HA := Lib.hid ha
  have HB := Lib.hid hb
  obtain ⟨p, hp, hps⟩ := bare_str a
  obtain ⟨q, hq, hqs⟩ := bare_str b
  have h := H.out
  rw [numC_or, hp, hq, bs_len, bs_len, bs_len, bs_len] at h
  obtain ⟨u, hu⟩ : ∃ u, cmpI p.size q.size = u := ⟨_, rfl⟩
  obtain ⟨v, hv⟩ : ∃ v, cmpN (nums (bs p)) (nums (bs q)) = v := ⟨_, rfl⟩
  obtain ⟨x, hx⟩ : ∃ x, cmpI a.size b.size = x := ⟨_, rfl⟩
  rw [hu, hv, hx] at h
  have HP := Lib.hid hp
  have HQ := Lib.hid hq
  have HU := Lib.hid hu
  have HV := Lib.hid hv
  have HX := Lib.hid hx
  have HO := Lib.hid h
  clear ha hb hp hq hps hqs h hu hv hx H
  go_enter Tryd.func47, Tryd.ntmps47
  go_upto_region 2 with (go_at_call 65; (first | (with_reducible refine (trim_at a p _ HA.out HP).mono ?_; rintro e w1 ⟨rfl, rfl⟩) | (with_reducible refine (trim_at b q _ HB.out HQ).mono ?_; rintro e w1 ⟨rfl, rfl⟩)))
  have k0 : (w.alloc (.cells #[.int .i64 u, .int .i64 v, .int .i64 x] 3)).cell? ⟨w.heap.size, 0, none⟩ = some (.int .i64 u) := by go_simp
  have k1 : (w.alloc (.cells #[.int .i64 u, .int .i64 v, .int .i64 x] 3)).cell? ⟨w.heap.size, 1, none⟩ = some (.int .i64 v) := by go_simp
  have k2 : (w.alloc (.cells #[.int .i64 u, .int .i64 v, .int .i64 x] 3)).cell? ⟨w.heap.size, 2, none⟩ = some (.int .i64 x) := by go_simp
  go_wp2_with (first | (go_at_call 41; (first | (with_reducible refine (cmpInt_at _ _ _ _ HU).mono ?_) | (with_reducible refine (cmpInt_at _ _ _ _ HX).mono ?_)); rintro e w1 ⟨rfl, rfl⟩) | (go_at_call 48; with_reducible refine (cmpStr_at p q _ _ HV).mono ?_; rintro e w1 ⟨rfl, rfl⟩) | (go_at_call 66; (refine (or3_at u v x c _ _ HO k0 k1 k2).mono ?_); rintro e w1 ⟨rfl, rfl⟩))
  go_ret
  exact ⟨rfl, (Lays.refl w).alloc _⟩
theorem digQ {c : UInt8} {t : Bool} {w : World} (H : Hid (digB c = t)) : Calls Tryd.prog 29 #[.int .u8 c.toNat] w fun e w' => e = .returned (.bool t) ∧ w' = w := (pdigit_at c t w H).mono fun _ _ h => ⟨h.1, h.2.symm⟩
set_option maxRecDepth 100000 in
theorem pieces_at (a b : ByteArray) (c : Int) (w : World) (ha : a.size ≤ maxLen) (hb : b.size ≤ maxLen) (h0 : 0 < a.size) (h1 : 0 < b.size) (H : Hid (pcC (bs a) (bs b) = c)) :
    Calls Tryd.prog 40 #[.string a, .string b] w fun e w' => e = .returned (.int .i64 c) ∧ Lays w w' := by
  have HA := Lib.hid ha
  have HB := Lib.hid hb
  have h := H.out
  unfold pcC at h
  rw [bs_at a 0 h0, bs_at b 0 h1] at h
  obtain ⟨ta, hta⟩ : ∃ t, digB a[0] = t := ⟨_, rfl⟩
  obtain ⟨tb, htb⟩ : ∃ t, digB b[0] = t := ⟨_, rfl⟩
  rw [hta, htb] at h
  have HTA := Lib.hid hta
  have HTB := Lib.hid htb
  have i0 : (0 : Int) < a.size := by omega
  have i1 : (0 : Int) < b.size := by omega
  clear ha hb H
  cases ta
  · rw [if_neg (by simp)] at h
    cases tb
    · rw [if_neg (by simp)] at h
      have HC := Lib.hid h
      clear h hta htb
      go_enter Tryd.func40, Tryd.ntmps40
      go_upto_region 1 with (fail)
      go_quiet ((go_at_call 29; (first | (exact Calls.quiet_of_same (digQ HTA)) | (exact Calls.quiet_of_same (digQ HTB)))))
      go_wp2_with (go_at_call 48; with_reducible refine (cmpStr_at a b _ _ HC).mono ?_; rintro e w1 ⟨rfl, rfl⟩)
      go_ret
      exact ⟨rfl, (Lays.refl w).drewN _⟩
    · rw [if_pos rfl] at h
      subst h
      clear hta htb
      go_enter Tryd.func40, Tryd.ntmps40
      go_upto_region 1 with (fail)
      go_quiet ((go_at_call 29; (first | (exact Calls.quiet_of_same (digQ HTA)) | (exact Calls.quiet_of_same (digQ HTB)))))
      go_wp2
      go_ret
      exact ⟨rfl, (Lays.refl w).drewN _⟩
  · rw [if_pos rfl] at h
    cases tb
    · rw [if_neg (by simp)] at h
      subst h
      clear hta htb
      go_enter Tryd.func40, Tryd.ntmps40
      go_upto_region 1 with (fail)
      go_quiet ((go_at_call 29; (first | (exact Calls.quiet_of_same (digQ HTA)) | (exact Calls.quiet_of_same (digQ HTB)))))
      go_wp2
      go_ret
      exact ⟨rfl, (Lays.refl w).drewN _⟩
    · rw [if_pos rfl] at h
      have HC := Lib.hid h
      clear h hta htb
      go_enter Tryd.func40, Tryd.ntmps40
      go_upto_region 1 with (fail)
      go_quiet ((go_at_call 29; (first | (exact Calls.quiet_of_same (digQ HTA)) | (exact Calls.quiet_of_same (digQ HTB)))))
      go_wp2_with (go_at_call 47; with_reducible refine (rows_at a b _ _ HA.out HB.out HC).mono ?_; rintro e w1 ⟨rfl, hl⟩)
      go_ret
      exact ⟨rfl, ((Lays.refl w).drewN _).trans hl⟩
theorem ne_facts {x : ByteArray} (h : 0 < x.size) : x.toList ≠ [] ∧ (x.toList == []) = false ∧ x.toList.isEmpty = false ∧ bs x ≠ [] := by
  have e0 : bs x ≠ [] := fun e => by
    have := bs_len x
    rw [e] at this
    simp at this
    omega
  have e1 : (x.toList == []) = false := beq_eq_false_iff_ne.2 (by rw [bs_toList]; exact e0)
  exact ⟨by rw [bs_toList]; exact e0, e1, by rw [← List.beq_nil_eq]; exact e1, e0⟩
theorem empty_of {x : ByteArray} (h : ¬ 0 < x.size) : x = ⟨#[]⟩ := bytes_inj (by
  have := bs_len x
  exact List.eq_nil_of_length_eq_zero (by show (bs x).length = 0; omega))
set_option maxRecDepth 100000 in
set_option maxHeartbeats 4000000 in
theorem compare_at (a b : ByteArray) (c : Int) (w : World) (ha : a.size ≤ maxLen) (hb : b.size ≤ maxLen) (H : Hid (ordL (bs a) (bs b) = c)) :
    Calls Tryd.prog 32 #[.string a, .string b] w fun e w' => e = .returned (.int .i64 c) ∧ Lays w w' := by
  go_enter Tryd.func32, Tryd.ntmps32
  go_wp2
  go_loopw [0, 1] (fun va vb wr => ∃ x y : ByteArray, va = .string x ∧ vb = .string y ∧ x.size ≤ maxLen ∧ y.size ≤ maxLen ∧ ordL (bs x) (bs y) = c ∧ Lays w wr) (fun va _ _ => match va with | .string q => q.size | _ => 0)
  case atStart => exact ⟨a, b, rfl, rfl, ha, hb, H.out, Lays.refl w⟩
  case round =>
    clear ha hb H
    obtain ⟨x, y, rfl, rfl, hx, hy, he, hl⟩ := hrel
    by_cases h0 : 0 < x.size
    · by_cases h1 : 0 < y.size
      · obtain ⟨f1, f2, f3, f4⟩ := ne_facts h0
        obtain ⟨g1, g2, g3, g4⟩ := ne_facts h1
        have hm := cut_parts x
        have hn := cut_parts y
        have hs := ord_step f4 g4
        have hal := after_less f4
        rw [he, ← hm.1, ← hm.2.1, ← hn.1, ← hn.2.1] at hs
        rw [← hm.2.1, bs_len, bs_len] at hal
        have hpx := piece_pos f4
        have hpy := piece_pos g4
        rw [← hm.1, bs_len] at hpx
        rw [← hn.1, bs_len] at hpy
        obtain ⟨p1, hp1⟩ : ∃ p, x.extract 0 (pieceB (bs x)).length = p := ⟨_, rfl⟩
        obtain ⟨q1, hq1⟩ : ∃ p, x.extract (pieceB (bs x)).length x.size = p := ⟨_, rfl⟩
        obtain ⟨p2, hp2⟩ : ∃ p, y.extract 0 (pieceB (bs y)).length = p := ⟨_, rfl⟩
        obtain ⟨q2, hq2⟩ : ∃ p, y.extract (pieceB (bs y)).length y.size = p := ⟨_, rfl⟩
        have HXC := Lib.hid (And.intro hp1 hq1)
        have HYC := Lib.hid (And.intro hp2 hq2)
        rw [hp1, hq1, hp2, hq2] at hs
        rw [hp1] at hpx
        rw [hp2] at hpy
        rw [hq1] at hal
        have HP1S := Lib.hid (show p1.size ≤ maxLen from by have := hm.2.2.2.1; rw [hp1] at this; omega)
        have HP2S := Lib.hid (show p2.size ≤ maxLen from by have := hn.2.2.2.1; rw [hp2] at this; omega)
        have HQ2S := Lib.hid (show q2.size ≤ maxLen from by have := hn.2.2.2.2; rw [hq2] at this; omega)
        have HXS := Lib.hid hx
        have HYS := Lib.hid hy
        have HX0 := Lib.hid h0
        have HY0 := Lib.hid h1
        have HAL := Lib.hid hal
        have HPX := Lib.hid hpx
        have HPY := Lib.hid hpy
        clear hm hn hp1 hq1 hp2 hq2 he hx hy h0 h1 f4 g4 hal hpx hpy
        by_cases e : p1 = p2
        · rw [if_pos (by rw [e])] at hs
          have HS := Lib.hid hs.symm
          subst e
          clear hs
          go_wp2_with (go_at_call 39; (first | (with_reducible refine (cut_at _ _ _ _ HXS.out HX0.out HXC).mono ?_) | (with_reducible refine (cut_at _ _ _ _ HYS.out HY0.out HYC).mono ?_)); rintro e w1 ⟨rfl, hd⟩; replace hl := hl.trans (Lays.of_drew hd); clear hd)
          go_roundw
          case rel => exact ⟨q1, q2, rfl, rfl, by have := HAL.out; have := HXS.out; omega, HQ2S.out, HS.out, hl⟩
          case measure => exact HAL.out
        · have e2 : (p1.toList == p2.toList) = false := by
            rw [bs_toList, bs_toList]
            exact beq_eq_false_iff_ne.2 fun k => e (bytes_inj k)
          rw [if_neg (fun k => e (bytes_inj k))] at hs
          have HS := Lib.hid hs.symm
          clear hs e
          go_wp2_with (first | (go_at_call 39; (first | (with_reducible refine (cut_at _ _ _ _ HXS.out HX0.out HXC).mono ?_) | (with_reducible refine (cut_at _ _ _ _ HYS.out HY0.out HYC).mono ?_)); rintro e w1 ⟨rfl, hd⟩; replace hl := hl.trans (Lays.of_drew hd); clear hd) | (go_at_call 40; with_reducible refine (pieces_at p1 p2 c _ HP1S.out HP2S.out HPX.out HPY.out HS).mono ?_; rintro e w1 ⟨rfl, hk⟩; replace hl := hl.trans hk; clear hk))
          go_ret
          exact ⟨rfl, hl⟩
      · obtain rfl := empty_of h1
        obtain ⟨f1, f2, f3, f4⟩ := ne_facts h0
        have HC : Hid (cmpI x.size 0 = c) := Lib.hid (by rw [← he, ord_end (.inr rfl), bs_len]; rfl)
        clear he f4 hx hy h0 h1
        go_wp2_with (go_at_call 41; with_reducible refine (cmpInt_at _ _ _ _ HC).mono ?_; rintro e w1 ⟨rfl, rfl⟩)
        go_ret
        exact ⟨rfl, hl⟩
    · obtain rfl := empty_of h0
      have HC : Hid (cmpI 0 y.size = c) := Lib.hid (by rw [← he, ord_end (.inl rfl), bs_len]; rfl)
      clear he hx hy h0
      go_wp2_with (go_at_call 41; with_reducible refine (cmpInt_at _ _ _ _ HC).mono ?_; rintro e w1 ⟨rfl, rfl⟩)
      go_ret
      exact ⟨rfl, hl⟩
theorem pless_at (a b : ByteArray) (t : Bool) (w : World) (ha : a.size ≤ maxLen) (hb : b.size ≤ maxLen) (H : Hid (lessB (bs a) (bs b) = t)) :
    Calls Tryd.prog 14 #[.string a, .string b] w fun e w' => e = .returned (.bool t) ∧ Own w w' := by
  have HA := Lib.hid ha
  have HB := Lib.hid hb
  obtain ⟨ta, hta⟩ : ∃ t, vldB (bs a) = t := ⟨_, rfl⟩
  obtain ⟨tb, htb⟩ : ∃ t, vldB (bs b) = t := ⟨_, rfl⟩
  have HTA := Lib.hid hta
  have HTB := Lib.hid htb
  have h := H.out
  unfold lessB at h
  rw [hta, htb] at h
  obtain ⟨c, hc⟩ : ∃ c, ordL (bs a) (bs b) = c := ⟨_, rfl⟩
  rw [hc] at h
  have HC := Lib.hid hc
  clear ha hb hta htb H hc
  cases ta
  · obtain rfl : false = t := by simpa using h
    clear h
    go_enter Tryd.func14, Tryd.ntmps14
    go_wp2_with (go_at_call 11; (first | (with_reducible refine (pvalid_at a _ _ HA.out HTA).mono ?_) | (with_reducible refine (pvalid_at b _ _ HB.out HTB).mono ?_)); rintro e w1 ⟨rfl, rfl⟩)
    go_ret
    exact ⟨rfl, Own.refl w⟩
  · cases tb
    · obtain rfl : false = t := by simpa using h
      clear h
      go_enter Tryd.func14, Tryd.ntmps14
      go_wp2_with (go_at_call 11; (first | (with_reducible refine (pvalid_at a _ _ HA.out HTA).mono ?_) | (with_reducible refine (pvalid_at b _ _ HB.out HTB).mono ?_)); rintro e w1 ⟨rfl, rfl⟩)
      go_ret
      exact ⟨rfl, Own.refl w⟩
    · obtain rfl : decide (c < 0) = t := by simpa using h
      clear h
      go_enter Tryd.func14, Tryd.ntmps14
      go_wp2_with (first | (go_at_call 11; (first | (with_reducible refine (pvalid_at a _ _ HA.out HTA).mono ?_) | (with_reducible refine (pvalid_at b _ _ HB.out HTB).mono ?_)); rintro e w1 ⟨rfl, rfl⟩) | (go_at_call 32; with_reducible refine (compare_at a b c _ HA.out HB.out HC).mono ?_; rintro e w1 ⟨rfl, hl⟩))
      go_ret
      exact ⟨rfl, hl.own⟩
end Go.Proofs.YtifiljmiehddfaaDoor.NamW
