/-
  Walks of the program of package field: isDecimal, Number, Numbers. Condition: none.
-/
import Derived.Test.YtedkpkdfopffiaaDoorFieldPB
import Derived.Test.YtedkpkdfopffiaaDoorFieldN
import Derived.Test.YtedkpkdfopffiaaDoorFieldS
namespace Go.Proofs.YtedkpkdfopffiaaDoor.NamW
open Go.ChangeShapes Go.WideShapes Go.ChangeAt Go.RowKit
open PairW NamP StrW FldP
def isDecB (s : Bs) : Bool := decide (s = [48]) || ((numD s).all digB && (decide (numD s ≠ []) && decide ((numD s).head? ≠ some 48)))
theorem dec_yes {s : Bs} (h : isDecB s = true) : (numD s).all digB = true ∧ numberE s = if 2 ^ 50 < valD (numD s) then 1 else 0 := by
  unfold isDecB at h
  rw [Bool.or_eq_true, decide_eq_true_eq, Bool.and_eq_true, Bool.and_eq_true, decide_eq_true_eq, decide_eq_true_eq] at h
  rcases h with rfl | ⟨h1, h2, h3⟩
  · exact ⟨rfl, by decide⟩
  · refine ⟨h1, ?_⟩
    unfold numberE
    rw [if_neg (fun e => e.elim h2 (fun e => h3 e.1)), if_pos h1]
theorem dec_no {s : Bs} (h : isDecB s = false) : numberE s = 2 ∧ numberV s = 0 := by
  have he : numberE s = 2 := by
    unfold isDecB at h
    rw [Bool.or_eq_false_iff, decide_eq_false_iff_not] at h
    obtain ⟨h0, h1⟩ := h
    unfold numberE
    by_cases c : numD s = [] ∨ ((numD s).head? = some 48 ∧ (1 < (numD s).length ∨ s.head? = some 45))
    · rw [if_pos c]
    · rw [if_neg c]
      by_cases d : (numD s).all digB = true
      · exfalso
        simp only [not_or, not_and] at c
        rw [d, Bool.true_and, decide_eq_true (show numD s ≠ [] from c.1), Bool.true_and, decide_eq_false_iff_not] at h1
        have h48 : (numD s).head? = some 48 := Classical.byContradiction h1
        obtain ⟨c1, c2⟩ := c.2 h48
        have e : numD s = s := by unfold numD; rw [if_neg c2]
        rw [e] at c1 h48
        match s, h48, c1, h0 with
        | [x], h48, _, h0 => exact h0 (by rw [List.head?_cons] at h48; injection h48 with h48; rw [h48])
        | x :: y :: r, _, c1, _ => exact c1 (by simp)
      · rw [if_neg d]
  exact ⟨he, by unfold numberV; rw [if_neg (by rw [he]; decide)]⟩
theorem val_app : ∀ (a b : Bs), valD a ≤ valD (a ++ b) := fun a b => by
  induction b generalizing a with
  | nil => rw [List.append_nil]; exact Nat.le_refl _
  | cons c b ih =>
    have h1 := ih (a ++ [c])
    rw [val_snoc, List.append_assoc] at h1
    have e : a ++ c :: b = a ++ ([c] ++ b) := rfl
    rw [e]
    omega
theorem val_part (d : Bs) (k : Nat) : valD (d.take k) ≤ valD d := by
  have h := val_app (d.take k) (d.drop k)
  rwa [List.take_append_drop] at h
theorem eq_zero_str (s : ByteArray) : (s.toList == [48]) = decide (bs s = [48]) := by
  rw [bs_toList]
  by_cases h : bs s = [48]
  · rw [h]; rfl
  · rw [decide_eq_false h]
    exact beq_eq_false_iff_ne.2 h
set_option maxRecDepth 100000 in
set_option maxHeartbeats 1000000 in
theorem pdec_at (s : ByteArray) (t : Bool) (w : World) (hs : s.size ≤ 100000) (H : Hid (isDecB (bs s) = t)) :
    Calls Tryd.prog 33 #[.string s] w fun e w' => e = .returned (.bool t) ∧ w = w' := by
  have ht := H.out
  clear H
  unfold isDecB at ht
  have e0 := eq_zero_str s
  by_cases hz : bs s = [48]
  · rw [decide_eq_true hz] at ht e0
    obtain rfl : true = t := ht
    have e1 : (s.toList == (⟨#[48]⟩ : ByteArray).toList) = true := by rw [bs_toList (⟨#[48]⟩ : ByteArray)]; exact e0
    clear hz
    go_enter Tryd.func33, Tryd.ntmps33
    go_wp2
    go_ret
    exact ⟨rfl, rfl⟩
  · rw [decide_eq_false hz, Bool.false_or] at ht
    rw [decide_eq_false hz] at e0
    have e1 : (s.toList == (⟨#[48]⟩ : ByteArray).toList) = false := by rw [bs_toList (⟨#[48]⟩ : ByteArray)]; exact e0
    have HT := Lib.hid ht
    have HSZ := Lib.hid hs
    clear hz ht hs
    go_enter Tryd.func33, Tryd.ntmps33
    go_upto_region 4 with (go_at_call 43; with_reducible refine (trimpre_at s 45 _).mono ?_; rintro e w1 ⟨d, rfl, hd, rfl⟩)
    have hd' : bs d = numD (bs s) := hd
    have HD := Lib.hid hd'
    have hds : d.size ≤ 100000 := by
      have := HSZ.out
      have h2 := congrArg List.length hd'
      rw [bs_len] at h2
      unfold numD at h2
      split at h2
      · rw [List.length_tail, bs_len] at h2; omega
      · rw [bs_len] at h2; omega
    have ht := HT.out
    rw [← hd'] at ht
    have HT2 := Lib.hid ht
    clear hd hd' ht HT e0 e1
    go_wp2
    go_loop [11] (fun i => ∃ k : Nat, i = .int .i64 k ∧ k ≤ d.size ∧ ∀ j, j < k → ∀ hj : j < d.size, 48 ≤ d[j].toNat ∧ d[j].toNat ≤ 57) (fun i => d.size - (intOf i).toNat)
    case atStart => exact ⟨0, rfl, Nat.zero_le _, fun j hj => absurd hj (Nat.not_lt_zero _)⟩
    case round =>
      obtain ⟨k, rfl, hk, hok⟩ := hrel
      have HOK := Lib.hid hok
      clear hok
      by_cases hlt : k < d.size
      · have hki : (k : Int) < d.size := by omega
        by_cases c1 : d[k].toNat < 48
        · obtain rfl : false = t := by rw [← HT2.out, digs_bad hlt (.inl c1)]; rfl
          have c1i : (d[k].toNat : Int) < 48 := by omega
          clear HT2 HOK c1
          go_wp2
          go_ret
          exact ⟨rfl, rfl⟩
        · have c1i : ¬ (d[k].toNat : Int) < 48 := by omega
          by_cases c2 : 57 < d[k].toNat
          · obtain rfl : false = t := by rw [← HT2.out, digs_bad hlt (.inr c2)]; rfl
            have c2i : (57 : Int) < d[k].toNat := by omega
            clear HT2 HOK c1 c2
            go_wp2
            go_ret
            exact ⟨rfl, rfl⟩
          · have c2i : ¬ (57 : Int) < d[k].toNat := by omega
            have HB := Lib.hid (show 48 ≤ d[k].toNat ∧ d[k].toNat ≤ 57 by omega)
            clear c1 c2
            go_wp2
            refine ⟨⟨k + 1, by go_num, hlt, fun j hj hjs => ?_⟩, by simp [intOf]; omega⟩
            by_cases e : j = k
            · subst e; exact HB.out
            · exact HOK.out j (by omega) hjs
      · obtain rfl : k = d.size := by omega
        have hall := digs_take (s := d) fun j hj => HOK.out j hj hj
        have ht := HT2.out
        rw [hall, Bool.true_and] at ht
        clear HT2 HOK hall
        by_cases z : 0 < d.size
        · have hne := nonempty_at z
          have hbs : bs d ≠ [] := fun e => by have := bs_len d; rw [e, List.length_nil] at this; omega
          rw [decide_eq_true hbs, Bool.true_and, head_at z] at ht
          by_cases c : d[0].toNat = 48
          · have ci : ((d[0].toNat : Int) != 48) = false := bne_eq_false_iff_eq.2 (by omega)
            obtain rfl : false = t := by rw [← ht, show d[0] = 48 from UInt8.toNat_inj.1 c]; rfl
            have zi : (0 : Int) < d.size := by omega
            clear ht c hbs
            go_wp2
            go_ret
            exact ⟨rfl, rfl⟩
          · have ci : ((d[0].toNat : Int) != 48) = true := bne_iff_ne.2 (by omega)
            have hn : some d[0] ≠ some (48 : UInt8) := fun e => c (by injection e with e; rw [e]; rfl)
            obtain rfl : true = t := by rw [← ht, decide_eq_true hn]
            clear hn
            have zi : (0 : Int) < d.size := by omega
            clear ht c hbs
            go_wp2
            go_ret
            exact ⟨rfl, rfl⟩
        · have hne := empty_at z
          have hbs : bs d = [] := List.eq_nil_of_length_eq_zero (by rw [bs_len]; omega)
          obtain rfl : false = t := by rw [← ht, hbs]; rfl
          clear ht hbs
          go_wp2
          go_ret
          exact ⟨rfl, rfl⟩
set_option maxRecDepth 100000 in
set_option maxHeartbeats 2000000 in
theorem pnumber_eq (s : ByteArray) (v f : Int) (w : World) (hs : s.size ≤ 100000) (H : Hid (numberV (bs s) = v ∧ numberE (bs s) = f)) :
    Calls Tryd.prog 22 #[.string s] w fun e w' => e = .returned (.tuple #[.int .i64 v, .int .i64 f]) ∧ w = w' := by
  obtain ⟨t, ht⟩ : ∃ t, isDecB (bs s) = t := ⟨_, rfl⟩
  have HT := Lib.hid ht
  have HSZ := Lib.hid hs
  cases t
  · have h := dec_no ht
    obtain rfl : f = 2 := H.out.2.symm.trans h.1
    obtain rfl : v = 0 := H.out.1.symm.trans h.2
    clear h ht H hs
    go_enter Tryd.func22, Tryd.ntmps22
    go_wp2_with (go_at_call 33; with_reducible refine (pdec_at s _ _ HSZ.out HT).mono ?_; rintro e w1 ⟨rfl, rfl⟩)
    go_ret2
    exact ⟨rfl, rfl⟩
  · obtain ⟨h1, h2⟩ := dec_yes ht
    have HALL := Lib.hid h1
    have HE := Lib.hid (H.out.2.symm.trans h2)
    have HV := Lib.hid H.out.1
    obtain ⟨g, hg⟩ : ∃ g, decide ((bs s).head? = some 45) = g := ⟨_, rfl⟩
    have HG := Lib.hid hg
    have hv0 := H.out.1
    unfold numberV at hv0
    rw [h2] at hv0
    have HV0 := Lib.hid hv0
    clear h1 h2 ht H hs hg hv0
    go_enter Tryd.func22, Tryd.ntmps22
    go_upto_region 4 with (first
      | (go_at_call 33; with_reducible refine (pdec_at s _ _ HSZ.out HT).mono ?_; rintro e w1 ⟨rfl, rfl⟩)
      | (go_at_call 34; with_reducible refine (cutpre_at s 45 _ _ HG).mono ?_; rintro e w1 ⟨d, rfl, hd, rfl⟩))
    have hd' : bs d = numD (bs s) := hd
    have HA2 := Lib.hid (show Digs (bs d) from digs_all (by rw [hd']; exact HALL.out))
    have HE2 := Lib.hid (show f = if 2 ^ 50 < valD (bs d) then 1 else 0 by rw [hd']; exact HE.out)
    have HV2 := Lib.hid (show v = if 2 ^ 50 < valD (bs d) then 0 else (if g = true then -(valD (bs d) : Int) else valD (bs d)) by
      have h := HV0.out
      rw [← hd'] at h
      rw [← h]
      by_cases c : 2 ^ 50 < valD (bs d)
      · rw [if_pos c, if_pos c, if_neg (by decide)]
      · rw [if_neg c, if_neg c, if_pos rfl, ← HG.out]
        simp only [decide_eq_true_eq])
    have hds : d.size ≤ 100000 := by
      have := HSZ.out
      have h2 := congrArg List.length hd'
      rw [bs_len] at h2
      unfold numD at h2
      split at h2
      · rw [List.length_tail, bs_len] at h2; omega
      · rw [bs_len] at h2; omega
    clear hd hd' HALL HE HV HV0 HSZ HT
    go_wp2
    go_loop [6, 18] (fun a i => ∃ k m : Nat, i = .int .i64 k ∧ a = .int .i64 m ∧ k ≤ d.size ∧ m ≤ 2 ^ 50 ∧ valD ((bs d).take k) = m) (fun _ i => d.size - (intOf i).toNat)
    case atStart => exact ⟨0, 0, rfl, rfl, Nat.zero_le _, Nat.zero_le _, rfl⟩
    case round =>
      obtain ⟨k, m, rfl, rfl, hk, hm, hval⟩ := hrel
      have HVAL := Lib.hid hval
      clear hval
      by_cases hlt : k < d.size
      · have hki : (k : Int) < d.size := by omega
        have hB := (digB_iff _).1 (HA2.out _ (bs_get hlt))
        have HVT := Lib.hid (val_take hlt)
        have HVP := Lib.hid (val_part (bs d) (k + 1))
        have w1 : IntKind.i64.wrap (10 * (m : Int)) = 10 * m := IntWalk.i64_in _ (by omega)
        have w2 : IntKind.u8.wrap ((d[k].toNat : Int) - 48) = (d[k].toNat : Int) - 48 := wrap_u8 (by omega) (by omega)
        have w4 : IntKind.i64.wrap ((d[k].toNat : Int) - 48) = (d[k].toNat : Int) - 48 := IntWalk.i64_in _ (by omega)
        have w3 : IntKind.i64.wrap (10 * (m : Int) + ((d[k].toNat : Int) - 48)) = 10 * m + ((d[k].toNat : Int) - 48) := IntWalk.i64_in _ (by omega)
        have HNV := Lib.hid (show valD ((bs d).take (k + 1)) = 10 * m + (d[k].toNat - 48) by rw [HVT.out, HVAL.out])
        have HBB := Lib.hid hB
        by_cases c : 2 ^ 50 < 10 * m + (d[k].toNat - 48)
        · have hbig : 2 ^ 50 < valD (bs d) := by have h1 := HVP.out; rw [HNV.out] at h1; omega
          obtain rfl : f = 1 := by rw [HE2.out, if_pos hbig]
          obtain rfl : v = 0 := by rw [HV2.out, if_pos hbig]
          have ci : (1125899906842624 : Int) < 10 * (m : Int) + ((d[k].toNat : Int) - 48) := by omega
          clear c hbig hB
          go_wp2
          go_ret2
          exact ⟨rfl, rfl⟩
        · have ci : ¬ (1125899906842624 : Int) < 10 * (m : Int) + ((d[k].toNat : Int) - 48) := by omega
          have C := Lib.hid c
          clear c hB
          go_wp2
          exact ⟨⟨k + 1, 10 * m + (d[k].toNat - 48), by go_num, by have := HBB.out; simp; omega, hlt, by have := C.out; omega, HNV.out⟩, by simp [intOf] <;> omega⟩
      · obtain rfl : k = d.size := by omega
        have hv := HVAL.out
        rw [List.take_of_length_le (by rw [bs_len]; exact Nat.le_refl _)] at hv
        have hno : ¬ 2 ^ 50 < valD (bs d) := by omega
        obtain rfl : f = 0 := by rw [HE2.out, if_neg hno]
        have hvv := HV2.out
        rw [if_neg hno, hv] at hvv
        have HVV := Lib.hid hvv
        have w5 : IntKind.i64.wrap (-(m : Int)) = -m := IntWalk.i64_in _ (by omega)
        clear hv hno hvv
        cases g
        · go_wp2
          go_ret2
          exact ⟨by rw [HVV.out]; rfl, rfl⟩
        · go_wp2
          go_ret2
          exact ⟨by rw [HVV.out]; rfl, rfl⟩
theorem pnumber_at (s : ByteArray) (v f : Int) (w : World) (hs : s.size ≤ 100000) (H : Hid (numberV (bs s) = v ∧ numberE (bs s) = f)) :
    Calls Tryd.prog 22 #[.string s] w fun e w' => e = .returned (.tuple #[.int .i64 v, .int .i64 f]) ∧ Own w w' := by
  refine (pnumber_eq s v f w hs H).mono ?_
  rintro e w' ⟨rfl, rfl⟩
  exact ⟨rfl, Own.refl _⟩
set_option maxRecDepth 100000 in
set_option maxHeartbeats 2000000 in
theorem pnumbers_at (l : Ss) (sv : Value) (f : Int) (w : World) (HP : Hid (Strs w sv l)) (HS : Hid (Sm l)) (hlen : l.length ≤ 10000) (H : Hid (numbersE (fl l) = f)) :
    Calls Tryd.prog 20 #[sv] w fun e w' => ∃ v, e = .returned (.tuple #[v, .int .i64 f]) ∧ w'.ownsRow w.heap.size 3 1 v (numbersV (fl l)).length (cellsZ (numbersV (fl l))) ∧ Own w w' := by
  obtain ⟨i0, hi, hz0, hz1, hz2⟩ := info_parts (show (Tryd.prog.info? 3).map (fun i => (i.zero, i.size, i.bytes)) = some (some (.int .i64 0), 1, 8) by kernel_rfl)
  have HI := Lib.hid hi
  have HZ0 := Lib.hid hz0
  have HZ1 := Lib.hid hz1
  have HZ2 := Lib.hid hz2
  clear hi hz0 hz1 hz2
  obtain ⟨A, cap, rfl, ha1, ha2, ha⟩ := HP.out
  unfold maxLen at ha2
  have HA := Lib.hid ha
  clear ha HP
  have HAM := Lib.hid (fun k (h : k < l.length) => HS.out.at_ h)
  have HB := Lib.hid (fun k f (h : k < l.length) he hf h0 => numbers_bad (l := l) (k := k) (f := f) h he hf h0)
  have HST := Lib.hid (fun k (h : k < l.length) he hf => numbers_step (l := l) (k := k) h he hf)
  have HEN := Lib.hid (fun he => numbers_end (l := l) he)
  have HTK := Lib.hid (fun k (h : k < l.length) => numbers_take (l := l) (k := k) h)
  have HTA := Lib.hid (show l.take l.length = l from List.take_length)
  have HLL := Lib.hid (show (fl l).length = l.length from by unfold fl; exact List.length_map ..)
  rw [H.out] at HB HEN
  obtain ⟨n, hn⟩ : ∃ n, l.length = n := ⟨_, rfl⟩
  rw [hn] at HA ha1 hlen HAM HB HST HEN HTK HTA HLL ⊢
  clear hn HS
  go_enter Tryd.func20, Tryd.ntmps20
  go_wp2
  go_loopw [4, 11] (fun v i wr => ∃ k : Nat, i = .int .i64 k ∧ k ≤ n ∧ Own w wr ∧ wr.ownsRow w.heap.size 3 1 v k (cellsZ ((fl (l.take k)).map numberV)) ∧ numbersE (fl l) = numbersE (fl (l.drop k))) (fun _ i _ => n - (intOf i).toNat)
  case atStart => exact ⟨0, rfl, Nat.zero_le _, Own.refl w, World.ownsRow_nil w _ _ _, by rw [List.drop_zero]⟩
  case round =>
    obtain ⟨k, rfl, hk, q, hrow, he⟩ := hrel
    have HE := Lib.hid he
    have HROW := Lib.hid hrow
    clear hrow he
    by_cases hlt : k < n
    · obtain ⟨b, off, rfl, hc⟩ := HA.out (by omega)
      have e0 := q.cell (hc k hlt)
      clear hc
      have hkn : (k : Int) < n := by omega
      have hxs := HAM.out k hlt
      have hbad := HB.out k
      have hstep := HST.out k hlt HE.out
      have htk := HTK.out k hlt
      obtain ⟨x, hx⟩ : ∃ x, atS l k = x := ⟨_, rfl⟩
      rw [hx] at e0 hxs hbad hstep htk
      have HXS := Lib.hid hxs
      have HTKK := Lib.hid htk
      obtain ⟨nv, hnv⟩ : ∃ v, numberV (bs x) = v := ⟨_, rfl⟩
      obtain ⟨ne, hne⟩ : ∃ v, numberE (bs x) = v := ⟨_, rfl⟩
      rw [hnv] at HTKK
      have HNV := Lib.hid (And.intro hnv hne)
      by_cases h0 : ne = 0
      · subst h0
        have HSTEP := Lib.hid (hstep hne)
        clear hx hxs hbad hstep htk hnv hne
        go_upto_region 8 with (go_at_call 22; with_reducible refine (pnumber_eq x nv 0 _ HXS.out HNV).mono ?_; rintro e w1 ⟨rfl, rfl⟩)
        have HROW1 := Lib.hid (HROW.out.alloc (.cells #[.int .i64 nv] 3))
        have q1 : Own w (wr.alloc (.cells #[.int .i64 nv] 3)) := q.alloc _
        clear HROW
        go_wp2_with (at_builtin; refine wpList_append_lies _ rfl _ _ 39 rfl w.heap.size 3 i0 _ 1 8 Tryd.underlying39 HI.out HZ0.out HZ1.out HZ2.out rfl (by omega) _ _ _ rfl HROW1.out ⟨wr.heap.size, 0, none⟩ 1 1 [.int .i64 nv] rfl rfl (World.news_of_block (cs := #[.int .i64 nv]) (t := 3) (fr := (0, 0)) (heap_alloc_new wr _)) (by simp [Value.oneCell']) (by omega) (by unfold maxLen; omega) (by omega) q1.size _ rfl ?_)
        intro gg cap4 w4 hown hgr hat hlt4
        have hO : Own w w4 := q1.grown hgr (fun j hj => (HROW1.out.lt j hj).1)
        have HROW4 := Lib.hid hown
        clear hown hgr hat HROW1
        go_wp2
        go_roundw
        case rel => exact ⟨k + 1, by go_num, hlt, hO, by rw [HTKK.out]; exact HROW4.out, HSTEP.out⟩
        case measure => simp [intOf]; omega
      · have hb := hbad ne hlt (H.out.symm.trans HE.out) hne h0
        obtain rfl := hb.1
        have HV := Lib.hid hb.2
        have hbe : (f != 0) = true := bne_iff_ne.2 h0
        clear hx hxs hbad hstep htk hnv hne hb
        go_wp2_with (go_at_call 22; with_reducible refine (pnumber_eq x nv f _ HXS.out HNV).mono ?_; rintro e w1 ⟨rfl, rfl⟩)
        go_ret2
        exact ⟨_, rfl, by rw [HV.out]; exact World.ownsRow_nil _ _ _ _, q⟩
    · obtain rfl : n = k := by omega
      have hend := HEN.out (H.out.symm.trans HE.out)
      obtain rfl := hend.1
      have HV := Lib.hid hend.2
      clear hend
      go_wp2
      go_ret2
      refine ⟨_, rfl, ?_, q⟩
      have hr := HROW.out
      rw [HTA.out] at hr
      rw [HV.out, List.length_map, HLL.out]
      exact hr
end Go.Proofs.YtedkpkdfopffiaaDoor.NamW
