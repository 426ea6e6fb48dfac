/-
  Walk of the specification of package field: Join. Condition: none.
-/
import Derived.Test.YtedkpkdfopffiaaDoorFieldB
import Derived.Test.YtedkpkdfopffiaaDoorStrs
namespace Go.Proofs.YtedkpkdfopffiaaDoor.NamW
open Go.ChangeShapes Go.WideShapes Go.ChangeAt Go.RowKit
open PairW NamP StrW FldP
/-- The fields as lists of bytes. -/
def fl (l : Ss) : List Bs := l.map bs
theorem fl_drop {l : Ss} {k : Nat} (h : k < l.length) : fl (l.drop k) = bs (atS l k) :: fl (l.drop (k + 1)) := by
  rw [List.drop_eq_getElem_cons h, atS_get h]
  rfl
theorem fl_take {l : Ss} {k : Nat} (h : k < l.length) : fl (l.take (k + 1)) = fl (l.take k) ++ [bs (atS l k)] := by
  rw [List.take_succ_eq_append_getElem h, atS_get h]
  unfold fl
  rw [List.map_append]
  rfl
theorem fl_nil_iff {l : Ss} {k : Nat} (h : k ≤ l.length) : fl (l.take k) = [] ↔ k = 0 := by
  constructor
  · intro e
    have := congrArg List.length e
    unfold fl at this
    rw [List.length_map, List.length_take, List.length_nil] at this
    omega
  · rintro rfl; rfl
theorem fields_step (x : Bs) (r : List Bs) : fieldsE (x :: r) = if 256 < x.length then 3 else if okB x then fieldsE r else 2 := rfl
theorem written_len (s : Bs) : (writtenB s).length ≤ 2 * s.length + 2 := by
  unfold writtenB
  have := dbl_len s
  split <;> simp <;> omega
theorem wr_size {r x : ByteArray} (h : bs r = writtenB (bs x)) (hx : x.size ≤ 256) : r.size ≤ 514 := by
  have := written_len (bs x)
  rw [← bs_len, h]
  rw [bs_len] at this
  omega
set_option maxRecDepth 100000 in
set_option maxHeartbeats 2000000 in
theorem rjoin_at (l : Ss) (sv : Value) (f : Int) (w : World) (HP : Hid (Strs w sv l)) (HS : Hid (Short l)) (hlen : l.length ≤ 10000) (H : Hid (joinE (fl l) = f)) :
    Calls Tryd.prog 13 #[sv] w fun e w' => ∃ r, e = .returned (.tuple #[.string r, .int .i64 f]) ∧ bs r = joinV (fl l) ∧ w = w' := by
  obtain ⟨A, cap, rfl, ha1, ha2, ha⟩ := HP.out
  unfold maxLen at ha2
  have HA := Lib.hid ha
  clear ha HP
  have HAM := Lib.hid (fun k (h : k < l.length) => HS.out.at_ h)
  have HDR := Lib.hid (fun k (h : k < l.length) => fl_drop h)
  have HTK := Lib.hid (fun k (h : k < l.length) => fl_take h)
  have HNI := Lib.hid (fun k (h : k ≤ l.length) => fl_nil_iff (k := k) h)
  have HTA := Lib.hid (show l.take l.length = l from List.take_length)
  have HDA := Lib.hid (show l.drop l.length = [] from List.drop_length)
  obtain ⟨n, hn⟩ : ∃ n, l.length = n := ⟨_, rfl⟩
  rw [hn] at HA ha1 hlen HAM HDR HTK HNI HTA HDA ⊢
  clear hn HS
  obtain ⟨fe, hfe⟩ : ∃ x, fieldsE (fl l) = x := ⟨_, rfl⟩
  have HFE := Lib.hid hfe
  have HBAD := Lib.hid (fun (h : fe ≠ 0) => show f = fe ∧ joinV (fl l) = [] by
    have e : joinE (fl l) = fe := by unfold joinE; rw [hfe, if_pos h]
    refine ⟨by rw [← H.out, e], ?_⟩
    unfold joinV
    rw [e, if_neg h])
  have HOK := Lib.hid (fun (h : fe = 0) => show f = (if 1024 < (joinB (fl l)).length then 3 else 0) ∧ joinV (fl l) = if 1024 < (joinB (fl l)).length then [] else joinB (fl l) by
    have e : joinE (fl l) = if 1024 < (joinB (fl l)).length then 3 else 0 := by unfold joinE; rw [hfe, h, if_neg (by simp)]
    refine ⟨by rw [← H.out, e], ?_⟩
    unfold joinV
    rw [e]
    split
    · rw [if_neg (by decide)]
    · rw [if_pos rfl])
  clear hfe H
  go_enter Tryd.func13, Tryd.ntmps13
  go_wp2
  go_loop [5] (fun i => ∃ k : Nat, i = .int .i64 k ∧ k ≤ n ∧ fieldsE (fl (l.drop k)) = fe ∧ ∀ j, j < k → (atS l j).size ≤ 256) (fun i => n - (intOf i).toNat)
  case atStart => exact ⟨0, rfl, Nat.zero_le _, HFE.out, fun j hj => absurd hj (Nat.not_lt_zero _)⟩
  case round =>
    obtain ⟨k, rfl, hk, hfk, hsz⟩ := hrel
    have HSZ := Lib.hid hsz
    clear hsz
    by_cases hlt : k < n
    · obtain ⟨b, off, rfl, hc⟩ := HA.out (by omega)
      have e0 := hc k hlt
      clear hc
      have hkn : (k : Int) < n := by omega
      have hxs := HAM.out k hlt
      rw [HDR.out k hlt, fields_step, bs_len] at hfk
      obtain ⟨x, hx⟩ : ∃ x, atS l k = x := ⟨_, rfl⟩
      rw [hx] at e0 hxs hfk
      have HX := Lib.hid hx
      have HXS := Lib.hid hxs
      clear hx hxs
      by_cases c1 : 256 < x.size
      · rw [if_pos c1] at hfk
        obtain ⟨rfl, hv⟩ := HBAD.out (by rw [← hfk]; decide)
        have HV := Lib.hid hv
        have c1i : (256 : Int) < x.size := by omega
        subst hfk
        clear hv
        go_wp2
        go_ret2
        exact ⟨⟨#[]⟩, rfl, by rw [HV.out], rfl⟩
      · rw [if_neg c1] at hfk
        have c1i : ¬ (256 : Int) < x.size := by omega
        obtain ⟨t, ht⟩ : ∃ t, okB (bs x) = t := ⟨_, rfl⟩
        rw [ht] at hfk
        have HT := Lib.hid ht
        have C1 := Lib.hid c1
        clear ht c1
        cases t
        · rw [if_neg (by decide)] at hfk
          obtain ⟨rfl, hv⟩ := HBAD.out (by rw [← hfk]; decide)
          have HV := Lib.hid hv
          subst hfk
          clear hv
          go_wp2_with (go_at_call 27; with_reducible refine (plain_at x _ _ HXS.out HT).mono ?_; rintro e w1 ⟨rfl, rfl⟩)
          go_ret2
          exact ⟨⟨#[]⟩, rfl, by rw [HV.out], rfl⟩
        · rw [if_pos rfl] at hfk
          have HFK := Lib.hid hfk
          clear hfk
          go_wp2_with (go_at_call 27; with_reducible refine (plain_at x _ _ HXS.out HT).mono ?_; rintro e w1 ⟨rfl, rfl⟩)
          refine ⟨⟨k + 1, by go_num, hlt, HFK.out, fun j hj => ?_⟩, by simp [intOf] <;> omega⟩
          by_cases e : j = k
          · rw [e, HX.out]; have := C1.out; omega
          · exact HSZ.out j (by omega)
    · obtain rfl : n = k := by omega
      rw [HDA.out] at hfk
      have h0 : fe = 0 := by rw [← hfk]; rfl
      obtain ⟨hf, hv⟩ := HOK.out h0
      have HF := Lib.hid hf
      have HV := Lib.hid hv
      clear hfk hf hv h0 hlt hk
      go_wp2
      go_loop [4, 6] (fun v i => ∃ (k : Nat) (o : ByteArray), i = .int .i64 k ∧ v = .string o ∧ k ≤ n ∧ o.size ≤ 600 * k ∧ bs o = joinB (fl (l.take k))) (fun _ i => n - (intOf i).toNat)
      case atStart => exact ⟨0, ⟨#[]⟩, rfl, rfl, Nat.zero_le _, Nat.le_refl _, rfl⟩
      case round =>
        obtain ⟨k, o, rfl, rfl, hk, hol, ho⟩ := hrel
        have HO := Lib.hid ho
        clear ho
        by_cases hlt : k < n
        · obtain ⟨b, off, rfl, hc⟩ := HA.out (by omega)
          have e0 := hc k hlt
          clear hc
          have hkn : (k : Int) < n := by omega
          have hxs := HSZ.out k hlt
          have HTKK := Lib.hid (HTK.out k hlt)
          have hni := HNI.out k hk
          obtain ⟨x, hx⟩ : ∃ x, atS l k = x := ⟨_, rfl⟩
          rw [hx] at e0 hxs HTKK
          clear hx
          by_cases h0 : k = 0
          · subst h0
            rw [Nat.add_zero] at e0
            have HX1 : Hid (x.size ≤ 1000) := Lib.hid (by omega)
            clear hni
            go_wp2_with (go_at_call 28; with_reducible refine (written_at x _ HX1.out).mono ?_; rintro e w1 ⟨r, rfl, hr, rfl⟩; have hrs : r.size ≤ 514 := wr_size hr hxs; have n1 : ¬ (9223372036854775807 < o.size + r.size) := (by omega); have HR := Lib.hid hr; clear hr)
            refine ⟨⟨1, _, by go_num, rfl, hlt, by rw [size_app]; omega, ?_⟩, by simp [intOf] <;> omega⟩
            rw [bs_app, HO.out, HR.out, HTKK.out]
            rfl
          · have HN := Lib.hid (show fl (l.take k) ≠ [] from fun e => h0 (hni.1 e))
            have HX1 : Hid (x.size ≤ 1000) := Lib.hid (by omega)
            have h0i : (0 : Int) < k := by omega
            have n0 : ¬ (9223372036854775807 < o.size + 1) := by omega
            have hz : (o ++ ⟨#[32]⟩ : ByteArray).size = o.size + 1 := size_app o ⟨#[32]⟩
            obtain ⟨o2, ho2⟩ : ∃ y, (o ++ ⟨#[32]⟩ : ByteArray) = y := ⟨_, rfl⟩
            have HO2 := Lib.hid (show bs o2 = bs o ++ [32] by rw [← ho2, bs_app])
            rw [ho2] at hz
            clear hni
            go_wp2_with (go_at_call 28; with_reducible refine (written_at x _ HX1.out).mono ?_; rintro e w1 ⟨r, rfl, hr, rfl⟩; have hrs : r.size ≤ 514 := wr_size hr hxs; have n1 : ¬ (9223372036854775807 < o2.size + r.size) := (by omega); have HR := Lib.hid hr; clear hr)
            refine ⟨⟨k + 1, _, by go_num, rfl, hlt, by rw [size_app]; omega, ?_⟩, by simp [intOf] <;> omega⟩
            rw [bs_app, HO2.out, HO.out, HR.out, HTKK.out, join_snoc, if_neg HN.out]
            simp
        · obtain rfl : n = k := by omega
          rw [HTA.out] at HO
          by_cases c : 1024 < o.size
          · have ci : (1024 : Int) < o.size := by omega
            have hfl := HF.out
            have hvl := HV.out
            rw [← HO.out, bs_len, if_pos c] at hfl hvl
            subst hfl
            have HVL := Lib.hid hvl
            clear hvl
            go_wp2
            go_ret2
            exact ⟨⟨#[]⟩, rfl, by rw [HVL.out], rfl⟩
          · have ci : ¬ (1024 : Int) < o.size := by omega
            have hfl := HF.out
            have hvl := HV.out
            rw [← HO.out, bs_len, if_neg c] at hfl hvl
            subst hfl
            have HVL := Lib.hid hvl
            clear hvl
            go_wp2
            go_ret2
            exact ⟨o, rfl, HVL.out.symm, rfl⟩
end Go.Proofs.YtedkpkdfopffiaaDoor.NamW
