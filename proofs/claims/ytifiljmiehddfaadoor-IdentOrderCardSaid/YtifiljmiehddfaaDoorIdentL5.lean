/-
  Walk of the law IdentOrder. Condition: none.
-/
import Derived.Test.YtifiljmiehddfaaDoorIdentL4
namespace Go.Proofs.YtifiljmiehddfaaDoor.NamW
open Go.ChangeShapes Go.WideShapes Go.ChangeAt Go.RowKit
open PairW NamP StrW
theorem nodup_find {l : Ss} (h : l.Nodup) {i : Nat} (hi : i < l.length) : findI (atS l i) l = i := by
  refine find_hit hi (fun j hj e => ?_) rfl
  have := List.pairwise_iff_getElem.1 h j i (by omega) hi hj
  rw [atS_get hi, atS_get (show j < l.length by omega)] at e
  exact this e
theorem three_dup {a b c : ByteArray} (hv : [a, b, c].all vldS = true) (h : a = b ∨ a = c ∨ b = c) : newE [a, b, c] = 7 := by
  unfold newE
  rw [if_pos hv, if_neg]
  intro hd
  simp at hd
  rcases h with h | h | h
  · exact hd.1.1 h
  · exact hd.1.2 h
  · exact hd.2 h
theorem three_nodup {a b c : ByteArray} (h1 : a ≠ b) (h2 : a ≠ c) (h3 : b ≠ c) : [a, b, c].Nodup := by simp [h1, h2, h3]
theorem three_no {a b c : ByteArray} (hv : [a, b, c].all vldS = false) : newE [a, b, c] = 8 := by
  unfold newE
  rw [if_neg (by rw [hv]; simp)]
theorem name_at {l : Ss} {i : Nat} (h : i < l.length) : nameV l i = atS l i ∧ nameE l i = 0 := by
  unfold nameV nameE
  rw [if_pos ⟨by omega, by omega⟩, if_pos ⟨by omega, by omega⟩, Int.toNat_natCast]
  exact ⟨rfl, rfl⟩
theorem idx_at {l : Ss} (hd : l.Nodup) {i : Nat} (h : i < l.length) : idxV l (atS l i) = i ∧ decide (0 ≤ findI (atS l i) l) = true := by
  unfold idxV
  rw [nodup_find hd h, if_neg (by omega)]
  exact ⟨rfl, decide_eq_true (by omega)⟩
set_option maxRecDepth 100000 in
set_option maxHeartbeats 8000000 in
theorem IdentOrder_walk {T : World → (Nat → Prop) → Nat → Ss → Prop} (C : IdentC T) (a b c : ByteArray) (w : World) (ha : a.size ≤ maxLen) (hb : b.size ≤ maxLen) (hc : c.size ≤ maxLen) :
    Calls Tryd.prog 5 #[.string a, .string b, .string c] w fun e w' => e = .returned (.bool true) ∧ Own w w' := by
  have HA := Lib.hid ha
  have HB := Lib.hid hb
  have HCS := Lib.hid hc
  have HSH : Hid (Short [a, b, c]) := Lib.hid (fun s hs => by
    rcases List.mem_cons.1 hs with rfl | hs
    · exact ha
    · rcases List.mem_cons.1 hs with rfl | hs
      · exact hb
      · rw [List.mem_singleton.1 hs]; exact hc)
  clear ha hb hc
  obtain ⟨ta, hta⟩ : ∃ t, vldS a = t := ⟨_, rfl⟩
  obtain ⟨tb, htb⟩ : ∃ t, vldS b = t := ⟨_, rfl⟩
  obtain ⟨tc, htc⟩ : ∃ t, vldS c = t := ⟨_, rfl⟩
  have HTA : Hid (vldB (bs a) = ta) := Lib.hid hta
  have HTB : Hid (vldB (bs b) = tb) := Lib.hid htb
  have HTC : Hid (vldB (bs c) = tc) := Lib.hid htc
  have HALL := Lib.hid (show [a, b, c].all vldS = (ta && tb && tc) by simp [hta, htb, htc, Bool.and_assoc])
  clear hta htb htc
  have g0 : Own w (w.alloc (.cells #[.string a, .string b, .string c] 9)) := (Own.refl w).alloc _
  have e0 : (w.alloc (.cells #[.string a, .string b, .string c] 9)).cell? ⟨w.heap.size, 0, none⟩ = some (.string a) := by go_simp
  have e1 : (w.alloc (.cells #[.string a, .string b, .string c] 9)).cell? ⟨w.heap.size, 1, none⟩ = some (.string b) := by go_simp
  have e2 : (w.alloc (.cells #[.string a, .string b, .string c] 9)).cell? ⟨w.heap.size, 2, none⟩ = some (.string c) := by go_simp
  have E0 := Lib.hid e0
  have E1 := Lib.hid e1
  have E2 := Lib.hid e2
  clear e0 e1 e2
  go_enter Tryd.func5, Tryd.ntmps5
  go_upto_region 2 with (fail)
  generalize w.alloc (.cells #[.string a, .string b, .string c] 9) = W0 at *
  generalize w.heap.size = L at *
  go_wp2
  go_loopw [8, 9] (fun va vi wr => ∃ i : Nat, vi = .int .i64 i ∧ i ≤ 3 ∧ Own W0 wr ∧ va = .bool (if i = 0 then true else if i = 1 then ta else if i = 2 then ta && tb else ta && tb && tc)) (fun _ vi _ => 3 - (intOf vi).toNat)
  case atStart => exact ⟨0, rfl, by omega, Own.refl W0, rfl⟩
  case round =>
    obtain ⟨i, rfl, hi, q, rfl⟩ := hrel
    have hcase : i = 0 ∨ i = 1 ∨ i = 2 ∨ i = 3 := by omega
    rcases hcase with rfl | rfl | rfl | rfl
    · have e0 := q.cell E0.out
      have e1 := q.cell E1.out
      generalize hpre : (if 0 = 0 then true else if 0 = 1 then ta else if 0 = 2 then ta && tb else ta && tb && tc : Bool) = tp
      cases ta
      · have HN1 : Hid (lessB (bs a) (bs b) = false) := Lib.hid (less_no (.inl HTA.out))
        have HN2 : Hid (lessB (bs b) (bs a) = false) := Lib.hid (less_no (.inr HTA.out))
        have E0' := Lib.hid e0
        have E1' := Lib.hid e1
        clear hpre e1
        go_upto_region 8 with (go_at_call 11; with_reducible refine (C.valid a false _ HA.out HTA).mono ?_; rintro e w4 ⟨rfl, hg4⟩)
        have c0 : ∀ z : After w4, z.w.cell? ⟨L, 0, none⟩ = some (.string a) := fun z => z.o.cell (hg4.cell E0'.out)
        have c1 : ∀ z : After w4, z.w.cell? ⟨L, 1, none⟩ = some (.string b) := fun z => z.o.cell (hg4.cell E1'.out)
        clear e0
        refine region_after w4 (by kernel_rfl) (by kernel_rfl) ?_
        repeat (first | go_big_quiet_step ((go_at_call 14; (first | (with_reducible refine (C.less a b false _ HA.out HB.out HN1).mono ?_) | (with_reducible refine (C.less b a false _ HB.out HA.out HN2).mono ?_)); rintro e wq ⟨rfl, hgq⟩; exact ⟨rfl, ⟨wq, (After.o _).trans hgq⟩, rfl⟩)) | quiet_step ((go_at_call 14; (first | (with_reducible refine (C.less a b false _ HA.out HB.out HN1).mono ?_) | (with_reducible refine (C.less b a false _ HB.out HA.out HN2).mono ?_)); rintro e wq ⟨rfl, hgq⟩; exact ⟨rfl, ⟨wq, (After.o _).trans hgq⟩, rfl⟩)))
        refine wpQuiet_nil ?_
        rintro _ ⟨z, rfl⟩
        have d4 := z.o
        generalize z.w = w5 at *
        clear c0 c1
        go_wp2
        go_roundw
        case rel => exact ⟨1, rfl, by omega, (q.trans hg4).trans d4, by simp⟩
        case measure => simp [intOf]
      · have HPRE := Lib.hid hpre
        clear hpre e1
        go_wp2_with (go_at_call 11; with_reducible refine (C.valid a true _ HA.out HTA).mono ?_; rintro e w4 ⟨rfl, hg4⟩)
        go_roundw
        case rel => exact ⟨1, rfl, by omega, q.trans hg4, by rw [← HPRE.out]; simp⟩
        case measure => simp [intOf]
    · have e0 := q.cell E1.out
      have e1 := q.cell E2.out
      generalize hpre : (if 1 = 0 then true else if 1 = 1 then ta else if 1 = 2 then ta && tb else ta && tb && tc : Bool) = tp
      cases tb
      · have HN1 : Hid (lessB (bs b) (bs c) = false) := Lib.hid (less_no (.inl HTB.out))
        have HN2 : Hid (lessB (bs c) (bs b) = false) := Lib.hid (less_no (.inr HTB.out))
        have E0' := Lib.hid e0
        have E1' := Lib.hid e1
        clear hpre e1
        go_upto_region 8 with (go_at_call 11; with_reducible refine (C.valid b false _ HB.out HTB).mono ?_; rintro e w4 ⟨rfl, hg4⟩)
        have c0 : ∀ z : After w4, z.w.cell? ⟨L, 1, none⟩ = some (.string b) := fun z => z.o.cell (hg4.cell E0'.out)
        have c1 : ∀ z : After w4, z.w.cell? ⟨L, 2, none⟩ = some (.string c) := fun z => z.o.cell (hg4.cell E1'.out)
        clear e0
        refine region_after w4 (by kernel_rfl) (by kernel_rfl) ?_
        repeat (first | go_big_quiet_step ((go_at_call 14; (first | (with_reducible refine (C.less b c false _ HB.out HCS.out HN1).mono ?_) | (with_reducible refine (C.less c b false _ HCS.out HB.out HN2).mono ?_)); rintro e wq ⟨rfl, hgq⟩; exact ⟨rfl, ⟨wq, (After.o _).trans hgq⟩, rfl⟩)) | quiet_step ((go_at_call 14; (first | (with_reducible refine (C.less b c false _ HB.out HCS.out HN1).mono ?_) | (with_reducible refine (C.less c b false _ HCS.out HB.out HN2).mono ?_)); rintro e wq ⟨rfl, hgq⟩; exact ⟨rfl, ⟨wq, (After.o _).trans hgq⟩, rfl⟩)))
        refine wpQuiet_nil ?_
        rintro _ ⟨z, rfl⟩
        have d4 := z.o
        generalize z.w = w5 at *
        clear c0 c1
        go_wp2
        go_roundw
        case rel => exact ⟨2, rfl, by omega, (q.trans hg4).trans d4, by simp⟩
        case measure => simp [intOf]
      · have HPRE := Lib.hid hpre
        clear hpre e1
        go_wp2_with (go_at_call 11; with_reducible refine (C.valid b true _ HB.out HTB).mono ?_; rintro e w4 ⟨rfl, hg4⟩)
        go_roundw
        case rel => exact ⟨2, rfl, by omega, q.trans hg4, by rw [← HPRE.out]; simp⟩
        case measure => simp [intOf]
    · have e0 := q.cell E2.out
      have e1 := q.cell E0.out
      generalize hpre : (if 2 = 0 then true else if 2 = 1 then ta else if 2 = 2 then ta && tb else ta && tb && tc : Bool) = tp
      cases tc
      · have HN1 : Hid (lessB (bs c) (bs a) = false) := Lib.hid (less_no (.inl HTC.out))
        have HN2 : Hid (lessB (bs a) (bs c) = false) := Lib.hid (less_no (.inr HTC.out))
        have E0' := Lib.hid e0
        have E1' := Lib.hid e1
        clear hpre e1
        go_upto_region 8 with (go_at_call 11; with_reducible refine (C.valid c false _ HCS.out HTC).mono ?_; rintro e w4 ⟨rfl, hg4⟩)
        have c0 : ∀ z : After w4, z.w.cell? ⟨L, 2, none⟩ = some (.string c) := fun z => z.o.cell (hg4.cell E0'.out)
        have c1 : ∀ z : After w4, z.w.cell? ⟨L, 0, none⟩ = some (.string a) := fun z => z.o.cell (hg4.cell E1'.out)
        clear e0
        refine region_after w4 (by kernel_rfl) (by kernel_rfl) ?_
        repeat (first | go_big_quiet_step ((go_at_call 14; (first | (with_reducible refine (C.less c a false _ HCS.out HA.out HN1).mono ?_) | (with_reducible refine (C.less a c false _ HA.out HCS.out HN2).mono ?_)); rintro e wq ⟨rfl, hgq⟩; exact ⟨rfl, ⟨wq, (After.o _).trans hgq⟩, rfl⟩)) | quiet_step ((go_at_call 14; (first | (with_reducible refine (C.less c a false _ HCS.out HA.out HN1).mono ?_) | (with_reducible refine (C.less a c false _ HA.out HCS.out HN2).mono ?_)); rintro e wq ⟨rfl, hgq⟩; exact ⟨rfl, ⟨wq, (After.o _).trans hgq⟩, rfl⟩)))
        refine wpQuiet_nil ?_
        rintro _ ⟨z, rfl⟩
        have d4 := z.o
        generalize z.w = w5 at *
        clear c0 c1
        go_wp2
        go_roundw
        case rel => exact ⟨3, rfl, by omega, (q.trans hg4).trans d4, by simp⟩
        case measure => simp [intOf]
      · have HPRE := Lib.hid hpre
        clear hpre e1
        go_wp2_with (go_at_call 11; with_reducible refine (C.valid c true _ HCS.out HTC).mono ?_; rintro e w4 ⟨rfl, hg4⟩)
        go_roundw
        case rel => exact ⟨3, rfl, by omega, q.trans hg4, by rw [← HPRE.out]; simp⟩
        case measure => simp [intOf]
    · have h3 : (if 3 = 0 then true else if 3 = 1 then ta else if 3 = 2 then ta && tb else ta && tb && tc : Bool) = (ta && tb && tc) := by simp
      rw [h3]
      clear h3
      have q0 : Own w wr := g0.trans q
      have hcell : ∀ i, i < 3 → wr.cell? ⟨L, i, none⟩ = some (.string (atS [a, b, c] i)) := fun i h => by
        match i, h with
        | 0, _ => exact q.cell E0.out
        | 1, _ => exact q.cell E1.out
        | 2, _ => exact q.cell E2.out
      have HCELL := Lib.hid hcell
      have HPN : Hid (Strs wr (.slice (some ⟨L, 0, none⟩) 3 3) [a, b, c]) := Lib.hid (strs_lit (l := [a, b, c]) (by simp) (by unfold maxLen; omega) hcell)
      have HVA := Lib.hid (show (ta && tb && tc) = true → vldS a = true ∧ vldS b = true ∧ vldS c = true from fun h => by
        simp at h
        exact ⟨by rw [← h.1.1]; exact HTA.out, by rw [← h.1.2]; exact HTB.out, by rw [← h.2]; exact HTC.out⟩)
      clear hcell q g0 E0 E1 E2 hi HTA HTB HTC
      generalize (ta && tb && tc) = t at *
      cases t
      · have HF := Lib.hid (three_no HALL.out)
        clear HALL HVA HCELL
        go_wp2_with (first | (go_at_call 16; refine (C.new [a, b, c] _ 8 _ HPN HSH (by simp) HF).mono ?_; rintro e w6 hq; obtain ⟨rfl, hg⟩ := hq.no (by decide); replace q0 := q0.trans hg; clear hq hg) | (go_at_call 13; refine (awake_any C _).mono ?_; rintro e w7 ⟨rfl, hg⟩; replace q0 := q0.trans hg; clear hg))
        go_ret
        exact ⟨rfl, q0⟩
      · have HV := Lib.hid HALL.out
        obtain ⟨va, vb, vc⟩ := HVA.out rfl
        clear HALL HVA
        by_cases eab : a = b
        · have nab := str_eq eab
          have HF := Lib.hid (three_dup HV.out (.inl eab))
          have HLA : Hid (lessB (bs a) (bs b) = false) := Lib.hid (by rw [eab]; exact less_irrefl _)
          have HLB : Hid (lessB (bs b) (bs a) = false) := Lib.hid (by rw [eab]; exact less_irrefl _)
          clear eab HV va vb vc HCELL
          go_wp2_with (first | (go_at_call 16; refine (C.new [a, b, c] _ 7 _ HPN HSH (by simp) HF).mono ?_; rintro e w6 hq; obtain ⟨rfl, hg⟩ := hq.no (by decide); replace q0 := q0.trans hg; clear hq hg) | (go_at_call 14; (first | (with_reducible refine (C.less a b false _ HA.out HB.out HLA).mono ?_) | (with_reducible refine (C.less b a false _ HB.out HA.out HLB).mono ?_)); rintro e w8 ⟨rfl, hg⟩; replace q0 := q0.trans hg; clear hg) | (go_at_call 13; refine (awake_any C _).mono ?_; rintro e w7 ⟨rfl, hg⟩; replace q0 := q0.trans hg; clear hg))
          go_ret
          exact ⟨rfl, q0⟩
        · have nab := str_ne eab
          have EAB := Lib.hid eab
          have htot := lessS_total va vb eab
          obtain ⟨tx, htx⟩ : ∃ t, lessS a b = t := ⟨_, rfl⟩
          rw [htx] at htot
          clear eab va vb vc
          cases tx
          · have HLA : Hid (lessB (bs a) (bs b) = false) := Lib.hid htx
            have HLB : Hid (lessB (bs b) (bs a) = true) := Lib.hid htot
            clear htx htot
            by_cases eac : a = c
            · have nac := str_eq eac
              have HF := Lib.hid (three_dup HV.out (.inr (.inl eac)))
              clear eac HV
              go_wp2_with (first | (go_at_call 16; refine (C.new [a, b, c] _ 7 _ HPN HSH (by simp) HF).mono ?_; rintro e w6 hq; obtain ⟨rfl, hg⟩ := hq.no (by decide); replace q0 := q0.trans hg; clear hq hg) | (go_at_call 14; (first | (with_reducible refine (C.less a b false _ HA.out HB.out HLA).mono ?_) | (with_reducible refine (C.less b a true _ HB.out HA.out HLB).mono ?_)); rintro e w8 ⟨rfl, hg⟩; replace q0 := q0.trans hg; clear hg) | (go_at_call 13; refine (awake_any C _).mono ?_; rintro e w7 ⟨rfl, hg⟩; replace q0 := q0.trans hg; clear hg))
              go_ret
              exact ⟨rfl, q0⟩
            · have nac := str_ne eac
              by_cases ebc : b = c
              · have nbc := str_eq ebc
                have HF := Lib.hid (three_dup HV.out (.inr (.inr ebc)))
                clear eac ebc HV
                go_wp2_with (first | (go_at_call 16; refine (C.new [a, b, c] _ 7 _ HPN HSH (by simp) HF).mono ?_; rintro e w6 hq; obtain ⟨rfl, hg⟩ := hq.no (by decide); replace q0 := q0.trans hg; clear hq hg) | (go_at_call 14; (first | (with_reducible refine (C.less a b false _ HA.out HB.out HLA).mono ?_) | (with_reducible refine (C.less b a true _ HB.out HA.out HLB).mono ?_)); rintro e w8 ⟨rfl, hg⟩; replace q0 := q0.trans hg; clear hg) | (go_at_call 13; refine (awake_any C _).mono ?_; rintro e w7 ⟨rfl, hg⟩; replace q0 := q0.trans hg; clear hg))
                go_ret
                exact ⟨rfl, q0⟩
              · have nbc := str_ne ebc
                have hd := three_nodup EAB.out eac ebc
                have HF := Lib.hid (new_ok HV.out hd (by simp))
                have HNM := Lib.hid (fun i (h : i < 3) => name_at (l := [a, b, c]) (i := i) h)
                have HIX := Lib.hid (fun i (h : i < 3) => idx_at (l := [a, b, c]) hd (i := i) h)
                have HSZ := Lib.hid (fun i (h : i < 3) => HSH.out.at_ (l := [a, b, c]) (i := i) h)
                clear eac ebc HV hd
                go_upto_region 22 with (first | (go_at_call 16; refine (C.new [a, b, c] _ 0 _ HPN HSH (by simp) HF).mono ?_; rintro e w6 hq; obtain ⟨tg, F, rfl, hg, hT, _⟩ := hq.ok; replace q0 := q0.trans hg; have HT := Lib.hid hT; have HW6 := Lib.hid hg; have gt := Own.refl w6; clear hq hT hg) | (go_at_call 14; (first | (with_reducible refine (C.less a b false _ HA.out HB.out HLA).mono ?_) | (with_reducible refine (C.less b a true _ HB.out HA.out HLB).mono ?_)); rintro e w8 ⟨rfl, hg⟩; replace q0 := q0.trans hg; replace gt := gt.trans hg; clear hg))
                have HT2 := Lib.hid (C.own HT.out gt)
                have HC2 := Lib.hid (fun i h => gt.cell (HW6.out.cell (HCELL.out i h)))
                generalize w8 = w9 at *
                clear HT HPN gt HF
                go_wp2
                go_loopw [14] (fun v wr => ∃ i : Nat, v = .int .i64 i ∧ i ≤ 3 ∧ Own w9 wr) (fun v _ => 3 - (intOf v).toNat)
                case atStart => exact ⟨0, rfl, by omega, Own.refl w9⟩
                case round =>
                  obtain ⟨i, rfl, hi, q⟩ := hrel
                  by_cases hlt : i < 3
                  · have hii : (i : Int) < 3 := by omega
                    have hcell := HC2.out i hlt
                    have hnm := HNM.out i hlt
                    have hix := HIX.out i hlt
                    have hsz := HSZ.out i hlt
                    obtain ⟨y, hy⟩ : ∃ y, atS [a, b, c] i = y := ⟨_, rfl⟩
                    rw [hy] at hcell hnm hix hsz
                    have HNI := Lib.hid hnm
                    have HII := Lib.hid hix
                    have HYS := Lib.hid hsz
                    have HCE := Lib.hid hcell
                    clear hy hnm hix hsz hcell
                    go_upto_region 26 with (go_at_call 17; refine (C.name [a, b, c] i tg F y 0 _ (Lib.hid (C.own HT2.out q)) HNI).mono ?_; rintro e w10 ⟨rfl, hg⟩; replace q := q.trans hg; clear hg)
                    have e0 := q.cell HCE.out
                    go_upto_region 27 with (go_at_call 18; refine (C.index [a, b, c] y tg F i true _ HYS.out (Lib.hid (C.own HT2.out q)) HII).mono ?_; rintro e w11 ⟨rfl, hg⟩; replace q := q.trans hg; replace e0 := hg.cell e0; clear hg)
                    have hyy : (y.toList == y.toList) = true := str_eq rfl
                    go_wp2
                    go_roundw
                    case rel => exact ⟨i + 1, by go_num, by omega, q⟩
                    case measure => simp [intOf]; omega
                  · obtain rfl : i = 3 := by omega
                    replace q0 := q0.trans q
                    go_wp2_with (go_at_call 13; refine (awake_any C _).mono ?_; rintro e w7 ⟨rfl, hg⟩; replace q0 := q0.trans hg; clear hg)
                    go_ret
                    exact ⟨rfl, q0⟩
          · have HLA : Hid (lessB (bs a) (bs b) = true) := Lib.hid htx
            have HLB : Hid (lessB (bs b) (bs a) = false) := Lib.hid htot
            obtain ⟨u, hu⟩ : ∃ t, lessS b c = t := ⟨_, rfl⟩
            cases u
            · have HLC : Hid (lessB (bs b) (bs c) = false) := Lib.hid hu
              clear htx htot hu
              by_cases eac : a = c
              · have nac := str_eq eac
                have HF := Lib.hid (three_dup HV.out (.inr (.inl eac)))
                clear eac HV
                go_wp2_with (first | (go_at_call 16; refine (C.new [a, b, c] _ 7 _ HPN HSH (by simp) HF).mono ?_; rintro e w6 hq; obtain ⟨rfl, hg⟩ := hq.no (by decide); replace q0 := q0.trans hg; clear hq hg) | (go_at_call 14; (first | (with_reducible refine (C.less a b true _ HA.out HB.out HLA).mono ?_) | (with_reducible refine (C.less b a false _ HB.out HA.out HLB).mono ?_) | (with_reducible refine (C.less b c false _ HB.out HCS.out HLC).mono ?_)); rintro e w8 ⟨rfl, hg⟩; replace q0 := q0.trans hg; clear hg) | (go_at_call 13; refine (awake_any C _).mono ?_; rintro e w7 ⟨rfl, hg⟩; replace q0 := q0.trans hg; clear hg))
                go_ret
                exact ⟨rfl, q0⟩
              · have nac := str_ne eac
                by_cases ebc : b = c
                · have nbc := str_eq ebc
                  have HF := Lib.hid (three_dup HV.out (.inr (.inr ebc)))
                  clear eac ebc HV
                  go_wp2_with (first | (go_at_call 16; refine (C.new [a, b, c] _ 7 _ HPN HSH (by simp) HF).mono ?_; rintro e w6 hq; obtain ⟨rfl, hg⟩ := hq.no (by decide); replace q0 := q0.trans hg; clear hq hg) | (go_at_call 14; (first | (with_reducible refine (C.less a b true _ HA.out HB.out HLA).mono ?_) | (with_reducible refine (C.less b a false _ HB.out HA.out HLB).mono ?_) | (with_reducible refine (C.less b c false _ HB.out HCS.out HLC).mono ?_)); rintro e w8 ⟨rfl, hg⟩; replace q0 := q0.trans hg; clear hg) | (go_at_call 13; refine (awake_any C _).mono ?_; rintro e w7 ⟨rfl, hg⟩; replace q0 := q0.trans hg; clear hg))
                  go_ret
                  exact ⟨rfl, q0⟩
                · have nbc := str_ne ebc
                  have hd := three_nodup EAB.out eac ebc
                  have HF := Lib.hid (new_ok HV.out hd (by simp))
                  have HNM := Lib.hid (fun i (h : i < 3) => name_at (l := [a, b, c]) (i := i) h)
                  have HIX := Lib.hid (fun i (h : i < 3) => idx_at (l := [a, b, c]) hd (i := i) h)
                  have HSZ := Lib.hid (fun i (h : i < 3) => HSH.out.at_ (l := [a, b, c]) (i := i) h)
                  clear eac ebc HV hd
                  go_upto_region 22 with (first | (go_at_call 16; refine (C.new [a, b, c] _ 0 _ HPN HSH (by simp) HF).mono ?_; rintro e w6 hq; obtain ⟨tg, F, rfl, hg, hT, _⟩ := hq.ok; replace q0 := q0.trans hg; have HT := Lib.hid hT; have HW6 := Lib.hid hg; have gt := Own.refl w6; clear hq hT hg) | (go_at_call 14; (first | (with_reducible refine (C.less a b true _ HA.out HB.out HLA).mono ?_) | (with_reducible refine (C.less b a false _ HB.out HA.out HLB).mono ?_) | (with_reducible refine (C.less b c false _ HB.out HCS.out HLC).mono ?_)); rintro e w8 ⟨rfl, hg⟩; replace q0 := q0.trans hg; replace gt := gt.trans hg; clear hg))
                  have HT2 := Lib.hid (C.own HT.out gt)
                  have HC2 := Lib.hid (fun i h => gt.cell (HW6.out.cell (HCELL.out i h)))
                  generalize w8 = w9 at *
                  clear HT HPN gt HF
                  go_wp2
                  go_loopw [14] (fun v wr => ∃ i : Nat, v = .int .i64 i ∧ i ≤ 3 ∧ Own w9 wr) (fun v _ => 3 - (intOf v).toNat)
                  case atStart => exact ⟨0, rfl, by omega, Own.refl w9⟩
                  case round =>
                    obtain ⟨i, rfl, hi, q⟩ := hrel
                    by_cases hlt : i < 3
                    · have hii : (i : Int) < 3 := by omega
                      have hcell := HC2.out i hlt
                      have hnm := HNM.out i hlt
                      have hix := HIX.out i hlt
                      have hsz := HSZ.out i hlt
                      obtain ⟨y, hy⟩ : ∃ y, atS [a, b, c] i = y := ⟨_, rfl⟩
                      rw [hy] at hcell hnm hix hsz
                      have HNI := Lib.hid hnm
                      have HII := Lib.hid hix
                      have HYS := Lib.hid hsz
                      have HCE := Lib.hid hcell
                      clear hy hnm hix hsz hcell
                      go_upto_region 26 with (go_at_call 17; refine (C.name [a, b, c] i tg F y 0 _ (Lib.hid (C.own HT2.out q)) HNI).mono ?_; rintro e w10 ⟨rfl, hg⟩; replace q := q.trans hg; clear hg)
                      have e0 := q.cell HCE.out
                      go_upto_region 27 with (go_at_call 18; refine (C.index [a, b, c] y tg F i true _ HYS.out (Lib.hid (C.own HT2.out q)) HII).mono ?_; rintro e w11 ⟨rfl, hg⟩; replace q := q.trans hg; replace e0 := hg.cell e0; clear hg)
                      have hyy : (y.toList == y.toList) = true := str_eq rfl
                      go_wp2
                      go_roundw
                      case rel => exact ⟨i + 1, by go_num, by omega, q⟩
                      case measure => simp [intOf]; omega
                    · obtain rfl : i = 3 := by omega
                      replace q0 := q0.trans q
                      go_wp2_with (go_at_call 13; refine (awake_any C _).mono ?_; rintro e w7 ⟨rfl, hg⟩; replace q0 := q0.trans hg; clear hg)
                      go_ret
                      exact ⟨rfl, q0⟩
            · have HLC : Hid (lessB (bs b) (bs c) = true) := Lib.hid hu
              have HLD : Hid (lessB (bs a) (bs c) = true) := Lib.hid (lessS_trans htx hu)
              clear htx htot hu
              by_cases eac : a = c
              · have nac := str_eq eac
                have HF := Lib.hid (three_dup HV.out (.inr (.inl eac)))
                clear eac HV
                go_wp2_with (first | (go_at_call 16; refine (C.new [a, b, c] _ 7 _ HPN HSH (by simp) HF).mono ?_; rintro e w6 hq; obtain ⟨rfl, hg⟩ := hq.no (by decide); replace q0 := q0.trans hg; clear hq hg) | (go_at_call 14; (first | (with_reducible refine (C.less a b true _ HA.out HB.out HLA).mono ?_) | (with_reducible refine (C.less b a false _ HB.out HA.out HLB).mono ?_) | (with_reducible refine (C.less b c true _ HB.out HCS.out HLC).mono ?_) | (with_reducible refine (C.less a c true _ HA.out HCS.out HLD).mono ?_)); rintro e w8 ⟨rfl, hg⟩; replace q0 := q0.trans hg; clear hg) | (go_at_call 13; refine (awake_any C _).mono ?_; rintro e w7 ⟨rfl, hg⟩; replace q0 := q0.trans hg; clear hg))
                go_ret
                exact ⟨rfl, q0⟩
              · have nac := str_ne eac
                by_cases ebc : b = c
                · have nbc := str_eq ebc
                  have HF := Lib.hid (three_dup HV.out (.inr (.inr ebc)))
                  clear eac ebc HV
                  go_wp2_with (first | (go_at_call 16; refine (C.new [a, b, c] _ 7 _ HPN HSH (by simp) HF).mono ?_; rintro e w6 hq; obtain ⟨rfl, hg⟩ := hq.no (by decide); replace q0 := q0.trans hg; clear hq hg) | (go_at_call 14; (first | (with_reducible refine (C.less a b true _ HA.out HB.out HLA).mono ?_) | (with_reducible refine (C.less b a false _ HB.out HA.out HLB).mono ?_) | (with_reducible refine (C.less b c true _ HB.out HCS.out HLC).mono ?_) | (with_reducible refine (C.less a c true _ HA.out HCS.out HLD).mono ?_)); rintro e w8 ⟨rfl, hg⟩; replace q0 := q0.trans hg; clear hg) | (go_at_call 13; refine (awake_any C _).mono ?_; rintro e w7 ⟨rfl, hg⟩; replace q0 := q0.trans hg; clear hg))
                  go_ret
                  exact ⟨rfl, q0⟩
                · have nbc := str_ne ebc
                  have hd := three_nodup EAB.out eac ebc
                  have HF := Lib.hid (new_ok HV.out hd (by simp))
                  have HNM := Lib.hid (fun i (h : i < 3) => name_at (l := [a, b, c]) (i := i) h)
                  have HIX := Lib.hid (fun i (h : i < 3) => idx_at (l := [a, b, c]) hd (i := i) h)
                  have HSZ := Lib.hid (fun i (h : i < 3) => HSH.out.at_ (l := [a, b, c]) (i := i) h)
                  clear eac ebc HV hd
                  go_upto_region 22 with (first | (go_at_call 16; refine (C.new [a, b, c] _ 0 _ HPN HSH (by simp) HF).mono ?_; rintro e w6 hq; obtain ⟨tg, F, rfl, hg, hT, _⟩ := hq.ok; replace q0 := q0.trans hg; have HT := Lib.hid hT; have HW6 := Lib.hid hg; have gt := Own.refl w6; clear hq hT hg) | (go_at_call 14; (first | (with_reducible refine (C.less a b true _ HA.out HB.out HLA).mono ?_) | (with_reducible refine (C.less b a false _ HB.out HA.out HLB).mono ?_) | (with_reducible refine (C.less b c true _ HB.out HCS.out HLC).mono ?_) | (with_reducible refine (C.less a c true _ HA.out HCS.out HLD).mono ?_)); rintro e w8 ⟨rfl, hg⟩; replace q0 := q0.trans hg; replace gt := gt.trans hg; clear hg))
                  have HT2 := Lib.hid (C.own HT.out gt)
                  have HC2 := Lib.hid (fun i h => gt.cell (HW6.out.cell (HCELL.out i h)))
                  generalize w8 = w9 at *
                  clear HT HPN gt HF
                  go_wp2
                  go_loopw [14] (fun v wr => ∃ i : Nat, v = .int .i64 i ∧ i ≤ 3 ∧ Own w9 wr) (fun v _ => 3 - (intOf v).toNat)
                  case atStart => exact ⟨0, rfl, by omega, Own.refl w9⟩
                  case round =>
                    obtain ⟨i, rfl, hi, q⟩ := hrel
                    by_cases hlt : i < 3
                    · have hii : (i : Int) < 3 := by omega
                      have hcell := HC2.out i hlt
                      have hnm := HNM.out i hlt
                      have hix := HIX.out i hlt
                      have hsz := HSZ.out i hlt
                      obtain ⟨y, hy⟩ : ∃ y, atS [a, b, c] i = y := ⟨_, rfl⟩
                      rw [hy] at hcell hnm hix hsz
                      have HNI := Lib.hid hnm
                      have HII := Lib.hid hix
                      have HYS := Lib.hid hsz
                      have HCE := Lib.hid hcell
                      clear hy hnm hix hsz hcell
                      go_upto_region 26 with (go_at_call 17; refine (C.name [a, b, c] i tg F y 0 _ (Lib.hid (C.own HT2.out q)) HNI).mono ?_; rintro e w10 ⟨rfl, hg⟩; replace q := q.trans hg; clear hg)
                      have e0 := q.cell HCE.out
                      go_upto_region 27 with (go_at_call 18; refine (C.index [a, b, c] y tg F i true _ HYS.out (Lib.hid (C.own HT2.out q)) HII).mono ?_; rintro e w11 ⟨rfl, hg⟩; replace q := q.trans hg; replace e0 := hg.cell e0; clear hg)
                      have hyy : (y.toList == y.toList) = true := str_eq rfl
                      go_wp2
                      go_roundw
                      case rel => exact ⟨i + 1, by go_num, by omega, q⟩
                      case measure => simp [intOf]; omega
                    · obtain rfl : i = 3 := by omega
                      replace q0 := q0.trans q
                      go_wp2_with (go_at_call 13; refine (awake_any C _).mono ?_; rintro e w7 ⟨rfl, hg⟩; replace q0 := q0.trans hg; clear hg)
                      go_ret
                      exact ⟨rfl, q0⟩
end Go.Proofs.YtifiljmiehddfaaDoor.NamW
