/-
  Package assign: the law AssignMatch walked, over what it asks of the program. Condition: none.
-/
import Derived.Test.YtfhdoeajoeaddaaAssignL3
import Derived.Test.YtfhdoeajoeaddaaMatchPD
namespace Go.Proofs.Ytfhdoeajoeaddaa.AsgW
open Go.ChangeShapes Go.WideShapes Go.ChangeAt Go.RowKit
open PairW CelW TabW MchW AsgP
open MchP (at2 at2_of at2_row at2_col wd Sq Pl Mx chkE chk_sq nuV)
theorem wd_sq {l : List (List Bool)} {n : Nat} (hn : l.length = n) (h : ∀ (i : Nat) r, i < n → l[i]? = some r → r.length = n) : Sq l ∧ wd l = n := by
  have hw : wd l = n := by
    cases l with
    | nil => exact hn
    | cons r l => exact h 0 r (by rw [← hn]; exact Nat.succ_pos _) rfl
  refine ⟨fun r hr => ?_, hw⟩
  obtain ⟨i, hi, e⟩ := List.mem_iff_getElem.1 hr
  rw [hw]
  exact h i r (by omega) (by rw [List.getElem?_eq_getElem hi, e])
section
variable (A : AsgC)
include A
set_option maxRecDepth 100000 in
set_option maxHeartbeats 8000000 in
theorem lmatch_at (l : List (List Bool)) (vl : Value) (w : World) (HT : Hid (Cels w vl (cellsB l))) :
    Calls Try.prog 10 #[vl] w fun e w' => e = .returned (.bool true) ∧ Own w w' := by
  obtain ⟨ii, hi, hz0, hz1, hz2⟩ := info_parts (show (Try.prog.info? 3).map (fun i => (i.zero, i.size, i.bytes)) = some (some (.int .i64 0), 1, 8) by kernel_rfl)
  have HI := Lib.hid hi
  have HZ0 := Lib.hid hz0
  have HZ1 := Lib.hid hz1
  have HZ2 := Lib.hid hz2
  obtain ⟨ri, hi, hz0, hz1, hz2⟩ := info_parts (show (Try.prog.info? 23).map (fun i => (i.zero, i.size, i.bytes)) = some (some (.slice none 0 0), 1, 24) by kernel_rfl)
  have JI := Lib.hid hi
  have JZ0 := Lib.hid hz0
  have JZ1 := Lib.hid hz1
  have JZ2 := Lib.hid hz2
  clear hi hz0 hz1 hz2
  obtain ⟨AL, capl, rfl, t1, t2, t3⟩ := tb_open HT.out
  unfold maxLen at t2
  obtain ⟨n, hn⟩ : ∃ n, l.length = n := ⟨_, rfl⟩
  rw [hn] at t1 t3 HT ⊢
  have HN := Lib.hid hn
  have HT3 := Lib.hid t3
  clear hn t3
  by_cases h16 : (16 : Int) < n
  · go_enter Try.func10, Try.ntmps10
    go_wp2_with (go_at_call 13; with_reducible refine (awake_at A _).mono ?_; rintro e w3 ⟨rfl, q3⟩; have HQ3 := Lib.hid q3; clear q3)
    go_ret
    exact ⟨rfl, HQ3.out⟩
  · have b1 : n ≤ 16 := by omega
    go_enter Try.func10, Try.ntmps10
    go_wp2
    go_loopw [3, 4, 5, 6, 7] (fun vd vi _ _ _ wr => ∃ (i : Nat) (A : Option Addr) (co : Nat) (vs : List Value), vi = .int .i64 (i : Int) ∧ vd = .slice A i co ∧ i ≤ n ∧ Own w wr ∧ TabV wr w.heap.size 23 3 (.slice A i co) (cellsG (tbF (zoF (at2 l)) n i)) vs ∧ ∀ (k : Nat) r, k < i → l[k]? = some r → r.length = n) (fun _ vi _ _ _ _ => n - (intOf vi).toNat)
    case atStart => exact ⟨0, none, 0, [], rfl, rfl, Nat.zero_le _, Own.refl _, tab_nil _ _ _ _, fun k r h => absurd h (Nat.not_lt_zero _)⟩
    case round =>
      obtain ⟨i, Ao, co, vs, rfl, rfl, hi, q, htv, hok⟩ := hrel
      have HQ := Lib.hid q
      have HTV := Lib.hid htv
      have HOK := Lib.hid hok
      have HBB := Lib.hid q.size
      have HLT := Lib.hid (tbF_clen (zoF (at2 l)) n i)
      clear q htv hok
      by_cases hlt : i < n
      · have hiz : (i : Int) < n := by omega
        obtain ⟨g, off, rfl, h4⟩ := HT3.out (by omega)
        obtain ⟨r, hr⟩ : ∃ r, l[i]? = some r := ⟨_, List.getElem?_eq_getElem (by rw [HN.out]; exact hlt)⟩
        obtain ⟨u, h5, h6⟩ := h4 i r hr
        obtain ⟨B, cr0, rfl, h7, h8, h9⟩ := cel_bool h6
        unfold maxLen at h8
        obtain ⟨k, hk⟩ : ∃ k, r.length = k := ⟨_, rfl⟩
        rw [hk] at h5 h7 h9
        have e0 := HQ.out.cell h5
        have E0 := Lib.hid h5
        have HRI := Lib.hid hr
        have HKL := Lib.hid hk
        have HCL := Lib.hid h9
        clear h4 h5 h6 h9 hr hk
        by_cases hkn : k = n
        · subst hkn
          generalize wr = w5 at *
          go_wp2
          clear e0
          go_loopw [5, 6, 7] (fun vr vj _ wx => ∃ (j : Nat) (A : Option Addr) (cr : Nat), vj = .int .i64 (j : Int) ∧ vr = .slice A j cr ∧ j ≤ k ∧ Own w5 wx ∧ wx.ownsRow w5.heap.size 3 1 (.slice A j cr) j (cellsI (rwF (zoF (at2 l)) i j))) (fun _ vj _ _ => k - (intOf vj).toNat)
          case atStart => exact ⟨0, none, 0, rfl, rfl, Nat.zero_le _, Own.refl _, World.ownsRow_nil _ _ _ _⟩
          case round =>
            obtain ⟨j, Ar, cr, rfl, rfl, hj, q, hrow⟩ := hrel
            have HQX := Lib.hid q
            have HROW := Lib.hid hrow
            clear q hrow
            by_cases hlt2 : j < k
            · have hjz : (j : Int) < k := by omega
              obtain ⟨gr, og, rfl, h10⟩ := HCL.out (by omega)
              have HQQ := Lib.hid (HQ.out.trans HQX.out)
              have e1 := HQQ.out.cell E0.out
              have e2 := HQQ.out.cell (h10 j _ (row_at2 HRI.out (by rw [HKL.out]; exact hlt2)))
              obtain ⟨t, ht⟩ : ∃ t, at2 l i j = t := ⟨_, rfl⟩
              rw [ht] at e2
              have HTR := Lib.hid (show cellsI (rwF (zoF (at2 l)) i (j + 1)) = cellsI (rwF (zoF (at2 l)) i j) ++ [.int .i64 (if t then 0 else 1)] by rw [rwF_succ, cellsI_app, ← ht]; rfl)
              have K2 := Lib.hid (show j + 1 ≤ maxLen by unfold maxLen; omega)
              have K3 := Lib.hid (show (j + 1) * 8 ≤ 140737488355328 by omega)
              clear h10 ht
              cases t with
              | true =>
                have q7 := (Own.refl wr).alloc (.cells #[.int .i64 0] 3)
                have HRO := Lib.hid (row_own HROW.out q7)
                have HCE := Lib.hid (cel_lit (w := wr) (T := 3) (cs := #[.int .i64 0]) (xs := [.int .i64 0]) (k := 1) rfl rfl (by unfold maxLen; decide))
                have HQ7 := Lib.hid (HQX.out.trans q7)
                clear q7
                go_wp2_with (at_builtin; refine wpList_append_f (by go_simp) _ _ 23 rfl w5.heap.size 3 ii (.int .i64 0) 8 Try.underlying23 HI.out HZ0.out HZ1.out HZ2.out rfl (.slice Ar j cr) j (cellsI (rwF (zoF (at2 l)) i j)) rfl HRO.out _ [.int .i64 0] rfl HCE.out (fun x hx => by rw [List.mem_singleton.1 hx]; rfl) (j + 1) rfl K2.out K3.out HQ7.out.size ?_; intro v8 w8 hown8 hgr8 _; obtain ⟨A8, c8, rfl⟩ := rows_shape hown8; have HOWN8 := Lib.hid hown8; have HGR8 := Lib.hid (row_after HQ7.out HRO.out hgr8 (Nat.le_refl _)); clear hown8 hgr8)
                go_roundw
                case rel => exact ⟨j + 1, A8, c8, by go_num, rfl, hlt2, HGR8.out, by rw [HTR.out]; exact HOWN8.out⟩
                case measure => simp [intOf]; omega
              | false =>
                have q7 := (Own.refl wr).alloc (.cells #[.int .i64 1] 3)
                have HRO := Lib.hid (row_own HROW.out q7)
                have HCE := Lib.hid (cel_lit (w := wr) (T := 3) (cs := #[.int .i64 1]) (xs := [.int .i64 1]) (k := 1) rfl rfl (by unfold maxLen; decide))
                have HQ7 := Lib.hid (HQX.out.trans q7)
                clear q7
                go_wp2_with (at_builtin; refine wpList_append_f (by go_simp) _ _ 23 rfl w5.heap.size 3 ii (.int .i64 0) 8 Try.underlying23 HI.out HZ0.out HZ1.out HZ2.out rfl (.slice Ar j cr) j (cellsI (rwF (zoF (at2 l)) i j)) rfl HRO.out _ [.int .i64 1] rfl HCE.out (fun x hx => by rw [List.mem_singleton.1 hx]; rfl) (j + 1) rfl K2.out K3.out HQ7.out.size ?_; intro v8 w8 hown8 hgr8 _; obtain ⟨A8, c8, rfl⟩ := rows_shape hown8; have HOWN8 := Lib.hid hown8; have HGR8 := Lib.hid (row_after HQ7.out HRO.out hgr8 (Nat.le_refl _)); clear hown8 hgr8)
                go_roundw
                case rel => exact ⟨j + 1, A8, c8, by go_num, rfl, hlt2, HGR8.out, by rw [HTR.out]; exact HOWN8.out⟩
                case measure => simp [intOf]; omega
            · obtain rfl : k = j := by omega
              have q7 := (Own.refl wr).alloc (.cells #[.slice Ar k cr] 23)
              have HU9 := Lib.hid (row_own HROW.out q7)
              have HQ9 := Lib.hid (HQX.out.trans q7)
              have HRO := Lib.hid (by have h := row_own HTV.out.out HQ9.out; rw [HLT.out] at h; exact h)
              have HCE := Lib.hid (cel_lit (w := wr) (T := 23) (cs := #[.slice Ar k cr]) (xs := [.slice Ar k cr]) (k := 1) rfl rfl (by unfold maxLen; decide))
              have HBS := Lib.hid (Nat.le_trans HBB.out HQ9.out.size)
              have K3 := Lib.hid (show i + 1 ≤ maxLen by unfold maxLen; omega)
              have K4 := Lib.hid (show (i + 1) * 24 ≤ 140737488355328 by omega)
              clear q7
              go_wp2_with (at_builtin; refine wpList_append_f (by go_simp) _ _ 22 rfl w.heap.size 23 ri (.slice none 0 0) 24 Try.underlying22 JI.out JZ0.out JZ1.out JZ2.out rfl (.slice Ao i co) i vs rfl HRO.out _ [.slice Ar k cr] rfl HCE.out (fun x hx => by rw [List.mem_singleton.1 hx]; rfl) (i + 1) rfl K3.out K4.out HBS.out ?_; intro v10 w10 hown10 hgr10 _; obtain ⟨A10, c10, rfl⟩ := rows_shape hown10; have HOWN10 := Lib.hid hown10; have HGR10 := Lib.hid hgr10; clear hown10 hgr10)
              go_roundw
              case rel =>
                have hys : (cellsI (rwF (zoF (at2 l)) i k)).length = k := by rw [cellsI_len, rwF_len]
                refine ⟨i + 1, A10, c10, vs ++ [.slice Ar k cr], by go_num, rfl, hlt, row_after (HQ.out.trans HQ9.out) HRO.out HGR10.out (Nat.le_refl _), ?_, fun a r' ha hr' => ?_⟩
                · rw [cellsG_tbF]
                  refine TabV.more (by decide) HTV.out HQ9.out (by rw [hys]; exact HU9.out) (Nat.le_refl _) HBB.out HGR10.out ?_
                  rw [HLT.out]
                  exact HOWN10.out
                · by_cases e : a = i
                  · subst e
                    rw [HRI.out] at hr'
                    injection hr' with hr'
                    rw [← hr']
                    exact HKL.out
                  · exact HOK.out a r' (by omega) hr'
              case measure => simp [intOf]; omega
        · have d0 : ((k : Int) != (n : Int)) = true := bne_iff_ne.2 (by omega)
          go_wp2_with (go_at_call 13; with_reducible refine (awake_at A _).mono ?_; rintro e w3 ⟨rfl, q3⟩; have HQ3 := Lib.hid q3; clear q3)
          go_ret
          exact ⟨rfl, HQ.out.trans HQ3.out⟩
      · obtain rfl : n = i := by omega
        obtain ⟨hsq, hwd⟩ := wd_sq HN.out HOK.out
        have hdom : ∀ i j, at2 l i j = true → i < n ∧ j < n := fun i j h => ⟨by rw [← HN.out]; exact at2_row h, by rw [← hwd]; exact at2_col hsq h⟩
        have HZO := Lib.hid (zo_tbF hdom)
        have HCK := Lib.hid (zo_chk (P := at2 l) b1)
        have HCE := Lib.hid (chk_sq (by rw [HN.out]; omega) (by rw [hwd]; omega) hsq)
        obtain ⟨s, hs⟩ : ∃ s, nuV l = s := ⟨_, rfl⟩
        have HNU := Lib.hid hs
        have HD := Lib.hid (Tab.cels ⟨vs, HTV.out⟩)
        clear hsq hwd hdom hs
        go_upto_region 19 with (go_at_call 14; with_reducible refine (A.solve _ _ 0 _ HD HCK).mono ?_; rintro e w2 ⟨x, M, m, rfl, cx, q2, hb, _⟩; have HQ2 := Lib.hid (HQ.out.trans q2); have HB2 := Lib.hid (hb rfl); clear cx q2 hb)
        have HTW := Lib.hid (HT.out.own HQ2.out)
        go_upto_region 20 with (go_at_call 22; with_reducible refine (psizeOf_at l _ s 0 _ HTW HCE HNU).mono ?_; rintro e w3 ⟨rfl, q3, hmx⟩; have HQ3 := Lib.hid (HQ2.out.trans q3); have HMX := Lib.hid (hmx rfl); clear q3 hmx)
        have hm := HZO.out.best HB2.out HMX.out
        rw [tbF_len] at hm
        have hm0 : 0 ≤ m := by
          obtain ⟨_, _, hrg⟩ := chA_ok HCK.out
          have h := costK_bound hrg M (tbF (zoF (at2 l)) n n).length
          have e := HB2.out.eq
          unfold cost at e
          rw [e] at h
          exact h.1
        have d1 : (m == (n : Int) - (s : Int)) = true := beq_iff_eq.2 hm
        have hsn : s ≤ n := by omega
        clear hm
        go_wp2_with (go_at_call 13; with_reducible refine (awake_at A _).mono ?_; rintro e w9 ⟨rfl, q9⟩; have HQ9 := Lib.hid q9; clear q9)
        go_ret
        exact ⟨rfl, HQ3.out.trans HQ9.out⟩
end
end Go.Proofs.Ytfhdoeajoeaddaa.AsgW
