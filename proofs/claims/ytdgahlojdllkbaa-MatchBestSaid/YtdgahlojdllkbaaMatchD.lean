/-
  Walk of the specification of package match: Match. Condition: none.
-/
import Derived.Test.YtdgahlojdllkbaaMatchC
import Derived.Test.YtdgahlojdllkbaaMatchPlainC
namespace Go.Proofs.Ytdgahlojdllkbaa.MchW
open Go.ChangeShapes Go.WideShapes Go.ChangeAt Go.RowKit
open PairW CelW TabW MchP
theorem pu_rst {l : List (List Bool)} {p u : List Int} {c k : Nat} (h : Us l p u) (hm : Mx (Pu l (p.length + 1) (u ++ [(c : Int)])) k) : Mx (Rst l (p ++ [(c : Int)])) k :=
  Mx.congr hm fun i d => by
    unfold Pu Rst
    rw [List.length_append, List.mem_append, List.mem_append, h.mem]
    exact Iff.rfl
theorem ne_after {w : World} {base n : Nat} {e : TypeId} {u v v' : Value} {xs : List Value} (hu : w.ownsRow base e 1 u n xs) (hn : v.ownBlock ≠ u.ownBlock) (h : v'.ownBlock = v.ownBlock ∨ v'.ownBlock = some w.heap.size) : v'.ownBlock ≠ u.ownBlock := by
  rcases h with h | h
  · rw [h]; exact hn
  · rw [h]
    intro e
    have := (hu.lt _ e.symm).2
    omega
set_option maxRecDepth 100000 in
set_option maxHeartbeats 8000000 in
theorem rmatch_at (l : List (List Bool)) (vl : Value) (M : List Int) (f : Int) (w : World) (HT : Hid (Cels w vl (cellsB l))) (HF : Hid (chkE l = f)) (HN : Hid (maV l = M)) :
    Calls Try.prog 17 #[vl] w fun e w' => ∃ v, e = .returned (.tuple #[v, .int .i64 f]) ∧ w'.ownsRow w.heap.size 3 1 v M.length (cellsI M) ∧ Own w w' := by
  obtain ⟨n, hn⟩ : ∃ n, nuV l = n := ⟨_, rfl⟩
  have HNU := Lib.hid hn
  have hcall := rsize_at l vl n f w HT HF HNU
  by_cases h0 : f = 0
  · subst h0
    obtain ⟨i0, hi, hz0, hz1, hz2⟩ := info_parts (show (Try.prog.info? 3).map (fun i => (i.zero, i.size, i.bytes)) = some (some (.int .i64 0), 1, 8) by kernel_rfl)
    have HI := Lib.hid hi
    have HZ0 := Lib.hid hz0
    have HZ1 := Lib.hid hz1
    have HZ2 := Lib.hid hz2
    clear hi hz0 hz1 hz2 hn
    obtain ⟨b1, b2, b3⟩ := chk_ok HF.out
    obtain ⟨R, hR⟩ : ∃ R, l.length = R := ⟨_, rfl⟩
    obtain ⟨W, hW⟩ : ∃ W, wd l = W := ⟨_, rfl⟩
    rw [hR] at b1
    rw [hW] at b2
    have HR := Lib.hid hR
    have HW := Lib.hid hW
    have HS := Lib.hid b3
    clear hR hW b3
    obtain ⟨AL, capl, rfl, t1, t2, _⟩ := tb_open HT.out
    rw [HR.out] at t1 HT hcall ⊢
    unfold maxLen at t2
    go_enter Try.func17, Try.ntmps17
    go_upto_region 4 with (go_at_call 12; refine hcall.mono ?_; rintro e w1 ⟨rfl, q1, hm1⟩; have HQ1 := Lib.hid q1; have HMX := Lib.hid (hm1 rfl); clear q1 hm1)
    clear hcall
    go_upto_region 5 with (fail)
    have r1 := World.ownsRow_made (base := w.heap.size) (e := 3) (size := 1) w1 #[] 0 HQ1.out.size (Nat.zero_le _) rfl
    have q2 : Own w1 (w1.alloc (.cells #[] 3)) := (Own.refl w1).alloc _
    have r2 := World.ownsRow_made (base := w.heap.size) (e := 3) (size := 1) (w1.alloc (.cells #[] 3)) #[] 0 (Nat.le_trans HQ1.out.size q2.size) (Nat.zero_le _) rfl
    have q3 := q2.alloc (.cells #[] 3)
    have r3 := row_own r1 ((Own.refl (w1.alloc (.cells #[] 3))).alloc (.cells #[] 3))
    have hsz : (w1.alloc (.cells #[] 3)).heap.size = w1.heap.size + 1 := by go_simp
    rw [hsz] at r2
    have HR2 := Lib.hid r2
    have HR3 := Lib.hid r3
    have HQ3 := Lib.hid (HQ1.out.trans q3)
    have HNE := Lib.hid (show (Value.slice (some ⟨w1.heap.size, 0, none⟩) 0 0).ownBlock ≠ (Value.slice (some ⟨w1.heap.size + 1, 0, none⟩) 0 0).ownBlock from fun e => by
      have e : some w1.heap.size = some (w1.heap.size + 1) := e
      injection e with e
      omega)
    have HUS := Lib.hid (us_nil HMX.out)
    clear r1 r2 r3 q2 q3 hsz
    generalize (w1.alloc (.cells #[] 3)).alloc (.cells #[] 3) = w2 at *
    go_wp2
    go_loopw [6, 7, 8, 9, 10] (fun vo vu vj _ _ wr => ∃ (j : Nat) (p u : List Int), vj = .int .i64 (j : Int) ∧ j ≤ R ∧ Own w wr ∧ wr.ownsRow w.heap.size 3 1 vo j (cellsI p) ∧ wr.ownsRow w.heap.size 3 1 vu u.length (cellsI u) ∧ vo.ownBlock ≠ vu.ownBlock ∧ p.length = j ∧ Us l p u) (fun _ _ vj _ _ _ => R - (intOf vj).toNat)
    case atStart => exact ⟨0, [], [], rfl, Nat.zero_le _, HQ3.out, HR3.out, HR2.out, HNE.out, rfl, HUS.out⟩
    case round =>
      clear HR2 HR3 HQ3 HNE HUS
      obtain ⟨j, p, u, rfl, hj, q, hro, hru, hne, hpl, hus⟩ := hrel
      have HQ := Lib.hid q
      have HRO := Lib.hid hro
      have HRU := Lib.hid hru
      have HNE := Lib.hid hne
      have HPL := Lib.hid hpl
      have HUS := Lib.hid hus
      have hul := hus.small
      rw [hpl] at hul
      obtain ⟨Ao, co, rfl⟩ := rows_shape hro
      obtain ⟨z, hz⟩ : ∃ z, u.length = z := ⟨_, rfl⟩
      rw [hz] at hul hru HRU
      obtain ⟨Au, cu, rfl⟩ := rows_shape hru
      have HZ := Lib.hid hz
      clear q hro hru hne hpl hus hz
      generalize wr = w5 at *
      by_cases hlt : j < R
      · have hjz : (j : Int) < R := by omega
        go_wp2
        go_loopw [9, 10] (fun vg vc wx => ∃ (c : Nat) (got : Int), vc = .int .i64 (c : Int) ∧ vg = .int .i64 got ∧ c ≤ W ∧ Own w5 wx ∧ Gq l p c got) (fun _ vc _ => W - (intOf vc).toNat)
        case atStart => exact ⟨0, -1, rfl, rfl, Nat.zero_le _, Own.refl _, gq_zero l p⟩
        case round =>
          obtain ⟨c, got, rfl, rfl, hc, q, hgq⟩ := hrel
          have HQX := Lib.hid q
          have HTX := Lib.hid (HT.out.own (HQ.out.trans q))
          have HCU := Lib.hid (show Cel wr (.slice Au z cu) (cellsI u) from (cel_of_row HRU.out).own q)
          have hcols := rcols_at l (.slice AL R capl) W wr HTX HW
          clear q
          generalize wr = w6 at *
          rcases hgq with ⟨rfl, hno⟩ | ⟨g, rfl, hgc, hext, hno⟩
          · have HNO := Lib.hid hno
            clear hno
            by_cases hcW : c < W
            · have hcz : (c : Int) < W := by omega
              obtain ⟨gl, ol, cpl, A2, cr, he, _, _, e1, h4, h5, hrow⟩ := tb_row HTX.out HS.out HR.out HW.out hlt
              injection he with ea eb ec
              subst ea
              subst ec
              obtain ⟨g2, og, rfl, e2⟩ := hrow c hcW
              unfold maxLen at h5
              clear hrow eb
              cases hp : at2 l j c with
              | false =>
                rw [hp] at e2
                have HN2 := Lib.hid (gq_no HNO.out fun h => by have := (ext_perm h).1; rw [HPL.out, hp] at this; cases this)
                clear hp
                go_wp2_with (go_at_call 28; refine hcols.mono ?_; rintro e w7 ⟨rfl, rfl⟩)
                go_roundw
                case rel => exact ⟨c + 1, -1, by go_num, rfl, hcW, HQX.out, .inl ⟨rfl, HN2.out⟩⟩
                case measure => simp [intOf]; omega
              | true =>
                rw [hp] at e2
                have HP := Lib.hid hp
                clear hp
                obtain ⟨t, ht⟩ : ∃ t, decide ((c : Int) ∈ u) = t := ⟨_, rfl⟩
                have HTT := Lib.hid ht
                have hhas := rhas_at u (.slice Au z cu) (c : Int) t w6 HCU HTT
                clear ht
                cases t with
                | true =>
                  have HN2 := Lib.hid (gq_no HNO.out fun h => (ext_perm h).2 ((HUS.out.mem c).1 (of_decide_eq_true HTT.out)))
                  go_wp2_with (first
                    | (go_at_call 28; refine hcols.mono ?_; rintro e w7 ⟨rfl, rfl⟩)
                    | (go_at_call 31; refine hhas.mono ?_; rintro e w7 ⟨rfl, rfl⟩))
                  go_roundw
                  case rel => exact ⟨c + 1, -1, by go_num, rfl, hcW, HQX.out, .inl ⟨rfl, HN2.out⟩⟩
                  case measure => simp [intOf]; omega
                | false =>
                  have HPC := Lib.hid (show IsP l (p ++ [(c : Int)]) from HUS.out.isP.snoc (by rw [HPL.out]; exact HP.out) fun h => of_decide_eq_false HTT.out ((HUS.out.mem c).2 h))
                  have HSZ := Lib.hid (show sz (p ++ [(c : Int)]) = z + 1 by rw [sz_snoc, if_neg (by omega), ← HUS.out.len, HZ.out])
                  have HRM := Lib.hid (show (w6.alloc (.cells #[] 3)).ownsRow w6.heap.size 3 1 (.slice (some ⟨w6.heap.size, 0, none⟩) 0 0) 0 [] from World.ownsRow_made w6 #[] 0 (Nat.le_refl _) (Nat.zero_le _) rfl)
                  have HCU2 := Lib.hid (HCU.out.own ((Own.refl w6).alloc (.cells #[] 3)))
                  have HL1 := Lib.hid (show 0 + (cellsI u).length = z by rw [cellsI_len, HZ.out, Nat.zero_add])
                  have HL2 := Lib.hid (show z ≤ maxLen by unfold maxLen; omega)
                  have HL3 := Lib.hid (show z * 8 ≤ 140737488355328 by omega)
                  have HL4 := Lib.hid (show z + 1 ≤ maxLen by unfold maxLen; omega)
                  have HL5 := Lib.hid (show (z + 1) * 8 ≤ 140737488355328 by omega)
                  have HQA := Lib.hid (show Own w6 (w6.alloc (.cells #[] 3)) from (Own.refl w6).alloc _)
                  have HMOST := Lib.hid (show ∀ w9 v9, Own w6 w9 → Cel w9 v9 (cellsI (u ++ [(c : Int)])) → Calls Try.prog 26 #[.slice (some ⟨gl, ol, none⟩) R capl, .int .i64 ((j : Int) + 1), v9] w9 fun e w' => ∃ n : Nat, e = .returned (.int .i64 (n : Int)) ∧ Own w9 w' ∧ Mx (Pu l (j + 1) (u ++ [(c : Int)])) n ∧ n ≤ 24 from fun w9 v9 h1 h2 => by
                    have := rmost_at l (j + 1) W R (u ++ [(c : Int)]) (.slice (some ⟨gl, ol, none⟩) R capl) v9 w9 (Lib.hid (HTX.out.own h1)) (Lib.hid h2) HS HR HW b2 b1 hlt
                    rw [show ((j + 1 : Nat) : Int) = (j : Int) + 1 from by omega] at this
                    exact this)
                  have HCAT := Lib.hid (show ∀ w9 v9, Cel w9 v9 ([] ++ cellsI u ++ [.int .i64 (c : Int)]) → Cel w9 v9 (cellsI (u ++ [(c : Int)])) from fun w9 v9 h => by rw [cellsI_app]; exact h)
                  by_cases hx : Ext l (p ++ [(c : Int)])
                  · have HX := Lib.hid hx
                    have HKEY := Lib.hid (show ∀ k : Nat, Mx (Pu l (j + 1) (u ++ [(c : Int)])) k → ((z : Int) + 1 + (k : Int) == (n : Int)) = true from fun k hk => by
                      have := (ext_iff HPC.out HMX.out (pu_rst HUS.out (by rw [HPL.out]; exact hk))).1 hx
                      rw [HSZ.out] at this
                      exact beq_iff_eq.2 (by omega))
                    clear hx
                    go_upto_region 12 with (go_at_call 28; refine hcols.mono ?_; rintro e w7 ⟨rfl, rfl⟩)
                    go_wp2_with (first
                      | (go_at_call 31; refine hhas.mono ?_; rintro e w7 ⟨rfl, rfl⟩)
                      | (at_builtin; refine wpList_append_r (by go_simp) _ _ 29 rfl w6.heap.size 3 i0 (.int .i64 0) 8 Try.underlying29 HI.out HZ0.out HZ1.out HZ2.out rfl _ 0 [] rfl HRM.out _ (cellsI u) rfl HCU2.out (cellsI_one u) z HL1.out HL2.out HL3.out HQA.out.size ?_; intro v8 w8 hown8 hstay8 hsz8; obtain ⟨A8, c8, rfl⟩ := rows_shape hown8; have HQ8 := Lib.hid ((hstay8 w6 HQA.out (Nat.le_refl _)).alloc (.cells #[.int .i64 (c : Int)] 3)); have HRM2 := Lib.hid (row_own hown8 ((Own.refl w8).alloc (.cells #[.int .i64 (c : Int)] 3))); have HCE := Lib.hid (cel_lit (w := w8) (T := 3) (cs := #[.int .i64 (c : Int)]) (xs := [.int .i64 (c : Int)]) (k := 1) rfl rfl (by unfold maxLen; decide)); clear hown8 hstay8 hsz8)
                      | (at_builtin; refine wpList_append_r (by go_simp) _ _ 29 rfl w6.heap.size 3 i0 (.int .i64 0) 8 Try.underlying29 HI.out HZ0.out HZ1.out HZ2.out rfl _ z _ rfl HRM2.out _ [.int .i64 (c : Int)] rfl HCE.out (fun x hx => by rw [List.mem_singleton.1 hx]; rfl) (z + 1) rfl HL4.out HL5.out HQ8.out.size ?_; intro v9 w9 hown9 hstay9 hsz9; obtain ⟨A9, c9, rfl⟩ := rows_shape hown9; have HQ9 := Lib.hid (hstay9 w6 HQ8.out (Nat.le_refl _)); have hmost := HMOST.out w9 (.slice A9 (z + 1) c9) HQ9.out (HCAT.out _ _ (cel_of_row hown9)); clear hown9 hstay9 hsz9)
                      | (go_at_call 26; refine hmost.mono ?_; rintro e w10 ⟨k, rfl, q10, hmk, hk24⟩; have HQ10 := Lib.hid (HQ9.out.trans q10); have HKD := Lib.hid (HKEY.out k hmk); have hkd := HKD.out; clear q10 hmk hmost))
                    go_roundw
                    case rel => exact ⟨c + 1, (c : Int), by go_num, rfl, hcW, HQX.out.trans HQ10.out, .inr ⟨c, rfl, Nat.lt_succ_self _, HX.out, HNO.out⟩⟩
                    case measure => simp [intOf]; omega
                  · have HN2 := Lib.hid (gq_no HNO.out hx)
                    have HKEY := Lib.hid (show ∀ k : Nat, Mx (Pu l (j + 1) (u ++ [(c : Int)])) k → ((z : Int) + 1 + (k : Int) == (n : Int)) = false from fun k hk => by
                      refine beq_eq_false_iff_ne.2 fun e => hx ((ext_iff HPC.out HMX.out (pu_rst HUS.out (by rw [HPL.out]; exact hk))).2 ?_)
                      rw [HSZ.out]
                      omega)
                    clear hx
                    go_upto_region 12 with (go_at_call 28; refine hcols.mono ?_; rintro e w7 ⟨rfl, rfl⟩)
                    go_wp2_with (first
                      | (go_at_call 31; refine hhas.mono ?_; rintro e w7 ⟨rfl, rfl⟩)
                      | (at_builtin; refine wpList_append_r (by go_simp) _ _ 29 rfl w6.heap.size 3 i0 (.int .i64 0) 8 Try.underlying29 HI.out HZ0.out HZ1.out HZ2.out rfl _ 0 [] rfl HRM.out _ (cellsI u) rfl HCU2.out (cellsI_one u) z HL1.out HL2.out HL3.out HQA.out.size ?_; intro v8 w8 hown8 hstay8 hsz8; obtain ⟨A8, c8, rfl⟩ := rows_shape hown8; have HQ8 := Lib.hid ((hstay8 w6 HQA.out (Nat.le_refl _)).alloc (.cells #[.int .i64 (c : Int)] 3)); have HRM2 := Lib.hid (row_own hown8 ((Own.refl w8).alloc (.cells #[.int .i64 (c : Int)] 3))); have HCE := Lib.hid (cel_lit (w := w8) (T := 3) (cs := #[.int .i64 (c : Int)]) (xs := [.int .i64 (c : Int)]) (k := 1) rfl rfl (by unfold maxLen; decide)); clear hown8 hstay8 hsz8)
                      | (at_builtin; refine wpList_append_r (by go_simp) _ _ 29 rfl w6.heap.size 3 i0 (.int .i64 0) 8 Try.underlying29 HI.out HZ0.out HZ1.out HZ2.out rfl _ z _ rfl HRM2.out _ [.int .i64 (c : Int)] rfl HCE.out (fun x hx => by rw [List.mem_singleton.1 hx]; rfl) (z + 1) rfl HL4.out HL5.out HQ8.out.size ?_; intro v9 w9 hown9 hstay9 hsz9; obtain ⟨A9, c9, rfl⟩ := rows_shape hown9; have HQ9 := Lib.hid (hstay9 w6 HQ8.out (Nat.le_refl _)); have hmost := HMOST.out w9 (.slice A9 (z + 1) c9) HQ9.out (HCAT.out _ _ (cel_of_row hown9)); clear hown9 hstay9 hsz9)
                      | (go_at_call 26; refine hmost.mono ?_; rintro e w10 ⟨k, rfl, q10, hmk, hk24⟩; have HQ10 := Lib.hid (HQ9.out.trans q10); have HKD := Lib.hid (HKEY.out k hmk); have hkd := HKD.out; clear q10 hmk hmost))
                    go_roundw
                    case rel => exact ⟨c + 1, -1, by go_num, rfl, hcW, HQX.out.trans HQ10.out, .inl ⟨rfl, HN2.out⟩⟩
                    case measure => simp [intOf]; omega
            · obtain rfl : W = c := by omega
              have HROX := Lib.hid (row_own HRO.out HQX.out)
              have HRUX := Lib.hid (row_own HRU.out HQX.out)
              have HQ6 := Lib.hid (HQ.out.trans HQX.out)
              have q7 := (Own.refl w6).alloc (.cells #[.int .i64 (-1)] 3)
              have HRO7 := Lib.hid (row_own HROX.out q7)
              have HRU7 := Lib.hid (row_own HRUX.out q7)
              have HQ7 := Lib.hid (HQ6.out.trans q7)
              have HCE := Lib.hid (cel_lit (w := w6) (T := 3) (cs := #[.int .i64 (-1)]) (xs := [.int .i64 (-1)]) (k := 1) rfl rfl (by unfold maxLen; decide))
              have K2 := Lib.hid (show j + 1 ≤ maxLen by unfold maxLen; omega)
              have K3 := Lib.hid (show (j + 1) * 8 ≤ 140737488355328 by omega)
              clear q7
              have HUN := Lib.hid (HUS.out.none HS.out HW.out HNO.out)
              go_wp2_with (first
                | (go_at_call 28; refine hcols.mono ?_; rintro e w7 ⟨rfl, rfl⟩)
                | (at_builtin; refine wpList_append_f (by go_simp) _ _ 29 rfl w.heap.size 3 i0 (.int .i64 0) 8 Try.underlying29 HI.out HZ0.out HZ1.out HZ2.out rfl (.slice Ao j co) j (cellsI p) rfl HRO7.out _ [.int .i64 (-1)] rfl HCE.out (fun x hx => by rw [List.mem_singleton.1 hx]; rfl) (j + 1) rfl K2.out K3.out HQ7.out.size ?_; intro v8 w8 hown8 hgr8 hat8; have HOWN8 := Lib.hid hown8; have HAT8 := Lib.hid hat8; have HRU8 := Lib.hid (HRU7.out.kept hgr8 (.inr fun e => HNE.out e.symm)); have HQ8 := Lib.hid (row_after HQ7.out HRO7.out hgr8 (Nat.le_refl _)); have HNE8 := Lib.hid (ne_after HRU7.out HNE.out hat8); clear hown8 hgr8 hat8))
              go_roundw
              case rel => exact ⟨j + 1, p ++ [-1], u, by go_num, hlt, HQ8.out, by have := HOWN8.out; rw [cellsI_app]; exact this, by rw [HZ.out]; exact HRU8.out, HNE8.out, by rw [List.length_append, HPL.out]; rfl, HUN.out⟩
              case measure => simp [intOf]; omega
          · have HUN := Lib.hid (HUS.out.some hext hno)
            have HROX := Lib.hid (row_own HRO.out HQX.out)
            have HRUX := Lib.hid (row_own HRU.out HQX.out)
            have HQ6 := Lib.hid (HQ.out.trans HQX.out)
            have q7 := (Own.refl w6).alloc (.cells #[.int .i64 (g : Int)] 3)
            have HRO7 := Lib.hid (row_own HROX.out q7)
            have HRU7 := Lib.hid (row_own HRUX.out q7)
            have HQ7 := Lib.hid (HQ6.out.trans q7)
            have HCE := Lib.hid (cel_lit (w := w6) (T := 3) (cs := #[.int .i64 (g : Int)]) (xs := [.int .i64 (g : Int)]) (k := 1) rfl rfl (by unfold maxLen; decide))
            have K2 := Lib.hid (show j + 1 ≤ maxLen by unfold maxLen; omega)
            have K3 := Lib.hid (show (j + 1) * 8 ≤ 140737488355328 by omega)
            clear q7
            have K4 := Lib.hid (show z + 1 ≤ maxLen by unfold maxLen; omega)
            have K5 := Lib.hid (show (z + 1) * 8 ≤ 140737488355328 by omega)
            have dg : ¬ (g : Int) < 0 := by omega
            have dg2 : (0 : Int) ≤ (g : Int) := by omega
            clear hext hno
            by_cases hcW : c < W
            · have hcz : (c : Int) < W := by omega
              go_wp2_with (first
                | (go_at_call 28; refine hcols.mono ?_; rintro e w7 ⟨rfl, rfl⟩)
                | (at_builtin; refine wpList_append_f (by go_simp) _ _ 29 rfl w.heap.size 3 i0 (.int .i64 0) 8 Try.underlying29 HI.out HZ0.out HZ1.out HZ2.out rfl (.slice Ao j co) j (cellsI p) rfl HRO7.out _ [.int .i64 (g : Int)] rfl HCE.out (fun x hx => by rw [List.mem_singleton.1 hx]; rfl) (j + 1) rfl K2.out K3.out HQ7.out.size ?_; intro v8 w8 hown8 hgr8 hat8; have HOWN8 := Lib.hid hown8; have HAT8 := Lib.hid hat8; have HRU8 := Lib.hid (HRU7.out.kept hgr8 (.inr fun e => HNE.out e.symm)); have HQ8 := Lib.hid (row_after HQ7.out HRO7.out hgr8 (Nat.le_refl _)); have HNE8 := Lib.hid (ne_after HRU7.out HNE.out hat8); clear hown8 hgr8 hat8; have HQ9 := Lib.hid (HQ8.out.alloc (.cells #[.int .i64 (g : Int)] 3)); have HRU9 := Lib.hid (row_own HRU8.out ((Own.refl w8).alloc (.cells #[.int .i64 (g : Int)] 3))); have HRO9 := Lib.hid (row_own HOWN8.out ((Own.refl w8).alloc (.cells #[.int .i64 (g : Int)] 3))); have HCE9 := Lib.hid (cel_lit (w := w8) (T := 3) (cs := #[.int .i64 (g : Int)]) (xs := [.int .i64 (g : Int)]) (k := 1) rfl rfl (by unfold maxLen; decide)))
                | (at_builtin; refine wpList_append_f (by go_simp) _ _ 29 rfl w.heap.size 3 i0 (.int .i64 0) 8 Try.underlying29 HI.out HZ0.out HZ1.out HZ2.out rfl (.slice Au z cu) z (cellsI u) rfl HRU9.out _ [.int .i64 (g : Int)] rfl HCE9.out (fun x hx => by rw [List.mem_singleton.1 hx]; rfl) (z + 1) rfl K4.out K5.out HQ9.out.size ?_; intro v10 w10 hown10 hgr10 hat10; have HOWN10 := Lib.hid hown10; have HRO10 := Lib.hid (HRO9.out.kept hgr10 (.inr HNE8.out)); have HQ10 := Lib.hid (row_after HQ9.out HRU9.out hgr10 (Nat.le_refl _)); have HNE10 := Lib.hid (fun e => ne_after (v := .slice Au z cu) HRO9.out (fun e => HNE8.out e.symm) hat10 (Eq.symm e)); clear hown10 hgr10 hat10))
              go_roundw
              case rel =>
                have hl : (u ++ [(g : Int)]).length = z + 1 := by rw [List.length_append, HZ.out]; rfl
                exact ⟨j + 1, p ++ [(g : Int)], u ++ [(g : Int)], by go_num, hlt, HQ10.out, by have := HRO10.out; rw [cellsI_app]; exact this, by have := HOWN10.out; rw [hl, cellsI_app]; exact this, HNE10.out, by rw [List.length_append, HPL.out]; rfl, HUN.out⟩
              case measure => simp [intOf]; omega
            · have hcz : ¬ (c : Int) < W := by omega
              go_wp2_with (first
                | (go_at_call 28; refine hcols.mono ?_; rintro e w7 ⟨rfl, rfl⟩)
                | (at_builtin; refine wpList_append_f (by go_simp) _ _ 29 rfl w.heap.size 3 i0 (.int .i64 0) 8 Try.underlying29 HI.out HZ0.out HZ1.out HZ2.out rfl (.slice Ao j co) j (cellsI p) rfl HRO7.out _ [.int .i64 (g : Int)] rfl HCE.out (fun x hx => by rw [List.mem_singleton.1 hx]; rfl) (j + 1) rfl K2.out K3.out HQ7.out.size ?_; intro v8 w8 hown8 hgr8 hat8; have HOWN8 := Lib.hid hown8; have HAT8 := Lib.hid hat8; have HRU8 := Lib.hid (HRU7.out.kept hgr8 (.inr fun e => HNE.out e.symm)); have HQ8 := Lib.hid (row_after HQ7.out HRO7.out hgr8 (Nat.le_refl _)); have HNE8 := Lib.hid (ne_after HRU7.out HNE.out hat8); clear hown8 hgr8 hat8; have HQ9 := Lib.hid (HQ8.out.alloc (.cells #[.int .i64 (g : Int)] 3)); have HRU9 := Lib.hid (row_own HRU8.out ((Own.refl w8).alloc (.cells #[.int .i64 (g : Int)] 3))); have HRO9 := Lib.hid (row_own HOWN8.out ((Own.refl w8).alloc (.cells #[.int .i64 (g : Int)] 3))); have HCE9 := Lib.hid (cel_lit (w := w8) (T := 3) (cs := #[.int .i64 (g : Int)]) (xs := [.int .i64 (g : Int)]) (k := 1) rfl rfl (by unfold maxLen; decide)))
                | (at_builtin; refine wpList_append_f (by go_simp) _ _ 29 rfl w.heap.size 3 i0 (.int .i64 0) 8 Try.underlying29 HI.out HZ0.out HZ1.out HZ2.out rfl (.slice Au z cu) z (cellsI u) rfl HRU9.out _ [.int .i64 (g : Int)] rfl HCE9.out (fun x hx => by rw [List.mem_singleton.1 hx]; rfl) (z + 1) rfl K4.out K5.out HQ9.out.size ?_; intro v10 w10 hown10 hgr10 hat10; have HOWN10 := Lib.hid hown10; have HRO10 := Lib.hid (HRO9.out.kept hgr10 (.inr HNE8.out)); have HQ10 := Lib.hid (row_after HQ9.out HRU9.out hgr10 (Nat.le_refl _)); have HNE10 := Lib.hid (fun e => ne_after (v := .slice Au z cu) HRO9.out (fun e => HNE8.out e.symm) hat10 (Eq.symm e)); clear hown10 hgr10 hat10))
              go_roundw
              case rel =>
                have hl : (u ++ [(g : Int)]).length = z + 1 := by rw [List.length_append, HZ.out]; rfl
                exact ⟨j + 1, p ++ [(g : Int)], u ++ [(g : Int)], by go_num, hlt, HQ10.out, by have := HRO10.out; rw [cellsI_app]; exact this, by have := HOWN10.out; rw [hl, cellsI_app]; exact this, HNE10.out, by rw [List.length_append, HPL.out]; rfl, HUN.out⟩
              case measure => simp [intOf]; omega
      · obtain rfl : R = j := by omega
        have HB := Lib.hid (HUS.out.best (HPL.out.trans HR.out.symm) HMX.out)
        obtain rfl : p = M := by rw [← HN.out]; exact (HB.out.vals HF.out).2.symm
        go_wp2
        go_ret2
        exact ⟨_, rfl, by rw [HPL.out]; exact HRO.out, HQ.out⟩
  · obtain rfl : [] = M := by rw [← HN.out]; exact (maV_bad (by rw [HF.out]; exact h0)).1.symm
    have d1 : (f == 0) = false := beq_eq_false_iff_ne.2 h0
    have d2 : (f != 0) = true := bne_iff_ne.2 h0
    go_enter Try.func17, Try.ntmps17
    go_wp2_with (go_at_call 12; refine hcall.mono ?_; rintro e w1 ⟨rfl, q1, _⟩; have HQ1 := Lib.hid q1; clear q1)
    go_ret2
    exact ⟨_, rfl, World.ownsRow_nil _ _ _ _, HQ1.out⟩
end Go.Proofs.Ytdgahlojdllkbaa.MchW
