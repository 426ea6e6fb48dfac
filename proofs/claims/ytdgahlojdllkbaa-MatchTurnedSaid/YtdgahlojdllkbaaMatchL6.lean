/-
  Package match: the law MatchTurned walked. Condition: none.
-/
import Derived.Test.YtdgahlojdllkbaaMatchT
import Derived.Test.YtdgahlojdllkbaaMatchPlainG
import Derived.Test.YtdgahlojdllkbaaTabMid
namespace Go.Proofs.Ytdgahlojdllkbaa.MchW
open Go.ChangeShapes Go.WideShapes Go.ChangeAt Go.RowKit
open PairW CelW TabW MchP
theorem cellsB_trn (l : List (List Bool)) (R c : Nat) : cellsB (trn l R (c + 1)) = cellsB (trn l R c) ++ [cellsT (trc l c R)] := by
  unfold cellsB
  rw [trn_succ, List.map_append]
  rfl
set_option maxRecDepth 100000 in
set_option maxHeartbeats 4000000 in
theorem lturned_at (l : List (List Bool)) (vl : Value) (w : World) (HT : Hid (Cels w vl (cellsB l))) :
    Calls Try.prog 9 #[vl] w fun e w' => e = .returned (.bool true) ∧ Own w w' := by
  have HK := Lib.hid (show ∀ w, Calls Try.prog 15 #[] w fun e w' => e = .returned (.bool true) ∧ Own w w' from awake_at)
  obtain ⟨f, hf⟩ : ∃ f, chkE l = f := ⟨_, rfl⟩
  obtain ⟨n, hn⟩ : ∃ n, nuV l = n := ⟨_, rfl⟩
  have HF := Lib.hid hf
  have HN := Lib.hid hn
  clear hf hn
  obtain ⟨AL, capl, rfl, s1, s2, _⟩ := tb_open HT.out
  unfold maxLen at s2
  obtain ⟨R, hR⟩ : ∃ R, l.length = R := ⟨_, rfl⟩
  rw [hR] at s1 HT ⊢
  have HR := Lib.hid hR
  clear hR
  by_cases h0 : f = 0
  · subst h0
    by_cases hR0 : R = 0
    · subst hR0
      have hn0 : n = 0 := by
        rw [← HN.out]
        unfold nuV
        rw [if_pos HF.out]
        refine nu_of ⟨⟨[], pm_nil _, rfl⟩, fun E hE => ?_⟩
        cases E with
        | nil => exact Nat.le_refl _
        | cons a E =>
          have := at2_row (hE.ok a (List.mem_cons_self ..))
          rw [HR.out] at this
          omega
      subst hn0
      go_enter Try.func9, Try.ntmps9
      go_wp2_with (first
        | (go_at_call 11; with_reducible refine (psizeOf_at l _ 0 0 _ HT HF HN).mono ?_; rintro e w1 ⟨rfl, q1, _⟩; have HQ1 := Lib.hid q1; clear q1)
        | (go_at_call 15; with_reducible refine (HK.out _).mono ?_; rintro e w9 ⟨rfl, q9⟩; have HQ9 := Lib.hid q9; clear q9))
      go_ret
      exact ⟨rfl, HQ1.out.trans HQ9.out⟩
    · obtain ⟨b1, b2, b3⟩ := chk_ok HF.out
      obtain ⟨W, hW⟩ : ∃ W, wd l = W := ⟨_, rfl⟩
      rw [HR.out] at b1
      rw [hW] at b2
      have HW := Lib.hid hW
      have HS := Lib.hid b3
      have d1 : ((R : Int) == 0) = false := beq_eq_false_iff_ne.2 (by omega)
      have d2 : (0 : Int) < R := by omega
      have d3 : ¬ (24 : Int) < R := by omega
      have d4 : ¬ (24 : Int) < W := by omega
      obtain ⟨bi, hi, hz0, hz1, hz2⟩ := info_parts (show (Try.prog.info? 4).map (fun i => (i.zero, i.size, i.bytes)) = some (some (.bool false), 1, 1) by kernel_rfl)
      have HI := Lib.hid hi
      have HZ0 := Lib.hid hz0
      have HZ1 := Lib.hid hz1
      have HZ2 := Lib.hid hz2
      obtain ⟨ri, hi, hz0, hz1, hz2⟩ := info_parts (show (Try.prog.info? 38).map (fun i => (i.zero, i.size, i.bytes)) = some (some (.slice none 0 0), 1, 24) by kernel_rfl)
      have JI := Lib.hid hi
      have JZ0 := Lib.hid hz0
      have JZ1 := Lib.hid hz1
      have JZ2 := Lib.hid hz2
      obtain ⟨g, off, cap, A0, cr0, he, _, _, e0, p1, p2, _⟩ := tb_row HT.out HS.out HR.out HW.out (show 0 < R by omega)
      injection he with ea eb ec
      subst ea
      subst ec
      rw [Nat.add_zero] at e0
      unfold maxLen at p2
      have HE0 := Lib.hid e0
      have HROWS := Lib.hid (show ∀ i, i < R → ∃ (A : Option Addr) (cr : Nat), w.cell? ⟨g, off + i, none⟩ = some (.slice A W cr) ∧ W ≤ cr ∧ cr ≤ 9223372036854775807 ∧ ∀ c, c < W → ∃ gr og : Nat, A = some ⟨gr, og, none⟩ ∧ w.cell? ⟨gr, og + c, none⟩ = some (.bool (at2 l i c)) from fun i hi => by
        obtain ⟨g', off', cap', A, cr, he, _, _, e1, p1, p2, hrow⟩ := tb_row HT.out HS.out HR.out HW.out hi
        injection he with ea _ _
        injection ea with ea
        injection ea with ea1 ea2
        subst ea1
        subst ea2
        unfold maxLen at p2
        exact ⟨A, cr, e1, p1, p2, hrow⟩)
      clear hi hz0 hz1 hz2 hW b3 e0 eb
      go_enter Try.func9, Try.ntmps9
      go_upto_region 2 with (go_at_call 11; with_reducible refine (psizeOf_at l _ n 0 _ HT HF HN).mono ?_; rintro e w1 ⟨rfl, q1, hmx⟩; have HQW := Lib.hid q1; have HMX := Lib.hid (hmx rfl); have e0 := q1.cell HE0.out; clear q1 hmx)
      go_upto_region 4 with (fail)
      have HTV0 := Lib.hid (show TabV (w1.alloc (.cells #[] 38)) w1.heap.size 38 4 (.slice (some ⟨w1.heap.size, 0, none⟩) 0 0) [] [] from ⟨rfl, World.ownsRow_made w1 #[] 0 (Nat.le_refl _) (Nat.zero_le _) rfl, fun i xs u h => by simp at h, fun i j u x _ h => by simp at h⟩)
      have HQ2 := Lib.hid (show Own w1 (w1.alloc (.cells #[] 38)) from (Own.refl w1).alloc _)
      obtain ⟨b0, hb0⟩ : ∃ b, w1.heap.size = b := ⟨_, rfl⟩
      rw [hb0] at HTV0
      have HB0 := Lib.hid hb0
      go_wp2
      clear hb0 e0
      generalize w1.alloc (.cells #[] 38) = w2 at *
      go_loopw [5, 6, 7, 8] (fun vo vc _ _ wr => ∃ (c go co : Nat) (vs : List Value), vc = .int .i64 (c : Int) ∧ vo = .slice (some ⟨go, 0, none⟩) c co ∧ c ≤ W ∧ Own w1 wr ∧ TabV wr b0 38 4 (.slice (some ⟨go, 0, none⟩) c co) (cellsB (trn l R c)) vs) (fun _ vc _ _ _ => W - (intOf vc).toNat)
      case atStart => exact ⟨0, b0, 0, [], rfl, rfl, Nat.zero_le _, HQ2.out, HTV0.out⟩
      case round =>
        clear HTV0 HQ2
        obtain ⟨c, go, co, vs, rfl, rfl, hc, q, htv⟩ := hrel
        have HQ := Lib.hid q
        have HTV := Lib.hid htv
        have HBB := Lib.hid (show b0 ≤ wr.heap.size by rw [← HB0.out]; exact q.size)
        have HLT := Lib.hid (show (cellsB (trn l R c)).length = c by rw [cellsB_len, trn_len])
        have e0 := q.cell (HQW.out.cell HE0.out)
        clear q htv
        by_cases hlt : c < W
        · have hcz : (c : Int) < W := by omega
          have HRM := Lib.hid (show (wr.alloc (.cells #[] 4)).ownsRow wr.heap.size 4 1 (.slice (some ⟨wr.heap.size, 0, none⟩) 0 0) 0 (cellsT (trc l c 0)) from World.ownsRow_made wr #[] 0 (Nat.le_refl _) (Nat.zero_le _) rfl)
          have HQA := Lib.hid (show Own wr (wr.alloc (.cells #[] 4)) from (Own.refl wr).alloc _)
          generalize wr = w5 at *
          go_wp2
          clear e0
          go_loopw [7, 8] (fun vr vi wx => ∃ (i gr cr : Nat), vi = .int .i64 (i : Int) ∧ vr = .slice (some ⟨gr, 0, none⟩) i cr ∧ i ≤ R ∧ Own w5 wx ∧ wx.ownsRow w5.heap.size 4 1 (.slice (some ⟨gr, 0, none⟩) i cr) i (cellsT (trc l c i))) (fun _ vi _ => R - (intOf vi).toNat)
          case atStart => exact ⟨0, _, _, rfl, rfl, Nat.zero_le _, HQA.out, HRM.out⟩
          case round =>
            clear HRM HQA
            obtain ⟨i, gr, cr, rfl, rfl, hi, q, hrow⟩ := hrel
            have HQX := Lib.hid q
            have HROW := Lib.hid hrow
            clear q hrow
            by_cases hlt2 : i < R
            · have hiz : (i : Int) < R := by omega
              obtain ⟨A, cr2, e1', p1, p2, hcells⟩ := HROWS.out i hlt2
              obtain ⟨g2, og, rfl, e2'⟩ := hcells c hlt
              have HQQ := Lib.hid ((HQW.out.trans HQ.out).trans HQX.out)
              have e1 := HQQ.out.cell e1'
              have e2 := HQQ.out.cell e2'
              have d5 : ¬ (W : Int) ≤ (c : Int) := by omega
              obtain ⟨t, ht⟩ : ∃ t, at2 l i c = t := ⟨_, rfl⟩
              rw [ht] at e2
              have HTR := Lib.hid (show cellsT (trc l c (i + 1)) = cellsT (trc l c i) ++ [.bool t] by rw [trc_succ, ht]; unfold cellsT; rw [List.map_append]; rfl)
              have q7 := (Own.refl wr).alloc (.cells #[.bool t] 4)
              have HRO := Lib.hid (row_own HROW.out q7)
              have HCE := Lib.hid (cel_lit (w := wr) (T := 4) (cs := #[.bool t]) (xs := [.bool t]) (k := 1) rfl rfl (by unfold maxLen; decide))
              have HQ7 := Lib.hid (HQX.out.trans q7)
              have K2 := Lib.hid (show i + 1 ≤ maxLen by unfold maxLen; omega)
              have K3 := Lib.hid (show (i + 1) * 1 ≤ 140737488355328 by omega)
              clear q7 hcells e1' e2' ht
              go_wp2_with (at_builtin; refine wpList_append_c (by go_simp) _ _ 38 rfl w5.heap.size 4 bi (.bool false) 1 Try.underlying38 HI.out HZ0.out HZ1.out HZ2.out rfl gr i cr (cellsT (trc l c i)) rfl HRO.out _ [.bool t] rfl HCE.out (fun x hx => by rw [List.mem_singleton.1 hx]; rfl) (i + 1) rfl K2.out K3.out HQ7.out.size ?_; intro g8 c8 w8 hown8 hgr8; have HOWN8 := Lib.hid hown8; have HGR8 := Lib.hid hgr8; clear hown8 hgr8)
              go_roundw
              case rel => exact ⟨i + 1, g8, c8, by go_num, rfl, hlt2, row_after HQ7.out HRO.out HGR8.out (Nat.le_refl _), by rw [HTR.out]; exact HOWN8.out⟩
              case measure => simp [intOf]; omega
            · obtain rfl : R = i := by omega
              have q7 := (Own.refl wr).alloc (.cells #[.slice (some ⟨gr, 0, none⟩) R cr] 38)
              have HU9 := Lib.hid (row_own HROW.out q7)
              have HQ9 := Lib.hid (HQX.out.trans q7)
              have HRO := Lib.hid (by have h := row_own HTV.out.out HQ9.out; rw [HLT.out] at h; exact h)
              have HCE := Lib.hid (cel_lit (w := wr) (T := 38) (cs := #[.slice (some ⟨gr, 0, none⟩) R cr]) (xs := [.slice (some ⟨gr, 0, none⟩) R cr]) (k := 1) rfl rfl (by unfold maxLen; decide))
              have HBS := Lib.hid (Nat.le_trans HBB.out HQ9.out.size)
              have K3 := Lib.hid (show c + 1 ≤ maxLen by unfold maxLen; omega)
              have K4 := Lib.hid (show (c + 1) * 24 ≤ 140737488355328 by omega)
              clear q7
              go_wp2_with (at_builtin; refine wpList_append_c (by go_simp) _ _ 22 rfl b0 38 ri (.slice none 0 0) 24 Try.underlying22 JI.out JZ0.out JZ1.out JZ2.out rfl go c co vs rfl HRO.out _ [.slice (some ⟨gr, 0, none⟩) R cr] rfl HCE.out (fun x hx => by rw [List.mem_singleton.1 hx]; rfl) (c + 1) rfl K3.out K4.out HBS.out ?_; intro g10 c10 w10 hown10 hgr10; have HOWN10 := Lib.hid hown10; have HGR10 := Lib.hid hgr10; clear hown10 hgr10)
              go_roundw
              case rel =>
                have hys : (cellsT (trc l c R)).length = R := by rw [cellsT_len, trc_len]
                refine ⟨c + 1, g10, c10, vs ++ [.slice (some ⟨gr, 0, none⟩) R cr], by go_num, rfl, hlt, row_after (HQ.out.trans HQ9.out) HRO.out HGR10.out (Nat.le_of_eq HB0.out), ?_⟩
                rw [cellsB_trn]
                refine TabV.more (by decide) HTV.out HQ9.out (by rw [hys]; exact HU9.out) (Nat.le_refl _) HBB.out HGR10.out ?_
                rw [HLT.out]
                exact HOWN10.out
              case measure => simp [intOf]; omega
        · obtain rfl : W = c := by omega
          obtain ⟨k', hk'⟩ : ∃ k, nuV (trn l R W) = k := ⟨_, rfl⟩
          have HNK := Lib.hid hk'
          have HCK := Lib.hid (show chkE (trn l R W) = 0 by rw [← HR.out, ← HW.out]; exact trn_chk HF.out)
          have HCM := Lib.hid HTV.out.cels
          clear hk'
          go_upto_region 17 with (go_at_call 11; with_reducible refine (psizeOf_at (trn l R W) _ k' 0 _ HCM HCK HNK).mono ?_; rintro e w7 ⟨rfl, q7, hmx7⟩; have HQ7 := Lib.hid (HQ.out.trans q7); have HMX7 := Lib.hid (hmx7 rfl); clear q7 hmx7)
          obtain rfl : k' = n := trn_nu HF.out HMX.out (by rw [HR.out, HW.out]; exact HMX7.out)
          go_wp2_with (go_at_call 15; with_reducible refine (HK.out _).mono ?_; rintro e w9 ⟨rfl, q9⟩; have HQ9 := Lib.hid q9; clear q9)
          go_ret
          exact ⟨rfl, (HQW.out.trans HQ7.out).trans HQ9.out⟩
  · have d1 : (f == 0) = false := beq_eq_false_iff_ne.2 h0
    have d2 : (f != 0) = true := bne_iff_ne.2 h0
    go_enter Try.func9, Try.ntmps9
    go_wp2_with (first
      | (go_at_call 11; with_reducible refine (psizeOf_at l _ n f _ HT HF HN).mono ?_; rintro e w1 ⟨rfl, q1, _⟩; have HQ1 := Lib.hid q1; clear q1)
      | (go_at_call 15; with_reducible refine (HK.out _).mono ?_; rintro e w9 ⟨rfl, q9⟩; have HQ9 := Lib.hid q9; clear q9))
    go_ret
    exact ⟨rfl, HQ1.out.trans HQ9.out⟩
end Go.Proofs.Ytdgahlojdllkbaa.MchW
