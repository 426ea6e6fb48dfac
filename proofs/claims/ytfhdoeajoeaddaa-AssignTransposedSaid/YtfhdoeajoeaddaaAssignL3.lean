/-
  Package assign: the law AssignTransposed walked, over what it asks of the program. Condition: none.
-/
import Derived.Test.YtfhdoeajoeaddaaAssignT
import Derived.Test.YtfhdoeajoeaddaaAssignPlainH
namespace Go.Proofs.Ytfhdoeajoeaddaa.AsgW
open Go.ChangeShapes Go.WideShapes Go.ChangeAt Go.RowKit
open PairW CelW TabW MchW AsgP
theorem cellsG_app (a b : Tb) : cellsG (a ++ b) = cellsG a ++ cellsG b := List.map_append
theorem cellsG_tbF (g : Nat → Nat → Int) (n k : Nat) : cellsG (tbF g n (k + 1)) = cellsG (tbF g n k) ++ [cellsI (rwF g k n)] := by rw [tbF_succ, cellsG_app]; rfl
theorem tbF_clen (g : Nat → Nat → Int) (n k : Nat) : (cellsG (tbF g n k)).length = k := by rw [cellsG_len, tbF_len]
section
variable (A : AsgC)
include A
set_option maxRecDepth 100000 in
set_option maxHeartbeats 4000000 in
theorem ltrans_at (c : Tb) (vc : Value) (w : World) (HT : Hid (Cels w vc (cellsG c))) :
    Calls Try.prog 9 #[vc] w fun e w' => e = .returned (.bool true) ∧ Own w w' := by
  obtain ⟨f, hf⟩ : ∃ f, chA c = f := ⟨_, rfl⟩
  have HF := Lib.hid hf
  obtain ⟨b, hb⟩ : ∃ b, c.all (fun r => decide (r.length = c.length)) = b := ⟨_, rfl⟩
  have HB := Lib.hid hb
  clear hf hb
  cases b with
  | false =>
    go_enter Try.func9, Try.ntmps9
    go_wp2_with (first
      | (go_at_call 19; with_reducible refine (square_at c vc false _ HT HB).mono ?_; rintro e w1 ⟨rfl, rfl⟩)
      | (go_at_call 13; with_reducible refine (awake_at A _).mono ?_; rintro e w3 ⟨rfl, q3⟩; have HQ3 := Lib.hid q3; clear q3))
    go_ret
    exact ⟨rfl, HQ3.out⟩
  | true =>
    by_cases h0 : f = 0
    · subst h0
      obtain ⟨b1, b2, b3⟩ := chA_ok HF.out
      obtain ⟨n, hn⟩ : ∃ n, c.length = n := ⟨_, rfl⟩
      rw [hn] at b1
      have HN := Lib.hid hn
      have HS := Lib.hid b2
      have HR := Lib.hid b3
      obtain ⟨ii, hi, hz0, hz1, hz2⟩ := info_parts (show (Try.prog.info? 3).map (fun i => (i.zero, i.size, i.bytes)) = some (some (.int .i64 0), 1, 8) by kernel_rfl)
      have HI := Lib.hid hi
      have HZ0 := Lib.hid hz0
      have HZ1 := Lib.hid hz1
      have HZ2 := Lib.hid hz2
      obtain ⟨ri, hi, hz0, hz1, hz2⟩ := info_parts (show (Try.prog.info? 23).map (fun i => (i.zero, i.size, i.bytes)) = some (some (.slice none 0 0), 1, 24) by kernel_rfl)
      have JI := Lib.hid hi
      have JZ0 := Lib.hid hz0
      have JZ1 := Lib.hid hz1
      have JZ2 := Lib.hid hz2
      clear hn b2 b3 hi hz0 hz1 hz2
      have hsq := square_at c vc true w HT HB
      have hck := A.check c vc 0 w HT HF
      obtain ⟨AC, capc, rfl, t1, t2, _⟩ := gt_open HT.out
      rw [HN.out] at t1 HT hsq hck ⊢
      unfold maxLen at t2
      go_enter Try.func9, Try.ntmps9
      go_wp2_with (first
        | (go_at_call 19; refine hsq.mono ?_; rintro e w0 ⟨rfl, rfl⟩)
        | (go_at_call 12; refine hck.mono ?_; rintro e w1 ⟨rfl, q1⟩; have HQ1 := Lib.hid q1; clear q1))
      clear hsq hck
      go_loopw [3, 4, 5, 6] (fun vd vi _ _ wr => ∃ (i : Nat) (A : Option Addr) (co : Nat) (vs : List Value), vi = .int .i64 (i : Int) ∧ vd = .slice A i co ∧ i ≤ n ∧ Own w1 wr ∧ TabV wr w1.heap.size 23 3 (.slice A i co) (cellsG (tbF (fun i j => ct c j i) n i)) vs) (fun _ vi _ _ _ => n - (intOf vi).toNat)
      case atStart => exact ⟨0, none, 0, [], rfl, rfl, Nat.zero_le _, Own.refl _, tab_nil _ _ _ _⟩
      case round =>
        obtain ⟨i, Ao, co, vs, rfl, rfl, hi, q, htv⟩ := hrel
        have HQ := Lib.hid q
        have HTV := Lib.hid htv
        have HBB := Lib.hid q.size
        have HLT := Lib.hid (tbF_clen (fun i j => ct c j i) n i)
        clear q htv
        by_cases hlt : i < n
        · have hiz : (i : Int) < n := by omega
          generalize wr = w5 at *
          go_wp2
          go_loopw [5, 6] (fun vr vj wx => ∃ (j : Nat) (A : Option Addr) (cr : Nat), vj = .int .i64 (j : Int) ∧ vr = .slice A j cr ∧ j ≤ n ∧ Own w5 wx ∧ wx.ownsRow w5.heap.size 3 1 (.slice A j cr) j (cellsI (rwF (fun i j => ct c j i) i j))) (fun _ vj _ => n - (intOf vj).toNat)
          case atStart => exact ⟨0, none, 0, rfl, rfl, Nat.zero_le _, Own.refl _, World.ownsRow_nil _ _ _ _⟩
          case round =>
            obtain ⟨j, Ar, cr, rfl, rfl, hj, q, hrow⟩ := hrel
            have HQX := Lib.hid q
            have HROW := Lib.hid hrow
            clear q hrow
            by_cases hlt2 : j < n
            · have hjz : (j : Int) < n := by omega
              obtain ⟨gl, ol, cpl, gr, og, cr2, he, _, _, e1, h5, h6, hcell⟩ := gt_row (HT.out.own ((HQ1.out.trans HQ.out).trans HQX.out)) HS.out HN.out hlt2
              injection he with ea eb ec
              subst ea
              subst ec
              unfold maxLen at h6
              have e2 := hcell i hlt
              obtain ⟨t, ht⟩ : ∃ t, ct c j i = t := ⟨_, rfl⟩
              rw [ht] at e2
              have HTR := Lib.hid (show cellsI (rwF (fun i j => ct c j i) i (j + 1)) = cellsI (rwF (fun i j => ct c j i) i j) ++ [.int .i64 t] by rw [rwF_succ, cellsI_app, ht]; rfl)
              have q7 := (Own.refl wr).alloc (.cells #[.int .i64 t] 3)
              have HRO := Lib.hid (row_own HROW.out q7)
              have HCE := Lib.hid (cel_lit (w := wr) (T := 3) (cs := #[.int .i64 t]) (xs := [.int .i64 t]) (k := 1) rfl rfl (by unfold maxLen; decide))
              have HQ7 := Lib.hid (HQX.out.trans q7)
              have K2 := Lib.hid (show j + 1 ≤ maxLen by unfold maxLen; omega)
              have K3 := Lib.hid (show (j + 1) * 8 ≤ 140737488355328 by omega)
              clear q7 hcell ht eb
              go_wp2_with (at_builtin; refine wpList_append_f (by go_simp) _ _ 23 rfl w5.heap.size 3 ii (.int .i64 0) 8 Try.underlying23 HI.out HZ0.out HZ1.out HZ2.out rfl (.slice Ar j cr) j (cellsI (rwF (fun i j => ct c j i) i j)) rfl HRO.out _ [.int .i64 t] rfl HCE.out (fun x hx => by rw [List.mem_singleton.1 hx]; rfl) (j + 1) rfl K2.out K3.out HQ7.out.size ?_; intro v8 w8 hown8 hgr8 _; obtain ⟨A8, c8, rfl⟩ := rows_shape hown8; have HOWN8 := Lib.hid hown8; have HGR8 := Lib.hid (row_after HQ7.out HRO.out hgr8 (Nat.le_refl _)); clear hown8 hgr8)
              go_roundw
              case rel => exact ⟨j + 1, A8, c8, by go_num, rfl, hlt2, HGR8.out, by rw [HTR.out]; exact HOWN8.out⟩
              case measure => simp [intOf]; omega
            · obtain rfl : n = j := by omega
              have q7 := (Own.refl wr).alloc (.cells #[.slice Ar n cr] 23)
              have HU9 := Lib.hid (row_own HROW.out q7)
              have HQ9 := Lib.hid (HQX.out.trans q7)
              have HRO := Lib.hid (by have h := row_own HTV.out.out HQ9.out; rw [HLT.out] at h; exact h)
              have HCE := Lib.hid (cel_lit (w := wr) (T := 23) (cs := #[.slice Ar n cr]) (xs := [.slice Ar n cr]) (k := 1) rfl rfl (by unfold maxLen; decide))
              have HBS := Lib.hid (Nat.le_trans HBB.out HQ9.out.size)
              have K3 := Lib.hid (show i + 1 ≤ maxLen by unfold maxLen; omega)
              have K4 := Lib.hid (show (i + 1) * 24 ≤ 140737488355328 by omega)
              clear q7
              go_wp2_with (at_builtin; refine wpList_append_f (by go_simp) _ _ 22 rfl w1.heap.size 23 ri (.slice none 0 0) 24 Try.underlying22 JI.out JZ0.out JZ1.out JZ2.out rfl (.slice Ao i co) i vs rfl HRO.out _ [.slice Ar n cr] rfl HCE.out (fun x hx => by rw [List.mem_singleton.1 hx]; rfl) (i + 1) rfl K3.out K4.out HBS.out ?_; intro v10 w10 hown10 hgr10 _; obtain ⟨A10, c10, rfl⟩ := rows_shape hown10; have HOWN10 := Lib.hid hown10; have HGR10 := Lib.hid hgr10; clear hown10 hgr10)
              go_roundw
              case rel =>
                have hys : (cellsI (rwF (fun i j => ct c j i) i n)).length = n := by rw [cellsI_len, rwF_len]
                refine ⟨i + 1, A10, c10, vs ++ [.slice Ar n cr], by go_num, rfl, hlt, row_after (HQ.out.trans HQ9.out) HRO.out HGR10.out (Nat.le_refl _), ?_⟩
                rw [cellsG_tbF]
                refine TabV.more (by decide) HTV.out HQ9.out (by rw [hys]; exact HU9.out) (Nat.le_refl _) HBB.out HGR10.out ?_
                rw [HLT.out]
                exact HOWN10.out
              case measure => simp [intOf]; omega
        · obtain rfl : n = i := by omega
          have HCK := Lib.hid (show chA (tbF (fun i j => ct c j i) n n) = 0 from tbF_chk b1 fun i _ j _ => okc_of HR.out j i)
          have HTRN := Lib.hid (tr_tbF HN.out)
          have HD := Lib.hid (Tab.cels ⟨vs, HTV.out⟩)
          have HQW := Lib.hid (HQ1.out.trans HQ.out)
          have HTW := Lib.hid (HT.out.own HQW.out)
          go_upto_region 14 with (go_at_call 14; with_reducible refine (A.solve c _ 0 _ HTW HF).mono ?_; rintro e w2 ⟨x, M, m, rfl, cx, q2, hb, _⟩; have HX2 := Lib.hid cx; have HQ2 := Lib.hid (HQW.out.trans q2); have HD2 := Lib.hid (HD.out.own q2); have HB2 := Lib.hid (hb rfl); clear cx q2 hb)
          go_upto_region 15 with (go_at_call 14; with_reducible refine (A.solve _ _ 0 _ HD2 HCK).mono ?_; rintro e w3 ⟨y, M3, m3, rfl, _, q3, hb, _⟩; have HX3 := Lib.hid (HX2.out.own q3); have HQ3 := Lib.hid (HQ2.out.trans q3); have HB3 := Lib.hid (hb rfl); clear q3 hb)
          obtain rfl : m3 = m := HTRN.out.best HB2.out HB3.out
          have HT3 := Lib.hid (HT.out.own HQ3.out)
          have hasg : asgV c.length M = true := asgV_iff.2 HB2.out.asg
          have HC1 := Lib.hid (show coV c M = m3 by unfold coV; rw [if_pos ⟨HF.out, hasg⟩]; exact HB2.out.eq)
          have HC2 := Lib.hid (show coE c M = 0 by unfold coE; rw [if_pos HF.out, if_pos hasg])
          have d1 : (m3 == m3) = true := beq_self_eq_true m3
          clear hasg
          go_wp2_with (first
            | (go_at_call 16; with_reducible refine (A.cost c M _ x m3 0 _ HT3 HX3 HC1 HC2).mono ?_; rintro e w4 ⟨rfl, q4⟩; have HQ4 := Lib.hid (HQ3.out.trans q4); clear q4)
            | (go_at_call 13; with_reducible refine (awake_at A _).mono ?_; rintro e w9 ⟨rfl, q9⟩; have HQ9 := Lib.hid q9; clear q9))
          go_ret
          exact ⟨rfl, HQ4.out.trans HQ9.out⟩
    · have d0 : (f != 0) = true := bne_iff_ne.2 h0
      go_enter Try.func9, Try.ntmps9
      go_wp2_with (first
        | (go_at_call 19; with_reducible refine (square_at c vc true _ HT HB).mono ?_; rintro e w1 ⟨rfl, rfl⟩)
        | (go_at_call 12; with_reducible refine (A.check c vc f _ HT HF).mono ?_; rintro e w2 ⟨rfl, q2⟩; have HQ2 := Lib.hid q2; clear q2)
        | (go_at_call 13; with_reducible refine (awake_at A _).mono ?_; rintro e w4 ⟨rfl, q4⟩; have HQ4 := Lib.hid q4; clear q4))
      go_ret
      exact ⟨rfl, HQ2.out.trans HQ4.out⟩
end
end Go.Proofs.Ytfhdoeajoeaddaa.AsgW
