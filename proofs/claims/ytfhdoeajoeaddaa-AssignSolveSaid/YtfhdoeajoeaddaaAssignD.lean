/-
  Walks of the specification of package assign: Solve. Condition: none.
-/
import Derived.Test.YtfhdoeajoeaddaaAssignC
namespace Go.Proofs.Ytfhdoeajoeaddaa.AsgW
open Go.ChangeShapes Go.WideShapes Go.ChangeAt Go.RowKit
open PairW CelW TabW MchW AsgP
set_option maxRecDepth 100000 in
set_option maxHeartbeats 4000000 in
theorem rasolve_at (c : Tb) (vc : Value) (f : Int) (w : World) (HT : Hid (Cels w vc (cellsG c))) (HF : Hid (chA c = f)) :
    Calls Try.prog 17 #[vc] w fun e w' => ∃ (v : Value) (M : List Int) (m : Int), e = .returned (.tuple #[v, .int .i64 m, .int .i64 f]) ∧ w'.ownsRow w.heap.size 3 1 v M.length (cellsI M) ∧ Own w w' ∧ (f = 0 → Bst c M m) ∧ (f ≠ 0 → M = [] ∧ m = 0) := by
  have hcall := racheck_at c vc f w HT HF
  by_cases h0 : f = 0
  · subst h0
    obtain ⟨b1, b2, b3⟩ := chA_ok HF.out
    obtain ⟨n, hn⟩ : ∃ n, c.length = n := ⟨_, rfl⟩
    rw [hn] at b1
    have HN := Lib.hid hn
    have HS := Lib.hid b2
    have HR := Lib.hid b3
    clear hn b2 b3
    obtain ⟨i0, hi, hz0, hz1, hz2⟩ := info_parts (show (Try.prog.info? 3).map (fun i => (i.zero, i.size, i.bytes)) = some (some (.int .i64 0), 1, 8) by kernel_rfl)
    have HI := Lib.hid hi
    have HZ0 := Lib.hid hz0
    have HZ1 := Lib.hid hz1
    have HZ2 := Lib.hid hz2
    clear hi hz0 hz1 hz2
    have hleast := raleast_at c vc n w HT HN b1 HS HR
    obtain ⟨AC, capc, rfl, t1, t2, _⟩ := gt_open HT.out
    rw [HN.out] at t1 HT hcall hleast ⊢
    unfold maxLen at t2
    have p16 : 2 ^ n ≤ 65536 := Nat.le_trans (Nat.pow_le_pow_right (by decide) b1) (by decide)
    have P16 := Lib.hid p16
    clear p16
    go_enter Try.func17, Try.ntmps17
    go_wp2_with (first
      | (go_at_call 11; refine hcall.mono ?_; rintro e w1 ⟨rfl, rfl⟩)
      | (go_at_call 27; refine hleast.mono ?_; rintro e w2 ⟨O, g, cp, N, hNp, rfl, hr2, q2, hh2⟩; have HNP := Lib.hid hNp; have HR2 := Lib.hid hr2; have HQ2 := Lib.hid q2; have HH := Lib.hid hh2; clear hNp hr2 q2 hh2))
    clear hcall hleast
    have hN16 : N ≤ 65536 := by rw [HNP.out]; exact P16.out
    have hN0 : 0 < N := by rw [HNP.out]; exact Nat.two_pow_pos n
    have HOL := Lib.hid (show O.length = N by have := HH.out.len; rw [HN.out, ← HNP.out] at this; exact this)
    have HR0 := Lib.hid (show w2.ownsRow w2.heap.size 3 1 (.slice none 0 0) 0 (cellsI []) from World.ownsRow_nil _ _ _ _)
    have HG0 := Lib.hid (Gr.start c O)
    go_loopw [7, 8, 9, 10] (fun vo vs vi _ wr => ∃ (i s : Nat) (p : List Int), vs = .int .i64 (s : Int) ∧ vi = .int .i64 (i : Int) ∧ i ≤ n ∧ s < N ∧ p.length = i ∧ Own w2 wr ∧ wr.ownsRow w2.heap.size 3 1 vo i (cellsI p) ∧ Gr c O p s) (fun _ _ vi _ _ => n - (intOf vi).toNat)
    case atStart => exact ⟨0, 0, [], rfl, rfl, Nat.zero_le _, hN0, rfl, Own.refl _, HR0.out, HG0.out⟩
    case round =>
      clear HR0 HG0
      obtain ⟨i, s, p, rfl, rfl, hi, hsN, hpl, q, hrow, hg⟩ := hrel
      have HPL := Lib.hid hpl
      have HQ := Lib.hid q
      have HROW := Lib.hid hrow
      have HG := Lib.hid hg
      obtain ⟨Ao, co, rfl⟩ := rows_shape hrow
      clear hpl q hrow hg
      generalize wr = w5 at *
      by_cases hlt : i < n
      · have hin : (i : Int) < n := by omega
        go_wp2
        go_loopw [7, 8, 10] (fun vo vs vj wx => ∃ j : Nat, vo = .slice Ao i co ∧ vs = .int .i64 (s : Int) ∧ vj = .int .i64 (j : Int) ∧ j ≤ n ∧ Own w5 wx ∧ ∀ a, a < j → ¬ Tk c O p s a) (fun _ _ vj _ => n - (intOf vj).toNat)
        case atStart => exact ⟨0, rfl, rfl, rfl, Nat.zero_le _, Own.refl _, fun a h => absurd h (Nat.not_lt_zero _)⟩
        case round =>
          obtain ⟨j, rfl, rfl, rfl, hj, q, hno⟩ := hrel
          have HNO := Lib.hid hno
          have HQX := Lib.hid q
          have HROX := Lib.hid (row_own HROW.out q)
          have HTX := Lib.hid (HT.out.own (HQ2.out.trans (HQ.out.trans q)))
          have HQY := Lib.hid (HQ.out.trans q)
          clear hno q
          generalize wr = w6 at *
          by_cases hjn : j < n
          · have hjz : (j : Int) < n := by omega
            obtain ⟨p2, hp⟩ : ∃ p2, 2 ^ j = p2 := ⟨_, rfl⟩
            have hp1 : p2 ≤ 65536 := by rw [← hp]; exact Nat.le_trans (Nat.pow_le_pow_right (by decide) (by omega)) P16.out
            have hsh : wrap64 ((2 : Int) ^ j) = (p2 : Int) := by rw [show (2 : Int) ^ j = (p2 : Int) by rw [← hp]; simp]; unfold wrap64; omega
            have hand := and_i64 s p2 (by omega) (by omega)
            have hor := or_i64 s p2 (by omega) (by omega)
            have HPJ := Lib.hid hp
            clear hp
            obtain ⟨z, hz⟩ : ∃ z, s &&& p2 = z := ⟨_, rfl⟩
            obtain ⟨r, hr⟩ : ∃ r, s ||| p2 = r := ⟨_, rfl⟩
            rw [hz] at hand
            rw [hr] at hor
            have HZJ := Lib.hid hz
            have HRJ := Lib.hid hr
            clear hz hr
            cases hb : s.testBit j with
            | true =>
              have hz0 : z ≠ 0 := fun e => by
                have h1 : s &&& 2 ^ j = 0 := by rw [HPJ.out, HZJ.out, e]
                rw [and_bit.1 h1] at hb
                exact absurd hb (by decide)
              have d0 : ((z : Int) == 0) = false := beq_eq_false_iff_ne.2 (by omega)
              have HB := Lib.hid hb
              clear hb
              go_upto_region 13 with (fail)
              go_quiet (fail)
              go_wp2
              go_roundw
              case rel => exact ⟨j + 1, rfl, rfl, by go_num, hjn, HQX.out.drewN _, fun a ha t => by
                by_cases e : a = j
                · subst e
                  have := t.1
                  rw [HB.out] at this
                  exact absurd this (by decide)
                · exact HNO.out a (by omega) t⟩
              case measure => simp [intOf]; omega
            | false =>
              obtain rfl : z = 0 := by
                rw [← HZJ.out, ← HPJ.out]
                exact and_bit.2 hb
              have hrN : r < N := by
                rw [← HRJ.out, ← HPJ.out, HNP.out]
                exact put_lt (by rw [← HNP.out]; exact hsN) hjn
              have hrNz : (r : Int) < N := by omega
              have hsNz : (s : Int) < N := by omega
              obtain ⟨y, hy1, hy2, _⟩ := row_int HR2.out HOL.out hrN
              obtain ⟨y0, hx1, hx2, _⟩ := row_int HR2.out HOL.out hsN
              have e3 := HQY.out.cell hy1
              have e4 := HQY.out.cell hx1
              have hyD := getD_of hy2
              have hxD := getD_of hx2
              have hyb := (HH.out.rs r (Nat.zero_le _) (by rw [HN.out, ← HNP.out]; exact hrN)).bound (okc_of HR.out)
              rw [hyD, HN.out] at hyb
              have hyb1 := hyb.1
              have hyb2 : y ≤ 17592186044416 := by have := hyb.2; omega
              obtain ⟨gl, ol, cpl, gr, og, cr, he, _, _, e1, h4, h5, hcell⟩ := gt_row HTX.out HS.out HN.out hlt
              injection he with ea eb ec
              subst ea
              subst ec
              unfold maxLen at h5
              have e2 := hcell j hjn
              obtain ⟨u, hu⟩ : ∃ u, ct c i j = u := ⟨_, rfl⟩
              rw [hu] at e2
              have hub := okc_of HR.out i j
              rw [hu] at hub
              obtain ⟨hub1, hub2⟩ := hub
              have htk : Tk c O p s j ↔ u + y = y0 := by
                unfold Tk
                rw [HPL.out, hu, HPJ.out, HRJ.out, hyD, hxD]
                exact ⟨fun h => h.2, fun h => ⟨hb, h⟩⟩
              have HTK := Lib.hid htk
              clear hcell hyb hyD hxD hy1 hy2 hx1 hx2 hb eb hu htk
              by_cases ce : u + y = y0
              · have HTT := Lib.hid (HTK.out.2 ce)
                have hg2 := HG.out.next HH.out (by rw [HPL.out, HN.out]; exact hlt) (by rw [HN.out]; exact hjn) HTT.out HNO.out
                rw [HPJ.out, HRJ.out] at hg2
                have HG2 := Lib.hid hg2
                clear hg2
                subst ce
                go_upto_region 13 with (fail)
                go_quiet (fail)
                have qn := (Own.refl w6).drewN nq
                have HROY := Lib.hid (row_own HROX.out qn)
                have HQZ := Lib.hid (HQY.out.trans qn)
                generalize w6.drewN nq = w7 at *
                clear e1 e2 e3 e4 qn
                have q7 := (Own.refl w7).alloc (.cells #[.int .i64 (j : Int)] 3)
                have HRO := Lib.hid (row_own HROY.out q7)
                have HCE := Lib.hid (cel_lit (w := w7) (T := 3) (cs := #[.int .i64 (j : Int)]) (xs := [.int .i64 (j : Int)]) (k := 1) rfl rfl (by unfold maxLen; decide))
                have HQ7 := Lib.hid (HQZ.out.trans q7)
                have K2 := Lib.hid (show i + 1 ≤ maxLen by unfold maxLen; omega)
                have K3 := Lib.hid (show (i + 1) * 8 ≤ 140737488355328 by omega)
                have HRP := Lib.hid (show cellsI (p ++ [(j : Int)]) = cellsI p ++ [.int .i64 (j : Int)] from cellsI_app _ _)
                have HPL2 := Lib.hid (show (p ++ [(j : Int)]).length = i + 1 by rw [List.length_append, HPL.out]; rfl)
                clear q7
                go_wp2_with (at_builtin; refine wpList_append_f (by go_simp) _ _ 23 rfl w2.heap.size 3 i0 (.int .i64 0) 8 Try.underlying23 HI.out HZ0.out HZ1.out HZ2.out rfl (.slice Ao i co) i (cellsI p) rfl HRO.out _ [.int .i64 (j : Int)] rfl HCE.out (fun x hx => by rw [List.mem_singleton.1 hx]; rfl) (i + 1) rfl K2.out K3.out HQ7.out.size ?_; intro v8 w8 hown8 hgr8 _; have HOWN8 := Lib.hid hown8; have HGR8 := Lib.hid (row_after HQ7.out HRO.out hgr8 (Nat.le_refl _)); clear hown8 hgr8)
                go_roundw
                case rel => exact ⟨i + 1, r, _, by go_num, by go_num, hlt, hrN, HPL2.out, HGR8.out, by rw [HRP.out]; exact HOWN8.out, HG2.out⟩
                case measure => simp [intOf]; omega
              · have ce2 : (u + y == y0) = false := beq_eq_false_iff_ne.2 ce
                go_upto_region 13 with (fail)
                go_quiet (fail)
                go_wp2
                go_roundw
                case rel => exact ⟨j + 1, rfl, rfl, by go_num, hjn, HQX.out.drewN _, fun a ha t => by
                  by_cases e : a = j
                  · subst e
                    exact ce (HTK.out.1 t)
                  · exact HNO.out a (by omega) t⟩
                case measure => simp [intOf]; omega
          · obtain rfl : n = j := by omega
            obtain ⟨a, ha, ta⟩ := HG.out.some HH.out (by rw [HPL.out, HN.out]; exact hlt)
            rw [HN.out] at ha
            exact absurd ta (HNO.out a ha)
      · obtain rfl : n = i := by omega
        have HB := Lib.hid (HG.out.best HH.out (by rw [HPL.out, HN.out]))
        obtain ⟨y0, hx1, hx2, _⟩ := row_int HR2.out HOL.out hN0
        have e4 := HQ.out.cell hx1
        have HD := Lib.hid (getD_of hx2)
        have hN0z : (0 : Int) < N := by omega
        clear hx1 hx2
        go_upto_region 16 with (fail)
        go_quiet (fail)
        go_wp2
        go_ret3
        exact ⟨_, p, y0, rfl, by rw [HPL.out]; exact row_down (row_own HROW.out ((Own.refl _).drewN _)) HQ2.out.size, (HQ2.out.trans HQ.out).drewN _, fun _ => by rw [← HD.out]; exact HB.out, fun h => absurd rfl h⟩
  · have d1 : (f == 0) = false := beq_eq_false_iff_ne.2 h0
    have d2 : (f != 0) = true := bne_iff_ne.2 h0
    go_enter Try.func17, Try.ntmps17
    go_wp2_with (go_at_call 11; refine hcall.mono ?_; rintro e w1 ⟨rfl, rfl⟩)
    go_ret3
    exact ⟨_, [], 0, rfl, World.ownsRow_nil _ _ _ _, Own.refl _, fun h => absurd h h0, fun _ => ⟨rfl, rfl⟩⟩
end Go.Proofs.Ytfhdoeajoeaddaa.AsgW
