/-
  Walks of the specification of package graph: Close. Condition: none.
-/
import Derived.Test.YtkdfmjhhdfiiiaaGraphBox
import Derived.Test.YtkdfmjhhdfiiiaaGraphK
namespace Go.Proofs.Ytkdfmjhhdfiiiaa.GraW
open Go.ChangeShapes Go.WideShapes Go.ChangeAt Go.RowKit
open PairW CelW GraP TabW
set_option maxRecDepth 100000 in
set_option maxHeartbeats 4000000 in
theorem rclose_at (N : Int) (l : List Ar) (sv : Value) (f M : Int) (L : List Ar) (w : World) (HP : Hid (Pts w sv l)) (H : Hid (clzE N l = f ∧ clzN N l = M ∧ clzL N l = L)) :
    Calls Try.prog 26 #[grV N sv] w fun e w' => ∃ v, e = .returned (.tuple #[grV M v, .int .i64 f]) ∧ Pts w' v L ∧ Own w w' := by
  obtain ⟨i0, hi, hz0, hz1, hz2⟩ := info_parts (show (Try.prog.info? 46).map (fun i => (i.zero, i.size, i.bytes)) = some (some (.agg #[.int .i64 0, .int .i64 0]), 2, 16) by kernel_rfl)
  have HI := Lib.hid hi
  have HZ0 := Lib.hid hz0
  have HZ1 := Lib.hid hz1
  have HZ2 := Lib.hid hz2
  clear hi hz0 hz1 hz2
  obtain ⟨ce, hce⟩ : ∃ f, chkE N l = f := ⟨_, rfl⟩
  have HCE := Lib.hid hce
  by_cases c0 : ce = 0
  · subst c0
    obtain ⟨b0, b1, b2, G⟩ := chk_ok.1 hce
    obtain ⟨n, rfl⟩ : ∃ n : Nat, N = n := ⟨N.toNat, by omega⟩
    rw [Int.toNat_natCast] at G
    have HG := Lib.hid G
    have hn64 : n ≤ 64 := by omega
    clear hce G b0 b1 b2
    obtain ⟨A, cap, rfl, a1, a2, a3⟩ := HP.out.open
    unfold maxLen at a2
    obtain ⟨m, hm⟩ : ∃ m, l.length = m := ⟨_, rfl⟩
    rw [hm] at a1 a3 HP ⊢
    have HM := Lib.hid hm
    have HCA := Lib.hid a3
    clear a3 hm
    go_enter Try.func26, Try.ntmps26
    go_upto_region 1 with (fail)
    obtain ⟨W0, hW, k0, k1, k2, k3, f2, f3, g0⟩ := boxes_new w (.int .i64 (n : Int)) (.slice A m cap) (.int .i64 0) (.slice none 0 0) 24 24
    rw [hW]
    clear hW
    have HP0 := Lib.hid (HP.out.own g0)
    have HCA0 := Lib.hid (show 0 < m → ∃ b off : Nat, A = some ⟨b, off, none⟩ ∧ ∀ i, i < m → W0.cell? ⟨b, off + i * 2, none⟩ = some (.int .i64 (at' l i).1) ∧ W0.cell? ⟨b, off + i * 2 + 1, none⟩ = some (.int .i64 (at' l i).2) from fun h => by
      obtain ⟨b, off, e, hc⟩ := HCA.out h
      exact ⟨b, off, e, fun i hi => ⟨g0.cell (hc i hi).1, g0.cell (hc i hi).2⟩⟩)
    clear HCA
    go_upto_region 4 with (go_at_call 12; with_reducible refine (rcheck_at n l _ 0 _ HP0 HCE).mono ?_; rintro e w1 ⟨rfl, q1⟩; replace k0 := q1.cell k0; replace k1 := q1.cell k1; have HP1 := Lib.hid (HP0.out.own q1); have g1 := q1)
    go_upto_region 5 with (go_at_call 42; with_reducible refine (rreaches_at n l _ _ HP1 HCE hn64).mono ?_; rintro e w2 ⟨vr, vrs, rfl, ht2, q2⟩; have k0 := q2.cell k0; replace k1 := q2.cell k1; have HGR := Lib.hid (grid_open ht2.cels); have g2 := g1.trans q2; clear ht2)
    have HK0 := Lib.hid k0
    have HK1 := Lib.hid k1
    have HK2 := Lib.hid (g2.cell k2)
    have HK3 := Lib.hid (g2.cell k3)
    have HF2 := Lib.hid (frozen_kept g2 k2 f2)
    have HF3 := Lib.hid (frozen_kept g2 k3 f3)
    have HG0 := Lib.hid (g0.trans g2)
    have HR2 := Lib.hid (show w.heap.size + 1 < w2.heap.size from block_lt_of_cell HK2.out)
    have HCA := Lib.hid (show 0 < m → ∃ b off : Nat, A = some ⟨b, off, none⟩ ∧ ∀ i, i < m → w2.cell? ⟨b, off + i * 2, none⟩ = some (.int .i64 (at' l i).1) ∧ w2.cell? ⟨b, off + i * 2 + 1, none⟩ = some (.int .i64 (at' l i).2) from fun h => by
      obtain ⟨b, off, e, hc⟩ := HCA0.out h
      exact ⟨b, off, e, fun i hi => ⟨g2.cell (hc i hi).1, g2.cell (hc i hi).2⟩⟩)
    clear HCA0 q1 q2 g1 k2 k3 f2 f3 HP0 HP1
    go_upto_region 7 with (fail)
    have HBX0 := Lib.hid (bx_new w2 (.int .i64 (n : Int)) (.slice none 0 0) 24)
    have q3 := (Own.refl w2).alloc (.cells #[.int .i64 (n : Int), .slice none 0 0] 24)
    obtain ⟨O, hO⟩ : ∃ O, w2.heap.size = O := ⟨_, rfl⟩
    have HO := Lib.hid hO
    generalize hW3 : w2.alloc (.cells #[.int .i64 (n : Int), .slice none 0 0] 24) = w3 at *
    rw [hO] at HBX0
    rw [hO]
    clear hW3 hO k0 k1 g2
    have HOW := Lib.hid HBX0.out.lt
    go_loopw [7, 8, 9, 10] (fun va _ _ _ wr => ∃ (a : Nat) (vo : Value), va = .int .i64 (a : Int) ∧ a ≤ n ∧ Own w2 wr ∧ w3.heap.size ≤ wr.heap.size ∧ Bx wr O (.int .i64 (n : Int)) vo ∧ wr.ownsRow w3.heap.size 46 2 vo (cloK n l a).length (cellsP (cloK n l a))) (fun va _ _ _ _ => n - (intOf va).toNat)
    case atStart => exact ⟨0, _, rfl, Nat.zero_le _, q3, Nat.le_refl _, HBX0.out, World.ownsRow_nil _ _ _ _⟩
    case round =>
      clear HBX0 q3
      obtain ⟨a, vo, rfl, han, q, hsz, hbx, hrow⟩ := hrel
      have k0 := q.cell HK0.out
      have k1 := q.cell HK1.out
      have HSZ := Lib.hid hsz
      have HBX := Lib.hid hbx
      have HROW := Lib.hid hrow
      clear hsz hbx hrow
      by_cases hlt : a < n
      · have hkn : (a : Int) < n := by omega
        have HLA := Lib.hid (Nat.le_trans (cloK_len n l a) (Nat.mul_le_mul (show a ≤ 64 by omega) hn64))
        go_upto_region 10 with (fail)
        clear k0 k1
        go_loopw [8, 9, 10] (fun vb _ _ wy => ∃ (b : Nat) (vo : Value), vb = .int .i64 (b : Int) ∧ b ≤ n ∧ Own w2 wy ∧ w3.heap.size ≤ wy.heap.size ∧ Bx wy O (.int .i64 (n : Int)) vo ∧ wy.ownsRow w3.heap.size 46 2 vo (cloK n l a ++ cloR n l a b).length (cellsP (cloK n l a ++ cloR n l a b))) (fun vb _ _ _ => n - (intOf vb).toNat)
        case atStart => exact ⟨0, vo, rfl, Nat.zero_le _, q, HSZ.out, HBX.out, by rw [cloR_zero, List.append_nil]; exact HROW.out⟩
        case round =>
          clear HBX HROW HSZ q
          obtain ⟨b, vo, rfl, hbn, q, hsz, hbx, hrow⟩ := hrel
          have k0 := q.cell HK0.out
          have k1 := q.cell HK1.out
          have HSZ := Lib.hid hsz
          have HBX := Lib.hid hbx
          have HROW := Lib.hid hrow
          clear hsz hbx hrow
          by_cases hlt2 : b < n
          · have hbz : (b : Int) < n := by omega
            have HLB := Lib.hid (cloR_len n l a b)
            go_upto_region 14 with (fail)
            clear k0 k1
            go_loopw [9, 10] (fun vf vi wx => ∃ i : Nat, vi = .int .i64 (i : Int) ∧ i ≤ m ∧ wx = wr ∧ vf = .bool (clk n l a b i)) (fun _ vi _ => m - (intOf vi).toNat)
            case atStart => exact ⟨0, rfl, Nat.zero_le _, rfl, by rw [clk_zero]⟩
            case round =>
              obtain ⟨i, rfl, him, rfl, rfl⟩ := hrel
              have k1 := q.cell HK1.out
              by_cases hlt3 : i < m
              · have himz : (i : Int) < m := by omega
                obtain ⟨bk, off, rfl, hc⟩ := HCA.out (by omega)
                have hil : i < l.length := by rw [HM.out]; exact hlt3
                obtain ⟨u, v, huv, hun, hvn⟩ := HG.out.at hil
                have c0 := q.cell (hc i hlt3).1
                have c1 := q.cell (hc i hlt3).2
                rw [huv] at c0 c1
                simp only at c0 c1
                have hst := clk_succ (n := n) (a := a) (b := b) hil
                rw [huv] at hst
                simp only [Int.toNat_natCast] at hst
                obtain ⟨gr, orr, cr, rfl, r1, r2, hgrid⟩ := HGR.out (by omega)
                unfold maxLen at r2
                obtain ⟨ga, oa, ca, x1, p1, p2, x2⟩ := hgrid v hvn
                unfold maxLen at p2
                have e1 := q.cell x1
                have e2 := q.cell (x2 b hlt2)
                have hvnz : (v : Int) < n := by omega
                clear hc huv hil hgrid x1 x2
                cases hfk : clk n l a b i with
                | true =>
                  have HST := Lib.hid (show clk n l a b (i + 1) = true by rw [hst, hfk, Bool.true_or])
                  clear hst hfk
                  go_wp2
                  go_roundw
                  case rel => exact ⟨i + 1, by go_num, hlt3, trivial, by rw [HST.out]⟩
                  case measure => simp [intOf]; omega
                | false =>
                  rw [hfk, Bool.false_or] at hst
                  by_cases hua : u = a
                  · have d1 : ((u : Int) == (a : Int)) = true := beq_iff_eq.2 (by omega)
                    have HST := Lib.hid (show clk n l a b (i + 1) = rch n l v b by rw [hst, decide_eq_true (show (u : Int) = (a : Int) by omega), Bool.true_and])
                    clear hst hfk hua
                    go_wp2
                    go_roundw
                    case rel => exact ⟨i + 1, by go_num, hlt3, trivial, by rw [HST.out]⟩
                    case measure => simp [intOf]; omega
                  · have d1 : ((u : Int) == (a : Int)) = false := beq_eq_false_iff_ne.2 (by omega)
                    have HST := Lib.hid (show clk n l a b (i + 1) = false by rw [hst, decide_eq_false (show ¬ (u : Int) = (a : Int) by omega), Bool.false_and])
                    clear hst hfk hua
                    go_wp2
                    go_roundw
                    case rel => exact ⟨i + 1, by go_num, hlt3, trivial, by rw [HST.out]⟩
                    case measure => simp [intOf]; omega
              · have eim : i = m := by omega
                subst eim
                have HFR := Lib.hid (show clk n l a b i = clo n l a b by rw [← HM.out]; exact clk_end HG.out a b)
                rw [HFR.out]
                cases hfr : clo n l a b with
                | false =>
                  have HCR := Lib.hid (show cloR n l a (b + 1) = cloR n l a b by rw [cloR_succ, if_neg (by rw [hfr]; simp), List.append_nil])
                  clear hfr
                  go_wp2
                  go_roundw
                  case rel => exact ⟨b + 1, vo, by go_num, hlt2, q, HSZ.out, HBX.out, by rw [HCR.out]; exact HROW.out⟩
                  case measure => simp [intOf]; omega
                | true =>
                  have HCR := Lib.hid (show cloK n l a ++ cloR n l a (b + 1) = (cloK n l a ++ cloR n l a b) ++ [((a : Int), (b : Int))] by rw [cloR_succ, if_pos hfr, List.append_assoc])
                  clear hfr
                  obtain ⟨z, hz⟩ : ∃ z, (cloK n l a ++ cloR n l a b).length = z := ⟨_, rfl⟩
                  have hz2 : z ≤ 64 * 64 + 64 := by
                    rw [← hz, List.length_append]
                    have := HLA.out
                    have := HLB.out
                    omega
                  have HZ := Lib.hid hz
                  rw [hz] at HROW
                  clear hz
                  obtain ⟨Ao, co, rfl⟩ : ∃ A cap, vo = .slice A z cap := row_sh HROW.out
                  have e3 := HBX.out.1
                  have e4 := HBX.out.2.1
                  have q7 := (Own.refl wr).alloc (.cells #[.int .i64 (a : Int), .int .i64 (b : Int)] 46)
                  have HRO := Lib.hid (row_own HROW.out q7)
                  have HB7 := Lib.hid (HBX.out.own q7)
                  have HQ7 := Lib.hid (q.trans q7)
                  have HL2 := Lib.hid (lit2 wr a b 46)
                  have HO2 := Lib.hid (one2 a b)
                  have K2 := Lib.hid (show z + 1 ≤ maxLen by unfold maxLen; omega)
                  have K3 := Lib.hid (show (z + 1) * 16 ≤ 140737488355328 by omega)
                  have HBS := Lib.hid (Nat.le_trans HSZ.out q7.size)
                  clear q7
                  go_wp2_with (at_builtin; refine wpList_append_own _ rfl _ _ 22 rfl w3.heap.size 46 i0 (.agg #[.int .i64 0, .int .i64 0]) 2 16 Try.underlying22 HI.out HZ0.out HZ1.out HZ2.out rfl (by decide) (.slice Ao z co) z _ rfl HRO.out ⟨wr.heap.size, 0, none⟩ 1 1 [.int .i64 (a : Int), .int .i64 (b : Int)] rfl rfl HL2.out HO2.out K2.out K3.out HBS.out ?_; intro v8 w8 hown8 hgr8 _; obtain ⟨A8, c8, rfl⟩ := row_sh hown8; have HOWN8 := Lib.hid hown8; have HGR8 := Lib.hid hgr8; have hrb := fun k (hk : (Value.slice Ao z co).ownBlock = some k) => (HRO.out.lt k hk).1; have HB8 := Lib.hid (HB7.out.grown hgr8 (fun e => by have := hrb O e; have := HOW.out; omega)); have e5 := HB8.out.2.1; have f5 := HB8.out.2.2; have HQ8 := Lib.hid (HQ7.out.grown hgr8 (fun k hk => by have := hrb k hk; have := HO.out; have := HOW.out; omega)); clear hown8 hgr8 hrb)
                  go_roundw
                  case rel =>
                    refine ⟨b + 1, _, by go_num, hlt2, HQ8.out.setCell (Nat.le_of_eq HO.out) _, ?_, HB8.out.put _, ?_⟩
                    · have := Nat.le_trans HBS.out HGR8.out.size
                      simpa [World.setCell] using this
                    · rw [HCR.out, List.length_append, HZ.out, cellsP_snoc]
                      exact row_lo HOWN8.out (p := ⟨O, 1, none⟩) HOW.out _
                  case measure => simp [intOf]; omega
          · have ebn : b = n := by omega
            subst ebn
            have HCK := Lib.hid (cloK_succ b l a)
            go_wp2
            go_roundw
            case rel => exact ⟨a + 1, vo, by go_num, hlt, q, HSZ.out, HBX.out, by rw [HCK.out]; exact HROW.out⟩
            case measure => simp [intOf]; omega
      · have ean : a = n := by omega
        subst ean
        obtain ⟨z, hz⟩ : ∃ z, (cloK a l a).length = z := ⟨_, rfl⟩
        have HZ := Lib.hid hz
        rw [hz] at HROW
        clear hz
        obtain ⟨Ao, co, rfl⟩ : ∃ A cap, vo = .slice A z cap := row_sh HROW.out
        have e3 := HBX.out.1
        have e4 := HBX.out.2.1
        have k2 := q.cell HK2.out
        have k3 := q.cell HK3.out
        have f2 := frozen_kept q HK2.out HF2.out
        have f3 := frozen_kept q HK3.out HF3.out
        have hRO : w.heap.size + 1 ≠ O := by have := HR2.out; have := HO.out; omega
        have hR3 : w.heap.size + 1 < w3.heap.size := by have := HR2.out; have := HO.out; have := HOW.out; omega
        have HRS := Lib.hid (fun (x y : Value) => row_lo (row_lo HROW.out (p := ⟨w.heap.size + 1, 0, none⟩) hR3 x) (p := ⟨w.heap.size + 1, 1, none⟩) hR3 y)
        have HQS := Lib.hid (fun (x y : Value) => (((HG0.out.trans q).setCell (p := ⟨w.heap.size + 1, 0, none⟩) (by simp) x).setCell (p := ⟨w.heap.size + 1, 1, none⟩) (by simp) y))
        by_cases h512 : 512 < z
        · have hz512 : (512 : Int) < z := by omega
          obtain ⟨c1, c2, c3⟩ := clz_full HCE.out (show 512 < (cloL a l).length by unfold cloL; rw [HZ.out]; exact h512)
          obtain ⟨rfl, rfl, rfl⟩ : 3 = f ∧ 0 = M ∧ [] = L := ⟨by rw [← H.out.1, c1], by rw [← H.out.2.1, c2], by rw [← H.out.2.2, c3]⟩
          clear c1 c2 c3
          go_wp2
          refine bodyPost_ret (gr_results rfl rfl (x := .int .i64 0) (y := .slice none 0 0) (by go_simp) (by go_simp)) rfl ?_
          exact ⟨_, rfl, pts_nil _, HQS.out _ _⟩
        · have hz512 : ¬ (512 : Int) < z := by omega
          obtain ⟨c1, c2, c3⟩ := clz_ok HCE.out (show ¬ 512 < (cloL a l).length by unfold cloL; rw [HZ.out]; exact h512)
          obtain ⟨rfl, rfl, rfl⟩ : 0 = f ∧ (a : Int) = M ∧ cloL a l = L := ⟨by rw [← H.out.1, c1], by rw [← H.out.2.1, c2], by rw [← H.out.2.2, c3]⟩
          clear c1 c2 c3
          go_wp2
          refine bodyPost_ret (gr_results rfl rfl (x := .int .i64 (a : Int)) (y := .slice Ao z co) (by go_simp) (by go_simp)) rfl ?_
          refine ⟨_, rfl, pts_of_row (base := w3.heap.size) (e := 46) ?_, HQS.out _ _⟩
          have := HRS.out (.int .i64 (a : Int)) (.slice Ao z co)
          unfold cloL
          rw [HZ.out]
          exact this
  · obtain ⟨rfl, rfl, rfl⟩ : ce = f ∧ 0 = M ∧ [] = L := by
      obtain ⟨c1, c2, c3⟩ := clz_bad (show chkE N l ≠ 0 by rw [hce]; exact c0)
      exact ⟨by rw [← H.out.1, c1, hce], by rw [← H.out.2.1, c2], by rw [← H.out.2.2, c3]⟩
    have d1 : (ce == 0) = false := beq_eq_false_iff_ne.2 c0
    clear hce H
    go_enter Try.func26, Try.ntmps26
    go_upto_region 1 with (fail)
    obtain ⟨W0, hW, k0, k1, k2, k3, f2, f3, g0⟩ := boxes_new w (.int .i64 N) sv (.int .i64 0) (.slice none 0 0) 24 24
    rw [hW]
    clear hW
    have HP0 := Lib.hid (HP.out.own g0)
    go_wp2_with (go_at_call 12; with_reducible refine (rcheck_at N l _ ce _ HP0 HCE).mono ?_; rintro e w1 ⟨rfl, q1⟩; replace k0 := q1.cell k0; replace k1 := q1.cell k1; replace f2 := frozen_kept q1 k2 f2; replace f3 := frozen_kept q1 k3 f3; replace k2 := q1.cell k2; replace k3 := q1.cell k3; have p1 := q1)
    refine bodyPost_ret (gr_results rfl rfl (x := .int .i64 0) (y := .slice none 0 0) (by go_simp) (by go_simp)) rfl ?_
    exact ⟨_, rfl, pts_nil _, ((g0.trans p1).setCell (p := ⟨w.heap.size + 1, 0, none⟩) (by simp) _).setCell (p := ⟨w.heap.size + 1, 1, none⟩) (by simp) _⟩
end Go.Proofs.Ytkdfmjhhdfiiiaa.GraW
