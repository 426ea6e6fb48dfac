/-
  Walks of the program of package graph: Close. Condition: none.
-/
import Derived.Test.YtkdfmjhhdfiiiaaGraphPI
import Derived.Test.YtkdfmjhhdfiiiaaGraphPE
import Derived.Test.YtkdfmjhhdfiiiaaGraphBox
namespace Go.Proofs.Ytkdfmjhhdfiiiaa.GraW
open Go.ChangeShapes Go.WideShapes Go.ChangeAt Go.RowKit
open PairW CelW GraP TabW
/-- The nodes that follow a node: each once, each a node; what is reached from them. -/
theorem rcs_fol {n : Nat} {l : List Ar} (a b : Nat) : rcs n l (fol n l a) b = clo n l a b := by
  unfold rcs clo fol
  rw [List.any_filter]
theorem fol_lt {n : Nat} {l : List Ar} {a : Nat} : ∀ x ∈ fol n l a, x < n := fun x hx => by
  unfold fol at hx
  exact List.mem_range.1 (List.mem_filter.1 hx).1
theorem fol_once {n : Nat} {l : List Ar} {a : Nat} : (fol n l a).Nodup := by
  unfold fol
  exact List.Pairwise.filter _ List.nodup_range
/-- Rows of different types lie apart, whatever their elements' sizes. -/
theorem rows_off {w : World} {b1 b2 n m s1 s2 : Nat} {e1 e2 : TypeId} {v u : Value} {xs ys : List Value} (h : w.ownsRow b1 e1 s1 v n xs) (k : w.ownsRow b2 e2 s2 u m ys) (he : e1 ≠ e2) : v.ownBlock = none ∨ v.ownBlock ≠ u.ownBlock := by
  rcases h.2 with ⟨rfl, rfl⟩ | ⟨g, cap, cur, rfl, _, h3, _⟩
  · exact .inl rfl
  · rcases k.2 with ⟨rfl, rfl⟩ | ⟨g', cap', cur', rfl, _, k3, _⟩
    · exact .inr (by simp [Value.ownBlock])
    · refine .inr fun e => ?_
      have e : some g = some g' := e
      injection e with e
      subst e
      rw [h3] at k3
      injection k3 with k3
      injection k3 with _ k4
      exact he k4
set_option maxRecDepth 100000 in
set_option maxHeartbeats 4000000 in
theorem pclose_at (N : Int) (l : List Ar) (sv : Value) (f M : Int) (L : List Ar) (w : World) (HP : Hid (Pts w sv l)) (H : Hid (clzE N l = f ∧ clzN N l = M ∧ clzL N l = L)) :
    Calls Try.prog 25 #[grV N sv] w fun e w' => ∃ v, e = .returned (.tuple #[grV M v, .int .i64 f]) ∧ Pts w' v L ∧ Own w w' := by
  obtain ⟨i0, hi, hz0, hz1, hz2⟩ := info_parts (show (Try.prog.info? 46).map (fun i => (i.zero, i.size, i.bytes)) = some (some (.agg #[.int .i64 0, .int .i64 0]), 2, 16) by kernel_rfl)
  have HI := Lib.hid hi
  have HZ0 := Lib.hid hz0
  have HZ1 := Lib.hid hz1
  have HZ2 := Lib.hid hz2
  clear hi hz0 hz1 hz2
  obtain ⟨ce, hce⟩ : ∃ f, chkE N l = f := ⟨_, rfl⟩
  have HCE := Lib.hid hce
  by_cases c0 : ce = 0
  · subst c0
    obtain ⟨b0, b1, b2, G⟩ := chk_ok.1 hce
    obtain ⟨n, rfl⟩ : ∃ n : Nat, N = n := ⟨N.toNat, by omega⟩
    rw [Int.toNat_natCast] at G
    have HG := Lib.hid G
    have hn64 : n ≤ 64 := by omega
    obtain ⟨m, hm⟩ : ∃ m, l.length = m := ⟨_, rfl⟩
    have hm512 : m ≤ 512 := by omega
    have HM := Lib.hid hm
    clear hce G b0 b1 b2 hm
    go_enter Try.func25, Try.ntmps25
    go_upto_region 1 with (fail)
    obtain ⟨W0, hW, k0, k1, k2, k3, f2, f3, g0⟩ := boxes_new w (.int .i64 (n : Int)) sv (.int .i64 0) (.slice none 0 0) 24 24
    rw [hW]
    clear hW
    have HP0 := Lib.hid (HP.out.own g0)
    go_upto_region 4 with (go_at_call 11; with_reducible refine (pcheck_at n l _ 0 _ HP0 HCE).mono ?_; rintro e w1 ⟨rfl, q1⟩; replace k0 := q1.cell k0; replace k1 := q1.cell k1; have HP1 := Lib.hid (HP0.out.own q1); have g1 := q1)
    go_upto_region 5 with (go_at_call 32; with_reducible refine (pfol_at n m l _ _ HP1 HG HM.out hm512 hn64).mono ?_; rintro e w2 ⟨gf, rfl, ht2, q2⟩; have k0 := q2.cell k0; have HNX := Lib.hid ht2.cels; have g2 := g1.trans q2; clear ht2)
    have HNO := Lib.hid (cels_open HNX.out)
    have HK2 := Lib.hid (g2.cell k2)
    have HK3 := Lib.hid (g2.cell k3)
    have HF2 := Lib.hid (frozen_kept g2 k2 f2)
    have HF3 := Lib.hid (frozen_kept g2 k3 f3)
    have HG0 := Lib.hid (g0.trans g2)
    have HK0 := Lib.hid k0
    have HR2 := Lib.hid (show w.heap.size + 1 < w2.heap.size from block_lt_of_cell HK2.out)
    clear q1 q2 g1 k1 k2 k3 f2 f3 HP0 HP1
    go_upto_region 7 with (fail)
    clear k0 g2
    go_loopw [6, 7, 8, 9, 20] (fun vo _ _ _ va wr => ∃ a : Nat, va = .int .i64 (a : Int) ∧ a ≤ n ∧ Own w2 wr ∧ wr.ownsRow w2.heap.size 46 2 vo (cloK n l a).length (cellsP (cloK n l a))) (fun _ _ _ _ va _ => n - (intOf va).toNat)
    case atStart => exact ⟨0, rfl, Nat.zero_le _, Own.refl _, World.ownsRow_nil _ _ _ _⟩
    case round =>
      obtain ⟨a, rfl, han, q, hrow⟩ := hrel
      have HROW := Lib.hid hrow
      clear hrow
      by_cases hlt : a < n
      · have hkn : (a : Int) < n := by omega
        have HLA := Lib.hid (Nat.le_trans (cloK_len n l a) (Nat.mul_le_mul (show a ≤ 64 by omega) hn64))
        obtain ⟨A', c', e', _, _, hop⟩ := HNO.out
        rw [rowF_len] at e' hop
        injection e' with e1 e2 e3
        subst e1
        subst e3
        obtain ⟨g', off', e4, hcell⟩ := hop (by omega)
        injection e4 with e4
        injection e4 with e5 e6
        subst e5
        subst e6
        obtain ⟨u, e0, hu⟩ := hcell a _ (rowF_at hlt)
        rw [Nat.zero_add] at e0
        replace e0 := q.cell e0
        have HU := Lib.hid (hu.own q)
        have HNR := Lib.hid (HNX.out.own q)
        have HD := Lib.hid (fol_once (n := n) (l := l) (a := a))
        have HL := Lib.hid (fol_lt (n := n) (l := l) (a := a))
        clear hop hcell hu e2
        go_upto_region 10 with (go_at_call 36; with_reducible refine (preached_at n l (fol n l a) _ _ _ HNR HU HD HL HG hn64).mono ?_; rintro e w3 ⟨gb, rfl, hr3, q3⟩; have HR3 := Lib.hid hr3; have HQ3 := Lib.hid (q.trans q3); have HROW3 := Lib.hid (row_own HROW.out q3); clear hr3 q3)
        clear e0
        go_loopw [6, 8, 9, 30] (fun vo _ _ vb wy => ∃ b : Nat, vb = .int .i64 (b : Int) ∧ b ≤ n ∧ Own w2 wy ∧ wy.ownsRow wr.heap.size 4 1 (.slice (some ⟨gb, 0, none⟩) n n) n (cellsT (rcsV n l (fol n l a))) ∧ wy.ownsRow w2.heap.size 46 2 vo (cloK n l a ++ cloR n l a b).length (cellsP (cloK n l a ++ cloR n l a b))) (fun _ _ _ vb _ => n - (intOf vb).toNat)
        case atStart => exact ⟨0, rfl, Nat.zero_le _, HQ3.out, HR3.out, by rw [cloR_zero, List.append_nil]; exact HROW3.out⟩
        case round =>
          clear HROW HROW3 HR3 HNR HU q HQ3
          obtain ⟨b, rfl, hbn, q, hrb, hrow⟩ := hrel
          have HRB := Lib.hid hrb
          have HROW := Lib.hid hrow
          clear hrb hrow
          by_cases hlt2 : b < n
          · have hbz : (b : Int) < n := by omega
            have HLB := Lib.hid (cloR_len n l a b)
            obtain ⟨t, e1, ht, _⟩ := row_bool HRB.out (rcsV_len ..) hlt2
            rw [rcsV_at hlt2, rcs_fol] at ht
            injection ht with ht
            subst ht
            cases hcl : clo n l a b with
            | false =>
              rw [hcl] at e1
              have HCR := Lib.hid (show cloR n l a (b + 1) = cloR n l a b by rw [cloR_succ, if_neg (by rw [hcl]; simp), List.append_nil])
              clear hcl
              go_wp2
              go_roundw
              case rel => exact ⟨b + 1, by go_num, hlt2, q, HRB.out, by rw [HCR.out]; exact HROW.out⟩
              case measure => simp [intOf]; omega
            | true =>
              rw [hcl] at e1
              have HCR := Lib.hid (show cloK n l a ++ cloR n l a (b + 1) = (cloK n l a ++ cloR n l a b) ++ [((a : Int), (b : Int))] by rw [cloR_succ, if_pos hcl, List.append_assoc])
              clear hcl
              obtain ⟨z, hz⟩ : ∃ z, (cloK n l a ++ cloR n l a b).length = z := ⟨_, rfl⟩
              have hz2 : z ≤ 64 * 64 + 64 := by
                rw [← hz, List.length_append]
                have := HLA.out
                have := HLB.out
                omega
              have HZ := Lib.hid hz
              rw [hz] at HROW
              clear hz
              obtain ⟨Ao, co, rfl⟩ := row_sh HROW.out
              have q7 := (Own.refl wr).alloc (.cells #[.int .i64 (a : Int), .int .i64 (b : Int)] 46)
              have HRO := Lib.hid (row_own HROW.out q7)
              have HRB7 := Lib.hid (row_own HRB.out q7)
              have HQ7 := Lib.hid (q.trans q7)
              have HL2 := Lib.hid (lit2 wr a b 46)
              have HO2 := Lib.hid (one2 a b)
              have K2 := Lib.hid (show z + 1 ≤ maxLen by unfold maxLen; omega)
              have K3 := Lib.hid (show (z + 1) * 16 ≤ 140737488355328 by omega)
              have HBS := Lib.hid HQ7.out.size
              clear q7
              go_wp2_with (at_builtin; refine wpList_append_own _ rfl _ _ 22 rfl w2.heap.size 46 i0 (.agg #[.int .i64 0, .int .i64 0]) 2 16 Try.underlying22 HI.out HZ0.out HZ1.out HZ2.out rfl (by decide) (.slice Ao z co) z _ rfl HRO.out ⟨wr.heap.size, 0, none⟩ 1 1 [.int .i64 (a : Int), .int .i64 (b : Int)] rfl rfl HL2.out HO2.out K2.out K3.out HBS.out ?_; intro v8 w8 hown8 hgr8 _; obtain ⟨A8, c8, rfl⟩ := row_sh hown8; have HOWN8 := Lib.hid hown8; have HGR8 := Lib.hid hgr8; clear hown8 hgr8)
              go_roundw
              case rel =>
                have hrb := fun k (hk : (Value.slice Ao z co).ownBlock = some k) => (HRO.out.lt k hk).1
                refine ⟨b + 1, by go_num, hlt2, HQ7.out.grown HGR8.out hrb, HRB7.out.kept HGR8.out (rows_off HRB7.out HRO.out (by decide)), ?_⟩
                rw [HCR.out, List.length_append, HZ.out, cellsP_snoc]
                exact HOWN8.out
              case measure => simp [intOf]; omega
          · have ebn : b = n := by omega
            subst ebn
            have HCK := Lib.hid (cloK_succ b l a)
            go_wp2
            go_roundw
            case rel => exact ⟨a + 1, by go_num, hlt, q, by rw [HCK.out]; exact HROW.out⟩
            case measure => simp [intOf]; omega
      · have ean : a = n := by omega
        subst ean
        obtain ⟨z, hz⟩ : ∃ z, (cloK a l a).length = z := ⟨_, rfl⟩
        have HZ := Lib.hid hz
        rw [hz] at HROW
        clear hz
        obtain ⟨Ao, co, rfl⟩ := row_sh HROW.out
        have k0 := q.cell HK0.out
        have k2 := q.cell HK2.out
        have k3 := q.cell HK3.out
        have f2 := frozen_kept q HK2.out HF2.out
        have f3 := frozen_kept q HK3.out HF3.out
        have hR3 := HR2.out
        have HRS := Lib.hid (fun (x y : Value) => row_lo (row_lo HROW.out (p := ⟨w.heap.size + 1, 0, none⟩) hR3 x) (p := ⟨w.heap.size + 1, 1, none⟩) hR3 y)
        have HQS := Lib.hid (fun (x y : Value) => (((HG0.out.trans q).setCell (p := ⟨w.heap.size + 1, 0, none⟩) (by simp) x).setCell (p := ⟨w.heap.size + 1, 1, none⟩) (by simp) y))
        by_cases h512 : 512 < z
        · have hz512 : (512 : Int) < z := by omega
          obtain ⟨c1, c2, c3⟩ := clz_full HCE.out (show 512 < (cloL a l).length by unfold cloL; rw [HZ.out]; exact h512)
          obtain ⟨rfl, rfl, rfl⟩ : 3 = f ∧ 0 = M ∧ [] = L := ⟨by rw [← H.out.1, c1], by rw [← H.out.2.1, c2], by rw [← H.out.2.2, c3]⟩
          clear c1 c2 c3
          go_wp2
          refine bodyPost_ret (gr_results rfl rfl (x := .int .i64 0) (y := .slice none 0 0) (by go_simp) (by go_simp)) rfl ?_
          exact ⟨_, rfl, pts_nil _, HQS.out _ _⟩
        · have hz512 : ¬ (512 : Int) < z := by omega
          obtain ⟨c1, c2, c3⟩ := clz_ok HCE.out (show ¬ 512 < (cloL a l).length by unfold cloL; rw [HZ.out]; exact h512)
          obtain ⟨rfl, rfl, rfl⟩ : 0 = f ∧ (a : Int) = M ∧ cloL a l = L := ⟨by rw [← H.out.1, c1], by rw [← H.out.2.1, c2], by rw [← H.out.2.2, c3]⟩
          clear c1 c2 c3
          go_wp2
          refine bodyPost_ret (gr_results rfl rfl (x := .int .i64 (a : Int)) (y := .slice Ao z co) (by go_simp) (by go_simp)) rfl ?_
          refine ⟨_, rfl, pts_of_row (base := w2.heap.size) (e := 46) ?_, HQS.out _ _⟩
          have := HRS.out (.int .i64 (a : Int)) (.slice Ao z co)
          unfold cloL
          rw [HZ.out]
          exact this
  · obtain ⟨rfl, rfl, rfl⟩ : ce = f ∧ 0 = M ∧ [] = L := by
      obtain ⟨c1, c2, c3⟩ := clz_bad (show chkE N l ≠ 0 by rw [hce]; exact c0)
      exact ⟨by rw [← H.out.1, c1, hce], by rw [← H.out.2.1, c2], by rw [← H.out.2.2, c3]⟩
    have d1 : (ce == 0) = false := beq_eq_false_iff_ne.2 c0
    clear hce H
    go_enter Try.func25, Try.ntmps25
    go_upto_region 1 with (fail)
    obtain ⟨W0, hW, k0, k1, k2, k3, f2, f3, g0⟩ := boxes_new w (.int .i64 N) sv (.int .i64 0) (.slice none 0 0) 24 24
    rw [hW]
    clear hW
    have HP0 := Lib.hid (HP.out.own g0)
    go_wp2_with (go_at_call 11; with_reducible refine (pcheck_at N l _ ce _ HP0 HCE).mono ?_; rintro e w1 ⟨rfl, q1⟩; replace k0 := q1.cell k0; replace k1 := q1.cell k1; replace f2 := frozen_kept q1 k2 f2; replace f3 := frozen_kept q1 k3 f3; replace k2 := q1.cell k2; replace k3 := q1.cell k3; have p1 := q1)
    refine bodyPost_ret (gr_results rfl rfl (x := .int .i64 0) (y := .slice none 0 0) (by go_simp) (by go_simp)) rfl ?_
    exact ⟨_, rfl, pts_nil _, ((g0.trans p1).setCell (p := ⟨w.heap.size + 1, 0, none⟩) (by simp) _).setCell (p := ⟨w.heap.size + 1, 1, none⟩) (by simp) _⟩
end Go.Proofs.Ytkdfmjhhdfiiiaa.GraW
