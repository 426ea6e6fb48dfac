/-
  Walk of the program's Order. Condition: none.
-/
import Derived.Test.YtkdfmjhhdfiiiaaGraphPG
namespace Go.Proofs.Ytkdfmjhhdfiiiaa.GraW
open Go.ChangeShapes Go.WideShapes Go.ChangeAt Go.RowKit
open PairW CelW GraP TabW HepP
open HepW (Gr Rw Wv Ch hv hpsh_at hpp_at assert_int)
set_option maxRecDepth 100000 in
set_option maxHeartbeats 8000000 in
theorem porder_at (N : Int) (l : List Ar) (sv : Value) (f : Int) (V : List Nat) (w : World) (HP : Hid (Pts w sv l)) (H : Hid (ordE N l = f ∧ ordV N l = V)) :
    Calls Try.prog 15 #[grV N sv] w fun e w' => ∃ v, e = .returned (.tuple #[v, .int .i64 f]) ∧ w'.ownsRow w.heap.size 3 1 v V.length (cellsI (ints V)) ∧ Own w w' := by
  obtain ⟨i0, hi, hz0, hz1, hz2⟩ := info_parts (show (Try.prog.info? 3).map (fun i => (i.zero, i.size, i.bytes)) = some (some (.int .i64 0), 1, 8) by kernel_rfl)
  have HI := Lib.hid hi
  have HZ0 := Lib.hid hz0
  have HZ1 := Lib.hid hz1
  have HZ2 := Lib.hid hz2
  obtain ⟨ce, hce⟩ : ∃ f, chkE N l = f := ⟨_, rfl⟩
  have HCE := Lib.hid hce
  obtain ⟨A, cap, rfl, a1, a2, _⟩ := HP.out.open
  unfold maxLen at a2
  obtain ⟨m, hm⟩ : ∃ m, l.length = m := ⟨_, rfl⟩
  rw [hm] at a1 HP ⊢
  have HM := Lib.hid hm
  clear hm
  by_cases c0 : ce = 0
  · subst c0
    obtain ⟨b0, b1, b2, G⟩ := chk_ok.1 hce
    obtain ⟨n, rfl⟩ : ∃ n : Nat, N = n := ⟨N.toNat, by omega⟩
    rw [Int.toNat_natCast] at G
    have HG := Lib.hid G
    have hn64 : n ≤ 64 := by omega
    have hm512 : m ≤ 512 := by rw [← HM.out]; exact b2
    obtain ⟨HSOME', HNONE'⟩ := ord_yes hce H.out
    have HSOME := Lib.hid HSOME'
    have HNONE := Lib.hid HNONE'
    have HBY := Lib.hid (show i0.bytes * n ≤ 281474976710656 by rw [hz2]; omega)
    have HMX := Lib.hid (show n ≤ maxLen by unfold maxLen; omega)
    have HZL := Lib.hid (show (madeCells (Value.int .i64 0).cells (n * 1)).toList = cellsI (List.replicate n 0) by rw [Nat.mul_one]; show (madeCells #[Value.int .i64 0] n).toList = _; rw [toList_madeCells_one]; unfold cellsI; rw [List.map_replicate])
    have hfl := allF_len n l
    have hnn : n * n ≤ 4096 := Nat.mul_le_mul hn64 hn64
    clear hi hz0 hz1 hz2 hce H G b0 b1 b2 HSOME' HNONE'
    go_enter Try.func15, Try.ntmps15
    go_upto_region 1 with (fail)
    have k0 : (w.alloc (.cells #[.int .i64 (n : Int), .slice A m cap] 24)).cell? ⟨w.heap.size, 0, none⟩ = some (.int .i64 (n : Int)) := by go_simp
    have k1 : (w.alloc (.cells #[.int .i64 (n : Int), .slice A m cap] 24)).cell? ⟨w.heap.size, 1, none⟩ = some (.slice A m cap) := by go_simp
    have g0 : Own w (w.alloc (.cells #[.int .i64 (n : Int), .slice A m cap] 24)) := (Own.refl w).alloc _
    generalize hW : (w.alloc (.cells #[.int .i64 (n : Int), .slice A m cap] 24)) = W0 at *
    clear hW
    have HP0 := Lib.hid (HP.out.own g0)
    have HK0 := Lib.hid k0
    go_upto_region 5 with (first
      | (go_at_call 11; with_reducible refine (pcheck_at n l _ 0 _ HP0 HCE).mono ?_; rintro e w1 ⟨rfl, q1⟩; replace k0 := q1.cell k0; replace k1 := q1.cell k1; have p1 := q1)
      | (go_at_call 32; refine (pfol_at n m l _ _ (Lib.hid (HP0.out.own p1)) HG HM.out hm512 hn64).mono ?_; rintro e w4 ⟨g4, rfl, ht4, q4⟩; replace k0 := q4.cell k0; have HT4 := Lib.hid ht4.cels; have p4 := p1.trans q4; clear ht4 q4 k1))
    go_upto_region 6 with (at_make; refine wpList_make_full _ rfl _ _ 29 rfl w4.heap.size 3 i0 (.int .i64 0) 1 Try.underlying29 HI.out HZ0.out HZ1.out _ _ _ _ n rfl rfl rfl rfl HBY.out HMX.out (Nat.le_refl _) ?_; intro w5 hown5 hg5; have q5 := (Own.refl w4).grown hg5 (by simp); have HM5 := Lib.hid (show w5.ownsRow w4.heap.size 3 1 (.slice (some ⟨w4.heap.size, 0, none⟩) n n) n (cellsI (List.replicate n 0)) from HZL.out ▸ hown5); clear hown5 hg5 k0)
    obtain ⟨gm, hgm⟩ : ∃ g, w4.heap.size = g := ⟨_, rfl⟩
    have HGM := Lib.hid hgm
    have HGM5 := Lib.hid (show gm < w5.heap.size from by rw [← hgm]; exact (HM5.out.lt _ rfl).2)
    rw [hgm] at HM5 ⊢
    have HT5 := Lib.hid (HT4.out.own q5)
    clear hgm p1 q1
    obtain ⟨F, hF⟩ : ∃ F, allF n l = F := ⟨_, rfl⟩
    rw [hF] at hfl
    have HFF := Lib.hid hF
    obtain ⟨fl, hflen⟩ : ∃ k, F.length = k := ⟨_, rfl⟩
    rw [hflen] at hfl
    have HFL := Lib.hid hflen
    have HLT := Lib.hid (fun x (hx : x ∈ F) => allF_lt (n := n) (l := l) (by rw [hF]; exact hx))
    clear hF hflen
    go_wp2_with (go_at_call 33; refine (pall_at n fl l F _ _ HT5 HFF HFL hn64).mono ?_; rintro e w6 ⟨A6, c6, rfl, hr6, q6⟩; have HF6 := Lib.hid hr6; have HM6 := Lib.hid (row_own HM5.out q6); have q56 := q5.trans q6; clear hr6 q5 q6)
    have HFB := Lib.hid (show (Value.slice A6 fl c6).ownBlock ≠ some gm from fun e => by
      have h1 := (HF6.out.lt gm e).1
      have h2 := HGM5.out
      omega)
    have HCN := Lib.hid (cn_start n)
    go_loopw [8, 29] (fun _ vi wr => ∃ (k : Nat) (M : List Int), vi = .int .i64 (k : Int) ∧ k ≤ fl ∧ Own w4 wr ∧ wr.ownsRow gm 3 1 (.slice (some ⟨gm, 0, none⟩) n n) n (cellsI M) ∧ wr.ownsRow w5.heap.size 3 1 (.slice A6 fl c6) fl (cellsI (ints F)) ∧ Cn n (F.take k) M) (fun _ vi _ => fl - (intOf vi).toNat)
    case atStart => exact ⟨0, _, rfl, Nat.zero_le _, q56, HM6.out, HF6.out, by rw [List.take_zero]; exact HCN.out⟩
    case round =>
      clear HM6 HF6 HCN q56
      obtain ⟨k, M, rfl, hk, q, hm, hf6, hcn⟩ := hrel
      by_cases hlt : k < fl
      · have hkl : k < F.length := by rw [HFL.out]; exact hlt
        obtain ⟨x, hx⟩ : ∃ x, F[k]? = some x := ⟨_, List.getElem?_eq_getElem hkl⟩
        have hxn : x < n := HLT.out x (List.mem_of_getElem? hx)
        obtain ⟨gf, cf, hvf, _, _⟩ := row_form hf6 (by omega)
        injection hvf with hv1 hv2 hv3
        subst hv1
        subst hv3
        have c0 : wr.cell? ⟨gf, k, none⟩ = some (.int .i64 (x : Int)) := by
          rw [World.ownsRow.cellAt hf6 k (by omega)]
          unfold cellsI
          rw [List.getElem?_map, ints_at hx]
          rfl
        obtain ⟨bv, e0, hbv, f0⟩ := row_int hm hcn.1 hxn
        have hbb := hcn.2 x hxn
        rw [hbv] at hbb
        injection hbb with hbb
        have hcb : List.count x (F.take k) ≤ fl := by
          have h1 := List.count_le_length (a := x) (l := F.take k)
          rw [List.length_take] at h1
          omega
        have i1 : IntKind.i64.wrap (bv + 1) = bv + 1 := IntWalk.i64_in _ (by omega)
        have HCN := Lib.hid (show Cn n (F.take (k + 1)) (M.set x (bv + 1)) by rw [take_next hx]; exact cn_more hcn hbv)
        have HMM := Lib.hid (row_puti hm x (bv + 1))
        have HF6 := Lib.hid (ownsRow_setCell_other hf6 (a := ⟨gm, x, none⟩) HFB.out (.int .i64 (bv + 1)))
        have QS := Lib.hid (q.setCell (p := ⟨gm, x, none⟩) (Nat.le_of_eq HGM.out) (.int .i64 (bv + 1)))
        have hkz : (k : Int) < fl := by omega
        have hxz : (x : Int) < n := by omega
        have hbl : 0 ≤ bv ∧ bv ≤ 4096 := by omega
        clear hkl hx hbv hbb hcb hcn hm hf6 hv2
        go_wp2
        go_roundw
        case rel => exact ⟨k + 1, _, by go_num, hlt, QS.out, HMM.out, HF6.out, HCN.out⟩
        case measure => simp [intOf]; omega
      · obtain rfl : k = fl := by omega
        have HCE2 := Lib.hid (show Cn n (allF n l) M by rw [List.take_of_length_le (by rw [HFL.out]; exact Nat.le_refl _), ← HFF.out] at hcn; exact hcn)
        have HM7 := Lib.hid hm
        clear hm hf6 hcn
        go_upto_region 12 with (fail)
        obtain ⟨hb, hhb⟩ : ∃ b, wr.heap.size = b := ⟨_, rfl⟩
        have hw8 : Wv (wr.alloc (.cells #[.slice none 0 0] 51)) (wr.alloc (.cells #[.slice none 0 0] 51)).heap.size wr.heap.size (.slice none 0 0) [] := wv_new wr _
        have q8 := (Own.refl wr).alloc (.cells #[.slice none 0 0] 51)
        have HM8 := Lib.hid (row_own HM7.out q8)
        have HQ8 := Lib.hid (q.trans q8)
        rw [hhb] at hw8 ⊢
        generalize hW : wr.alloc (.cells #[.slice none 0 0] 51) = w8 at *
        have HGMB := Lib.hid (show gm < hb from by
          have h1 := (HM7.out.lt gm rfl).2
          omega)
        have HHB := Lib.hid hw8.lt
        have HW8 := Lib.hid hw8
        have HB4 := Lib.hid (show w4.heap.size ≤ hb from by rw [← hhb]; exact q.size)
        clear hW hw8 q8 HM7 hhb q
        go_wp2
        go_loopw [10, 11, 42] (fun _ _ vi wr => ∃ (k : Nat) (v : Value) (H : List Nat), vi = .int .i64 (k : Int) ∧ k ≤ n ∧ Gr w8 wr hb ∧ Wv wr w8.heap.size hb v H ∧ Hep H H.length ∧ H.Nodup ∧ ∀ a : Nat, a ∈ H ↔ a < k ∧ M[a]? = some 0) (fun _ _ vi _ => n - (intOf vi).toNat)
        case atStart => exact ⟨0, _, [], rfl, Nat.zero_le _, HepW.Gr.refl _ _, HW8.out, hep_nil, List.nodup_nil, fun a => by simp⟩
        case round =>
          clear HW8
          obtain ⟨k, v, H, rfl, hk, hgr, hwv, hhp, hnd, hmem⟩ := hrel
          have HGR := Lib.hid hgr
          have HWV := Lib.hid hwv
          have HHP := Lib.hid hhp
          have HND := Lib.hid hnd
          have HMEM := Lib.hid hmem
          have hmr : wr.ownsRow gm 3 1 (.slice (some ⟨gm, 0, none⟩) n n) n (cellsI M) := row_stays HM8.out fun i hi => by
            have e : gm = i := by injection hi
            subst e
            exact hgr.block gm (HM8.out.lt gm rfl).2 (by have := HGMB.out; omega)
          clear hgr hwv hhp hnd hmem
          by_cases hlt : k < n
          · obtain ⟨bv, e0, hbv, _⟩ := row_int hmr HCE2.out.1 hlt
            have HBV := Lib.hid hbv
            have hkz : (k : Int) < n := by omega
            have hHn : H.length ≤ n := nodup_le n H HND.out fun x hx => by have := (HMEM.out x).1 hx; omega
            clear hmr hbv
            by_cases hb0 : bv = 0
            · subst hb0
              go_wp2_with (go_at_call 34; refine (hpsh_at w8.heap.size hb k H.length H v _ HWV HHP rfl (by omega) HGR.out.size).mono ?_; rintro e w9 ⟨rfl, gv, cv, H', hperm, hhp', hwv', hch⟩; have HP' := Lib.hid hperm; have HH' := Lib.hid hhp'; have HW' := Lib.hid hwv'; have HC' := Lib.hid hch; clear hperm hhp' hwv' hch)
              go_roundw
              case rel =>
                refine ⟨k + 1, _, H', by go_num, hlt, ch_gr HGR.out HC'.out (fun b hb => (HWV.out.rw.lt b hb).1), HW'.out, ?_, ?_, fun a => ?_⟩
                · rw [HP'.out.length_eq]
                  exact HH'.out
                · rw [HP'.out.nodup_iff, List.nodup_cons]
                  exact ⟨fun h => by have := (HMEM.out k).1 h; omega, HND.out⟩
                · rw [HP'.out.mem_iff, List.mem_cons, HMEM.out]
                  constructor
                  · rintro (h | ⟨h1, h2⟩)
                    · subst h
                      exact ⟨by omega, HBV.out⟩
                    · exact ⟨by omega, h2⟩
                  · rintro ⟨h1, h2⟩
                    by_cases e : a = k
                    · exact .inl e
                    · exact .inr ⟨by omega, h2⟩
              case measure => simp [intOf]; omega
            · have d3 : (bv == 0) = false := beq_eq_false_iff_ne.2 hb0
              go_wp2
              go_roundw
              case rel =>
                refine ⟨k + 1, v, H, by go_num, hlt, HGR.out, HWV.out, HHP.out, HND.out, fun a => ?_⟩
                rw [HMEM.out]
                constructor
                · rintro ⟨h1, h2⟩
                  exact ⟨by omega, h2⟩
                · rintro ⟨h1, h2⟩
                  by_cases e : a = k
                  · subst e
                    rw [HBV.out] at h2
                    injection h2 with h2
                    exact absurd h2 hb0
                  · exact ⟨by omega, h2⟩
              case measure => simp [intOf]; omega
          · have ekn : n = k := by omega
            subst ekn
            have HKA := Lib.hid (ka_start HG.out HCE2.out HND.out HMEM.out)
            have QO := Lib.hid (show Own w4 wr from HepW.Gr.own HQ8.out HGR.out HB4.out)
            have HMR := Lib.hid hmr
            have HS8 := Lib.hid HGR.out.size
            clear hmr HND HMEM HGR HCE2
            have HS48 := Lib.hid (show w.heap.size ≤ w8.heap.size from Nat.le_trans (Nat.le_trans (g0.trans p4).size HQ8.out.size) (Nat.le_refl _))
            have HB8 := Lib.hid HHB.out
            have HG8 := Lib.hid (show gm < w8.heap.size from (HM8.out.lt gm rfl).2)
            have HOK := Lib.hid (ord_nil n l)
            have ta := fun (x : Int) => assert_int x
            have HNE := Lib.hid (show (Value.slice (some ⟨gm, 0, none⟩) n n).ownBlock ≠ some hb from fun e => by
              have h1 : gm = hb := Option.some.inj e
              have h2 := HGMB.out
              omega)
            clear HM8 HQ8 hnn hfl
            go_wp2
            go_loopw [12, 13, 15, 69] (fun vo _ _ _ wr => ∃ (out : List Nat) (M : List Int) (v : Value) (H : List Nat), OrdOk n l out ∧ Own w4 wr ∧ wr.ownsRow gm 3 1 (.slice (some ⟨gm, 0, none⟩) n n) n (cellsI M) ∧ Wv wr w8.heap.size hb v H ∧ Hep H H.length ∧ Ka n l out M H ∧ wr.ownsRow w8.heap.size 3 1 vo out.length (cellsI (ints out)) ∧ (vo.ownBlock = none ∨ vo.ownBlock ≠ v.ownBlock) ∧ out.length ≤ n ∧ ordF n l (n - out.length) out = ordO n l ∧ w8.heap.size ≤ wr.heap.size) (fun vo _ _ _ _ => n - lenOf vo)
            case atStart => exact ⟨[], M, v, H, HOK.out, QO.out, HMR.out, HWV.out, HHP.out, HKA.out, World.ownsRow_nil _ _ _ _, .inl rfl, Nat.zero_le _, rfl, HS8.out⟩
            case round =>
              clear QO HMR HWV HHP HKA HOK HS8
              obtain ⟨out, M, v, H, hok, qo, hmr, hwv, hhp, hka, hor, hap, hol, hof, hs8⟩ := hrel
              have HOK := Lib.hid hok
              have HKA := Lib.hid hka
              have HOF := Lib.hid hof
              have HAP := Lib.hid hap
              have HHP := Lib.hid hhp
              obtain ⟨Ao, co, rfl⟩ := rows_shape hor
              have HOR := Lib.hid hor
              have HMR := Lib.hid hmr
              have HS8 := Lib.hid hs8
              clear hok hka hof hap hhp hor hmr hs8
              obtain ⟨ol, hol2⟩ : ∃ k, out.length = k := ⟨_, rfl⟩
              have HOL := Lib.hid hol2
              rw [hol2] at hol HOR HAP HOF ⊢
              clear hol2
              by_cases hH : 0 < H.length
              · obtain ⟨h, hh⟩ : ∃ h, H.length = h + 1 := ⟨H.length - 1, by omega⟩
                obtain ⟨gv, cv, rfl, _, _⟩ := row_form hwv.rw hH
                have HL := Lib.hid hh
                rw [hh] at hwv HHP HAP
                have k1 := hwv.cell.1
                have HWV := Lib.hid hwv
                have hsm := Ka.small HKA.out
                have hc0 : hx H 0 ∈ H := hx_mem hH
                obtain ⟨c, hc⟩ : ∃ c, hx H 0 = c := ⟨_, rfl⟩
                rw [hc] at hc0
                have HC := Lib.hid hc
                have HMIN := Lib.hid (show ∀ x ∈ H, c ≤ x from fun x hx2 => by
                  obtain ⟨k, hk, e⟩ := mem_hx hx2
                  rw [← hc, ← e]
                  exact Hep.min HHP.out k (by rw [← HL.out]; exact hk))
                obtain ⟨hcn, hcf⟩ := (HKA.out.hm c).1 hc0
                have HNX := Lib.hid (HKA.out.next hc0 HMIN.out)
                have HCF := Lib.hid hcf
                have HOK2 := Lib.hid (ord_more HG.out HOK.out hcn hcf)
                have hol3 : ol + 1 ≤ n := by
                  have := nodup_le n _ HOK2.out.nd HOK2.out.lt
                  rw [List.length_append, HOL.out] at this
                  exact this
                have hcz : (c : Int) < n := by omega
                have hh0 : (0 : Int) < (h : Int) + 1 := by omega
                clear hwv hH hh hc hc0 hcf
                go_upto_region 21 with (go_at_call 35; refine (hpp_at w8.heap.size hb gv cv h H _ HWV HHP HL.out (by have := HL.out; omega)).mono ?_; rw [HC.out]; rintro e w10 ⟨rfl, H', hperm, hhp', hhl', hwv', hch⟩; have HP' := Lib.hid hperm; have HH' := Lib.hid hhp'; have HHL' := Lib.hid hhl'; have HW' := Lib.hid hwv'; have HC' := Lib.hid hch; clear hperm hhp' hhl' hwv' hch)
                have HKN := Lib.hid (HKA.out.take HG.out (c := c) (H' := H') HP'.out)
                have hvb := fun b (hb : (Value.slice (some ⟨gv, 0, none⟩) (h + 1) cv).ownBlock = some b) => (HWV.out.rw.lt b hb).1
                have HQ10 := Lib.hid (ch_own qo HC'.out HB4.out (fun b hb => by have h1 := hvb b hb; have h2 := HB4.out; have h3 := HB8.out; omega))
                have HM10 := Lib.hid (ch_row HMR.out HC'.out HNE.out (.inr fun e => by
                  have h1 := hvb gm e.symm
                  have h2 := HG8.out
                  omega))
                have HO10 := Lib.hid (ch_row HOR.out HC'.out (row_box HWV.out HOR.out) HAP.out)
                have HA10 := Lib.hid (ch_apart HOR.out HC'.out HAP.out)
                have HV10 := Lib.hid (show (Value.slice (some ⟨gv, 0, none⟩) h cv).ownBlock = none ∨ (Value.slice (some ⟨gv, 0, none⟩) h cv).ownBlock ≠ (Value.slice Ao ol co).ownBlock from .inr fun e => by
                  rcases HA10.out with r | r
                  · rw [r] at e; cases e
                  · exact r e.symm)
                have q11 := (Own.refl w10).alloc (.cells #[.int .i64 (c : Int)] 3)
                have HRO := Lib.hid (row_own HO10.out q11)
                have HCE := Lib.hid (cel_lit (w := w10) (T := 3) (cs := #[.int .i64 (c : Int)]) (xs := [.int .i64 (c : Int)]) (k := 1) rfl rfl (by unfold maxLen; decide))
                have HBS := Lib.hid (show w8.heap.size ≤ (w10.alloc (.cells #[.int .i64 (c : Int)] 3)).heap.size from Nat.le_trans (Nat.le_trans HS8.out HC'.out.size) q11.size)
                have HQ11 := Lib.hid q11
                have K2 := Lib.hid (show ol + 1 ≤ maxLen by unfold maxLen; omega)
                have K3 := Lib.hid (show (ol + 1) * 8 ≤ 140737488355328 by omega)
                clear q11 qo k1
                go_upto_region 22 with (at_builtin; refine wpList_append_f (by go_simp) _ _ 29 rfl w8.heap.size 3 i0 (.int .i64 0) 8 Try.underlying29 HI.out HZ0.out HZ1.out HZ2.out rfl (.slice Ao ol co) ol (cellsI (ints out)) rfl HRO.out _ [.int .i64 (c : Int)] rfl HCE.out (fun x hx => by rw [List.mem_singleton.1 hx]; rfl) (ol + 1) rfl K2.out K3.out HBS.out ?_; intro v11 w11 hown11 hgr11 hfr11; have HOWN := Lib.hid hown11; have HGR := Lib.hid hgr11; have HFR := Lib.hid hfr11; clear hown11 hgr11 hfr11)
                obtain ⟨A11, c11, rfl⟩ := rows_shape HOWN.out
                have HOB := Lib.hid (fun b (hb : (Value.slice Ao ol co).ownBlock = some b) => (HRO.out.lt b hb).1)
                have HQN := Lib.hid ((HQ10.out.trans HQ11.out).grown HGR.out (fun b hb => by have h1 := HOB.out b hb; have h2 := HB4.out; have h3 := HB8.out; omega))
                have HMN := Lib.hid ((row_own HM10.out HQ11.out).kept HGR.out (.inr fun e => by
                  have h1 := HOB.out gm e.symm
                  have h2 := HG8.out
                  omega))
                have HWN := Lib.hid (wv_grown (wv_own HW'.out HQ11.out) HGR.out (fun e => by
                  have h1 := HOB.out hb e
                  have h2 := HB8.out
                  omega) HV10.out)
                have HON := Lib.hid (show w11.ownsRow w8.heap.size 3 1 (.slice A11 (ol + 1) c11) (ol + 1) (cellsI (ints (out ++ [c]))) from by
                  rw [ints_app, cellsI_app]
                  exact HOWN.out)
                have HAN := Lib.hid (show (Value.slice A11 (ol + 1) c11).ownBlock = none ∨ (Value.slice A11 (ol + 1) c11).ownBlock ≠ (Value.slice (some ⟨gv, 0, none⟩) h cv).ownBlock from .inr fun e => by
                  rcases HFR.out with r | r
                  · rw [r] at e
                    rcases HA10.out with r2 | r2
                    · rw [r2] at e; cases e
                    · exact r2 e
                  · rw [r] at e
                    have h1 := (HW'.out.rw.lt _ e.symm).2
                    have h2 := HQ11.out.size
                    omega)
                have HSN := Lib.hid (Nat.le_trans HBS.out HGR.out.size)
                clear HQ10 HM10 HO10 HA10 HV10 HRO HCE HBS HQ11 HOWN HGR HFR HOB HW' HC' HMR HOR HAP HWV HHP HKA hvb K2 K3
                obtain ⟨An4, cn4, hv4, _, _, hnc⟩ := cels_open HT4.out
                rw [rowF_len] at hnc
                injection hv4 with hv41 hv42 hv43
                subst hv41
                obtain ⟨gn, offn, hge, hnx⟩ := hnc (by omega)
                injection hge with hge
                injection hge with hge1 hge2
                subst hge1
                subst hge2
                obtain ⟨vf, e0', hcf⟩ := hnx c _ (rowF_at hcn)
                have e0 := HQN.out.cell e0'
                obtain ⟨fz, hf⟩ : ∃ f, (fol n l c).length = f := ⟨_, rfl⟩
                have HFZ := Lib.hid hf
                obtain ⟨Af, cf, rfl, f1, f2, hcf2⟩ := cel_nats hcf hf
                unfold maxLen at f2
                have HCFL := Lib.hid hcf2
                have hfn := fol_len n l c
                rw [hf] at hfn
                rw [Nat.zero_add] at e0
                clear hnc hnx e0' hcf hcf2 hf hv42 hv43
                go_wp2
                go_loopw [15, 69] (fun _ vj wr => ∃ (j : Nat) (M : List Int) (v : Value) (H : List Nat), vj = .int .i64 (j : Int) ∧ j ≤ fz ∧ Own w4 wr ∧ wr.ownsRow gm 3 1 (.slice (some ⟨gm, 0, none⟩) n n) n (cellsI M) ∧ Wv wr w8.heap.size hb v H ∧ Hep H H.length ∧ Kn n l out c ((fol n l c).take j) M H ∧ wr.ownsRow w8.heap.size 3 1 (.slice A11 (ol + 1) c11) (ol + 1) (cellsI (ints (out ++ [c]))) ∧ ((Value.slice A11 (ol + 1) c11).ownBlock = none ∨ (Value.slice A11 (ol + 1) c11).ownBlock ≠ v.ownBlock) ∧ w8.heap.size ≤ wr.heap.size) (fun _ vj _ => fz - (intOf vj).toNat)
                case atStart => exact ⟨0, M, _, H', rfl, Nat.zero_le _, HQN.out, HMN.out, HWN.out, by rw [HHL'.out]; exact HH'.out, HKN.out, HON.out, HAN.out, HSN.out⟩
                case round =>
                  clear HQN HMN HWN HH' HHL' HP' HKN HON HAN HSN e0
                  obtain ⟨j, M, v, H, rfl, hj, q, hm, hwv, hhp, hkn, hon, han, hsn⟩ := hrel
                  have HMR := Lib.hid hm
                  have HWV := Lib.hid hwv
                  have HHP := Lib.hid hhp
                  have HKN := Lib.hid hkn
                  have HON := Lib.hid hon
                  have HAN := Lib.hid han
                  clear hm hwv hhp hkn hon han
                  by_cases hlt : j < fz
                  · have hjl : j < (fol n l c).length := by rw [HFZ.out]; exact hlt
                    obtain ⟨x, hx⟩ : ∃ x, (fol n l c)[j]? = some x := ⟨_, List.getElem?_eq_getElem hjl⟩
                    obtain ⟨gf, offf, rfl, hcf⟩ := HCFL.out (by omega)
                    have c1 := q.cell (hcf j x hx)
                    have hxm := List.mem_of_getElem? hx
                    have hax : ar l c x = true := (fol_mem.1 hxm).2
                    have hxn : x < n := (fol_mem.1 hxm).1
                    have hxT : x ∉ (fol n l c).take j := fun hh => by
                      have := take_asc (fol_asc n l c) hx x hh
                      omega
                    obtain ⟨b, hMb, hb0, hbn, _, hskip, hpush⟩ := HKN.out.step HG.out HOK.out HCF.out hax hxT
                    rw [← take_next hx] at hskip hpush
                    obtain ⟨bv, e0, hbv, f0⟩ := row_int HMR.out HKN.out.ml hxn
                    rw [hMb] at hbv
                    injection hbv with hbv
                    have i1 : IntKind.i64.wrap (bv - 1) = b := (IntWalk.i64_in _ (by omega)).trans (by omega)
                    have i2 : bv - 1 = b := by omega
                    have HSK := Lib.hid hskip
                    have HPU := Lib.hid hpush
                    have HMS := Lib.hid (row_puti HMR.out x b)
                    have hvg : v.ownBlock ≠ some gm := fun e => by
                      have h1 := (HWV.out.rw.lt gm e).1
                      have h2 := HG8.out
                      omega
                    have HWS := Lib.hid (wv_set (i := x) (u := .int .i64 b) HWV.out (show gm ≠ hb from fun e => by have := HGMB.out; omega) hvg)
                    have HOS := Lib.hid (ownsRow_setCell_other HON.out (a := ⟨gm, x, none⟩) (fun e => by
                      have h1 := (HON.out.lt gm e).1
                      have h2 := HG8.out
                      omega) (.int .i64 b))
                    have QS := Lib.hid (q.setCell (p := ⟨gm, x, none⟩) (Nat.le_of_eq HGM.out) (.int .i64 b))
                    have SS := Lib.hid (show w8.heap.size ≤ (wr.setCell ⟨gm, x, none⟩ (.int .i64 b)).heap.size from by simpa [World.setCell] using hsn)
                    have hHn := Kn.small HKN.out
                    have hjz : (j : Int) < fz := by omega
                    have hxz : (x : Int) < n := by omega
                    clear hjl hx hcf hxm hax hxT hMb hbv hskip hpush hvg
                    by_cases hbz : b = 0
                    · have HPU2 := Lib.hid (HPU.out hbz)
                      clear HPU HSK
                      subst hbz
                      have d4 : (bv - 1 == 0) = true := beq_iff_eq.2 i2
                      go_wp2_with (go_at_call 34; refine (hpsh_at w8.heap.size hb x H.length H v _ HWS HHP rfl (by omega) SS.out).mono ?_; rintro e w9 ⟨rfl, gv2, cv2, H2, hperm, hhp', hwv', hch⟩; have HP2 := Lib.hid hperm; have HH2 := Lib.hid hhp'; have HW2 := Lib.hid hwv'; have HC2 := Lib.hid hch; clear hperm hhp' hwv' hch)
                      go_roundw
                      case rel =>
                        have hvb := fun b (hb : v.ownBlock = some b) => (HWS.out.rw.lt b hb).1
                        refine ⟨j + 1, _, _, H2, by go_num, hlt, ch_own QS.out HC2.out HB4.out (fun b hb => by have h1 := hvb b hb; have h2 := HB4.out; have h3 := HB8.out; omega), ch_row HMS.out HC2.out HNE.out (.inr fun e => by have h1 := hvb gm e.symm; have h2 := HG8.out; omega), HW2.out, by rw [HP2.out.length_eq]; exact HH2.out, HPU2.out H2 HP2.out, ch_row HOS.out HC2.out (row_box HWS.out HOS.out) HAN.out, ch_apart HOS.out HC2.out HAN.out, Nat.le_trans SS.out HC2.out.size⟩
                      case measure => simp [intOf]; omega
                    · have d4 : (b == 0) = false := beq_eq_false_iff_ne.2 hbz
                      go_wp2
                      go_roundw
                      case rel => exact ⟨j + 1, _, v, H, by go_num, hlt, QS.out, HMS.out, HWS.out, HHP.out, HSK.out hbz, HOS.out, HAN.out, SS.out⟩
                      case measure => simp [intOf]; omega
                  · have ejf : j = fz := by omega
                    subst ejf
                    have HKD := Lib.hid (show Ka n l (out ++ [c]) M H from by
                      have h1 := HKN.out
                      rw [List.take_of_length_le (by rw [HFZ.out]; exact Nat.le_refl _)] at h1
                      exact h1.done HG.out)
                    have HOF2 := Lib.hid (show ordF n l (n - (out ++ [c]).length) (out ++ [c]) = ordO n l from by
                      rw [← HOF.out, List.length_append, HOL.out]
                      show ordF n l (n - (ol + 1)) (out ++ [c]) = _
                      rw [show n - ol = (n - (ol + 1)) + 1 by omega, ordF_step HNX.out])
                    have HLE := Lib.hid (show (out ++ [c]).length = ol + 1 by rw [List.length_append, HOL.out]; rfl)
                    go_wp2
                    go_roundw
                    case rel => exact ⟨out ++ [c], M, v, H, HOK2.out, q, HMR.out, HWV.out, HHP.out, HKD.out, by rw [HLE.out]; exact HON.out, HAN.out, by rw [HLE.out]; exact hol3, HOF2.out, hsn⟩
                    case measure => simp [lenOf]; omega
              · obtain rfl : H = [] := List.eq_nil_of_length_eq_zero (by omega)
                obtain ⟨Av, cv, rfl⟩ := rows_shape hwv.rw
                have k1 := hwv.cell.1
                have k0 := (p4.trans qo).cell HK0.out
                have HNN := Lib.hid (HKA.out.none)
                clear hwv hH
                by_cases hlt : ol < n
                · obtain ⟨rfl, rfl⟩ := HNONE.out (by
                    rw [← HOF.out, show n - ol = (n - ol - 1) + 1 by omega, ordF_stop HNN.out])
                  have hltz : (ol : Int) < n := by omega
                  go_wp2
                  go_ret2
                  exact ⟨_, rfl, World.ownsRow_nil _ _ _ _, g0.trans (p4.trans qo)⟩
                · have eon : n = ol := by omega
                  have HLV := Lib.hid (HSOME.out out (by
                    rw [← HOF.out, eon, Nat.sub_self]
                    rfl))
                  obtain ⟨rfl, rfl⟩ := HLV.out
                  have hltz : ¬ (ol : Int) < n := by omega
                  clear eon
                  go_wp2
                  go_ret2
                  refine ⟨_, rfl, ?_, g0.trans (p4.trans qo)⟩
                  rw [HOL.out]
                  exact row_down HOR.out HS48.out
  · obtain ⟨rfl, rfl⟩ : ce = f ∧ [] = V := by
      have h1 : ordE N l = ce := by unfold ordE; rw [if_pos (by rw [hce]; exact c0), hce]
      exact ⟨by rw [← H.out.1, h1], by rw [← H.out.2, ordV_bad (by rw [h1]; exact c0)]⟩
    have d1 : (ce == 0) = false := beq_eq_false_iff_ne.2 c0
    have d2 : (ce != 0) = true := bne_iff_ne.2 c0
    clear hce H hi hz0 hz1 hz2
    go_enter Try.func15, Try.ntmps15
    go_upto_region 1 with (fail)
    have k0 : (w.alloc (.cells #[.int .i64 N, .slice A m cap] 24)).cell? ⟨w.heap.size, 0, none⟩ = some (.int .i64 N) := by go_simp
    have k1 : (w.alloc (.cells #[.int .i64 N, .slice A m cap] 24)).cell? ⟨w.heap.size, 1, none⟩ = some (.slice A m cap) := by go_simp
    have g0 : Own w (w.alloc (.cells #[.int .i64 N, .slice A m cap] 24)) := (Own.refl w).alloc _
    generalize hW : (w.alloc (.cells #[.int .i64 N, .slice A m cap] 24)) = W0 at *
    clear hW
    have HP0 := Lib.hid (HP.out.own g0)
    go_wp2_with (go_at_call 11; with_reducible refine (pcheck_at N l _ ce _ HP0 HCE).mono ?_; rintro e w1 ⟨rfl, q1⟩; replace k0 := q1.cell k0; replace k1 := q1.cell k1; have p1 := q1)
    go_ret2
    exact ⟨_, rfl, World.ownsRow_nil _ _ _ _, g0.trans p1⟩
end Go.Proofs.Ytkdfmjhhdfiiiaa.GraW
