/-
  Package graph: the law Order. Condition: none.
-/
import Derived.Test.YtkdfmjhhdfiiiaaGraphL1
import Derived.Deep.RegionHeld3
namespace Go.Proofs.Ytkdfmjhhdfiiiaa.GraW
open Go.ChangeShapes Go.WideShapes Go.ChangeAt Go.RowKit
open PairW CelW GraP TabW RowA
theorem ord_all {n : Nat} {l : List Ar} {L : List Nat} (h : OrdOk n l L) (hl : L.length = n) {x : Nat} (hx : x < n) : ∃ j : Nat, L[j]? = some x := by
  rcases Classical.em (x ∈ L) with h1 | h1
  · exact List.mem_iff_getElem?.1 h1
  · have hnd : (x :: L).Nodup := List.nodup_cons.2 ⟨h1, h.nd⟩
    have hlt : ∀ y ∈ x :: L, y < n := fun y hy => by
      rcases List.mem_cons.1 hy with e | e
      · rw [e]; exact hx
      · exact h.lt y e
    have hlen : (x :: L).length = n + 1 := by rw [List.length_cons, hl]
    have := inj_le (n := n) (m := n + 1) (fun i => (x :: L).getD i 0) (fun i hi => by
      show (x :: L).getD i 0 < n
      rw [List.getD_eq_getElem?_getD, List.getElem?_eq_getElem (show i < (x :: L).length by omega)]
      exact hlt _ (List.getElem_mem _)) fun i j hij hj e => by
      have e : (x :: L).getD i 0 = (x :: L).getD j 0 := e
      have h2 : (x :: L)[i]? = some ((x :: L).getD i 0) := by rw [List.getD_eq_getElem?_getD, List.getElem?_eq_getElem (show i < (x :: L).length by omega)]; rfl
      have h3 : (x :: L)[j]? = some ((x :: L).getD i 0) := by rw [e, List.getD_eq_getElem?_getD, List.getElem?_eq_getElem (show j < (x :: L).length by omega)]; rfl
      have := get_one hnd h2 h3
      omega
    omega
/-- The places of the first i of an order. -/
structure Ps (n : Nat) (L : List Nat) (i : Nat) (R : List Int) : Prop where
  len : R.length = n
  put : ∀ j c : Nat, j < i → L[j]? = some c → R[c]? = some (((j + 1 : Nat) : Int))
  no : ∀ x, x < n → x ∉ L.take i → R[x]? = some 0
theorem ps_start (n : Nat) (L : List Nat) : Ps n L 0 (List.replicate n 0) := ⟨List.length_replicate, fun j c h => absurd h (Nat.not_lt_zero _), fun x hx _ => by rw [List.getElem?_replicate, if_pos hx]⟩
theorem Ps.free {n : Nat} {L : List Nat} {i c : Nat} {R : List Int} (h : Ps n L i R) (nd : L.Nodup) (hc : L[i]? = some c) (hcn : c < n) : R[c]? = some 0 := by
  refine h.no c hcn fun hm => ?_
  obtain ⟨j, hj⟩ := List.mem_iff_getElem?.1 hm
  rw [List.getElem?_take] at hj
  split at hj
  · have := get_one nd hj hc
    omega
  · cases hj
theorem Ps.step {n : Nat} {L : List Nat} {i c : Nat} {R : List Int} (h : Ps n L i R) (nd : L.Nodup) (hc : L[i]? = some c) (hcn : c < n) : Ps n L (i + 1) (R.set c (((i + 1 : Nat) : Int))) := by
  refine ⟨by rw [List.length_set]; exact h.len, fun j d hj hd => ?_, fun x hx hn => ?_⟩
  · rw [List.getElem?_set]
    by_cases e : c = d
    · subst e
      have := get_one nd hd hc
      subst this
      rw [if_pos rfl, if_pos (by rw [h.len]; exact hcn)]
    · rw [if_neg e]
      refine h.put j d ?_ hd
      by_cases e2 : j = i
      · subst e2
        rw [hc] at hd
        injection hd with hd
        exact absurd hd e
      · omega
  · have hil : i < L.length := (List.getElem?_eq_some_iff.1 hc).1
    have ht : L.take (i + 1) = L.take i ++ [c] := by
      rw [List.take_add_one, hc]
      rfl
    rw [ht, List.mem_append, List.mem_singleton] at hn
    rw [List.getElem?_set, if_neg (fun e => hn (.inr e.symm))]
    exact h.no x hx fun e => hn (.inl e)
theorem rea_yes2 {n : Nat} {l : List Ar} {a : Nat} (h : chkE (n : Int) l = 0) (ha : a < n) : reaE (n : Int) l (a : Int) = 0 ∧ reaV (n : Int) l (a : Int) = rchV n l a := by
  have h1 : reaE (n : Int) l (a : Int) = 0 := by unfold reaE; rw [if_neg (by rw [h]; simp), if_pos (inN_iff.2 ⟨by omega, by omega⟩)]
  exact ⟨h1, by unfold reaV; rw [if_pos h1, Int.toNat_natCast, Int.toNat_natCast]⟩
theorem ord_v {n : Nat} {l : List Ar} {L : List Nat} (h : chkE (n : Int) l = 0) (ho : ordO n l = some L) : ordE (n : Int) l = 0 ∧ ordV (n : Int) l = L := by
  have h1 : ordE n l = 0 := by unfold ordE; rw [if_neg (by rw [h]; simp), Int.toNat_natCast, ho]; rfl
  exact ⟨h1, by unfold ordV; rw [if_pos h1, Int.toNat_natCast, ho]; rfl⟩
theorem ord_w {n : Nat} {l : List Ar} (h : chkE (n : Int) l = 0) (ho : ordO n l = none) : ordE (n : Int) l = 15 ∧ ordV (n : Int) l = [] := by
  have h1 : ordE n l = 15 := by unfold ordE; rw [if_neg (by rw [h]; simp), Int.toNat_natCast, ho]; rfl
  exact ⟨h1, ordV_bad (by rw [h1]; decide)⟩
theorem nil_row {w : World} {base : Nat} {e : TypeId} {v : Value} {xs : List Value} (h : w.ownsRow base e 1 v ([] : List Nat).length xs) : ∃ A k, v = .slice A 0 k := row_sh h
set_option maxRecDepth 100000 in
set_option maxHeartbeats 4000000 in
theorem lorder_at (N : Int) (l : List Ar) (sv : Value) (w : World) (HP : Hid (Pts w sv l)) :
    Calls Try.prog 8 #[grV N sv] w fun e w' => e = .returned (.bool true) ∧ Own w w' := by
  obtain ⟨i0, hi, hz0, hz1, hz2⟩ := info_parts (show (Try.prog.info? 3).map (fun i => (i.zero, i.size, i.bytes)) = some (some (.int .i64 0), 1, 8) by kernel_rfl)
  have HI := Lib.hid hi
  have HZ0 := Lib.hid hz0
  have HZ1 := Lib.hid hz1
  have HBY0 := Lib.hid hz2
  clear hi hz0 hz1 hz2
  obtain ⟨A, cap, rfl, a1, a2, a3⟩ := HP.out.open
  unfold maxLen at a2
  obtain ⟨m, hm⟩ : ∃ m, l.length = m := ⟨_, rfl⟩
  have HM := Lib.hid hm
  rw [hm] at a1 a3 HP ⊢
  have HCA := Lib.hid a3
  clear a3
  obtain ⟨ce, hce⟩ : ∃ f, chkE N l = f := ⟨_, rfl⟩
  have HCE := Lib.hid hce
  cases hlg : ligB N l with
  | false =>
    have HLG := Lib.hid hlg
    clear hlg hm hce
    go_enter Try.func8, Try.ntmps8
    go_upto_region 1 with (fail)
    obtain ⟨W0, hW, k0, k1, g0⟩ := box_new w N (.slice A m cap)
    rw [hW]
    clear hW
    have HP0 := Lib.hid (HP.out.own g0)
    go_wp2_with (first
      | (go_at_call 14; with_reducible refine (rlight_at N l _ false _ HP0 HLG).mono ?_; rintro e w1 ⟨rfl, q1⟩; have HP1 := Lib.hid (HP0.out.own q1); replace k0 := q1.cell k0; replace k1 := q1.cell k1)
      | (go_at_call 13; with_reducible refine (awake_at _).mono ?_; rintro e wz ⟨rfl, qz⟩))
    go_ret
    exact ⟨rfl, g0.trans (q1.trans qz)⟩
  | true =>
    have HLG := Lib.hid hlg
    clear hlg hm
    by_cases c0 : ce = 0
    · subst c0
      obtain ⟨b0, b1, b2, Gf⟩ := chk_ok.1 hce
      obtain ⟨n, rfl⟩ : ∃ n : Nat, N = n := ⟨N.toNat, by omega⟩
      rw [Int.toNat_natCast] at Gf
      have HG := Lib.hid Gf
      have hn64 : n ≤ 64 := by omega
      clear hce Gf b0 b1 b2
      go_enter Try.func8, Try.ntmps8
      go_upto_region 1 with (fail)
      obtain ⟨W0, hW, k0, k1, g0⟩ := box_new w (n : Int) (.slice A m cap)
      rw [hW]
      clear hW
      have HP0 := Lib.hid (HP.out.own g0)
      go_upto_region 4 with (first
        | (go_at_call 14; with_reducible refine (rlight_at n l _ true _ HP0 HLG).mono ?_; rintro e w1 ⟨rfl, q1⟩; have HP1 := Lib.hid (HP0.out.own q1); replace k0 := q1.cell k0; replace k1 := q1.cell k1)
        | (go_at_call 11; with_reducible refine (pcheck_at n l _ 0 _ HP1 HCE).mono ?_; rintro e w2 ⟨rfl, q2⟩; have HP2 := Lib.hid (HP1.out.own q2); replace k0 := q2.cell k0; replace k1 := q2.cell k1))
      have HQ2 := Lib.hid (g0.trans (q1.trans q2))
      have HK0 := Lib.hid k0
      have HK1 := Lib.hid k1
      clear q1 q2 k0 k1 g0 HP0 HP1
      go_loopw [3, 4] (fun vi _ wr => ∃ i : Nat, vi = .int .i64 (i : Int) ∧ i ≤ m ∧ Own w2 wr) (fun vi _ _ => m - (intOf vi).toNat)
      case atStart => exact ⟨0, rfl, Nat.zero_le _, Own.refl _⟩
      case round =>
        obtain ⟨i, rfl, him, q⟩ := hrel
        have k0 := q.cell HK0.out
        have k1 := q.cell HK1.out
        by_cases hlt : i < m
        · have himz : (i : Int) < m := by omega
          obtain ⟨bk, off, rfl, hc⟩ := HCA.out (by omega)
          have hil : i < l.length := by rw [HM.out]; exact hlt
          obtain ⟨u, v, huv, hun, hvn⟩ := HG.out.at hil
          have c0 := (HQ2.out.trans q).cell (hc i hlt).1
          have c1 := (HQ2.out.trans q).cell (hc i hlt).2
          rw [huv] at c0 c1
          simp only at c0 c1
          clear hc huv hil
          obtain ⟨e0, e1, _, _⟩ := pt_new wr (u : Int) (v : Int) 46
          have qa := (Own.refl wr).alloc (.cells #[.int .i64 (u : Int), .int .i64 (v : Int)] 46)
          replace k0 := qa.cell k0
          have du : decide ((u : Int) < 0) = false := decide_eq_false (by omega)
          have dv : decide ((v : Int) < 0) = false := decide_eq_false (by omega)
          have eu : decide ((n : Int) ≤ u) = false := decide_eq_false (by omega)
          have ev : decide ((n : Int) ≤ v) = false := decide_eq_false (by omega)
          go_upto_region 7 with (fail)
          generalize wr.alloc (.cells #[.int .i64 (u : Int), .int .i64 (v : Int)] 46) = w5 at *
          go_wp2
          go_roundw
          case rel => exact ⟨i + 1, by go_num, hlt, q.trans qa⟩
          case measure => simp [intOf]; omega
        · have eim : i = m := by omega
          subst eim
          have HPA := Lib.hid (HP2.out.own q)
          cases hord : ordO n l with
          | none =>
            have HOR := Lib.hid (ord_w HCE.out hord)
            have HNO := Lib.hid (ord_none HG.out hord)
            clear hord
            go_upto_region 11 with (go_at_call 15; with_reducible refine (porder_at n l _ 15 [] _ HPA HOR).mono ?_; rintro e w3 ⟨v3, rfl, hr3, q3⟩; obtain ⟨A3, c3, rfl⟩ := nil_row hr3; have HQ3 := Lib.hid (q.trans q3); clear hr3)
            clear k0 k1 q q3
            go_upto_region 12 with (fail)
            go_loopw [7, 8, 9] (fun vi _ _ wr => ∃ j : Nat, vi = .int .i64 (j : Int) ∧ j ≤ i ∧ Own w3 wr ∧ ∀ h u v : Nat, h < j → at' l h = ((u : Int), (v : Int)) → rch n l v u = false) (fun vi _ _ _ => i - (intOf vi).toNat)
            case atStart => exact ⟨0, rfl, Nat.zero_le _, Own.refl _, fun h u v hh => absurd hh (Nat.not_lt_zero _)⟩
            case round =>
              obtain ⟨j, rfl, hj, q, hno⟩ := hrel
              have HNN := Lib.hid hno
              clear hno
              have k0 := (HQ3.out.trans q).cell HK0.out
              have k1 := (HQ3.out.trans q).cell HK1.out
              by_cases hlt2 : j < i
              · have hjz : (j : Int) < i := by omega
                obtain ⟨bk, off, rfl, hc⟩ := HCA.out (by omega)
                have hil : j < l.length := by rw [HM.out]; exact hlt2
                obtain ⟨u, v, huv, hun, hvn⟩ := HG.out.at hil
                have cu := (HQ2.out.trans (HQ3.out.trans q)).cell (hc j hlt2).1
                have cv := (HQ2.out.trans (HQ3.out.trans q)).cell (hc j hlt2).2
                rw [huv] at cu cv
                simp only at cu cv
                have HUV := Lib.hid huv
                have hunz : (u : Int) < n := by omega
                have qd := (Own.refl wr).drew
                have HPD := Lib.hid (HP2.out.own ((HQ3.out.trans q).trans qd))
                have HRE := Lib.hid (rea_yes2 HCE.out hvn)
                have HVL := Lib.hid (rchV_len n l v)
                have HRB := Lib.hid (show (rchV n l v)[u]? = some (rch n l v u) by unfold rchV; rw [List.getElem?_map, List.getElem?_range hun]; rfl)
                have m0 := qd.cell k0
                have m1 := qd.cell k1
                have mv := qd.cell cv
                have HCU := Lib.hid (qd.cell cu)
                have HQD := Lib.hid qd
                clear hc huv hil cu qd
                obtain ⟨t, ht⟩ : ∃ t, rch n l v u = t := ⟨_, rfl⟩
                rw [ht] at HRB
                have HT := Lib.hid ht
                clear ht
                go_upto_region 14 with (fail)
                go_region_held3 (fun w' => w'.cell? ⟨w.heap.size, 0, none⟩ = some (.int .i64 (n : Int)) ∧ w'.cell? ⟨w.heap.size, 1, none⟩ = some (.slice (some ⟨bk, off, none⟩) i cap) ∧ w'.cell? ⟨bk, off + j * 2 + 1, none⟩ = some (.int .i64 (v : Int))) (first | exact ⟨k0, k1, cv⟩ | exact ⟨m0, m1, mv⟩ | exact ⟨p0, p1, pv⟩) ((first | (go_at_call 18; with_reducible refine (preach_at n v l _ 0 _ _ HPD HRE).mono ?_; rintro e w8 ⟨v8, rfl, hr8, q8⟩; rw [HVL.out] at hr8; obtain ⟨gr, cr, rfl, _, _⟩ := row_form hr8 (by omega); obtain ⟨tt, e0, het, _⟩ := row_bool hr8 HVL.out hun; rw [HRB.out] at het; injection het with het; subst het; have p0 := q8.cell m0; have p1 := q8.cell m1; have pv := q8.cell mv; have pu := q8.cell HCU.out; have HQ8 := Lib.hid (HQD.out.trans q8); clear hr8 q8)))
                clear m0 m1 mv k0 k1 cv
                cases t with
                | false =>
                  go_wp2
                  go_roundw
                  case rel => exact ⟨j + 1, by go_num, hlt2, q.trans HQ8.out, fun h x y hh hxy => by
                    by_cases e : h = j
                    · subst e
                      rw [HUV.out] at hxy
                      injection hxy with h1 h2
                      rw [← show u = x by omega, ← show v = y by omega]
                      exact HT.out
                    · exact HNN.out h x y (by omega) hxy⟩
                  case measure => simp [intOf]; omega
                | true =>
                  go_wp2_with (go_at_call 13; with_reducible refine (awake_at _).mono ?_; rintro e wb ⟨rfl, qb⟩)
                  go_ret
                  exact ⟨rfl, HQ2.out.trans (HQ3.out.trans (q.trans (HQ8.out.trans qb)))⟩
              · exact absurd HNO.out (by
                  rintro ⟨x, y, h1, h2⟩
                  obtain ⟨h, hh, hat⟩ := ar_at h1
                  rw [HNN.out h x y (by have := HM.out; omega) hat] at h2
                  cases h2)
          | some L =>
            have HOR := Lib.hid (ord_v HCE.out hord)
            obtain ⟨hok, hll⟩ := ord_some HG.out hord
            have HOK := Lib.hid hok
            have HLL := Lib.hid hll
            clear hord hok hll
            have HBY := Lib.hid (show i0.bytes * n ≤ 281474976710656 by rw [HBY0.out]; omega)
            have HMX := Lib.hid (show n ≤ maxLen by unfold maxLen; omega)
            have HZL := Lib.hid (show (madeCells (Value.int .i64 0).cells (n * 1)).toList = cellsI (List.replicate n 0) by rw [Nat.mul_one]; show (madeCells #[Value.int .i64 0] n).toList = _; rw [toList_madeCells_one]; unfold cellsI; rw [List.map_replicate])
            go_upto_region 10 with (go_at_call 15; with_reducible refine (porder_at n l _ 0 L _ HPA HOR).mono ?_; rintro e w3 ⟨v3, rfl, hr3, q3⟩; rw [HLL.out] at hr3; obtain ⟨A3, c3, rfl⟩ := row_sh hr3; have HR3 := Lib.hid hr3; have HQ3 := Lib.hid (q.trans q3); replace k0 := q3.cell k0; clear hr3)
            clear k1 q q3
            go_upto_region 23 with (at_make; refine wpList_make_full _ rfl _ _ 29 rfl w3.heap.size 3 i0 (.int .i64 0) 1 Try.underlying29 HI.out HZ0.out HZ1.out _ _ _ _ n rfl rfl rfl rfl HBY.out HMX.out (Nat.le_refl _) ?_; intro w4 hown4 hg4; have q4 := (Own.refl w3).grown hg4 (by simp); have HR4 := Lib.hid (show w4.ownsRow w3.heap.size 3 1 (.slice (some ⟨w3.heap.size, 0, none⟩) n n) n (cellsI (List.replicate n 0)) from HZL.out ▸ hown4); clear hown4 hg4)
            obtain ⟨g, hgg⟩ : ∃ g, w3.heap.size = g := ⟨_, rfl⟩
            have HGG := Lib.hid hgg
            rw [hgg] at HR4 ⊢
            have HPS := Lib.hid (ps_start n L)
            have HCL := Lib.hid (fun (i c : Nat) (hi : i < n) (hc : L[i]? = some c) => show ∃ ad o, A3 = some ⟨ad, o, none⟩ ∧ w3.cell? ⟨ad, o + i, none⟩ = some (.int .i64 (c : Int)) by
              obtain ⟨ad, cc, e, _, _⟩ := row_form HR3.out (by omega)
              injection e with e1 e2 e3
              subst e1
              refine ⟨ad, 0, rfl, ?_⟩
              rw [Nat.zero_add, World.ownsRow.cellAt HR3.out i (by omega)]
              unfold cellsI
              rw [List.getElem?_map, ints_at hc]
              rfl)
            clear hgg k0
            go_upto_region 24 with (fail)
            go_loopw [11] (fun vi wr => ∃ (j : Nat) (R : List Int), vi = .int .i64 (j : Int) ∧ j ≤ n ∧ Own w3 wr ∧ wr.ownsRow g 3 1 (.slice (some ⟨g, 0, none⟩) n n) n (cellsI R) ∧ Ps n L j R) (fun vi _ => n - (intOf vi).toNat)
            case atStart => exact ⟨0, _, rfl, Nat.zero_le _, q4, HR4.out, HPS.out⟩
            case round =>
              clear HR4 HPS q4
              obtain ⟨j, R, rfl, hj, q, hrow, hps⟩ := hrel
              have HROW := Lib.hid hrow
              have HPS := Lib.hid hps
              clear hrow hps
              have k0 := (HQ3.out.trans q).cell HK0.out
              by_cases hlt2 : j < n
              · have hjz : (j : Int) < n := by omega
                obtain ⟨c, hc⟩ : ∃ c, L[j]? = some c := ⟨_, List.getElem?_eq_getElem (show j < L.length by rw [HLL.out]; exact hlt2)⟩
                have hcn := HOK.out.lt c (List.mem_of_getElem? hc)
                obtain ⟨ad, o3, rfl, hcell⟩ := HCL.out j c hlt2 hc
                have e0 := q.cell hcell
                have hfree := HPS.out.free HOK.out.nd hc hcn
                obtain ⟨z, e1, hz, f1⟩ := row_int HROW.out HPS.out.len hcn
                rw [hfree] at hz
                injection hz with hz
                subst hz
                have HPS2 := Lib.hid (HPS.out.step HOK.out.nd hc hcn)
                have hcz : (c : Int) < n := by omega
                have dc : decide ((c : Int) < 0) = false := decide_eq_false (by omega)
                have dn : decide ((n : Int) ≤ c) = false := decide_eq_false (by omega)
                have HF1 := Lib.hid f1
                clear hcell hfree hc f1
                go_upto_region 26 with (fail)
                go_quiet (fail)
                have qn := (Own.refl wr).drewN nq
                generalize wr.drewN nq = w6 at *
                replace e0 := qn.cell e0
                have f1 := frozen_kept qn e1 HF1.out
                replace e1 := qn.cell e1
                have HROW2 := Lib.hid (row_puti (row_own HROW.out qn) c ((j : Int) + 1))
                have HPS3 := Lib.hid (show Ps n L (j + 1) (R.set c ((j : Int) + 1)) from HPS2.out)
                have HQ6 := Lib.hid ((q.trans qn).setCell (p := ⟨g, c, none⟩) (Nat.le_of_eq HGG.out) (.int .i64 ((j : Int) + 1)))
                clear k0
                go_wp2
                go_roundw
                case rel => exact ⟨j + 1, _, by go_num, hlt2, HQ6.out, HROW2.out, HPS3.out⟩
                case measure => simp [intOf]; omega
              · have ejn : j = n := by omega
                subst ejn
                have HQZ := Lib.hid (HQ3.out.trans q)
                clear q k0
                generalize wr = wz at *
                go_upto_region 30 with (fail)
                go_loopw [12] (fun vi wy => ∃ h : Nat, vi = .int .i64 (h : Int) ∧ h ≤ i ∧ Own wz wy) (fun vi _ => i - (intOf vi).toNat)
                case atStart => exact ⟨0, rfl, Nat.zero_le _, Own.refl _⟩
                case round =>
                  obtain ⟨h, rfl, hhi, q⟩ := hrel
                  have k1 := (HQZ.out.trans q).cell HK1.out
                  by_cases hlt3 : h < i
                  · have hhz : (h : Int) < i := by omega
                    obtain ⟨bk, off, rfl, hc⟩ := HCA.out (by omega)
                    have hil : h < l.length := by rw [HM.out]; exact hlt3
                    obtain ⟨u, v, huv, hun, hvn⟩ := HG.out.at hil
                    have cu := (HQ2.out.trans (HQZ.out.trans q)).cell (hc h hlt3).1
                    have cv := (HQ2.out.trans (HQZ.out.trans q)).cell (hc h hlt3).2
                    rw [huv] at cu cv
                    simp only at cu cv
                    obtain ⟨pv, hpv⟩ := ord_all HOK.out HLL.out hvn
                    obtain ⟨pu, hlt4, hpu⟩ := HOK.out.bf pv v hpv u (at_ar hil huv)
                    have hpl : pv < j := by have := (List.getElem?_eq_some_iff.1 hpv).1; have := HLL.out; omega
                    have hru := HPS.out.put pu u (by omega) hpu
                    have hrv := HPS.out.put pv v hpl hpv
                    obtain ⟨zu, eu, hzu, _⟩ := row_int HROW.out HPS.out.len hun
                    obtain ⟨zv, ev, hzv, _⟩ := row_int HROW.out HPS.out.len hvn
                    rw [hru] at hzu
                    rw [hrv] at hzv
                    injection hzu with hzu
                    injection hzv with hzv
                    subst hzu
                    subst hzv
                    replace eu := q.cell eu
                    replace ev := q.cell ev
                    obtain ⟨xu, hxu⟩ : ∃ x : Int, (((pu + 1 : Nat) : Int)) = x := ⟨_, rfl⟩
                    obtain ⟨xv, hxv⟩ : ∃ x : Int, (((pv + 1 : Nat) : Int)) = x := ⟨_, rfl⟩
                    rw [hxu] at eu
                    rw [hxv] at ev
                    have dd : decide (xv ≤ xu) = false := decide_eq_false (by omega)
                    have huz : (u : Int) < j := by omega
                    have hvz : (v : Int) < j := by omega
                    clear hc huv hil hpv hpu hru hrv hxu hxv
                    go_upto_region 32 with (fail)
                    go_quiet (fail)
                    have qn := (Own.refl wr).drewN nq
                    generalize wr.drewN nq = w6 at *
                    clear cu cv eu ev k1
                    go_wp2
                    go_roundw
                    case rel => exact ⟨h + 1, by go_num, hlt3, q.trans qn⟩
                    case measure => simp [intOf]; omega
                  · have ehi : h = i := by omega
                    subst ehi
                    go_wp2_with (go_at_call 13; with_reducible refine (awake_at _).mono ?_; rintro e wb ⟨rfl, qb⟩)
                    go_ret
                    exact ⟨rfl, HQ2.out.trans (HQZ.out.trans (q.trans qb))⟩
    · have d1 : (ce == 0) = false := beq_eq_false_iff_ne.2 c0
      clear hce
      go_enter Try.func8, Try.ntmps8
      go_upto_region 1 with (fail)
      obtain ⟨W0, hW, k0, k1, g0⟩ := box_new w N (.slice A m cap)
      rw [hW]
      clear hW
      have HP0 := Lib.hid (HP.out.own g0)
      go_wp2_with (first
        | (go_at_call 14; with_reducible refine (rlight_at N l _ true _ HP0 HLG).mono ?_; rintro e w1 ⟨rfl, q1⟩; have HP1 := Lib.hid (HP0.out.own q1); replace k0 := q1.cell k0; replace k1 := q1.cell k1)
        | (go_at_call 11; with_reducible refine (pcheck_at N l _ ce _ HP1 HCE).mono ?_; rintro e w2 ⟨rfl, q2⟩; have HP2 := Lib.hid (HP1.out.own q2); replace k0 := q2.cell k0; replace k1 := q2.cell k1)
        | (go_at_call 13; with_reducible refine (awake_at _).mono ?_; rintro e wz ⟨rfl, qz⟩))
      go_ret
      exact ⟨rfl, g0.trans (q1.trans (q2.trans qz))⟩
end Go.Proofs.Ytkdfmjhhdfiiiaa.GraW
