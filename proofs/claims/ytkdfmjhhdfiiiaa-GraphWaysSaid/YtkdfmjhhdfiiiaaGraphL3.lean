/-
  Package graph: the law Ways. Condition: none.
-/
import Derived.Test.YtkdfmjhhdfiiiaaGraphL1
import Derived.Deep.RegionHeld3
namespace Go.Proofs.Ytkdfmjhhdfiiiaa.GraW
open Go.ChangeShapes Go.WideShapes Go.ChangeAt Go.RowKit
open PairW CelW GraP TabW RowA
theorem cel_rest {w : World} {g off z cap k : Nat} {xs : List Value} (h : Cel w (.slice (some ⟨g, off, none⟩) z cap) xs) (hk : k ≤ z) : Cel w (.slice (some ⟨g, off + k, none⟩) (z - k) (cap - k)) (xs.drop k) := by
  obtain ⟨A, c, hv, h2, h3, h4⟩ := h
  injection hv with e1 e2 e3
  subst e3
  refine ⟨_, cap - k, by rw [List.length_drop, ← e2], by rw [List.length_drop]; omega, by omega, fun h0 => ⟨g, off + k, rfl, fun i u hu => ?_⟩⟩
  rw [List.length_drop] at h0
  obtain ⟨g', o', hA, hcl⟩ := h4 (by omega)
  rw [← e1] at hA
  injection hA with hA
  injection hA with a1 a2
  subst a1
  subst a2
  rw [Nat.add_assoc]
  refine hcl (k + i) u ?_
  rwa [List.getElem?_drop] at hu
theorem nil_sh {w : World} {base : Nat} {e : TypeId} {v : Value} {xs : List Value} (h : w.ownsRow base e 1 v ([] : List Nat).length xs) : ∃ A k, v = .slice A 0 k := row_sh h
theorem pth_yes {n : Nat} {l : List Ar} {c b k : Nat} (h : chkE (n : Int) l = 0) (hc : c < n) (hb : b < n) (hd : dst n l c b = some k) : pthE (n : Int) l c b = 0 ∧ pthV (n : Int) l c b = pth n l k c b := by
  have hr : rch n l c b = true := by
    cases h3 : rch n l c b with
    | true => rfl
    | false => rw [dst_none.2 h3] at hd; cases hd
  have h1 : pthE (n : Int) l c b = 0 := by
    unfold pthE
    rw [if_neg (by rw [h]; simp), if_pos (inN_iff.2 ⟨by omega, by omega⟩), if_pos (inN_iff.2 ⟨by omega, by omega⟩), Int.toNat_natCast, Int.toNat_natCast, Int.toNat_natCast, if_pos hr]
  refine ⟨h1, ?_⟩
  unfold pthV
  rw [if_pos h1, Int.toNat_natCast, Int.toNat_natCast, Int.toNat_natCast, hd]
  rfl
theorem pth_no {n : Nat} {l : List Ar} {c b : Nat} (h : chkE (n : Int) l = 0) (hc : c < n) (hb : b < n) (hr : rch n l c b = false) : pthE (n : Int) l c b = 6 ∧ pthV (n : Int) l c b = [] := by
  have h1 : pthE (n : Int) l c b = 6 := by
    unfold pthE
    rw [if_neg (by rw [h]; simp), if_pos (inN_iff.2 ⟨by omega, by omega⟩), if_pos (inN_iff.2 ⟨by omega, by omega⟩), Int.toNat_natCast, Int.toNat_natCast, Int.toNat_natCast, if_neg (by rw [hr]; simp)]
  exact ⟨h1, pthV_bad (by rw [h1]; decide)⟩
theorem rea_yes {n : Nat} {l : List Ar} {a : Nat} (h : chkE (n : Int) l = 0) (ha : a < n) : reaE (n : Int) l (a : Int) = 0 ∧ reaV (n : Int) l (a : Int) = rchV n l a := by
  have h1 : reaE (n : Int) l (a : Int) = 0 := by unfold reaE; rw [if_neg (by rw [h]; simp), if_pos (inN_iff.2 ⟨by omega, by omega⟩)]
  exact ⟨h1, by unfold reaV; rw [if_pos h1, Int.toNat_natCast, Int.toNat_natCast]⟩
set_option maxRecDepth 100000 in
set_option maxHeartbeats 4000000 in
theorem lways_at (N : Int) (l : List Ar) (sv : Value) (x y : Int) (w : World) (HP : Hid (Pts w sv l)) :
    Calls Try.prog 9 #[grV N sv, .int .i64 x, .int .i64 y] w fun e w' => e = .returned (.bool true) ∧ Own w w' := by
  obtain ⟨A, cap, rfl, a1, a2⟩ := slice_of HP.out
  unfold maxLen at a2
  obtain ⟨m, hm⟩ : ∃ m, l.length = m := ⟨_, rfl⟩
  have HM := Lib.hid hm
  rw [hm] at a1 HP ⊢
  obtain ⟨ce, hce⟩ : ∃ f, chkE N l = f := ⟨_, rfl⟩
  have HCE := Lib.hid hce
  cases hlg : ligB N l with
  | false =>
    have HLG := Lib.hid hlg
    clear hlg hm hce
    go_enter Try.func9, Try.ntmps9
    go_upto_region 1 with (fail)
    obtain ⟨W0, hW, k0, k1, g0⟩ := box_new w N (.slice A m cap)
    rw [hW]
    clear hW
    have HP0 := Lib.hid (HP.out.own g0)
    go_wp2_with (first
      | (go_at_call 14; with_reducible refine (rlight_at N l _ false _ HP0 HLG).mono ?_; rintro e w1 ⟨rfl, q1⟩; have HP1 := Lib.hid (HP0.out.own q1); replace k0 := q1.cell k0; replace k1 := q1.cell k1)
      | (go_at_call 13; with_reducible refine (awake_at _).mono ?_; rintro e wz ⟨rfl, qz⟩))
    go_ret
    exact ⟨rfl, g0.trans (q1.trans qz)⟩
  | true =>
    have HLG := Lib.hid hlg
    clear hlg hm
    by_cases c0 : ce = 0
    · subst c0
      obtain ⟨b0, b1, b2, Gf⟩ := chk_ok.1 hce
      obtain ⟨n, rfl⟩ : ∃ n : Nat, N = n := ⟨N.toNat, by omega⟩
      rw [Int.toNat_natCast] at Gf
      have HG := Lib.hid Gf
      have hn64 : n ≤ 64 := by omega
      clear hce Gf b0 b1 b2
      by_cases t1 : x < 0
      · have d1 : decide (x < 0) = true := decide_eq_true t1
        go_enter Try.func9, Try.ntmps9
        go_upto_region 1 with (fail)
        obtain ⟨W0, hW, k0, k1, g0⟩ := box_new w (n : Int) (.slice A m cap)
        rw [hW]
        clear hW
        have HP0 := Lib.hid (HP.out.own g0)
        go_wp2_with (first
          | (go_at_call 14; with_reducible refine (rlight_at n l _ true _ HP0 HLG).mono ?_; rintro e w1 ⟨rfl, q1⟩; have HP1 := Lib.hid (HP0.out.own q1); replace k0 := q1.cell k0; replace k1 := q1.cell k1)
          | (go_at_call 11; with_reducible refine (pcheck_at n l _ 0 _ HP1 HCE).mono ?_; rintro e w2 ⟨rfl, q2⟩; have HP2 := Lib.hid (HP1.out.own q2); replace k0 := q2.cell k0; replace k1 := q2.cell k1)
          | (go_at_call 13; with_reducible refine (awake_at _).mono ?_; rintro e wz ⟨rfl, qz⟩))
        go_ret
        exact ⟨rfl, g0.trans (q1.trans (q2.trans qz))⟩
      · by_cases t2 : (n : Int) ≤ x
        · have d1 : decide (x < 0) = false := decide_eq_false t1
          have d2 : decide ((n : Int) ≤ x) = true := decide_eq_true t2
          go_enter Try.func9, Try.ntmps9
          go_upto_region 1 with (fail)
          obtain ⟨W0, hW, k0, k1, g0⟩ := box_new w (n : Int) (.slice A m cap)
          rw [hW]
          clear hW
          have HP0 := Lib.hid (HP.out.own g0)
          go_wp2_with (first
            | (go_at_call 14; with_reducible refine (rlight_at n l _ true _ HP0 HLG).mono ?_; rintro e w1 ⟨rfl, q1⟩; have HP1 := Lib.hid (HP0.out.own q1); replace k0 := q1.cell k0; replace k1 := q1.cell k1)
            | (go_at_call 11; with_reducible refine (pcheck_at n l _ 0 _ HP1 HCE).mono ?_; rintro e w2 ⟨rfl, q2⟩; have HP2 := Lib.hid (HP1.out.own q2); replace k0 := q2.cell k0; replace k1 := q2.cell k1)
            | (go_at_call 13; with_reducible refine (awake_at _).mono ?_; rintro e wz ⟨rfl, qz⟩))
          go_ret
          exact ⟨rfl, g0.trans (q1.trans (q2.trans qz))⟩
        · by_cases t3 : y < 0
          · have d1 : decide (x < 0) = false := decide_eq_false t1
            have d2 : decide ((n : Int) ≤ x) = false := decide_eq_false t2
            have d3 : decide (y < 0) = true := decide_eq_true t3
            go_enter Try.func9, Try.ntmps9
            go_upto_region 1 with (fail)
            obtain ⟨W0, hW, k0, k1, g0⟩ := box_new w (n : Int) (.slice A m cap)
            rw [hW]
            clear hW
            have HP0 := Lib.hid (HP.out.own g0)
            go_wp2_with (first
              | (go_at_call 14; with_reducible refine (rlight_at n l _ true _ HP0 HLG).mono ?_; rintro e w1 ⟨rfl, q1⟩; have HP1 := Lib.hid (HP0.out.own q1); replace k0 := q1.cell k0; replace k1 := q1.cell k1)
              | (go_at_call 11; with_reducible refine (pcheck_at n l _ 0 _ HP1 HCE).mono ?_; rintro e w2 ⟨rfl, q2⟩; have HP2 := Lib.hid (HP1.out.own q2); replace k0 := q2.cell k0; replace k1 := q2.cell k1)
              | (go_at_call 13; with_reducible refine (awake_at _).mono ?_; rintro e wz ⟨rfl, qz⟩))
            go_ret
            exact ⟨rfl, g0.trans (q1.trans (q2.trans qz))⟩
          · by_cases t4 : (n : Int) ≤ y
            · have d1 : decide (x < 0) = false := decide_eq_false t1
              have d2 : decide ((n : Int) ≤ x) = false := decide_eq_false t2
              have d3 : decide (y < 0) = false := decide_eq_false t3
              have d4 : decide ((n : Int) ≤ y) = true := decide_eq_true t4
              go_enter Try.func9, Try.ntmps9
              go_upto_region 1 with (fail)
              obtain ⟨W0, hW, k0, k1, g0⟩ := box_new w (n : Int) (.slice A m cap)
              rw [hW]
              clear hW
              have HP0 := Lib.hid (HP.out.own g0)
              go_wp2_with (first
                | (go_at_call 14; with_reducible refine (rlight_at n l _ true _ HP0 HLG).mono ?_; rintro e w1 ⟨rfl, q1⟩; have HP1 := Lib.hid (HP0.out.own q1); replace k0 := q1.cell k0; replace k1 := q1.cell k1)
                | (go_at_call 11; with_reducible refine (pcheck_at n l _ 0 _ HP1 HCE).mono ?_; rintro e w2 ⟨rfl, q2⟩; have HP2 := Lib.hid (HP1.out.own q2); replace k0 := q2.cell k0; replace k1 := q2.cell k1)
                | (go_at_call 13; with_reducible refine (awake_at _).mono ?_; rintro e wz ⟨rfl, qz⟩))
              go_ret
              exact ⟨rfl, g0.trans (q1.trans (q2.trans qz))⟩
            · obtain ⟨a, rfl⟩ : ∃ a : Nat, x = a := ⟨x.toNat, by omega⟩
              obtain ⟨b, rfl⟩ : ∃ b : Nat, y = b := ⟨y.toNat, by omega⟩
              have han : a < n := by omega
              have hbn : b < n := by omega
              have haz : (a : Int) < n := by omega
              have hbz : (b : Int) < n := by omega
              clear t1 t2 t3 t4
              have HRE := Lib.hid (rea_yes HCE.out han)
              have HVL := Lib.hid (rchV_len n l a)
              have HRB := Lib.hid (show (rchV n l a)[b]? = some (rch n l a b) by unfold rchV; rw [List.getElem?_map, List.getElem?_range hbn]; rfl)
              cases hrc : rch n l a b with
              | false =>
                have HPE := Lib.hid (pth_no HCE.out han hbn hrc)
                rw [hrc] at HRB
                clear hrc
                go_enter Try.func9, Try.ntmps9
                go_upto_region 1 with (fail)
                obtain ⟨W0, hW, k0, k1, g0⟩ := box_new w (n : Int) (.slice A m cap)
                rw [hW]
                clear hW
                have HP0 := Lib.hid (HP.out.own g0)
                go_upto_region 3 with (first
                  | (go_at_call 14; with_reducible refine (rlight_at n l _ true _ HP0 HLG).mono ?_; rintro e w1 ⟨rfl, q1⟩; have HP1 := Lib.hid (HP0.out.own q1); replace k0 := q1.cell k0; replace k1 := q1.cell k1)
                  | (go_at_call 11; with_reducible refine (pcheck_at n l _ 0 _ HP1 HCE).mono ?_; rintro e w2 ⟨rfl, q2⟩; have HP2 := Lib.hid (HP1.out.own q2); replace k0 := q2.cell k0; replace k1 := q2.cell k1))
                go_upto_region 4 with (go_at_call 18; with_reducible refine (preach_at n a l _ 0 _ _ HP2 HRE).mono ?_; rintro e w3 ⟨v3, rfl, hr3, q3⟩; rw [HVL.out] at hr3; obtain ⟨gr, cr, rfl, _, _⟩ := row_form hr3 (by omega); obtain ⟨tt, e0, het, _⟩ := row_bool hr3 HVL.out hbn; rw [HRB.out] at het; injection het with het; subst het; have HP3 := Lib.hid (HP2.out.own q3); replace k0 := q3.cell k0; replace k1 := q3.cell k1; clear hr3)
                go_upto_region 5 with (go_at_call 20; with_reducible refine (ppath_at n a b l _ 6 [] _ HP3 HPE).mono ?_; rintro e w4 ⟨v4, rfl, hr4, q4⟩; obtain ⟨A4, c4, rfl⟩ := nil_sh hr4; replace k0 := q4.cell k0; replace e0 := q4.cell e0; clear hr4)
                go_wp2_with (go_at_call 13; with_reducible refine (awake_at _).mono ?_; rintro e w5 ⟨rfl, q5⟩)
                go_ret
                exact ⟨rfl, g0.trans (q1.trans (q2.trans (q3.trans (q4.trans q5))))⟩
              | true =>
                obtain ⟨k, hdk⟩ : ∃ k, dst n l a b = some k := by
                  cases h3 : dst n l a b with
                  | some k => exact ⟨k, rfl⟩
                  | none => rw [dst_none.1 h3] at hrc; cases hrc
                rw [hrc] at HRB
                have HPE := Lib.hid (pth_yes HCE.out han hbn hdk)
                have hkn := (dst_some.1 hdk).1
                have HDK := Lib.hid hdk
                have HPL := Lib.hid (pth_len n l b k a)
                have HPH := Lib.hid (ints_at (pth_head n l b k a))
                have HPT := Lib.hid (ints_at (pth_last HG.out han hdk))
                obtain ⟨P, hP⟩ : ∃ P, pth n l k a b = P := ⟨_, rfl⟩
                have HPP := Lib.hid hP
                rw [hP] at HPE HPL HPH HPT
                clear hrc hdk hP
                obtain ⟨z, hz⟩ : ∃ z, k + 1 = z := ⟨_, rfl⟩
                rw [hz] at HPL
                have hkz : (k : Int) < z := by omega
                have hz0 : (0 : Int) < z := by omega
                have dz : ((z : Int) == 0) = false := beq_eq_false_iff_ne.2 (by omega)
                have hzn : ¬ (n : Int) < z := by omega
                have dzn : decide (n < z) = false := decide_eq_false (by omega)
                have iz : IntKind.i64.wrap ((z : Int) - 1) = (k : Int) := (IntWalk.i64_in _ (by omega)).trans (by omega)
                go_enter Try.func9, Try.ntmps9
                go_upto_region 1 with (fail)
                obtain ⟨W0, hW, k0, k1, g0⟩ := box_new w (n : Int) (.slice A m cap)
                rw [hW]
                clear hW
                have HP0 := Lib.hid (HP.out.own g0)
                go_upto_region 3 with (first
                  | (go_at_call 14; with_reducible refine (rlight_at n l _ true _ HP0 HLG).mono ?_; rintro e w1 ⟨rfl, q1⟩; have HP1 := Lib.hid (HP0.out.own q1); replace k0 := q1.cell k0; replace k1 := q1.cell k1)
                  | (go_at_call 11; with_reducible refine (pcheck_at n l _ 0 _ HP1 HCE).mono ?_; rintro e w2 ⟨rfl, q2⟩; have HP2 := Lib.hid (HP1.out.own q2); replace k0 := q2.cell k0; replace k1 := q2.cell k1))
                go_upto_region 4 with (go_at_call 18; with_reducible refine (preach_at n a l _ 0 _ _ HP2 HRE).mono ?_; rintro e w3 ⟨v3, rfl, hr3, q3⟩; rw [HVL.out] at hr3; obtain ⟨gr, cr, rfl, _, _⟩ := row_form hr3 (by omega); obtain ⟨tt, e0, het, _⟩ := row_bool hr3 HVL.out hbn; rw [HRB.out] at het; injection het with het; subst het; have HP3 := Lib.hid (HP2.out.own q3); replace k0 := q3.cell k0; replace k1 := q3.cell k1; clear hr3)
                go_upto_region 5 with (go_at_call 20; with_reducible refine (ppath_at n a b l _ 0 P _ HP3 HPE).mono ?_; rintro e w4 ⟨v4, rfl, hr4, q4⟩; rw [HPL.out] at hr4; obtain ⟨gp, cp, rfl, _, _⟩ := row_form hr4 (by omega); have HR4 := Lib.hid hr4; have HP4 := Lib.hid (HP3.out.own q4); replace k0 := q4.cell k0; replace k1 := q4.cell k1; replace e0 := q4.cell e0; clear hr4)
                have HCL := Lib.hid (fun (i c : Nat) (hi : i < z) (hc : (ints P)[i]? = some (c : Int)) => show w4.cell? ⟨gp, i, none⟩ = some (.int .i64 (c : Int)) by rw [World.ownsRow.cellAt HR4.out i (by omega)]; unfold cellsI; rw [List.getElem?_map, hc]; rfl)
                have ea := HCL.out 0 a (by omega) HPH.out
                have eb := HCL.out k b (by omega) HPT.out
                have HCEL := Lib.hid (cel_of_row HR4.out)
                have hcp : z ≤ cp := by
                  obtain ⟨_, _, e, h, _⟩ := cel_form HCEL.out
                  injection e with e1 e2 e3
                  omega
                have HK0 := Lib.hid k0
                have HK1 := Lib.hid k1
                have HQ4 := Lib.hid (g0.trans (q1.trans (q2.trans (q3.trans q4))))
                clear q1 q2 q3 q4 g0
                go_upto_region 12 with (fail)
                clear k0 k1 e0 ea eb
                go_loopw [11, 12, 13] (fun vi _ _ wr => ∃ j : Nat, vi = .int .i64 ((j + 1 : Nat) : Int) ∧ j + 1 ≤ z ∧ Own w4 wr) (fun vi _ _ _ => z - (intOf vi).toNat)
                case atStart => exact ⟨0, rfl, by omega, Own.refl _⟩
                case round =>
                  obtain ⟨j, rfl, hj, q⟩ := hrel
                  obtain ⟨i, hi⟩ : ∃ i, j + 1 = i := ⟨_, rfl⟩
                  rw [hi] at hj ⊢
                  have k0 := q.cell HK0.out
                  have k1 := q.cell HK1.out
                  by_cases hlt : i < z
                  · have hiz : (i : Int) < z := by omega
                    have hjz : (j : Int) < z := by omega
                    have ij : IntKind.i64.wrap ((i : Int) - 1) = (j : Int) := (IntWalk.i64_in _ (by omega)).trans (by omega)
                    have hik : ¬ cp = i := by omega
                    have hiz2 : i ≤ z := by omega
                    have hic : i ≤ cp := by omega
                    obtain ⟨c, hcn, hc, hdc, hdr⟩ := pth_rest HG.out han HDK.out (i := i) (by omega)
                    obtain ⟨d, hdn, hd, _, _⟩ := pth_rest HG.out han HDK.out (i := j) (by omega)
                    have harc := pth_arc HG.out han HDK.out (i := j) (c := d) (d := c) (by omega) hd (by rw [hi]; exact hc)
                    have HHA := Lib.hid (show decide (((d : Int), (c : Int)) ∈ l) = true from decide_eq_true (ar_iff.1 harc))
                    have HPC := Lib.hid (pth_yes HCE.out hcn hbn hdc)
                    rw [HPP.out] at hc hd hdr
                    rw [← hdr] at HPC
                    have ec := q.cell (HCL.out i c (by omega) (ints_at hc))
                    have ed := q.cell (HCL.out j d (by omega) (ints_at hd))
                    have hcnz : (c : Int) < n := by omega
                    have hdnz : (d : Int) < n := by omega
                    clear hc hd hdr hdc harc
                    have qd := (Own.refl wr).drew
                    have HPD := Lib.hid (HP4.out.own (q.trans qd))
                    have m0 := qd.cell k0
                    have m1 := qd.cell k1
                    have mc := qd.cell ec
                    have HKC := Lib.hid ec
                    have HKD := Lib.hid ed
                    have HQD := Lib.hid qd
                    clear qd
                    go_upto_region 14 with (fail)
                    go_region_held3 (fun w' => w'.cell? ⟨w.heap.size, 0, none⟩ = some (.int .i64 (n : Int)) ∧ w'.cell? ⟨w.heap.size, 1, none⟩ = some (.slice A m cap) ∧ w'.cell? ⟨gp, i, none⟩ = some (.int .i64 (c : Int))) (first | exact ⟨k0, k1, ec⟩ | exact ⟨m0, m1, mc⟩ | exact ⟨p0, p1, pc⟩) ((first | (go_at_call 20; with_reducible refine (ppath_at n c b l _ 0 (P.drop i) _ HPD HPC).mono ?_; rintro e w8 ⟨v8, rfl, hr8, q8⟩; have p0 := q8.cell m0; have p1 := q8.cell m1; have pc := q8.cell mc; have HC8 := Lib.hid (cel_of_row hr8); have HQ8 := Lib.hid (HQD.out.trans q8); clear hr8 q8)))
                    clear m0 m1 mc
                    have HPF := Lib.hid (HP4.out.own (q.trans HQ8.out))
                    have HRT := Lib.hid (show Cel w8 (.slice (some ⟨gp, i, none⟩) (z - i) (cp - i)) (cellsI (ints (P.drop i))) by
                      have h := cel_rest (k := i) (HCEL.out.own (q.trans HQ8.out)) hiz2
                      rw [Nat.zero_add] at h
                      rw [ints_drop]
                      unfold cellsI at h ⊢
                      rw [List.map_drop]
                      exact h)
                    have ka : ∀ x : After w8, x.w.cell? ⟨w.heap.size, 0, none⟩ = some (.int .i64 (n : Int)) := fun x => x.o.cell p0
                    have kb : ∀ x : After w8, x.w.cell? ⟨w.heap.size, 1, none⟩ = some (.slice A m cap) := fun x => x.o.cell p1
                    have kc : ∀ x : After w8, x.w.cell? ⟨gp, i, none⟩ = some (.int .i64 (c : Int)) := fun x => x.o.cell pc
                    have kd : ∀ x : After w8, x.w.cell? ⟨gp, j, none⟩ = some (.int .i64 (d : Int)) := fun x => x.o.cell (HQ8.out.cell HKD.out)
                    go_upto_region 15 with (fail)
                    refine region_after w8 (by kernel_rfl) (by kernel_rfl) ?_
                    repeat (first
                      | go_big_quiet_step ((first   | (go_at_call 17; with_reducible refine (rints_yes (ints (P.drop i)) _ _ _ (Lib.hid (HC8.out.own (After.o _))) (Lib.hid (HRT.out.own (After.o _)))).mono ?_; rintro e w2 ⟨rfl, hg⟩; exact ⟨rfl, ⟨w2, (After.o _).trans hg⟩, rfl⟩)   | (go_at_call 28; with_reducible refine (rhas_at n l _ d c true _ (Lib.hid (HPF.out.own (After.o _))) HHA).mono ?_; rintro e w2 ⟨rfl, hg⟩; exact ⟨rfl, ⟨w2, (After.o _).trans hg⟩, rfl⟩)))
                      | quiet_step ((first   | (go_at_call 17; with_reducible refine (rints_yes (ints (P.drop i)) _ _ _ (Lib.hid (HC8.out.own (After.o _))) (Lib.hid (HRT.out.own (After.o _)))).mono ?_; rintro e w2 ⟨rfl, hg⟩; exact ⟨rfl, ⟨w2, (After.o _).trans hg⟩, rfl⟩)   | (go_at_call 28; with_reducible refine (rhas_at n l _ d c true _ (Lib.hid (HPF.out.own (After.o _))) HHA).mono ?_; rintro e w2 ⟨rfl, hg⟩; exact ⟨rfl, ⟨w2, (After.o _).trans hg⟩, rfl⟩))))
                    refine wpQuiet_nil ?_
                    rintro _ ⟨x, rfl⟩
                    have qq := x.o
                    generalize x.w = w9 at *
                    clear ka kb kc kd
                    go_wp2
                    go_roundw
                    case rel => exact ⟨i, by go_num, by omega, q.trans (HQ8.out.trans qq)⟩
                    case measure => simp [intOf]; omega
                  · obtain rfl : i = z := by omega
                    go_wp2_with (go_at_call 13; with_reducible refine (awake_at _).mono ?_; rintro e wb ⟨rfl, qb⟩)
                    go_ret
                    exact ⟨rfl, HQ4.out.trans (q.trans qb)⟩
    · have d1 : (ce == 0) = false := beq_eq_false_iff_ne.2 c0
      clear hce
      go_enter Try.func9, Try.ntmps9
      go_upto_region 1 with (fail)
      obtain ⟨W0, hW, k0, k1, g0⟩ := box_new w N (.slice A m cap)
      rw [hW]
      clear hW
      have HP0 := Lib.hid (HP.out.own g0)
      go_wp2_with (first
        | (go_at_call 14; with_reducible refine (rlight_at N l _ true _ HP0 HLG).mono ?_; rintro e w1 ⟨rfl, q1⟩; have HP1 := Lib.hid (HP0.out.own q1); replace k0 := q1.cell k0; replace k1 := q1.cell k1)
        | (go_at_call 11; with_reducible refine (pcheck_at N l _ ce _ HP1 HCE).mono ?_; rintro e w2 ⟨rfl, q2⟩; have HP2 := Lib.hid (HP1.out.own q2); replace k0 := q2.cell k0; replace k1 := q2.cell k1)
        | (go_at_call 13; with_reducible refine (awake_at _).mono ?_; rintro e wz ⟨rfl, qz⟩))
      go_ret
      exact ⟨rfl, g0.trans (q1.trans (q2.trans qz))⟩
end Go.Proofs.Ytkdfmjhhdfiiiaa.GraW
