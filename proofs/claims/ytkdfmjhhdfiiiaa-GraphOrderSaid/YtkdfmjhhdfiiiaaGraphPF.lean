/-
  Walk of the program's Path. Condition: none.
-/
import Derived.Test.YtkdfmjhhdfiiiaaGraphPE
namespace Go.Proofs.Ytkdfmjhhdfiiiaa.GraW
open Go.ChangeShapes Go.WideShapes Go.ChangeAt Go.RowKit
open PairW CelW GraP TabW HepP
open HepW (Gr Rw)
theorem sr_path {n : Nat} {l : List Ar} {x y : Nat} {B : List Int} (G : Fit n l) (hy : y < n) (h : SrOk n l [x] (y : Int) B) : B.length = n ∧ ((dst n l x y = none ∧ B[y]? = some (-1)) ∨
    ∃ k, dst n l x y = some k ∧ (∃ z : Nat, B[y]? = some (z : Int)) ∧ ∀ t, t < k → ∃ u v : Nat, (pth n l k x y)[t]? = some u ∧ (pth n l k x y)[t + 1]? = some v ∧ B[v]? = some (u : Int) ∧ v ≠ x) := by
  obtain ⟨Q, K, p, T, hs, hc⟩ := h
  refine ⟨hs.bl, ?_⟩
  by_cases hq : y ∈ Q
  · obtain ⟨k, h1, h2⟩ := hs.path G hq
    exact .inr ⟨k, h1, hs.mark hq, h2⟩
  · have hc : Q.length ≤ p ∧ T = [] := hc.resolve_right (by rintro ⟨b, hb, h2⟩; exact hq (by rw [show y = b by omega]; exact h2))
    obtain ⟨hp, rfl⟩ := hc
    refine .inl ⟨dst_none.2 (Bool.eq_false_iff.2 fun h2 => hq (hs.whole G hp (List.mem_singleton.2 rfl) h2)), hs.un y hy hq⟩
theorem drop_rev {L : List Nat} {i u : Nat} (h : L[i]? = some u) : (L.drop i).reverse = (L.drop (i + 1)).reverse ++ [u] := by
  obtain ⟨h1, h2⟩ := List.getElem?_eq_some_iff.1 h
  rw [List.drop_eq_getElem_cons h1, h2, List.reverse_cons]
set_option maxRecDepth 100000 in
set_option maxHeartbeats 4000000 in
theorem ppath_at (N a b : Int) (l : List Ar) (sv : Value) (f : Int) (V : List Nat) (w : World) (HP : Hid (Pts w sv l)) (H : Hid (pthE N l a b = f ∧ pthV N l a b = V)) :
    Calls Try.prog 20 #[grV N sv, .int .i64 a, .int .i64 b] w fun e w' => ∃ v, e = .returned (.tuple #[v, .int .i64 f]) ∧ w'.ownsRow w.heap.size 3 1 v V.length (cellsI (ints V)) ∧ Own w w' := by
  obtain ⟨i0, hi, hz0, hz1, hz2⟩ := info_parts (show (Try.prog.info? 3).map (fun i => (i.zero, i.size, i.bytes)) = some (some (.int .i64 0), 1, 8) by kernel_rfl)
  have HI := Lib.hid hi
  have HZ0 := Lib.hid hz0
  have HZ1 := Lib.hid hz1
  have HZ2 := Lib.hid hz2
  clear hi hz0 hz1 hz2
  obtain ⟨ce, hce⟩ : ∃ f, chkE N l = f := ⟨_, rfl⟩
  have HCE := Lib.hid hce
  obtain ⟨A, cap, rfl, a1, a2, _⟩ := HP.out.open
  unfold maxLen at a2
  obtain ⟨m, hm⟩ : ∃ m, l.length = m := ⟨_, rfl⟩
  rw [hm] at a1 HP ⊢
  have HM := Lib.hid hm
  clear hm
  by_cases c0 : ce = 0
  · subst c0
    obtain ⟨b0, b1, b2, G⟩ := chk_ok.1 hce
    obtain ⟨n, rfl⟩ : ∃ n : Nat, N = n := ⟨N.toNat, by omega⟩
    rw [Int.toNat_natCast] at G
    have HG := Lib.hid G
    have hn64 : n ≤ 64 := by omega
    have hm512 : m ≤ 512 := by rw [← HM.out]; exact b2
    by_cases c1 : inN (n : Int) a = true
    · have HC1 := Lib.hid c1
      by_cases c2 : inN (n : Int) b = true
      · have HC2 := Lib.hid c2
        obtain ⟨n0, n1⟩ := inN_iff.1 c1
        obtain ⟨n2, n3⟩ := inN_iff.1 c2
        obtain ⟨x, rfl⟩ : ∃ x : Nat, a = x := ⟨a.toNat, by omega⟩
        obtain ⟨y, rfl⟩ : ∃ y : Nat, b = y := ⟨b.toNat, by omega⟩
        have hxn : x < n := by omega
        have hyn : y < n := by omega
        have hyn2 : (y : Int) < n := by omega
        have HXN := Lib.hid hxn
        have HYN := Lib.hid hyn
        have HST := Lib.hid (show ∀ z ∈ [x], z < n from fun z hz => by rw [List.mem_singleton] at hz; omega)
        have HND := Lib.hid (show [x].Nodup by simp)
        have hin : pthE n l x y = if rch n l x y = true then 0 else 6 := by unfold pthE; rw [if_neg (by rw [hce]; simp), if_pos c1, if_pos c2, Int.toNat_natCast, Int.toNat_natCast, Int.toNat_natCast]
        cases hd : dst n l x y with
        | none =>
          obtain ⟨rfl, rfl⟩ : 6 = f ∧ [] = V := by
            have h1 : pthE n l x y = 6 := by rw [hin, if_neg (by rw [dst_none.1 hd]; simp)]
            exact ⟨by rw [← H.out.1, h1], by rw [← H.out.2, pthV_bad (by rw [h1]; decide)]⟩
          have HDD := Lib.hid hd
          clear hce H G c1 c2 n0 n1 n2 n3 b0 b1 b2 hin hd
          go_enter Try.func20, Try.ntmps20
          go_upto_region 1 with (fail)
          have k0 : (w.alloc (.cells #[.int .i64 (n : Int), .slice A m cap] 24)).cell? ⟨w.heap.size, 0, none⟩ = some (.int .i64 (n : Int)) := by go_simp
          have k1 : (w.alloc (.cells #[.int .i64 (n : Int), .slice A m cap] 24)).cell? ⟨w.heap.size, 1, none⟩ = some (.slice A m cap) := by go_simp
          have g0 : Own w (w.alloc (.cells #[.int .i64 (n : Int), .slice A m cap] 24)) := (Own.refl w).alloc _
          generalize hW : (w.alloc (.cells #[.int .i64 (n : Int), .slice A m cap] 24)) = W0 at *
          clear hW
          have HP0 := Lib.hid (HP.out.own g0)
          go_upto_region 6 with (first
            | (go_at_call 11; with_reducible refine (pcheck_at n l _ 0 _ HP0 HCE).mono ?_; rintro e w1 ⟨rfl, q1⟩; replace k0 := q1.cell k0; replace k1 := q1.cell k1; have p1 := q1)
            | (go_at_call 29; with_reducible refine (pnode_at n x _ _ _ true _ HC1).mono ?_; rintro e w2 ⟨rfl, q2⟩; replace k0 := q2.cell k0; replace k1 := q2.cell k1; have p2 := p1.trans q2; clear q2)
            | (go_at_call 29; with_reducible refine (pnode_at n y _ _ _ true _ HC2).mono ?_; rintro e w2 ⟨rfl, q2⟩; replace k0 := q2.cell k0; replace k1 := q2.cell k1; have p3 := p2.trans q2; clear q2))
          have HP2 := Lib.hid (HP0.out.own p3)
          go_upto_region 7 with (first
            | (go_at_call 32; refine (pfol_at n m l _ _ HP2 HG HM.out hm512 hn64).mono ?_; rintro e w4 ⟨g4, rfl, ht4, q4⟩; have HN5 := Lib.hid (ht4.cels.own ((Own.refl w4).alloc (.cells #[.int .i64 (x : Int)] 3))); have HS5 := Lib.hid (show Cel _ _ (cellsI (ints [x])) from cel_lit (w := w4) (T := 3) (cs := #[.int .i64 (x : Int)]) (xs := [.int .i64 (x : Int)]) (k := 1) rfl rfl (by unfold maxLen; decide)); have p5 := (p3.trans q4).alloc (.cells #[.int .i64 (x : Int)] 3); clear ht4 q4)
            | (go_at_call 37; refine (psearch_at n l [x] _ _ (y : Int) _ HN5 HS5 HND HST HG hn64).mono ?_; rintro e w6 ⟨g6, B, rfl, hr6, q6, hsr⟩; have HR6 := Lib.hid hr6; have HSR := Lib.hid (sr_path HG.out HYN.out hsr); clear hr6 hsr))
          obtain ⟨v, e0, hv, _⟩ := row_int HR6.out HSR.out.1 HYN.out
          have hv1 : v = -1 := by
            rcases HSR.out.2 with ⟨_, h2⟩ | ⟨k, h1, _⟩
            · rw [hv] at h2
              injection h2
            · rw [HDD.out] at h1
              cases h1
          subst hv1
          clear hv
          go_wp2
          go_ret2
          exact ⟨_, rfl, World.ownsRow_nil _ _ _ _, (g0.trans p5).trans q6⟩
        | some K =>
          obtain ⟨rfl, rfl⟩ : 0 = f ∧ pth n l K x y = V := by
            have h0 : rch n l x y = true := (rch_iff G hxn).2 ⟨K, (dst_some.1 hd).2.1⟩
            have h1 : pthE n l x y = 0 := by rw [hin, if_pos h0]
            exact ⟨by rw [← H.out.1, h1], by rw [← H.out.2]; unfold pthV; rw [if_pos h1, Int.toNat_natCast, Int.toNat_natCast, Int.toNat_natCast, hd]; rfl⟩
          have HDD := Lib.hid hd
          have hkn := (dst_some.1 hd).1
          have HLN := Lib.hid (pth_len n l y K x)
          have HLAST := Lib.hid (pth_last G hxn hd)
          have HHEAD := Lib.hid (pth_head n l y K x)
          have HLOW := Lib.hid (show ∀ i, (pth n l K x y)[i]? ≠ none → i ≤ K from fun i h => by
            rcases Nat.lt_or_ge K i with c | c
            · exact absurd (List.getElem?_eq_none (by rw [pth_len]; omega)) h
            · exact c)
          clear hce H G c1 c2 n0 n1 n2 n3 b0 b1 b2 hin hd
          go_enter Try.func20, Try.ntmps20
          go_upto_region 1 with (fail)
          have k0 : (w.alloc (.cells #[.int .i64 (n : Int), .slice A m cap] 24)).cell? ⟨w.heap.size, 0, none⟩ = some (.int .i64 (n : Int)) := by go_simp
          have k1 : (w.alloc (.cells #[.int .i64 (n : Int), .slice A m cap] 24)).cell? ⟨w.heap.size, 1, none⟩ = some (.slice A m cap) := by go_simp
          have g0 : Own w (w.alloc (.cells #[.int .i64 (n : Int), .slice A m cap] 24)) := (Own.refl w).alloc _
          generalize hW : (w.alloc (.cells #[.int .i64 (n : Int), .slice A m cap] 24)) = W0 at *
          clear hW
          have HP0 := Lib.hid (HP.out.own g0)
          go_upto_region 6 with (first
            | (go_at_call 11; with_reducible refine (pcheck_at n l _ 0 _ HP0 HCE).mono ?_; rintro e w1 ⟨rfl, q1⟩; replace k0 := q1.cell k0; replace k1 := q1.cell k1; have p1 := q1)
            | (go_at_call 29; with_reducible refine (pnode_at n x _ _ _ true _ HC1).mono ?_; rintro e w2 ⟨rfl, q2⟩; replace k0 := q2.cell k0; replace k1 := q2.cell k1; have p2 := p1.trans q2; clear q2)
            | (go_at_call 29; with_reducible refine (pnode_at n y _ _ _ true _ HC2).mono ?_; rintro e w2 ⟨rfl, q2⟩; replace k0 := q2.cell k0; replace k1 := q2.cell k1; have p3 := p2.trans q2; clear q2))
          have HP2 := Lib.hid (HP0.out.own p3)
          go_upto_region 7 with (first
            | (go_at_call 32; refine (pfol_at n m l _ _ HP2 HG HM.out hm512 hn64).mono ?_; rintro e w4 ⟨g4, rfl, ht4, q4⟩; have HN5 := Lib.hid (ht4.cels.own ((Own.refl w4).alloc (.cells #[.int .i64 (x : Int)] 3))); have HS5 := Lib.hid (show Cel _ _ (cellsI (ints [x])) from cel_lit (w := w4) (T := 3) (cs := #[.int .i64 (x : Int)]) (xs := [.int .i64 (x : Int)]) (k := 1) rfl rfl (by unfold maxLen; decide)); have p5 := (p3.trans q4).alloc (.cells #[.int .i64 (x : Int)] 3); clear ht4 q4)
            | (go_at_call 37; refine (psearch_at n l [x] _ _ (y : Int) _ HN5 HS5 HND HST HG hn64).mono ?_; rintro e w6 ⟨g6, B, rfl, hr6, q6, hsr⟩; have HR6 := Lib.hid hr6; have HSR := Lib.hid (sr_path HG.out HYN.out hsr); clear hr6 hsr))
          have HBL := Lib.hid HSR.out.1
          have HCH := Lib.hid (show (∃ z : Nat, B[y]? = some (z : Int)) ∧ ∀ t, t < K → ∃ u v : Nat, (pth n l K x y)[t]? = some u ∧ (pth n l K x y)[t + 1]? = some v ∧ B[v]? = some (u : Int) ∧ v ≠ x from by
            rcases HSR.out.2 with ⟨h1, _⟩ | ⟨k, h1, h2⟩
            · rw [HDD.out] at h1
              cases h1
            · rw [HDD.out] at h1
              injection h1 with h1
              subst h1
              exact h2)
          obtain ⟨v, e0, hv, _⟩ := row_int HR6.out HBL.out HYN.out
          obtain ⟨z0, hz0⟩ := HCH.out.1
          have hv1 : v = (z0 : Int) := by rw [hv] at hz0; injection hz0
          subst hv1
          have d1 : ((z0 : Int) == -1) = false := beq_eq_false_iff_ne.2 (by omega)
          have p6 := Lib.hid ((g0.trans p5).trans q6)
          clear hv hz0 k0 k1 p1 p2 p3 p5 q6 g0 HSR q1
          have HRW0 := Lib.hid (show (w6.alloc (.cells #[.int .i64 (y : Int)] 3)).ownsRow w6.heap.size 3 1 (.slice (some ⟨w6.heap.size, 0, none⟩) 1 1) (K - K + 1) (cellsI (ints ((pth n l K x y).drop K).reverse)) from by
            rw [drop_rev HLAST.out, List.drop_of_length_le (by rw [HLN.out]; exact Nat.le_refl _), Nat.sub_self]
            exact row_one _ (Nat.le_refl _))
          have q7 := (Own.refl w6).alloc (.cells #[.int .i64 (y : Int)] 3)
          go_upto_region 10 with (fail)
          generalize hw7 : w6.alloc (.cells #[.int .i64 (y : Int)] 3) = w7 at *
          clear hw7 e0
          go_wp2
          go_loopw [10, 11] (fun vp vz wr => ∃ (i z : Nat), vz = .int .i64 (z : Int) ∧ i ≤ K ∧ (pth n l K x y)[i]? = some z ∧ Own w6 wr ∧ wr.ownsRow w6.heap.size 3 1 vp (K - i + 1) (cellsI (ints ((pth n l K x y).drop i).reverse))) (fun vp _ _ => 66 - lenOf vp)
          case atStart => exact ⟨K, y, rfl, Nat.le_refl _, HLAST.out, q7, HRW0.out⟩
          case round =>
            clear q7 HRW0
            obtain ⟨i, z, rfl, hi, hz, q, hrow⟩ := hrel
            obtain ⟨Ap, cp, rfl⟩ := rows_shape hrow
            have HROW := Lib.hid hrow
            have HZ := Lib.hid hz
            clear hrow hz
            by_cases hi0 : i = 0
            · subst hi0
              have hzx : z = x := by
                have h1 := HHEAD.out
                rw [HZ.out] at h1
                injection h1
              subst hzx
              obtain ⟨gp, cp', hvp, hbp, _⟩ := row_form HROW.out (by omega)
              injection hvp with hvp1 hvp2 hvp3
              subst hvp1
              subst hvp3
              have hK : K - 0 + 1 = K + 1 := by omega
              rw [hK] at HROW ⊢
              have HRWK := Lib.hid (show Rw wr w6.heap.size gp (K + 1) cp ((pth n l K z y).drop 0).reverse from HROW.out)
              have d2 : ((z : Int) != z) = false := bne_eq_false_iff_eq.2 rfl
              clear hK hbp hvp2
              go_wp2_with (go_at_call 38; refine (prev_at w6.heap.size gp K cp _ _ HRWK).mono ?_; rintro e w9 ⟨rfl, hr9, hg9⟩; have HR9 := Lib.hid hr9; clear hr9)
              go_ret2
              refine ⟨_, rfl, ?_, p6.out.trans (HepW.Gr.own q hg9 HRWK.out.bounds.1)⟩
              have h := HR9.out
              rw [List.reverse_reverse, List.drop_zero] at h
              rw [HLN.out]
              exact row_down h p6.out.size
            · obtain ⟨t, ht⟩ : ∃ t, i = t + 1 := ⟨i - 1, by omega⟩
              subst ht
              obtain ⟨u, v, h1, h2, h3, h4⟩ := HCH.out.2 t (by omega)
              have hvz : v = z := by
                have h5 := HZ.out
                rw [h2] at h5
                injection h5
              subst hvz
              have hvn : v < n := by
                have := (List.getElem?_eq_some_iff.1 h3).1
                rw [HBL.out] at this
                exact this
              have hvn2 : (v : Int) < n := by omega
              obtain ⟨bv, e0, hbv, _⟩ := row_int (row_own HR6.out q) HBL.out hvn
              rw [h3] at hbv
              injection hbv with hbv
              subst hbv
              have d2 : ((v : Int) != (x : Int)) = true := bne_iff_ne.2 (by omega)
              have HU := Lib.hid h1
              have HDR := Lib.hid (drop_rev h1)
              have hlen : K - (t + 1) + 1 + 1 = K - t + 1 := by omega
              obtain ⟨r, hr⟩ : ∃ r, K - (t + 1) + 1 = r := ⟨_, rfl⟩
              rw [hr] at HROW hlen ⊢
              have HLR := Lib.hid hlen
              have hr64 : r ≤ 64 := by omega
              have K2 := Lib.hid (show r + 1 ≤ maxLen by unfold maxLen; omega)
              have K3 := Lib.hid (show (r + 1) * 8 ≤ 140737488355328 by omega)
              have q7 := (Own.refl wr).alloc (.cells #[.int .i64 (u : Int)] 3)
              have HRO := Lib.hid (row_own HROW.out q7)
              have HCE := Lib.hid (cel_lit (w := wr) (T := 3) (cs := #[.int .i64 (u : Int)]) (xs := [.int .i64 (u : Int)]) (k := 1) rfl rfl (by unfold maxLen; decide))
              have HBS := Lib.hid (show w6.heap.size ≤ (wr.alloc (.cells #[.int .i64 (u : Int)] 3)).heap.size from Nat.le_trans q.size q7.size)
              have HQ7 := Lib.hid q7
              clear h1 h2 h3 h4 hlen hr q7 d1
              go_wp2_with (at_builtin; refine wpList_append_k (by go_simp) _ _ 29 rfl w6.heap.size 3 i0 (.int .i64 0) 8 Try.underlying29 HI.out HZ0.out HZ1.out HZ2.out rfl _ r (cellsI (ints ((pth n l K x y).drop (t + 1)).reverse)) rfl HRO.out _ [.int .i64 (u : Int)] rfl HCE.out (fun x hx => by rw [List.mem_singleton.1 hx]; rfl) (r + 1) rfl K2.out K3.out HBS.out ?_; intro v8 w8 hown8 hgr8; have HOWN8 := Lib.hid hown8; have HGR8 := Lib.hid hgr8; clear hown8 hgr8)
              obtain ⟨A8, c8, rfl⟩ := rows_shape HOWN8.out
              go_roundw
              case rel =>
                refine ⟨t, u, rfl, by omega, HU.out, (q.trans HQ7.out).grown HGR8.out (fun k hk => (HROW.out.lt k hk).1), ?_⟩
                rw [← HLR.out, HDR.out, ints_app, cellsI_app]
                exact HOWN8.out
              case measure => simp [lenOf]; omega
      · have c2 : inN (n : Int) b = false := Bool.eq_false_iff.2 c2
        obtain ⟨rfl, rfl⟩ : 6 = f ∧ [] = V := by
          have h1 : pthE n l a b = 6 := by unfold pthE; rw [if_neg (by rw [hce]; simp), if_pos c1, if_neg (by rw [c2]; simp)]
          exact ⟨by rw [← H.out.1, h1], by rw [← H.out.2, pthV_bad (by rw [h1]; decide)]⟩
        have HC2 := Lib.hid c2
        clear hce H G c1 c2 b0 b1 b2
        go_enter Try.func20, Try.ntmps20
        go_upto_region 1 with (fail)
        have k0 : (w.alloc (.cells #[.int .i64 (n : Int), .slice A m cap] 24)).cell? ⟨w.heap.size, 0, none⟩ = some (.int .i64 (n : Int)) := by go_simp
        have k1 : (w.alloc (.cells #[.int .i64 (n : Int), .slice A m cap] 24)).cell? ⟨w.heap.size, 1, none⟩ = some (.slice A m cap) := by go_simp
        have g0 : Own w (w.alloc (.cells #[.int .i64 (n : Int), .slice A m cap] 24)) := (Own.refl w).alloc _
        generalize hW : (w.alloc (.cells #[.int .i64 (n : Int), .slice A m cap] 24)) = W0 at *
        clear hW
        have HP0 := Lib.hid (HP.out.own g0)
        go_wp2_with (first
          | (go_at_call 11; with_reducible refine (pcheck_at n l _ 0 _ HP0 HCE).mono ?_; rintro e w1 ⟨rfl, q1⟩; replace k0 := q1.cell k0; replace k1 := q1.cell k1; have p1 := q1)
          | (go_at_call 29; with_reducible refine (pnode_at n a _ _ _ true _ HC1).mono ?_; rintro e w2 ⟨rfl, q2⟩; replace k0 := q2.cell k0; replace k1 := q2.cell k1; have p2 := p1.trans q2; clear q2)
          | (go_at_call 29; with_reducible refine (pnode_at n b _ _ _ false _ HC2).mono ?_; rintro e w2 ⟨rfl, q2⟩; replace k0 := q2.cell k0; replace k1 := q2.cell k1; have p3 := p2.trans q2; clear q2))
        go_ret2
        exact ⟨_, rfl, World.ownsRow_nil _ _ _ _, g0.trans p3⟩
    · have c1 : inN (n : Int) a = false := Bool.eq_false_iff.2 c1
      obtain ⟨rfl, rfl⟩ : 6 = f ∧ [] = V := by
        have h1 : pthE n l a b = 6 := by unfold pthE; rw [if_neg (by rw [hce]; simp), if_neg (by rw [c1]; simp)]
        exact ⟨by rw [← H.out.1, h1], by rw [← H.out.2, pthV_bad (by rw [h1]; decide)]⟩
      have HC1 := Lib.hid c1
      clear hce H G c1 b0 b1 b2
      go_enter Try.func20, Try.ntmps20
      go_upto_region 1 with (fail)
      have k0 : (w.alloc (.cells #[.int .i64 (n : Int), .slice A m cap] 24)).cell? ⟨w.heap.size, 0, none⟩ = some (.int .i64 (n : Int)) := by go_simp
      have k1 : (w.alloc (.cells #[.int .i64 (n : Int), .slice A m cap] 24)).cell? ⟨w.heap.size, 1, none⟩ = some (.slice A m cap) := by go_simp
      have g0 : Own w (w.alloc (.cells #[.int .i64 (n : Int), .slice A m cap] 24)) := (Own.refl w).alloc _
      generalize hW : (w.alloc (.cells #[.int .i64 (n : Int), .slice A m cap] 24)) = W0 at *
      clear hW
      have HP0 := Lib.hid (HP.out.own g0)
      go_wp2_with (first
        | (go_at_call 11; with_reducible refine (pcheck_at n l _ 0 _ HP0 HCE).mono ?_; rintro e w1 ⟨rfl, q1⟩; replace k0 := q1.cell k0; replace k1 := q1.cell k1; have p1 := q1)
        | (go_at_call 29; with_reducible refine (pnode_at n a _ _ _ false _ HC1).mono ?_; rintro e w2 ⟨rfl, q2⟩; replace k0 := q2.cell k0; replace k1 := q2.cell k1; have p2 := p1.trans q2; clear q2))
      go_ret2
      exact ⟨_, rfl, World.ownsRow_nil _ _ _ _, g0.trans p2⟩
  · obtain ⟨rfl, rfl⟩ : ce = f ∧ [] = V := by
      have h1 : pthE N l a b = ce := by unfold pthE; rw [if_pos (by rw [hce]; exact c0), hce]
      exact ⟨by rw [← H.out.1, h1], by rw [← H.out.2, pthV_bad (by rw [h1]; exact c0)]⟩
    have d1 : (ce == 0) = false := beq_eq_false_iff_ne.2 c0
    have d2 : (ce != 0) = true := bne_iff_ne.2 c0
    clear hce H
    go_enter Try.func20, Try.ntmps20
    go_upto_region 1 with (fail)
    have k0 : (w.alloc (.cells #[.int .i64 N, .slice A m cap] 24)).cell? ⟨w.heap.size, 0, none⟩ = some (.int .i64 N) := by go_simp
    have k1 : (w.alloc (.cells #[.int .i64 N, .slice A m cap] 24)).cell? ⟨w.heap.size, 1, none⟩ = some (.slice A m cap) := by go_simp
    have g0 : Own w (w.alloc (.cells #[.int .i64 N, .slice A m cap] 24)) := (Own.refl w).alloc _
    generalize hW : (w.alloc (.cells #[.int .i64 N, .slice A m cap] 24)) = W0 at *
    clear hW
    have HP0 := Lib.hid (HP.out.own g0)
    go_wp2_with (go_at_call 11; with_reducible refine (pcheck_at N l _ ce _ HP0 HCE).mono ?_; rintro e w1 ⟨rfl, q1⟩; replace k0 := q1.cell k0; replace k1 := q1.cell k1; have p1 := q1)
    go_ret2
    exact ⟨_, rfl, World.ownsRow_nil _ _ _ _, g0.trans p1⟩
end Go.Proofs.Ytkdfmjhhdfiiiaa.GraW
