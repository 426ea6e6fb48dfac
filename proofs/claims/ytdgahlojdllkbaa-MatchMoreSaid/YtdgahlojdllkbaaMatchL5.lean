/-
  Package match: the law MatchMore walked. Condition: none.
-/
import Derived.Test.YtdgahlojdllkbaaMatchT
import Derived.Test.YtdgahlojdllkbaaMatchPlainG
import Derived.Test.YtdgahlojdllkbaaTabPut
namespace Go.Proofs.Ytdgahlojdllkbaa.MchW
open Go.ChangeShapes Go.WideShapes Go.ChangeAt Go.RowKit
open PairW CelW TabW MchP
theorem cellsT_one (b : List Bool) : ∀ u ∈ cellsT b, u.oneCell' = true := fun u hu => by
  obtain ⟨c, _, rfl⟩ := List.mem_map.1 hu
  rfl
theorem cellsB_take {l : List (List Bool)} {i : Nat} {r : List Bool} (h : l[i]? = some r) : cellsB (l.take (i + 1)) = cellsB (l.take i) ++ [cellsT r] := by
  unfold cellsB
  rw [take_one h, List.map_append]
  rfl
theorem cellsB_set {l : List (List Bool)} {i c : Nat} {r : List Bool} (h : l[i]? = some r) : (cellsB l).set i ((cellsT r).set c (.bool true)) = cellsB (mor l i c) := by
  rw [mor_eq h]
  unfold cellsB
  rw [List.map_set, cellsT_set]
set_option maxRecDepth 100000 in
set_option maxHeartbeats 4000000 in
theorem lmore_at (l : List (List Bool)) (vl : Value) (x y : Int) (w : World) (HT : Hid (Cels w vl (cellsB l))) :
    Calls Try.prog 8 #[vl, .int .i64 x, .int .i64 y] w fun e w' => e = .returned (.bool true) ∧ Own w w' := by
  have HK := Lib.hid (show ∀ w, Calls Try.prog 15 #[] w fun e w' => e = .returned (.bool true) ∧ Own w w' from awake_at)
  obtain ⟨f, hf⟩ : ∃ f, chkE l = f := ⟨_, rfl⟩
  obtain ⟨n, hn⟩ : ∃ n, nuV l = n := ⟨_, rfl⟩
  have HF := Lib.hid hf
  have HN := Lib.hid hn
  clear hf hn
  obtain ⟨AL, capl, rfl, s1, s2, hop⟩ := tb_open HT.out
  unfold maxLen at s2
  obtain ⟨R, hR⟩ : ∃ R, l.length = R := ⟨_, rfl⟩
  rw [hR] at s1 HT hop ⊢
  have HR := Lib.hid hR
  clear hR
  by_cases hok : f = 0 ∧ 0 ≤ x ∧ x < R ∧ 0 ≤ y ∧ y < (wd l : Int)
  · obtain ⟨h0, hx0, hxR, hy0, hyW⟩ := hok
    subst h0
    obtain ⟨i0, rfl⟩ : ∃ i : Nat, x = (i : Int) := ⟨x.toNat, by omega⟩
    obtain ⟨c0, rfl⟩ : ∃ c : Nat, y = (c : Int) := ⟨y.toNat, by omega⟩
    obtain ⟨b1, b2, b3⟩ := chk_ok HF.out
    obtain ⟨W, hW⟩ : ∃ W, wd l = W := ⟨_, rfl⟩
    rw [HR.out] at b1
    rw [hW] at b2 hyW
    have HW := Lib.hid hW
    have HS := Lib.hid b3
    have hiR : i0 < R := by omega
    have hcW : c0 < W := by omega
    obtain ⟨bi, hi, hz0, hz1, hz2⟩ := info_parts (show (Try.prog.info? 4).map (fun i => (i.zero, i.size, i.bytes)) = some (some (.bool false), 1, 1) by kernel_rfl)
    have HI := Lib.hid hi
    have HZ0 := Lib.hid hz0
    have HZ1 := Lib.hid hz1
    have HZ2 := Lib.hid hz2
    obtain ⟨ri, hi, hz0, hz1, hz2⟩ := info_parts (show (Try.prog.info? 38).map (fun i => (i.zero, i.size, i.bytes)) = some (some (.slice none 0 0), 1, 24) by kernel_rfl)
    have JI := Lib.hid hi
    have JZ0 := Lib.hid hz0
    have JZ1 := Lib.hid hz1
    have JZ2 := Lib.hid hz2
    obtain ⟨g, off, rfl, hrows⟩ := hop (by omega)
    have HROWS := Lib.hid (show ∀ i, i < R → ∃ (A : Option Addr) (cr : Nat) (r : List Bool), l[i]? = some r ∧ r.length = W ∧ w.cell? ⟨g, off + i, none⟩ = some (.slice A W cr) ∧ W ≤ cr ∧ cr ≤ 9223372036854775807 ∧ Cel w (.slice A W cr) (cellsT r) from fun i hi => by
      obtain ⟨r, hr⟩ : ∃ r, l[i]? = some r := ⟨_, List.getElem?_eq_getElem (by rw [HR.out]; exact hi)⟩
      obtain ⟨u, h1, h2⟩ := hrows i r hr
      obtain ⟨A, cr, rfl, h3, h4, _⟩ := cel_bool h2
      have hw : r.length = W := by rw [← HW.out]; exact HS.out r (List.mem_of_getElem? hr)
      rw [hw] at h1 h2 h3
      unfold maxLen at h4
      exact ⟨A, cr, r, hr, hw, h1, h3, h4, h2⟩)
    obtain ⟨A0, cr0, r0, hr0, hw0, e0, q1, q2, hc0⟩ := HROWS.out i0 hiR
    have HR0 := Lib.hid hr0
    have HE0 := Lib.hid e0
    obtain ⟨t0, ht0⟩ : ∃ t, r0[c0]? = some t := ⟨_, List.getElem?_eq_getElem (by rw [hw0]; exact hcW)⟩
    have HT0 := Lib.hid ht0
    have hcell : ∃ gr og : Nat, A0 = some ⟨gr, og, none⟩ ∧ w.cell? ⟨gr, og + c0, none⟩ = some (.bool t0) := by
      obtain ⟨A', c', e', _, _, h3⟩ := cel_bool hc0
      injection e' with e1 _ _
      obtain ⟨gr, og, e2, h4⟩ := h3 (by rw [hw0]; omega)
      exact ⟨gr, og, by rw [e1, e2], h4 c0 t0 ht0⟩
    obtain ⟨gr, og, rfl, hcell⟩ := hcell
    have HCELL := Lib.hid hcell
    have d1 : decide ((i0 : Int) < 0) = false := decide_eq_false (by omega)
    have d2 : decide (R ≤ i0) = false := decide_eq_false (by omega)
    have d3 : decide ((c0 : Int) < 0) = false := decide_eq_false (by omega)
    have d4 : decide (W ≤ c0) = false := decide_eq_false (by omega)
    have HW0 := Lib.hid hw0
    clear hrows hop hW b3 hi hz0 hz1 hz2 hr0 e0 ht0 hcell hc0 hw0
    go_enter Try.func8, Try.ntmps8
    go_upto_region 2 with (go_at_call 11; with_reducible refine (psizeOf_at l _ n 0 _ HT HF HN).mono ?_; rintro e w1 ⟨rfl, q1, hmx⟩; have HQ1 := Lib.hid q1; have HMX := Lib.hid (hmx rfl); have e0 := q1.cell HE0.out; clear q1 hmx)
    go_upto_region 4 with (fail)
    clear e0
    have HTV0 := Lib.hid (show TabV (w1.alloc (.cells #[] 38)) w1.heap.size 38 4 (.slice (some ⟨w1.heap.size, 0, none⟩) 0 0) [] [] from ⟨rfl, World.ownsRow_made w1 #[] 0 (Nat.le_refl _) (Nat.zero_le _) rfl, fun i xs u h => by simp at h, fun i j u x _ h => by simp at h⟩)
    have HQ2 := Lib.hid (show Own w1 (w1.alloc (.cells #[] 38)) from (Own.refl w1).alloc _)
    have HQW := HQ1
    obtain ⟨b0, hb0⟩ : ∃ b, w1.heap.size = b := ⟨_, rfl⟩
    rw [hb0] at HTV0
    have HB0 := Lib.hid hb0
    go_wp2
    clear hb0
    generalize w1.alloc (.cells #[] 38) = w2 at *
    go_loopw [9, 10] (fun vo vi wr => ∃ (j go co : Nat) (vs : List Value), vi = .int .i64 (j : Int) ∧ vo = .slice (some ⟨go, 0, none⟩) j co ∧ j ≤ R ∧ Own w1 wr ∧ TabV wr b0 38 4 (.slice (some ⟨go, 0, none⟩) j co) (cellsB (l.take j)) vs) (fun _ vi _ => R - (intOf vi).toNat)
    case atStart => exact ⟨0, b0, 0, [], rfl, rfl, Nat.zero_le _, HQ2.out, by rw [List.take_zero]; exact HTV0.out⟩
    case round =>
      clear HTV0 HQ2
      obtain ⟨j, go, co, vs, rfl, rfl, hj, q, htv⟩ := hrel
      have HQ := Lib.hid q
      have HTV := Lib.hid htv
      have HBB := Lib.hid (show b0 ≤ wr.heap.size by rw [← HB0.out]; exact q.size)
      have HLT := Lib.hid (show (cellsB (l.take j)).length = j by rw [cellsB_len, List.length_take, HR.out]; omega)
      clear q htv
      by_cases hlt : j < R
      · have hjz : (j : Int) < R := by omega
        obtain ⟨A, cr, r, hr, hw, e1', p1, p2, hcel⟩ := HROWS.out j hlt
        have HRJ := Lib.hid hr
        have HWJ := Lib.hid hw
        have e1 := HQ.out.cell (HQW.out.cell e1')
        have HCJ := Lib.hid ((hcel.own (HQW.out.trans HQ.out)).own ((Own.refl wr).alloc (.cells #[] 4)))
        have HRM := Lib.hid (show (wr.alloc (.cells #[] 4)).ownsRow wr.heap.size 4 1 (.slice (some ⟨wr.heap.size, 0, none⟩) 0 0) 0 [] from World.ownsRow_made wr #[] 0 (Nat.le_refl _) (Nat.zero_le _) rfl)
        have HQA := Lib.hid (show Own wr (wr.alloc (.cells #[] 4)) from (Own.refl wr).alloc _)
        have e1a := HQA.out.cell e1
        have HL1 := Lib.hid (show 0 + (cellsT r).length = W by rw [cellsT_len, HWJ.out, Nat.zero_add])
        have K1 := Lib.hid (show W ≤ maxLen by unfold maxLen; omega)
        have K2 := Lib.hid (show W * 1 ≤ 140737488355328 by omega)
        have K3 := Lib.hid (show j + 1 ≤ maxLen by unfold maxLen; omega)
        have K4 := Lib.hid (show (j + 1) * 24 ≤ 140737488355328 by omega)
        clear hr hw e1' hcel
        go_wp2_with (first
          | (at_builtin; refine wpList_append_c (by go_simp) _ _ 38 rfl wr.heap.size 4 bi (.bool false) 1 Try.underlying38 HI.out HZ0.out HZ1.out HZ2.out rfl wr.heap.size 0 0 [] rfl HRM.out _ (cellsT r) rfl HCJ.out (cellsT_one r) W HL1.out K1.out K2.out HQA.out.size ?_; intro g8 c8 w8 hown8 hgr8; have HOWN8 := Lib.hid hown8; have HQ8 := Lib.hid (row_after HQA.out HRM.out hgr8 (Nat.le_refl _)); have HU9 := Lib.hid (row_own hown8 ((Own.refl w8).alloc (.cells #[.slice (some ⟨g8, 0, none⟩) W c8] 38))); have HQ9 := Lib.hid (HQ8.out.alloc (.cells #[.slice (some ⟨g8, 0, none⟩) W c8] 38)); have HRO := Lib.hid (by have h := row_own HTV.out.out HQ9.out; rw [HLT.out] at h; exact h); have HCE := Lib.hid (cel_lit (w := w8) (T := 38) (cs := #[.slice (some ⟨g8, 0, none⟩) W c8]) (xs := [.slice (some ⟨g8, 0, none⟩) W c8]) (k := 1) rfl rfl (by unfold maxLen; decide)); have HBS := Lib.hid (Nat.le_trans HBB.out HQ9.out.size); clear hown8 hgr8)
          | (at_builtin; refine wpList_append_c (by go_simp) _ _ 22 rfl b0 38 ri (.slice none 0 0) 24 Try.underlying22 JI.out JZ0.out JZ1.out JZ2.out rfl go j co vs rfl HRO.out _ [.slice (some ⟨g8, 0, none⟩) W c8] rfl HCE.out (fun x hx => by rw [List.mem_singleton.1 hx]; rfl) (j + 1) rfl K3.out K4.out HBS.out ?_; intro g10 c10 w10 hown10 hgr10; have HOWN10 := Lib.hid hown10; have HGR10 := Lib.hid hgr10; clear hown10 hgr10))
        go_roundw
        case rel =>
          have hys : (cellsT r).length = W := by rw [cellsT_len, HWJ.out]
          refine ⟨j + 1, g10, c10, vs ++ [.slice (some ⟨g8, 0, none⟩) W c8], by go_num, rfl, hlt, row_after (HQ.out.trans HQ9.out) HRO.out HGR10.out (Nat.le_of_eq HB0.out), ?_⟩
          rw [cellsB_take HRJ.out]
          refine TabV.more (by decide) HTV.out HQ9.out (by rw [hys]; have h := HU9.out; rw [List.nil_append] at h; exact h) (Nat.le_refl _) HBB.out HGR10.out ?_
          rw [HLT.out]
          exact HOWN10.out
        case measure => simp [intOf]; omega
      · obtain rfl : R = j := by omega
        have HTK := Lib.hid (show l.take R = l from List.take_of_length_le (by rw [HR.out]; exact Nat.le_refl _))
        rw [HTK.out] at HTV
        have hrow := HTV.out.row (i := i0) (by rw [cellsB_len, HR.out]; exact hiR)
        obtain ⟨u, xs, hxs, hvs, ec, fc, hur⟩ := hrow
        obtain rfl : cellsT r0 = xs := by
          rw [cellsB_at HR0.out] at hxs
          injection hxs
        have hlen : (cellsT r0).length = W := by rw [cellsT_len, HW0.out]
        rw [hlen] at hur
        obtain ⟨gu, cu, rfl⟩ : ∃ gu cu, u = .slice (some ⟨gu, 0, none⟩) W cu := by
          rcases hur.2 with ⟨_, h⟩ | ⟨g', cap', cur, h, _⟩
          · omega
          · exact ⟨g', cap', h⟩
        have hcu : W ≤ cu ∧ cu ≤ 9223372036854775807 := by
          rcases hur.2 with ⟨h, _⟩ | ⟨g', cap', cur, h, _, _, h2, h3, _⟩
          · cases h
          · injection h with _ _ h4
            unfold maxLen at h3
            rw [h4]
            exact ⟨h2, h3⟩
        obtain ⟨hcu1, hcu2⟩ := hcu
        obtain ⟨y0, ey, hy0', fy⟩ := row_bool hur HW0.out hcW
        have hco : R ≤ co ∧ co ≤ 9223372036854775807 := by
          have h := HTV.out.out
          rw [cellsB_len, HR.out] at h
          rcases h.2 with ⟨h, _⟩ | ⟨g', cap', cur, h, _, _, h2, h3, _⟩
          · cases h
          · injection h with _ _ h4
            unfold maxLen at h3
            rw [h4]
            exact ⟨h2, h3⟩
        obtain ⟨hco1, hco2⟩ := hco
        have HPUT := Lib.hid (by have h := TabV.put (j := c0) (x := .bool true) (by decide) HTV.out (cellsB_at HR0.out) hvs; rw [cellsB_set HR0.out] at h; exact h)
        have HGU := Lib.hid (hur.lt gu rfl).1
        have HQP := Lib.hid (HQ.out.setCell (p := ⟨gu, c0, none⟩) (by show w1.heap.size ≤ gu; rw [HB0.out]; exact HGU.out) (.bool true))
        have HMC := Lib.hid (mor_chk (c := c0) HR0.out HF.out)
        obtain ⟨k', hk'⟩ : ∃ k, nuV (mor l i0 c0) = k := ⟨_, rfl⟩
        have HNK := Lib.hid hk'
        clear hxs hvs fc hur hy0' hk'
        go_upto_region 10 with (fail)
        have HCM := Lib.hid HPUT.out.cels
        generalize wr.setCell ⟨gu, c0, none⟩ (.bool true) = w6 at *
        clear ec ey fy
        go_upto_region 11 with (go_at_call 11; with_reducible refine (psizeOf_at (mor l i0 c0) _ k' 0 _ HCM HMC HNK).mono ?_; rintro e w7 ⟨rfl, q7, hmx7⟩; have HQ7 := Lib.hid (HQP.out.trans q7); have HMX7 := Lib.hid (hmx7 rfl); clear q7 hmx7)
        have e0 := HQ7.out.cell (HQW.out.cell HE0.out)
        have ecl := HQ7.out.cell (HQW.out.cell HCELL.out)
        have hn24 : n ≤ 24 := by
          obtain ⟨⟨E, hE, h1⟩, _⟩ := HMX.out
          have := rel_le (fun (e : Nat × Nat) i => e.1 = i) E (List.range R) hE.nd (fun e he => ⟨e.1, List.mem_range.2 (by rw [← HR.out]; exact at2_row (hE.ok e he)), rfl⟩) (fun a ha b hb c h2 h3 => hE.row a ha b hb (h2.trans h3.symm))
          rw [List.length_range] at this
          omega
        rcases mor_nu HR0.out HT0.out HMX.out HMX7.out with rfl | ⟨rfl, rfl⟩
        · go_wp2_with (go_at_call 15; with_reducible refine (HK.out _).mono ?_; rintro e w9 ⟨rfl, q9⟩; have HQ9 := Lib.hid q9; clear q9)
          go_ret
          exact ⟨rfl, (HQW.out.trans HQ7.out).trans HQ9.out⟩
        · have d5 : (((n + 1 : Nat) : Int) == (n : Int)) = false := beq_eq_false_iff_ne.2 (by omega)
          go_wp2_with (go_at_call 15; with_reducible refine (HK.out _).mono ?_; rintro e w9 ⟨rfl, q9⟩; have HQ9 := Lib.hid q9; clear q9)
          go_ret
          exact ⟨rfl, (HQW.out.trans HQ7.out).trans HQ9.out⟩
  · by_cases h0 : f = 0
    · subst h0
      by_cases hx : x < 0
      · have d1 : decide (x < 0) = true := decide_eq_true hx
        go_enter Try.func8, Try.ntmps8
        go_wp2_with (first
          | (go_at_call 11; with_reducible refine (psizeOf_at l _ n 0 _ HT HF HN).mono ?_; rintro e w1 ⟨rfl, q1, _⟩; have HQ1 := Lib.hid q1; clear q1)
          | (go_at_call 15; with_reducible refine (HK.out _).mono ?_; rintro e w9 ⟨rfl, q9⟩; have HQ9 := Lib.hid q9; clear q9))
        go_ret
        exact ⟨rfl, HQ1.out.trans HQ9.out⟩
      · have d1 : decide (x < 0) = false := decide_eq_false hx
        obtain ⟨i0, rfl⟩ : ∃ i : Nat, x = (i : Int) := ⟨x.toNat, by omega⟩
        by_cases hxR : R ≤ i0
        · have d2 : decide (R ≤ i0) = true := decide_eq_true hxR
          go_enter Try.func8, Try.ntmps8
          go_wp2_with (first
            | (go_at_call 11; with_reducible refine (psizeOf_at l _ n 0 _ HT HF HN).mono ?_; rintro e w1 ⟨rfl, q1, _⟩; have HQ1 := Lib.hid q1; clear q1)
            | (go_at_call 15; with_reducible refine (HK.out _).mono ?_; rintro e w9 ⟨rfl, q9⟩; have HQ9 := Lib.hid q9; clear q9))
          go_ret
          exact ⟨rfl, HQ1.out.trans HQ9.out⟩
        · have d2 : decide (R ≤ i0) = false := decide_eq_false hxR
          by_cases hy : y < 0
          · have d3 : decide (y < 0) = true := decide_eq_true hy
            go_enter Try.func8, Try.ntmps8
            go_wp2_with (first
              | (go_at_call 11; with_reducible refine (psizeOf_at l _ n 0 _ HT HF HN).mono ?_; rintro e w1 ⟨rfl, q1, _⟩; have HQ1 := Lib.hid q1; clear q1)
              | (go_at_call 15; with_reducible refine (HK.out _).mono ?_; rintro e w9 ⟨rfl, q9⟩; have HQ9 := Lib.hid q9; clear q9))
            go_ret
            exact ⟨rfl, HQ1.out.trans HQ9.out⟩
          · have d3 : decide (y < 0) = false := decide_eq_false hy
            obtain ⟨c0, rfl⟩ : ∃ c : Nat, y = (c : Int) := ⟨y.toNat, by omega⟩
            obtain ⟨b1, b2, b3⟩ := chk_ok HF.out
            obtain ⟨W, hW⟩ : ∃ W, wd l = W := ⟨_, rfl⟩
            rw [HR.out] at b1
            rw [hW] at b2 hok
            have hiR : i0 < R := by omega
            have hWc : W ≤ c0 := by omega
            have d4 : decide (W ≤ c0) = true := decide_eq_true hWc
            have hiz : (i0 : Int) < R := by omega
            obtain ⟨g, off, cap, A, cr, he, _, _, e1, h4, h5, _⟩ := tb_row HT.out b3 HR.out hW hiR
            injection he with ea eb ec
            subst ea
            subst ec
            unfold maxLen at h5
            have HE1 := Lib.hid e1
            clear b3 hW e1 hop eb hok
            go_enter Try.func8, Try.ntmps8
            go_wp2_with (first
              | (go_at_call 11; with_reducible refine (psizeOf_at l _ n 0 _ HT HF HN).mono ?_; rintro e w1 ⟨rfl, q1, _⟩; have HQ1 := Lib.hid q1; have e1 := HQ1.out.cell HE1.out; clear q1)
              | (go_at_call 15; with_reducible refine (HK.out _).mono ?_; rintro e w9 ⟨rfl, q9⟩; have HQ9 := Lib.hid q9; clear q9))
            go_ret
            exact ⟨rfl, HQ1.out.trans HQ9.out⟩
    · have d1 : (f == 0) = false := beq_eq_false_iff_ne.2 h0
      have d2 : (f != 0) = true := bne_iff_ne.2 h0
      go_enter Try.func8, Try.ntmps8
      go_wp2_with (first
        | (go_at_call 11; with_reducible refine (psizeOf_at l _ n f _ HT HF HN).mono ?_; rintro e w1 ⟨rfl, q1, _⟩; have HQ1 := Lib.hid q1; clear q1)
        | (go_at_call 15; with_reducible refine (HK.out _).mono ?_; rintro e w9 ⟨rfl, q9⟩; have HQ9 := Lib.hid q9; clear q9))
      go_ret
      exact ⟨rfl, HQ1.out.trans HQ9.out⟩
end Go.Proofs.Ytdgahlojdllkbaa.MchW
