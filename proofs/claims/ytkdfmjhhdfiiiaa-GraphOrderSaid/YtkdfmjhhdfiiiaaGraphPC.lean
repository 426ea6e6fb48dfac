/-
  Walk of the program's followers: for each node the nodes that follow it, ascending. Condition: none.
-/
import Derived.Test.YtkdfmjhhdfiiiaaGraphPB
import Derived.Test.YtkdfmjhhdfiiiaaTab
import Derived.Test.YtkdfmjhhdfiiiaaHeld
import Derived.Deep.AppendLies
import Derived.Deep.RegionLaw
namespace Go.Proofs.Ytkdfmjhhdfiiiaa.GraW
open Go.ChangeShapes Go.WideShapes Go.ChangeAt Go.RowKit
open PairW CelW GraP TabW
/-- The rows of followers. -/
def rowF (n : Nat) (l : List Ar) : List (List Value) := (List.range n).map fun a => cellsI (ints (fol n l a))
theorem rowF_len (n : Nat) (l : List Ar) : (rowF n l).length = n := by unfold rowF; rw [List.length_map, List.length_range]
theorem rowF_at {n : Nat} {l : List Ar} {a : Nat} (h : a < n) : (rowF n l)[a]? = some (cellsI (ints (fol n l a))) := by unfold rowF; rw [List.getElem?_map, List.getElem?_range h]; rfl
theorem rowF_nil (n : Nat) : rowF n [] = List.replicate n [] := by
  refine List.ext_getElem? fun i => ?_
  rw [List.getElem?_replicate]
  by_cases hi : i < n
  · rw [if_pos hi, rowF_at hi]
    have : fol n [] i = [] := List.eq_nil_iff_forall_not_mem.2 fun x hx => by
      have := ar_iff.1 (fol_mem.1 hx).2
      cases this
    rw [this]
    rfl
  · rw [if_neg hi, List.getElem?_eq_none (by rw [rowF_len]; omega)]
theorem rowF_perm {n : Nat} {l m : List Ar} (h : l.Perm m) : rowF n l = rowF n m := by
  unfold rowF
  exact List.map_congr_left fun a _ => by rw [fol_same fun p => h.mem_iff]
theorem rowF_again {n : Nat} {S : List Ar} {i : Nat} (hi : i + 1 < S.length) (h : at' S (i + 1) = at' S i) : rowF n (S.take (i + 1 + 1)) = rowF n (S.take (i + 1)) := by
  unfold rowF
  exact List.map_congr_left fun a _ => by rw [fol_again hi h]
theorem rowF_more {n : Nat} {S : List Ar} {i u v : Nat} (hS : Srt S) (hi : i < S.length) (h : at' S i = ((u : Int), (v : Int))) (hv : v < n) (hne : i = 0 ∨ at' S i ≠ at' S (i - 1)) :
    rowF n (S.take (i + 1)) = (rowF n (S.take i)).set u (cellsI (ints (fol n (S.take i) u)) ++ [.int .i64 (v : Int)]) := by
  refine List.ext_getElem? fun j => ?_
  rw [List.getElem?_set]
  by_cases hj : j < n
  · rw [rowF_at hj, rowF_at hj]
    by_cases e : u = j
    · subst e
      rw [if_pos rfl, if_pos (by rw [rowF_len]; exact hj), fol_more hS hi h hv hne, ints_app, cellsI_app]
      rfl
    · rw [if_neg e, fol_other hi h (fun k => e k.symm)]
  · rw [List.getElem?_eq_none (by rw [rowF_len]; omega), List.getElem?_eq_none (l := rowF n (S.take i)) (by rw [rowF_len]; omega)]
    split
    · rw [if_neg (by rw [rowF_len]; omega)]
    · rfl
set_option maxRecDepth 100000 in
set_option maxHeartbeats 4000000 in
theorem pfol_at (n m : Nat) (l : List Ar) (sv : Value) (w : World) (HP : Hid (Pts w sv l)) (HG : Hid (Fit n l)) (hm : l.length = m) (hm2 : m ≤ 512) (hn : n ≤ 64) :
    Calls Try.prog 32 #[grV (n : Int) sv] w fun e w' => ∃ g, e = .returned (.slice (some ⟨g, 0, none⟩) n n) ∧ Tab w' w.heap.size 29 3 (.slice (some ⟨g, 0, none⟩) n n) (rowF n l) ∧ Own w w' := by
  obtain ⟨i0, hi, hz0, hz1, hz2⟩ := info_parts (show (Try.prog.info? 3).map (fun i => (i.zero, i.size, i.bytes)) = some (some (.int .i64 0), 1, 8) by kernel_rfl)
  have HI := Lib.hid hi
  have HZ0 := Lib.hid hz0
  have HZ1 := Lib.hid hz1
  have HZ2 := Lib.hid hz2
  obtain ⟨i1, hi, hz0, hz1, hz2⟩ := info_parts (show (Try.prog.info? 29).map (fun i => (i.zero, i.size, i.bytes)) = some (some (.slice none 0 0), 1, 24) by kernel_rfl)
  have JI := Lib.hid hi
  have JZ0 := Lib.hid hz0
  have JZ1 := Lib.hid hz1
  have JZ2 := Lib.hid hz2
  obtain ⟨A, cap, rfl, a1, a2, _⟩ := HP.out.open
  unfold maxLen at a2
  rw [hm] at a1 HP ⊢
  have HM := Lib.hid hm
  have HBY := Lib.hid (show i1.bytes * n ≤ 281474976710656 by rw [hz2]; omega)
  have HMX := Lib.hid (show n ≤ maxLen by unfold maxLen; omega)
  have HZL := Lib.hid (show (madeCells (Value.slice none 0 0).cells (n * 1)).toList = List.replicate n (.slice none 0 0) by rw [Nat.mul_one]; show (madeCells #[Value.slice none 0 0] n).toList = _; rw [toList_madeCells_one])
  clear hi hz0 hz1 hz2 hm
  go_enter Try.func32, Try.ntmps32
  go_upto_region 1 with (fail)
  have k0 : (w.alloc (.cells #[.int .i64 (n : Int), .slice A m cap] 24)).cell? ⟨w.heap.size, 0, none⟩ = some (.int .i64 (n : Int)) := by go_simp
  have k1 : (w.alloc (.cells #[.int .i64 (n : Int), .slice A m cap] 24)).cell? ⟨w.heap.size, 1, none⟩ = some (.slice A m cap) := by go_simp
  have g0 : Own w (w.alloc (.cells #[.int .i64 (n : Int), .slice A m cap] 24)) := (Own.refl w).alloc _
  generalize hW : (w.alloc (.cells #[.int .i64 (n : Int), .slice A m cap] 24)) = W0 at *
  clear hW
  have HP0 := Lib.hid (HP.out.own g0)
  go_upto_region 2 with (go_at_call 43; with_reducible refine (cloneA_at l _ m _ HP0 HM.out (by omega)).mono ?_; rintro e w1 ⟨A1, cap1, rfl, hr1, q1⟩; have HR1 := Lib.hid hr1; clear hr1)
  have HK0 := Lib.hid k0
  clear k0 k1
  go_upto_region 3 with (go_at_call 44; with_reducible refine (sortA_to l A1 m cap1 _ _ HR1 HM.out (by omega)).mono ?_; rintro e w2 ⟨rfl, S, hperm, hsrt, hr2, hg2⟩; have HR2 := Lib.hid hr2; have HPE := Lib.hid hperm; have HSR := Lib.hid hsrt; have HG2 := Lib.hid hg2; clear hr2 hperm hsrt hg2)
  have q2 : Own W0 w2 := q1.grown HG2.out fun k hk => (HR1.out.lt k hk).1
  have HPS := Lib.hid (pts_of_row (l := S) (by rw [HPE.out.length_eq, HM.out]; exact HR2.out))
  have HSL := Lib.hid (show S.length = m by rw [HPE.out.length_eq, HM.out])
  have HSF := Lib.hid (show Fit n S from fun p hp => HG.out p (HPE.out.mem_iff.1 hp))
  obtain ⟨A2, cap2, hv2, b1, b2, hc2⟩ := HPS.out.open
  injection hv2 with e1 e2 e3
  subst e1
  subst e3
  unfold maxLen at b2
  rw [HSL.out] at b1 hc2
  have HC2 := Lib.hid hc2
  have k0 := q2.cell HK0.out
  clear hc2 HP HP0 q1 HG2 HR1 HR2 e2
  go_upto_region 4 with (at_make; refine wpList_make_full _ rfl _ _ 39 rfl w2.heap.size 29 i1 (.slice none 0 0) 1 Try.underlying39 JI.out JZ0.out JZ1.out _ _ _ _ n rfl rfl rfl rfl HBY.out HMX.out (Nat.le_refl _) ?_; intro w3 hown3 hg3; have q3 := (Own.refl w2).grown hg3 (by simp); have HR3 := Lib.hid (show w3.ownsRow w2.heap.size 29 1 (.slice (some ⟨w2.heap.size, 0, none⟩) n n) n (List.replicate n (.slice none 0 0)) from HZL.out ▸ hown3); clear hown3 hg3)
  have HT3 := Lib.hid (tab_made (eI := 3) HR3.out)
  obtain ⟨g, hgg⟩ : ∃ g, w2.heap.size = g := ⟨_, rfl⟩
  have HGG := Lib.hid hgg
  rw [hgg] at HT3 ⊢
  have HX0 := Lib.hid (show rowF n (S.take 0) = List.replicate n [] by rw [List.take_zero]; exact rowF_nil n)
  clear hgg HR3 k0
  go_wp2
  go_loopw [5, 6, 17] (fun _ _ vi wr => ∃ (k : Nat) (vs : List Value), vi = .int .i64 (k : Int) ∧ k ≤ m ∧ Own w2 wr ∧ TabV wr g 29 3 (.slice (some ⟨g, 0, none⟩) n n) (rowF n (S.take k)) vs) (fun _ _ vi _ => m - (intOf vi).toNat)
  case atStart => exact ⟨0, _, rfl, Nat.zero_le _, q3, by rw [HX0.out]; exact HT3.out⟩
  case round =>
    clear HT3 q3
    obtain ⟨k, vs, rfl, hk, q, ht⟩ := hrel
    have HT := Lib.hid ht
    clear ht
    by_cases hlt : k < m
    · have hkl : k < S.length := by rw [HSL.out]; exact hlt
      obtain ⟨x, y, hxy, hxn, hyn⟩ := HSF.out.at hkl
      obtain ⟨gb, off, rfl, hc⟩ := HC2.out (by omega)
      have c0 := q.cell (hc k hlt).1
      have c1 := q.cell (hc k hlt).2
      rw [hxy] at c0 c1
      simp only at c0 c1
      have HXY := Lib.hid hxy
      have hkm : (k : Int) < m := by omega
      clear hxy hkl
      obtain ⟨t, htv⟩ : ∃ t, decide (k = 0 ∨ at' S k ≠ at' S (k - 1)) = t := ⟨_, rfl⟩
      have HTT := Lib.hid htv
      clear htv
      go_upto_region 7 with (fail)
      go_cut [32] (fun s wx => s = .bool t ∧ Own wr wx ∧ wx.cell? ⟨wr.heap.size, 0, none⟩ = some (.int .i64 (x : Int)) ∧ wx.cell? ⟨wr.heap.size, 1, none⟩ = some (.int .i64 (y : Int)))
      case first =>
        by_cases h0 : k = 0
        · have HTV := Lib.hid (show t = true from by rw [← HTT.out]; exact decide_eq_true (.inl h0))
          have d0 : ((k : Int) == 0) = true := beq_iff_eq.2 (by omega)
          clear h0 hc
          go_quiet (fail)
          go_wp2
          go_meet
          exact ⟨by rw [HTV.out], ((Own.refl wr).alloc _).drewN _, (pt_new wr (x : Int) (y : Int) 46).1, (pt_new wr (x : Int) (y : Int) 46).2.1⟩
        · obtain ⟨j, hj⟩ : ∃ j, k - 1 = j := ⟨_, rfl⟩
          have hjm : j < m := by omega
          obtain ⟨x2, y2, hxy2, _, _⟩ := HSF.out.at (show j < S.length by rw [HSL.out]; exact hjm)
          have c2 := q.cell (hc j hjm).1
          have c3 := q.cell (hc j hjm).2
          rw [hxy2] at c2 c3
          simp only at c2 c3
          have d0 : ((k : Int) == 0) = false := beq_eq_false_iff_ne.2 (by omega)
          have hjm2 : (j : Int) < m := by omega
          have c2' := ((Own.refl wr).alloc (.cells #[.int .i64 (x : Int), .int .i64 (y : Int)] 46)).cell c2
          have c3' := ((Own.refl wr).alloc (.cells #[.int .i64 (x : Int), .int .i64 (y : Int)] 46)).cell c3
          have HTV := Lib.hid (show decide ((x, y) ≠ (x2, y2)) = t from by
            rw [← HTT.out, hj, HXY.out, hxy2]
            refine decide_eq_decide.2 ⟨fun e => .inr fun e2 => e ?_, fun e e2 => ?_⟩
            · injection e2 with e3 e4
              rw [show x = x2 by omega, show y = y2 by omega]
            · injection e2 with e3 e4
              subst e3
              subst e4
              exact e.elim h0 fun r => r rfl)
          have i1 : IntKind.i64.wrap ((k : Int) - 1) = (j : Int) := (IntWalk.i64_in _ (by omega)).trans (by omega)
          clear h0 hc hxy2 hj
          by_cases ex : x = x2
          · have d1 : ((x : Int) == (x2 : Int)) = true := beq_iff_eq.2 (by omega)
            by_cases ey : y = y2
            · have d2 : ((y : Int) == (y2 : Int)) = true := beq_iff_eq.2 (by omega)
              replace HTV := Lib.hid (show t = false by rw [← HTV.out, ex, ey]; simp)
              clear ex ey
              go_quiet (fail)
              go_wp2
              go_meet
              exact ⟨by rw [HTV.out], ((Own.refl wr).alloc _).drewN _, (pt_new wr (x : Int) (y : Int) 46).1, (pt_new wr (x : Int) (y : Int) 46).2.1⟩
            · have d2 : ((y : Int) == (y2 : Int)) = false := beq_eq_false_iff_ne.2 (by omega)
              replace HTV := Lib.hid (show t = true by rw [← HTV.out]; exact decide_eq_true fun e => ey (by injection e))
              clear ex ey
              go_quiet (fail)
              go_wp2
              go_meet
              exact ⟨by rw [HTV.out], ((Own.refl wr).alloc _).drewN _, (pt_new wr (x : Int) (y : Int) 46).1, (pt_new wr (x : Int) (y : Int) 46).2.1⟩
          · have d1 : ((x : Int) == (x2 : Int)) = false := beq_eq_false_iff_ne.2 (by omega)
            replace HTV := Lib.hid (show t = true by rw [← HTV.out]; exact decide_eq_true fun e => ex (by injection e))
            clear ex
            go_quiet (fail)
            go_wp2
            go_meet
            exact ⟨by rw [HTV.out], ((Own.refl wr).alloc _).drewN _, (pt_new wr (x : Int) (y : Int) 46).1, (pt_new wr (x : Int) (y : Int) 46).2.1⟩
      case rest =>
        obtain ⟨rfl, qq, a0, a1⟩ := hcut
        have HC0 := Lib.hid c0
        clear c0 c1 hc
        cases t with
        | false =>
          have HSAME := Lib.hid (show rowF n (S.take (k + 1)) = rowF n (S.take k) by
            have h1 := of_decide_eq_false HTT.out
            obtain ⟨j, hj⟩ : ∃ j, k = j + 1 := ⟨k - 1, by omega⟩
            subst hj
            exact rowF_again (by rw [HSL.out]; omega) (Classical.byContradiction fun e => h1 (.inr e)))
          clear a0 a1
          go_wp2
          go_roundw
          case rel => exact ⟨k + 1, vs, by go_num, hlt, q.trans qq, by rw [HSAME.out]; exact HT.out.own qq⟩
          case measure => simp [intOf]; omega
        | true =>
          have HNE := Lib.hid (show k = 0 ∨ at' S k ≠ at' S (k - 1) from of_decide_eq_true HTT.out)
          have ht := HT.out.own qq
          obtain ⟨u, xs, hrx, hux, e0, f0, hur⟩ := ht.row (i := x) (by rw [rowF_len]; exact hxn)
          rw [rowF_at hxn] at hrx
          injection hrx with hrx
          have HTQ := Lib.hid ht
          have HUX := Lib.hid hux
          have HBU := Lib.hid (show some wr.heap.size = u.ownBlock → False from fun e => by have := (Tab.lt HT.out hux e.symm).2; omega)
          have hxl : xs.length = (fol n (S.take k) x).length := by rw [← hrx, cellsI_len, ints_len]
          have hle := fol_len n (S.take k) x
          rw [← hxl] at hle
          have HRX := Lib.hid hrx
          obtain ⟨z, hz⟩ : ∃ z, xs.length = z := ⟨_, rfl⟩
          rw [hz] at hur hle
          have HZ := Lib.hid hz
          obtain ⟨Au, cu, rfl⟩ := rows_shape hur
          have q' := (Own.refl wc).drew.alloc (.cells #[.int .i64 (y : Int)] 3)
          have HROW1 := Lib.hid (row_own hur q')
          have HBS := Lib.hid (show g ≤ (wc.drew.alloc (.cells #[.int .i64 (y : Int)] 3)).heap.size from Nat.le_trans (Nat.le_trans (Nat.le_of_eq HGG.out.symm) (q.trans qq).size) q'.size)
          have HQ := Lib.hid q'
          have hxn2 : (x : Int) < n := by omega
          have HGU := Lib.hid (show (Value.slice Au z cu).ownBlock = some g → False from fun e => by
            rcases rows_apart hur ht.out (by decide) with r | r
            · rw [r] at e; cases e
            · exact r (by rw [e]; rfl))
          have g2 := q'.cell e0
          have f2 := (q'.frozen (p := ⟨g, x, none⟩) (block_lt_of_cell e0)).trans f0
          have b0 := q'.cell a0
          have b1' := q'.cell a1
          have hgl := block_lt_of_cell e0
          have hbl := block_lt_of_cell a0
          have HBL := Lib.hid (block_lt_of_cell b0)
          have HLT2 := Lib.hid (block_lt_of_cell g2)
          clear hrx hux hxl hz hur q' ht
          go_upto_region 8 with (fail)
          have HS0 := Lib.hid (fun (w5 : World) (o : Nat) (z v : Value) (h : w5.cell? ⟨wr.heap.size, o, none⟩ = some z) => show (w5.setCell ⟨g, x, none⟩ v).cell? ⟨wr.heap.size, o, none⟩ = some z from (World.cell?_setCell_far w5 ⟨g, x, none⟩ ⟨wr.heap.size, o, none⟩ v (by have := (HT.out.out.lt g rfl).2; exact fun e => by have e : g = wr.heap.size := e; omega)).trans h)
          refine wp_region_noPanic ?_
          refine wp_region_held_drew (S := (fun w' => w'.cell? ⟨wr.heap.size, 0, none⟩ = some (.int .i64 (x : Int)) ∧ w'.cell? ⟨wr.heap.size, 1, none⟩ = some (.int .i64 (y : Int)))) (by kernel_rfl) ?_ (fun hHeld => ?_)
          · (try dsimp only); first | exact ⟨a0, a1⟩ | exact ⟨b0, b1'⟩ | exact ⟨a4, a5⟩ | exact ⟨HS0.out _ _ _ _ a4, HS0.out _ _ _ _ a5⟩
          refine held_take (i := 0) (v := ?_) rfl (by kernel_rfl) (by kernel_rfl) (by kernel_rfl) (fun _ _ _ h => h) (Or.inl ⟨by rfl, ?_⟩) (by assumption) ?_
          rotate_left 1
          · (intro w hSw; (try dsimp only at hSw); go_simp) <;> with_reducible rfl
          try simp only [Act.put, List.setIfInBounds_toArray, List.set_cons_zero, List.set_cons_succ]
          refine held_take (i := 1) (v := ?_) rfl (by kernel_rfl) (by kernel_rfl) (by kernel_rfl) (fun _ _ _ h => h) (Or.inl ⟨by rfl, ?_⟩) (by assumption) ?_
          rotate_left 1
          · (intro w hSw; (try dsimp only at hSw); go_simp) <;> with_reducible rfl
          try simp only [Act.put, List.setIfInBounds_toArray, List.set_cons_zero, List.set_cons_succ]
          refine held_take (i := 2) (v := ?_) rfl (by kernel_rfl) (by kernel_rfl) (by kernel_rfl) (fun _ _ _ h => h) (Or.inl ⟨by rfl, ?_⟩) (by assumption) ?_
          rotate_left 1
          · (intro w hSw; (try dsimp only at hSw); go_simp) <;> with_reducible rfl
          try simp only [Act.put, List.setIfInBounds_toArray, List.set_cons_zero, List.set_cons_succ]
          refine held_take (i := 3) (v := ?_) rfl (by kernel_rfl) (by kernel_rfl) (by kernel_rfl) (fun _ _ _ h => h) (Or.inl ⟨by rfl, ?_⟩) (by assumption) ?_
          rotate_left 1
          · (intro w hSw; (try dsimp only at hSw); go_simp) <;> with_reducible rfl
          try simp only [Act.put, List.setIfInBounds_toArray, List.set_cons_zero, List.set_cons_succ]
          refine held_take (i := 4) (v := ?_) rfl (by kernel_rfl) (by kernel_rfl) (by kernel_rfl) (fun _ _ _ h => h) (Or.inl ⟨by rfl, ?_⟩) (by assumption) ?_
          rotate_left 1
          · (intro w hSw; (try dsimp only at hSw); go_simp) <;> with_reducible rfl
          try simp only [Act.put, List.setIfInBounds_toArray, List.set_cons_zero, List.set_cons_succ]
          refine held_take (i := 5) (v := ?_) rfl (by kernel_rfl) (by kernel_rfl) (by kernel_rfl) (fun _ _ _ h => h) (Or.inl ⟨by rfl, ?_⟩) (by assumption) ?_
          rotate_left 1
          · (intro w hSw; (try dsimp only at hSw); go_simp) <;> with_reducible rfl
          try simp only [Act.put, List.setIfInBounds_toArray, List.set_cons_zero, List.set_cons_succ]
          refine held_take (i := 6) (v := ?_) rfl (by kernel_rfl) (by kernel_rfl) (by kernel_rfl) (fun _ _ _ h => h) (Or.inl ⟨by rfl, ?_⟩) (by assumption) ?_
          rotate_left 1
          · (intro w hSw; (try dsimp only at hSw); go_simp) <;> with_reducible rfl
          try simp only [Act.put, List.setIfInBounds_toArray, List.set_cons_zero, List.set_cons_succ]
          refine held_take (i := 8) (v := ?_) rfl (by kernel_rfl) (by kernel_rfl) (by kernel_rfl) (fun _ _ _ h => h) (Or.inl ⟨by rfl, ?_⟩) (by assumption) ?_
          rotate_left 1
          · (intro w hSw; (try dsimp only at hSw); go_simp) <;> with_reducible rfl
          try simp only [Act.put, List.setIfInBounds_toArray, List.set_cons_zero, List.set_cons_succ]
          refine held_take (i := 9) (v := ?_) rfl (by kernel_rfl) (by kernel_rfl) (by kernel_rfl) (fun _ _ _ h => h) (Or.inl ⟨by rfl, ?_⟩) (by assumption) ?_
          rotate_left 1
          · (intro w hSw; (try dsimp only at hSw); go_simp) <;> with_reducible rfl
          try simp only [Act.put, List.setIfInBounds_toArray, List.set_cons_zero, List.set_cons_succ]
          refine wpAnyH_ready (rs := [7, 10]) (by kernel_rfl) (by simp) ?_
          refine held_cons rfl (fun K hK => ?_) (held_cons rfl (fun K hK => ?_) AllReadyH.nil)
          ·
            go_simp
            refine hK.out _ _ ?_ (fun hHeld => ?_)
            · (try dsimp only); first | exact ⟨a0, a1⟩ | exact ⟨b0, b1'⟩ | exact ⟨a4, a5⟩ | exact ⟨HS0.out _ _ _ _ a4, HS0.out _ _ _ _ a5⟩
            clear hK K
            try simp only [Act.put, List.setIfInBounds_toArray, List.set_cons_zero, List.set_cons_succ]
            refine wpAnyH_ready (rs := [10]) (by kernel_rfl) (by simp) ?_
            refine held_cons rfl (fun K hK => ?_) AllReadyH.nil
            go_simp
            refine hK.out _ _ ?_ (fun hHeld => ?_)
            · (try dsimp only); first | exact ⟨a0, a1⟩ | exact ⟨b0, b1'⟩ | exact ⟨a4, a5⟩ | exact ⟨HS0.out _ _ _ _ a4, HS0.out _ _ _ _ a5⟩
            clear hK K
            try simp only [Act.put, List.setIfInBounds_toArray, List.set_cons_zero, List.set_cons_succ]
            refine wpAnyH_ready (rs := [11]) (by kernel_rfl) (by simp) ?_
            refine held_cons rfl (fun K hK => ?_) AllReadyH.nil
            (refine step_append_lies _ (by rfl) _ _ _ (by rfl) g 3 i0 (.int .i64 0) 1 8 Try.underlying29 HI.out HZ0.out HZ1.out HZ2.out rfl (by omega) _ _ _ (by rfl) HROW1.out ⟨wc.heap.size, 0, none⟩ 1 1 [.int .i64 (y : Int)] (by rfl) (by rfl) (World.news_of_block (cs := #[.int .i64 (y : Int)]) (t := 3) (fr := (0, 0)) (heap_alloc_new wc.drew _)) (by simp [Value.oneCell']) (by omega) (by unfold maxLen; omega) (by omega) HBS.out _ rfl ?_; intro g4 gcap w4 hown hgr hat hlt4; have k4 := (hgr.cell_far ⟨g, x, none⟩ HLT2.out (fun e => HGU.out e.symm)).trans g2; have f4 := (hgr.frozen_far ⟨g, x, none⟩ HLT2.out (fun e => HGU.out e.symm)).trans f2; have a4 := (hgr.cell_far ⟨wr.heap.size, 0, none⟩ HBL.out HBU.out).trans b0; have a5 := (hgr.cell_far ⟨wr.heap.size, 1, none⟩ HBL.out HBU.out).trans b1'; have HGR := Lib.hid hgr; have HOWN := Lib.hid hown; have HAT := Lib.hid hat; have HS4 := Lib.hid (Nat.lt_of_lt_of_le HLT2.out hgr.size); clear hown hat hlt4 hgr)
            refine hK.out _ _ ?_ (fun hHeld => ?_)
            · (try dsimp only); first | exact ⟨a0, a1⟩ | exact ⟨b0, b1'⟩ | exact ⟨a4, a5⟩ | exact ⟨HS0.out _ _ _ _ a4, HS0.out _ _ _ _ a5⟩
            clear hK K
            try simp only [Act.put, List.setIfInBounds_toArray, List.set_cons_zero, List.set_cons_succ]
            refine held_take (i := 12) (v := ?_) rfl (by kernel_rfl) (by kernel_rfl) (by kernel_rfl) (fun _ _ _ h => h) (Or.inl ⟨by rfl, ?_⟩) (by assumption) ?_
            rotate_left 1
            · (intro w hSw; (try dsimp only at hSw); go_simp) <;> with_reducible rfl
            try simp only [Act.put, List.setIfInBounds_toArray, List.set_cons_zero, List.set_cons_succ]
            refine wpAnyH_ready (rs := [13]) (by kernel_rfl) (by simp) ?_
            refine held_cons rfl (fun K hK => ?_) AllReadyH.nil
            go_simp
            refine hK.out _ _ ?_ (fun hHeld => ?_)
            · (try dsimp only); first | exact ⟨a0, a1⟩ | exact ⟨b0, b1'⟩ | exact ⟨a4, a5⟩ | exact ⟨HS0.out _ _ _ _ a4, HS0.out _ _ _ _ a5⟩
            clear hK K
            try simp only [Act.put, List.setIfInBounds_toArray, List.set_cons_zero, List.set_cons_succ]
            refine wpAnyH_done (by kernel_rfl) ?_ _
            refine NoPanic.normal ?_
            have HNEW := Lib.hid (HTQ.out.app (by decide) (by rw [rowF_len]; exact hxn) HUX.out HQ.out HGR.out HOWN.out HAT.out)
            go_wp2
            go_roundw
            case rel =>
              refine ⟨k + 1, vs.set x (.slice (some ⟨g4, 0, none⟩) (z + 1) gcap), by go_num, hlt, HNEW.out.2 _ (q.trans qq) (Nat.le_of_eq HGG.out), ?_⟩
              rw [rowF_more HSR.out (by rw [HSL.out]; exact hlt) HXY.out hyn HNE.out, HRX.out]
              exact HNEW.out.1
            case measure => simp [intOf]; omega
          ·
            go_simp
            refine hK.out _ _ ?_ (fun hHeld => ?_)
            · (try dsimp only); first | exact ⟨a0, a1⟩ | exact ⟨b0, b1'⟩ | exact ⟨a4, a5⟩ | exact ⟨HS0.out _ _ _ _ a4, HS0.out _ _ _ _ a5⟩
            clear hK K
            try simp only [Act.put, List.setIfInBounds_toArray, List.set_cons_zero, List.set_cons_succ]
            refine wpAnyH_ready (rs := [7]) (by kernel_rfl) (by simp) ?_
            refine held_cons rfl (fun K hK => ?_) AllReadyH.nil
            go_simp
            refine hK.out _ _ ?_ (fun hHeld => ?_)
            · (try dsimp only); first | exact ⟨a0, a1⟩ | exact ⟨b0, b1'⟩ | exact ⟨a4, a5⟩ | exact ⟨HS0.out _ _ _ _ a4, HS0.out _ _ _ _ a5⟩
            clear hK K
            try simp only [Act.put, List.setIfInBounds_toArray, List.set_cons_zero, List.set_cons_succ]
            refine wpAnyH_ready (rs := [11]) (by kernel_rfl) (by simp) ?_
            refine held_cons rfl (fun K hK => ?_) AllReadyH.nil
            (refine step_append_lies _ (by rfl) _ _ _ (by rfl) g 3 i0 (.int .i64 0) 1 8 Try.underlying29 HI.out HZ0.out HZ1.out HZ2.out rfl (by omega) _ _ _ (by rfl) HROW1.out ⟨wc.heap.size, 0, none⟩ 1 1 [.int .i64 (y : Int)] (by rfl) (by rfl) (World.news_of_block (cs := #[.int .i64 (y : Int)]) (t := 3) (fr := (0, 0)) (heap_alloc_new wc.drew _)) (by simp [Value.oneCell']) (by omega) (by unfold maxLen; omega) (by omega) HBS.out _ rfl ?_; intro g4 gcap w4 hown hgr hat hlt4; have k4 := (hgr.cell_far ⟨g, x, none⟩ HLT2.out (fun e => HGU.out e.symm)).trans g2; have f4 := (hgr.frozen_far ⟨g, x, none⟩ HLT2.out (fun e => HGU.out e.symm)).trans f2; have a4 := (hgr.cell_far ⟨wr.heap.size, 0, none⟩ HBL.out HBU.out).trans b0; have a5 := (hgr.cell_far ⟨wr.heap.size, 1, none⟩ HBL.out HBU.out).trans b1'; have HGR := Lib.hid hgr; have HOWN := Lib.hid hown; have HAT := Lib.hid hat; have HS4 := Lib.hid (Nat.lt_of_lt_of_le HLT2.out hgr.size); clear hown hat hlt4 hgr)
            refine hK.out _ _ ?_ (fun hHeld => ?_)
            · (try dsimp only); first | exact ⟨a0, a1⟩ | exact ⟨b0, b1'⟩ | exact ⟨a4, a5⟩ | exact ⟨HS0.out _ _ _ _ a4, HS0.out _ _ _ _ a5⟩
            clear hK K
            try simp only [Act.put, List.setIfInBounds_toArray, List.set_cons_zero, List.set_cons_succ]
            refine held_take (i := 12) (v := ?_) rfl (by kernel_rfl) (by kernel_rfl) (by kernel_rfl) (fun _ _ _ h => h) (Or.inl ⟨by rfl, ?_⟩) (by assumption) ?_
            rotate_left 1
            · (intro w hSw; (try dsimp only at hSw); go_simp) <;> with_reducible rfl
            try simp only [Act.put, List.setIfInBounds_toArray, List.set_cons_zero, List.set_cons_succ]
            refine wpAnyH_ready (rs := [13]) (by kernel_rfl) (by simp) ?_
            refine held_cons rfl (fun K hK => ?_) AllReadyH.nil
            go_simp
            refine hK.out _ _ ?_ (fun hHeld => ?_)
            · (try dsimp only); first | exact ⟨a0, a1⟩ | exact ⟨b0, b1'⟩ | exact ⟨a4, a5⟩ | exact ⟨HS0.out _ _ _ _ a4, HS0.out _ _ _ _ a5⟩
            clear hK K
            try simp only [Act.put, List.setIfInBounds_toArray, List.set_cons_zero, List.set_cons_succ]
            refine wpAnyH_done (by kernel_rfl) ?_ _
            refine NoPanic.normal ?_
            have HNEW := Lib.hid (HTQ.out.app (by decide) (by rw [rowF_len]; exact hxn) HUX.out HQ.out HGR.out HOWN.out HAT.out)
            go_wp2
            go_roundw
            case rel =>
              refine ⟨k + 1, vs.set x (.slice (some ⟨g4, 0, none⟩) (z + 1) gcap), by go_num, hlt, HNEW.out.2 _ (q.trans qq) (Nat.le_of_eq HGG.out), ?_⟩
              rw [rowF_more HSR.out (by rw [HSL.out]; exact hlt) HXY.out hyn HNE.out, HRX.out]
              exact HNEW.out.1
            case measure => simp [intOf]; omega
    · obtain rfl : k = m := by omega
      have HE := Lib.hid (show rowF n (S.take k) = rowF n l by rw [List.take_of_length_le (by rw [HSL.out]; exact Nat.le_refl _)]; exact rowF_perm HPE.out)
      go_wp2
      go_ret
      refine ⟨_, rfl, ?_, g0.trans (q2.trans q)⟩
      rw [← HE.out]
      exact ⟨vs, HT.out.down (by rw [← HGG.out]; exact (g0.trans q2).size)⟩
end Go.Proofs.Ytkdfmjhhdfiiiaa.GraW
