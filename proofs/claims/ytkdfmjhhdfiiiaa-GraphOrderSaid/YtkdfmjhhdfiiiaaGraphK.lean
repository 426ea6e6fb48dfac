/-
  Walks of the specification of package graph: Parts. Condition: none.
-/
import Derived.Test.YtkdfmjhhdfiiiaaGraphI
import Derived.Test.YtkdfmjhhdfiiiaaGraphJ
namespace Go.Proofs.Ytkdfmjhhdfiiiaa.GraW
open Go.ChangeShapes Go.WideShapes Go.ChangeAt Go.RowKit
open PairW CelW GraP TabW
/-- What Parts returns. -/
def parW (N : Int) (l : List Ar) : List (List Nat) := if chkE N l = 0 then parV N.toNat l else []
def cellsL (V : List (List Nat)) : List (List Value) := V.map fun r => cellsI (ints r)
theorem cellsL_len (V : List (List Nat)) : (cellsL V).length = V.length := List.length_map ..
theorem cellsL_snoc (V : List (List Nat)) (r : List Nat) : cellsL (V ++ [r]) = cellsL V ++ [cellsI (ints r)] := by unfold cellsL; rw [List.map_append]; rfl
/-- The grid of what is reached, opened. -/
theorem grid_open {w : World} {v : Value} {n : Nat} {l : List Ar} (h : Cels w v (rowB n l n)) (h0 : 0 < n) : ∃ g off cap, v = .slice (some ⟨g, off, none⟩) n cap ∧ n ≤ cap ∧ cap ≤ maxLen ∧ ∀ a, a < n → ∃ ga oa ca, w.cell? ⟨g, off + a, none⟩ = some (.slice (some ⟨ga, oa, none⟩) n ca) ∧ n ≤ ca ∧ ca ≤ maxLen ∧ ∀ b, b < n → w.cell? ⟨ga, oa + b, none⟩ = some (.bool (rch n l a b)) := by
  obtain ⟨A, cap, rfl, h1, h2, h3⟩ := cels_open h
  rw [rowB_len] at h1 h3 ⊢
  obtain ⟨g, off, rfl, h4⟩ := h3 h0
  refine ⟨g, off, cap, rfl, h1, h2, fun a ha => ?_⟩
  obtain ⟨u, h5, h6⟩ := h4 a _ (rowB_at ha)
  obtain ⟨B, cb, rfl, h7, h8, h9⟩ := cel_bools h6
  rw [rchV_len] at h5 h7
  obtain ⟨gb, ob, rfl, h10⟩ := h9 (by rw [rchV_len]; exact h0)
  refine ⟨gb, ob, cb, h5, h7, h8, fun b hb => ?_⟩
  rw [h10 b (by rw [rchV_len]; exact hb)]
  simp only [rchV, List.getElem_map, List.getElem_range]
def donB (n : Nat) (l : List Ar) (a b x : Nat) : Bool := donU n l a x || (decide (a ≤ x ∧ x < b) && eqv n l a x)
theorem donB_start (n : Nat) (l : List Ar) (a x : Nat) : donB n l a a x = donU n l a x := by
  unfold donB
  rw [decide_eq_false (by omega), Bool.false_and, Bool.or_false]
theorem donB_end {n : Nat} {l : List Ar} {a x : Nat} (h : lst n l a = true) (hx : x < n) : donB n l a n x = donU n l (a + 1) x := by
  rw [(ptsU_take h).2]
  unfold donB
  by_cases c : a ≤ x
  · rw [decide_eq_true ⟨c, hx⟩, Bool.true_and]
  · rw [decide_eq_false (by omega), lst_iff.1 h x (by omega), Bool.false_and]
theorem don_next {n : Nat} {l : List Ar} {a b : Nat} {R : List Bool} (hR : ∀ x, x < n → R[x]? = some (donB n l a b x)) (h : eqv n l a b = false) : ∀ x, x < n → R[x]? = some (donB n l a (b + 1) x) := fun x hx => by
  rw [hR x hx]
  unfold donB
  by_cases c : x = b
  · subst c; rw [h, Bool.and_false, Bool.and_false]
  · rw [show decide (a ≤ x ∧ x < b + 1) = decide (a ≤ x ∧ x < b) from decide_eq_decide.2 (by omega)]
theorem don_put {n : Nat} {l : List Ar} {a b : Nat} {R : List Bool} (hR : ∀ x, x < n → R[x]? = some (donB n l a b x)) (h : eqv n l a b = true) (hab : a ≤ b) (hl : R.length = n) : ∀ x, x < n → (R.set b true)[x]? = some (donB n l a (b + 1) x) := fun x hx => by
  rw [List.getElem?_set]
  by_cases c : b = x
  · subst c
    rw [if_pos rfl, if_pos (by omega)]
    unfold donB
    rw [h, decide_eq_true ⟨hab, by omega⟩]
    simp
  · rw [if_neg c, hR x hx]
    unfold donB
    rw [show decide (a ≤ x ∧ x < b + 1) = decide (a ≤ x ∧ x < b) from decide_eq_decide.2 (by omega)]
set_option maxRecDepth 100000 in
set_option maxHeartbeats 4000000 in
theorem rparts_at (N : Int) (l : List Ar) (sv : Value) (f : Int) (V : List (List Nat)) (w : World) (HP : Hid (Pts w sv l)) (H : Hid (chkE N l = f ∧ parW N l = V)) :
    Calls Try.prog 24 #[grV N sv] w fun e w' => ∃ v vs, e = .returned (.tuple #[v, .int .i64 f]) ∧ TabV w' w.heap.size 29 3 v (cellsL V) vs ∧ Own w w' := by
  obtain ⟨i0, hi, hz0, hz1, hz2⟩ := info_parts (show (Try.prog.info? 3).map (fun i => (i.zero, i.size, i.bytes)) = some (some (.int .i64 0), 1, 8) by kernel_rfl)
  have HI := Lib.hid hi
  have HZ0 := Lib.hid hz0
  have HZ1 := Lib.hid hz1
  have HZ2 := Lib.hid hz2
  obtain ⟨i1, hi, hz0, hz1, hz2⟩ := info_parts (show (Try.prog.info? 4).map (fun i => (i.zero, i.size, i.bytes)) = some (some (.bool false), 1, 1) by kernel_rfl)
  have JI := Lib.hid hi
  have JZ0 := Lib.hid hz0
  have JZ1 := Lib.hid hz1
  have HBY0 := Lib.hid hz2
  obtain ⟨i2, hi, hz0, hz1, hz2⟩ := info_parts (show (Try.prog.info? 29).map (fun i => (i.zero, i.size, i.bytes)) = some (some (.slice none 0 0), 1, 24) by kernel_rfl)
  have LI := Lib.hid hi
  have LZ0 := Lib.hid hz0
  have LZ1 := Lib.hid hz1
  have LZ2 := Lib.hid hz2
  obtain ⟨ce, hce⟩ : ∃ f, chkE N l = f := ⟨_, rfl⟩
  have HCE := Lib.hid hce
  by_cases c0 : ce = 0
  · subst c0
    obtain ⟨b0, b1, b2, G⟩ := chk_ok.1 hce
    obtain ⟨n, rfl⟩ : ∃ n : Nat, N = n := ⟨N.toNat, by omega⟩
    rw [Int.toNat_natCast] at G
    have HG := Lib.hid G
    have hn64 : n ≤ 64 := by omega
    obtain ⟨rfl, rfl⟩ : 0 = f ∧ parV n l = V := ⟨by rw [← H.out.1, hce], by rw [← H.out.2]; unfold parW; rw [if_pos hce, Int.toNat_natCast]⟩
    have HBY := Lib.hid (show i1.bytes * n ≤ 281474976710656 by rw [HBY0.out]; omega)
    have HMX := Lib.hid (show n ≤ maxLen by unfold maxLen; omega)
    have HZL := Lib.hid (show (madeCells (Value.bool false).cells (n * 1)).toList = cellsT (List.replicate n false) by rw [Nat.mul_one]; show (madeCells #[Value.bool false] n).toList = _; rw [toList_madeCells_one]; unfold cellsT; rw [List.map_replicate])
    clear hi hz0 hz1 hz2 hce H G b0 b1 b2
    go_enter Try.func24, Try.ntmps24
    go_upto_region 1 with (fail)
    have k0 : (w.alloc (.cells #[.int .i64 (n : Int), sv] 24)).cell? ⟨w.heap.size, 0, none⟩ = some (.int .i64 (n : Int)) := by go_simp
    have k1 : (w.alloc (.cells #[.int .i64 (n : Int), sv] 24)).cell? ⟨w.heap.size, 1, none⟩ = some sv := by go_simp
    have g0 : Own w (w.alloc (.cells #[.int .i64 (n : Int), sv] 24)) := (Own.refl w).alloc _
    generalize hW : (w.alloc (.cells #[.int .i64 (n : Int), sv] 24)) = W0 at *
    clear hW
    have HP0 := Lib.hid (HP.out.own g0)
    go_upto_region 4 with (go_at_call 12; with_reducible refine (rcheck_at n l _ 0 _ HP0 HCE).mono ?_; rintro e w1 ⟨rfl, q1⟩; replace k0 := q1.cell k0; replace k1 := q1.cell k1; have HP1 := Lib.hid (HP0.out.own q1); have g1 := g0.trans q1)
    go_upto_region 5 with (go_at_call 42; with_reducible refine (rreaches_at n l _ _ HP1 HCE hn64).mono ?_; rintro e w2 ⟨vr, vrs, rfl, ht2, q2⟩; have k0 := q2.cell k0; have HGR := Lib.hid (grid_open ht2.cels); have g2 := g1.trans q2; clear ht2)
    have HK0 := Lib.hid k0
    have HG2 := Lib.hid g2
    go_upto_region 7 with (at_make; refine wpList_make_full _ rfl _ _ 33 rfl w2.heap.size 4 i1 (.bool false) 1 Try.underlying33 JI.out JZ0.out JZ1.out _ _ _ _ n rfl rfl rfl rfl HBY.out HMX.out (Nat.le_refl _) ?_; intro w3 hown3 hg3; have q3 := (Own.refl w2).grown hg3 (by simp); have HR3 := Lib.hid (show w3.ownsRow w2.heap.size 4 1 (.slice (some ⟨w2.heap.size, 0, none⟩) n n) n (cellsT (List.replicate n false)) from HZL.out ▸ hown3); clear hown3 hg3)
    obtain ⟨g, hgg⟩ : ∃ g, w2.heap.size = g := ⟨_, rfl⟩
    have HGG := Lib.hid hgg
    rw [hgg] at HR3
    rw [hgg]
    clear hgg k0 k1 g1 q1 q2
    have HGW := Lib.hid (HR3.out.lt g rfl).2
    go_wp2
    go_loopw [7, 8, 9, 10] (fun vo va _ _ wr => ∃ (a : Nat) (vs : List Value) (R : List Bool), va = .int .i64 (a : Int) ∧ a ≤ n ∧ Own w2 wr ∧ w3.heap.size ≤ wr.heap.size ∧ wr.ownsRow g 4 1 (.slice (some ⟨g, 0, none⟩) n n) n (cellsT R) ∧ R.length = n ∧ (∀ x, x < n → R[x]? = some (donU n l a x)) ∧ TabV wr w3.heap.size 29 3 vo (cellsL (ptsU n l a)) vs) (fun _ va _ _ _ => n - (intOf va).toNat)
    case atStart => exact ⟨0, [], _, rfl, Nat.zero_le _, q3, Nat.le_refl _, HR3.out, List.length_replicate, fun x hx => by rw [List.getElem?_replicate, if_pos hx]; rfl, tab_nil _ _ _ _⟩
    case round =>
      clear HR3 q3
      obtain ⟨a, vs, R, rfl, han, q, hsz, hdn, hrl, hR, ht⟩ := hrel
      obtain ⟨Ao, co, rfl⟩ := rows_shape ht.out
      rw [cellsL_len] at *
      have k0 := q.cell HK0.out
      have HDN := Lib.hid hdn
      have HRL := Lib.hid hrl
      have HRR := Lib.hid hR
      have HT := Lib.hid ht
      have HSZ := Lib.hid hsz
      clear hdn hrl hR ht hsz
      by_cases hlt : a < n
      · have hkn : (a : Int) < n := by omega
        obtain ⟨da, e0, hda, f0⟩ := row_bool HDN.out HRL.out hlt
        rw [HRR.out a hlt, don_lst HG.out hlt] at hda
        injection hda with hda
        subst hda
        cases hl : lst n l a with
        | false =>
          rw [hl] at e0
          have HSK := Lib.hid (ptsU_skip hl)
          have e0 : wr.cell? ⟨g, a, none⟩ = some (.bool true) := e0
          clear hl
          go_wp2
          go_roundw
          case rel => exact ⟨a + 1, vs, R, by go_num, hlt, q, HSZ.out, HDN.out, HRL.out, fun x hx => by rw [HRR.out x hx, HSK.out.2], by rw [HSK.out.1]; exact HT.out⟩
          case measure => simp [intOf]; omega
        | true =>
          rw [hl] at e0
          have HLS := Lib.hid hl
          have e0 : wr.cell? ⟨g, a, none⟩ = some (.bool false) := e0
          clear hl
          generalize wr = wz at *
          go_upto_region 13 with (fail)
          clear e0 f0 k0
          have HRB := Lib.hid (show ∀ x, x < n → R[x]? = some (donB n l a a x) from fun x hx => by rw [HRR.out x hx, donB_start])
          go_loopw [9, 10] (fun vp vb wy => ∃ (b : Nat) (R : List Bool), vb = .int .i64 (b : Int) ∧ a ≤ b ∧ b ≤ n ∧ Own w2 wy ∧ Mid w3.heap.size wz wy ∧ wy.ownsRow g 4 1 (.slice (some ⟨g, 0, none⟩) n n) n (cellsT R) ∧ R.length = n ∧ (∀ x, x < n → R[x]? = some (donB n l a b x)) ∧ wy.ownsRow wz.heap.size 3 1 vp (clsF n l a b).length (cellsI (ints (clsF n l a b)))) (fun _ vb _ => n - (intOf vb).toNat)
          case atStart => exact ⟨a, R, rfl, Nat.le_refl _, han, q, Mid.refl _ _, HDN.out, HRL.out, HRB.out, by rw [clsF_start]; exact World.ownsRow_nil _ _ _ _⟩
          case round =>
            clear HRB HDN HRL HRR q
            obtain ⟨b, R2, rfl, hab, hbn, q, hm, hdn, hrl, hR, hp⟩ := hrel
            have k0 := q.cell HK0.out
            obtain ⟨Ap, cp, rfl⟩ := rows_shape hp
            have HDN := Lib.hid hdn
            have HRL := Lib.hid hrl
            have HRR := Lib.hid hR
            have HPT := Lib.hid hp
            have HM := Lib.hid hm
            clear hdn hrl hR hp hm
            obtain ⟨z, hz⟩ : ∃ z, (clsF n l a b).length = z := ⟨_, rfl⟩
            have hzb : z ≤ b := by rw [← hz]; exact clsF_len ..
            have HZ := Lib.hid hz
            rw [hz] at HPT ⊢
            clear hz
            by_cases hlt2 : b < n
            · obtain ⟨gr, orr, cr, rfl, r1, r2, hgrid⟩ := HGR.out (by omega)
              unfold maxLen at r2
              obtain ⟨ga, oa, ca, x1, a1, a2, x2⟩ := hgrid a hlt
              obtain ⟨gb, ob, cb, y1, b1, b2, y2⟩ := hgrid b hlt2
              unfold maxLen at a2 b2
              have e1 := q.cell x1
              have e2 := q.cell (x2 b hlt2)
              have e3 := q.cell y1
              have e4 := q.cell (y2 a hlt)
              have hbz : (b : Int) < n := by omega
              clear hgrid x1 x2 y1 y2
              by_cases he : eqv n l a b = true
              · obtain ⟨t1, t2⟩ := eqv_iff.1 he
                rw [t1] at e2
                rw [t2] at e4
                obtain ⟨bc, e5, _, f5⟩ := row_bool HDN.out HRL.out hlt2
                have HDN2 := Lib.hid (row_put HDN.out b true)
                have HRL2 := Lib.hid (len_set (i := b) (v := true) HRL.out)
                have HRR2 := Lib.hid (don_put HRR.out he hab HRL.out)
                have HCL2 := Lib.hid (show clsF n l a (b + 1) = clsF n l a b ++ [b] by rw [clsF_succ hab, if_pos he])
                have hgz : g < wz.heap.size := Nat.lt_of_lt_of_le HGW.out HSZ.out
                have HPT2 := Lib.hid (row_lo HPT.out (p := ⟨g, b, none⟩) hgz (.bool true))
                have QS := Lib.hid (q.setCell (p := ⟨g, b, none⟩) (Nat.le_of_eq HGG.out) (.bool true))
                have HMS := Lib.hid (HM.out.put (p := ⟨g, b, none⟩) HGW.out (.bool true))
                have K2 := Lib.hid (show z + 1 ≤ maxLen by unfold maxLen; omega)
                have K3 := Lib.hid (show (z + 1) * 8 ≤ 140737488355328 by omega)
                clear t1 t2 he
                go_upto_region 17 with (fail)
                generalize hw7 : wr.setCell ⟨g, b, none⟩ (.bool true) = w7 at *
                clear hw7 e1 e2 e3 e4 e5 f5
                have q7 := (Own.refl w7).alloc (.cells #[.int .i64 (b : Int)] 3)
                have HPT7 := Lib.hid (row_own HPT2.out q7)
                have HDN7 := Lib.hid (row_own HDN2.out q7)
                have HQ7 := Lib.hid (QS.out.trans q7)
                have HM7 := Lib.hid (HMS.out.own q7)
                have HCEL := Lib.hid (cel_lit (w := w7) (T := 3) (cs := #[.int .i64 (b : Int)]) (xs := [.int .i64 (b : Int)]) (k := 1) rfl rfl (by unfold maxLen; decide))
                clear q7
                have HBS := Lib.hid HM7.out.1
                go_wp2_with (at_builtin; refine wpList_append_k (by go_simp) _ _ 29 rfl wz.heap.size 3 i0 (.int .i64 0) 8 Try.underlying29 HI.out HZ0.out HZ1.out HZ2.out rfl (.slice Ap z cp) z (cellsI (ints (clsF n l a b))) rfl HPT7.out _ [.int .i64 (b : Int)] rfl HCEL.out (fun x hx => by rw [List.mem_singleton.1 hx]; rfl) (z + 1) rfl K2.out K3.out HBS.out ?_; intro v8 w8 hown8 hgr8; have HOWN8 := Lib.hid hown8; have HGR8 := Lib.hid hgr8; clear hown8 hgr8)
                go_roundw
                case rel =>
                  have hrb := fun k (hk : (Value.slice Ap z cp).ownBlock = some k) => (HPT7.out.lt k hk).1
                  have hl2 : (clsF n l a (b + 1)).length = z + 1 := by rw [HCL2.out, List.length_append, HZ.out]; rfl
                  refine ⟨b + 1, _, by go_num, by omega, hlt2, HQ7.out.grown HGR8.out (fun k hk => ?_), HM7.out.grown HGR8.out hrb, HDN7.out.kept HGR8.out (.inr fun e => ?_), HRL2.out, HRR2.out, ?_⟩
                  · have := hrb k hk
                    have := HGG.out
                    omega
                  · have h1 := hrb g e.symm
                    omega
                  · rw [hl2, HCL2.out, ints_app, cellsI_app]
                    exact HOWN8.out
                case measure => simp [intOf]; omega
              · have he' : eqv n l a b = false := Bool.eq_false_iff.2 he
                have HRR2 := Lib.hid (don_next HRR.out he')
                have HCL2 := Lib.hid (show clsF n l a (b + 1) = clsF n l a b by rw [clsF_succ hab, if_neg he, List.append_nil])
                unfold eqv at he'
                clear he
                cases t1 : rch n l a b with
                | false =>
                  rw [t1] at e2
                  clear t1 he'
                  go_wp2
                  go_roundw
                  case rel => exact ⟨b + 1, R2, by go_num, by omega, hlt2, q, HM.out, HDN.out, HRL.out, HRR2.out, by rw [HCL2.out, HZ.out]; exact HPT.out⟩
                  case measure => simp [intOf]; omega
                | true =>
                  rw [t1] at e2
                  rw [t1, Bool.true_and] at he'
                  rw [he'] at e4
                  clear t1 he'
                  go_wp2
                  go_roundw
                  case rel => exact ⟨b + 1, R2, by go_num, by omega, hlt2, q, HM.out, HDN.out, HRL.out, HRR2.out, by rw [HCL2.out, HZ.out]; exact HPT.out⟩
                  case measure => simp [intOf]; omega
            · have ebn : b = n := by omega
              subst ebn
              have HCE2 := Lib.hid (clsF_end HLS.out)
              have HTK := Lib.hid (ptsU_take HLS.out)
              have hza : (ptsU b l a).length ≤ b := by unfold ptsU; rw [List.length_map]; exact Nat.le_trans (rps_len ..) (by omega)
              obtain ⟨y, hy⟩ : ∃ y, (ptsU b l a).length = y := ⟨_, rfl⟩
              have HY := Lib.hid hy
              rw [hy] at hza HT ⊢
              clear hy
              have q7 := (Own.refl wr).alloc (.cells #[.slice Ap z cp] 29)
              have HPT7 := Lib.hid (row_own HPT.out q7)
              have HDN7 := Lib.hid (row_own HDN.out q7)
              have HQ7 := Lib.hid (q.trans q7)
              have HM7 := Lib.hid (HM.out.own q7)
              have HRO := Lib.hid (show (wr.alloc (.cells #[.slice Ap z cp] 29)).ownsRow w3.heap.size 29 1 (.slice Ao y co) y vs from by have := (HT.out.mid HM7.out).out; rw [cellsL_len, HY.out] at this; exact this)
              have HCEL := Lib.hid (cel_lit (w := wr) (T := 29) (cs := #[.slice Ap z cp]) (xs := [.slice Ap z cp]) (k := 1) rfl rfl (by unfold maxLen; decide))
              have K2 := Lib.hid (show y + 1 ≤ maxLen by unfold maxLen; omega)
              have K3 := Lib.hid (show (y + 1) * 24 ≤ 140737488355328 by omega)
              have HBS := Lib.hid (Nat.le_trans HSZ.out HM7.out.1)
              clear q7
              go_wp2_with (at_builtin; refine wpList_append_k (by go_simp) _ _ 39 rfl w3.heap.size 29 i2 (.slice none 0 0) 24 Try.underlying39 LI.out LZ0.out LZ1.out LZ2.out rfl (.slice Ao y co) y vs rfl HRO.out _ [.slice Ap z cp] rfl HCEL.out (fun x hx => by rw [List.mem_singleton.1 hx]; rfl) (y + 1) rfl K2.out K3.out HBS.out ?_; intro v8 w8 hown8 hgr8; have HOWN8 := Lib.hid hown8; have HGR8 := Lib.hid hgr8; clear hown8 hgr8)
              go_roundw
              case rel =>
                have hrb := fun k (hk : (Value.slice Ao y co).ownBlock = some k) => (HRO.out.lt k hk).1
                refine ⟨a + 1, vs ++ [.slice Ap z cp], R2, by go_num, hlt, HQ7.out.grown HGR8.out (fun k hk => ?_), Nat.le_trans HBS.out HGR8.out.size, HDN7.out.kept HGR8.out (.inr fun e => ?_), HRL.out, fun x hx => by rw [HRR.out x hx, donB_end HLS.out hx], ?_⟩
                · have := hrb k hk
                  have := HGG.out
                  have := HGW.out
                  omega
                · have h1 := hrb g e.symm
                  have := HGW.out
                  omega
                · rw [HTK.out.1, cellsL_snoc, ← HCE2.out]
                  refine HT.out.moreM (by decide) HM7.out (b1 := wz.heap.size) ?_ (Nat.le_refl _) HSZ.out HGR8.out (by rw [cellsL_len, HY.out]; exact HOWN8.out)
                  rw [cellsI_len, ints_len, HZ.out]
                  exact HPT7.out
              case measure => simp [intOf]; omega
      · have ean : a = n := by omega
        subst ean
        go_wp2
        go_ret2
        exact ⟨_, vs, rfl, HT.out.down (Nat.le_trans HG2.out.size (Nat.le_trans (Nat.le_of_eq HGG.out) (Nat.le_of_lt HGW.out))), HG2.out.trans q⟩
  · obtain ⟨rfl, rfl⟩ : ce = f ∧ [] = V := ⟨by rw [← H.out.1, hce], by rw [← H.out.2]; unfold parW; rw [if_neg (by rw [hce]; exact c0)]⟩
    have d1 : (ce == 0) = false := beq_eq_false_iff_ne.2 c0
    clear hi hz0 hz1 hz2 hce H
    go_enter Try.func24, Try.ntmps24
    go_upto_region 1 with (fail)
    have k0 : (w.alloc (.cells #[.int .i64 N, sv] 24)).cell? ⟨w.heap.size, 0, none⟩ = some (.int .i64 N) := by go_simp
    have k1 : (w.alloc (.cells #[.int .i64 N, sv] 24)).cell? ⟨w.heap.size, 1, none⟩ = some sv := by go_simp
    have g0 : Own w (w.alloc (.cells #[.int .i64 N, sv] 24)) := (Own.refl w).alloc _
    generalize hW : (w.alloc (.cells #[.int .i64 N, sv] 24)) = W0 at *
    clear hW
    have HP0 := Lib.hid (HP.out.own g0)
    go_wp2_with (go_at_call 12; with_reducible refine (rcheck_at N l _ ce _ HP0 HCE).mono ?_; rintro e w1 ⟨rfl, q1⟩; replace k0 := q1.cell k0; replace k1 := q1.cell k1; have p1 := q1)
    go_ret2
    exact ⟨_, [], rfl, tab_nil _ _ _ _, g0.trans p1⟩
end Go.Proofs.Ytkdfmjhhdfiiiaa.GraW
