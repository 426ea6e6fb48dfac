/-
  Walks of the program of package graph: Parts. Condition: none.
-/
import Derived.Test.YtkdfmjhhdfiiiaaGraphPI
import Derived.Test.YtkdfmjhhdfiiiaaGraphPE
import Derived.Test.YtkdfmjhhdfiiiaaGraphBox
import Derived.Test.YtkdfmjhhdfiiiaaHeld
import Derived.Deep.RegionHeld3
namespace Go.Proofs.Ytkdfmjhhdfiiiaa.GraW
open Go.ChangeShapes Go.WideShapes Go.ChangeAt Go.RowKit
open PairW CelW GraP TabW
/-- What is reached from the first k nodes, and nothing for the others. -/
def rowM (n : Nat) (l : List Ar) (k : Nat) : List (List Value) := (List.range n).map fun i => if i < k then cellsT (rchV n l i) else []
theorem rowM_len (n : Nat) (l : List Ar) (k : Nat) : (rowM n l k).length = n := by unfold rowM; rw [List.length_map, List.length_range]
theorem rowM_zero (n : Nat) (l : List Ar) : rowM n l 0 = List.replicate n [] := by
  unfold rowM
  refine List.ext_getElem? fun i => ?_
  rw [List.getElem?_map, List.getElem?_replicate]
  by_cases h : i < n
  · rw [List.getElem?_range h, if_pos h]; rfl
  · rw [List.getElem?_eq_none (by rw [List.length_range]; omega), if_neg h]; rfl
theorem rowM_end (n : Nat) (l : List Ar) : rowM n l n = rowB n l n := by
  unfold rowM rowB
  exact List.map_congr_left fun i hi => if_pos (List.mem_range.1 hi)
theorem rowM_succ {n : Nat} {l : List Ar} {k : Nat} (h : k < n) : rowM n l (k + 1) = (rowM n l k).set k (cellsT (rchV n l k)) := by
  unfold rowM
  refine List.ext_getElem? fun i => ?_
  rw [List.getElem?_set, List.getElem?_map, List.getElem?_map, List.length_map, List.length_range]
  by_cases hi : i < n
  · rw [List.getElem?_range hi]
    by_cases e : k = i
    · subst e
      rw [if_pos rfl, if_pos h]
      show some (if k < k + 1 then _ else _) = _
      rw [if_pos (by omega)]
    · rw [if_neg e]
      show some (if i < k + 1 then _ else _) = some (if i < k then _ else _)
      by_cases c : i < k
      · rw [if_pos c, if_pos (by omega)]
      · rw [if_neg c, if_neg (by omega)]
  · rw [List.getElem?_eq_none (by rw [List.length_range]; omega), if_neg (by omega)]
    rfl
set_option maxRecDepth 100000 in
set_option maxHeartbeats 4000000 in
theorem pparts_at (N : Int) (l : List Ar) (sv : Value) (f : Int) (V : List (List Nat)) (w : World) (HP : Hid (Pts w sv l)) (H : Hid (chkE N l = f ∧ parW N l = V)) :
    Calls Try.prog 23 #[grV N sv] w fun e w' => ∃ v vs, e = .returned (.tuple #[v, .int .i64 f]) ∧ TabV w' w.heap.size 29 3 v (cellsL V) vs ∧ Own w w' := by
  obtain ⟨i0, hi, hz0, hz1, hz2⟩ := info_parts (show (Try.prog.info? 3).map (fun i => (i.zero, i.size, i.bytes)) = some (some (.int .i64 0), 1, 8) by kernel_rfl)
  have HI := Lib.hid hi
  have HZ0 := Lib.hid hz0
  have HZ1 := Lib.hid hz1
  have HZ2 := Lib.hid hz2
  obtain ⟨i1, hi, hz0, hz1, hz2⟩ := info_parts (show (Try.prog.info? 33).map (fun i => (i.zero, i.size, i.bytes)) = some (some (.slice none 0 0), 1, 24) by kernel_rfl)
  have JI := Lib.hid hi
  have JZ0 := Lib.hid hz0
  have JZ1 := Lib.hid hz1
  have HBY0 := Lib.hid hz2
  obtain ⟨i2, hi, hz0, hz1, hz2⟩ := info_parts (show (Try.prog.info? 29).map (fun i => (i.zero, i.size, i.bytes)) = some (some (.slice none 0 0), 1, 24) by kernel_rfl)
  have LI := Lib.hid hi
  have LZ0 := Lib.hid hz0
  have LZ1 := Lib.hid hz1
  have LZ2 := Lib.hid hz2
  obtain ⟨ce, hce⟩ : ∃ f, chkE N l = f := ⟨_, rfl⟩
  have HCE := Lib.hid hce
  by_cases c0 : ce = 0
  · subst c0
    obtain ⟨b0, b1, b2, G⟩ := chk_ok.1 hce
    obtain ⟨n, rfl⟩ : ∃ n : Nat, N = n := ⟨N.toNat, by omega⟩
    rw [Int.toNat_natCast] at G
    have HG := Lib.hid G
    have hn64 : n ≤ 64 := by omega
    obtain ⟨m, hm⟩ : ∃ m, l.length = m := ⟨_, rfl⟩
    have hm512 : m ≤ 512 := by omega
    have HM := Lib.hid hm
    obtain ⟨rfl, rfl⟩ : 0 = f ∧ parV n l = V := ⟨by rw [← H.out.1, hce], by rw [← H.out.2]; unfold parW; rw [if_pos hce, Int.toNat_natCast]⟩
    have HBY := Lib.hid (show i1.bytes * n ≤ 281474976710656 by rw [HBY0.out]; omega)
    have HMX := Lib.hid (show n ≤ maxLen by unfold maxLen; omega)
    have HZL := Lib.hid (show (madeCells (Value.slice none 0 0).cells (n * 1)).toList = List.replicate n (.slice none 0 0) by rw [Nat.mul_one]; show (madeCells #[Value.slice none 0 0] n).toList = _; rw [toList_madeCells_one])
    clear hi hz0 hz1 hz2 hce H G b0 b1 b2 hm
    go_enter Try.func23, Try.ntmps23
    go_upto_region 1 with (fail)
    have k0 : (w.alloc (.cells #[.int .i64 (n : Int), sv] 24)).cell? ⟨w.heap.size, 0, none⟩ = some (.int .i64 (n : Int)) := by go_simp
    have k1 : (w.alloc (.cells #[.int .i64 (n : Int), sv] 24)).cell? ⟨w.heap.size, 1, none⟩ = some sv := by go_simp
    have g0 : Own w (w.alloc (.cells #[.int .i64 (n : Int), sv] 24)) := (Own.refl w).alloc _
    generalize hW : (w.alloc (.cells #[.int .i64 (n : Int), sv] 24)) = W0 at *
    clear hW
    have HP0 := Lib.hid (HP.out.own g0)
    go_upto_region 4 with (go_at_call 11; with_reducible refine (pcheck_at n l _ 0 _ HP0 HCE).mono ?_; rintro e w1 ⟨rfl, q1⟩; replace k0 := q1.cell k0; replace k1 := q1.cell k1; have HP1 := Lib.hid (HP0.out.own q1); have g1 := g0.trans q1)
    go_upto_region 5 with (go_at_call 32; with_reducible refine (pfol_at n m l _ _ HP1 HG HM.out hm512 hn64).mono ?_; rintro e w2 ⟨gf, rfl, ht2, q2⟩; have k0 := q2.cell k0; have HNX := Lib.hid ht2.cels; have g2 := g1.trans q2; clear ht2)
    have HK0 := Lib.hid k0
    have HG2 := Lib.hid g2
    go_upto_region 6 with (at_make; refine wpList_make_full _ rfl _ _ 59 rfl w2.heap.size 33 i1 (.slice none 0 0) 1 Try.underlying59 JI.out JZ0.out JZ1.out _ _ _ _ n rfl rfl rfl rfl HBY.out HMX.out (Nat.le_refl _) ?_; intro w3 hown3 hg3; have q3 := (Own.refl w2).grown hg3 (by simp); have HR3 := Lib.hid (show w3.ownsRow w2.heap.size 33 1 (.slice (some ⟨w2.heap.size, 0, none⟩) n n) n (List.replicate n (.slice none 0 0)) from HZL.out ▸ hown3); clear hown3 hg3)
    have HT3 := Lib.hid (tab_made (eI := 4) HR3.out)
    obtain ⟨g, hgg⟩ : ∃ g, w2.heap.size = g := ⟨_, rfl⟩
    have HGG := Lib.hid hgg
    rw [hgg] at HT3
    rw [hgg]
    have HGW := (HT3.out.out.lt g rfl).2
    have kb : (w3.alloc (.cells #[.slice (some ⟨g, 0, none⟩) n n] 59)).cell? ⟨w3.heap.size, 0, none⟩ = some (.slice (some ⟨g, 0, none⟩) n n) := by go_simp
    have qb := q3.alloc (.cells #[.slice (some ⟨g, 0, none⟩) n n] 59)
    have HTB := Lib.hid (HT3.out.own ((Own.refl w3).alloc (.cells #[.slice (some ⟨g, 0, none⟩) n n] 59)))
    have HM0 := Lib.hid (rowM_zero n l)
    obtain ⟨B, hB⟩ : ∃ B, w3.heap.size = B := ⟨_, rfl⟩
    rw [hB] at kb HGW ⊢
    generalize w3.alloc (.cells #[.slice (some ⟨g, 0, none⟩) n n] 59) = w4 at *
    clear hgg HR3 HT3 hB k0 g2
    go_upto_region 7 with (fail)
    go_loopw [7, 23] (fun _ vi wr => ∃ (a : Nat) (vs : List Value), vi = .int .i64 (a : Int) ∧ a ≤ n ∧ Own w2 wr ∧ wr.cell? ⟨B, 0, none⟩ = some (.slice (some ⟨g, 0, none⟩) n n) ∧ TabV wr g 33 4 (.slice (some ⟨g, 0, none⟩) n n) (rowM n l a) vs) (fun _ vi _ => n - (intOf vi).toNat)
    case atStart => exact ⟨0, _, rfl, Nat.zero_le _, qb, kb, by rw [HM0.out]; exact HTB.out⟩
    case round =>
      clear HTB kb qb
      obtain ⟨a, vs, rfl, han, q, kb, ht⟩ := hrel
      have HT := Lib.hid ht
      clear ht
      by_cases hlt : a < n
      · have hkn : (a : Int) < n := by omega
        obtain ⟨u, xs, hrx, hux, e0, f0, hur⟩ := HT.out.row (i := a) (by rw [rowM_len]; exact hlt)
        have q7 := ((Own.refl wr).alloc (.cells #[.int .i64 (a : Int)] 3)).drew
        have HQ7 := Lib.hid q7
        have HN7 := Lib.hid (HNX.out.own (q.trans q7))
        have HS7 := Lib.hid (show Cel (wr.alloc (.cells #[.int .i64 (a : Int)] 3)).drew (.slice (some ⟨wr.heap.size, 0, none⟩) 1 1) (cellsI (ints [a])) from (cel_lit (w := wr) (T := 3) (cs := #[.int .i64 (a : Int)]) (xs := [.int .i64 (a : Int)]) (k := 1) rfl rfl (by unfold maxLen; decide)).own ((Own.refl _).drew))
        have HD7 := Lib.hid (show [a].Nodup by simp)
        have HL7 := Lib.hid (show ∀ x ∈ [a], x < n from fun x hx => by rw [List.mem_singleton.1 hx]; exact hlt)
        have HRS := Lib.hid (rcsV_one n l a)
        have HUX := Lib.hid hux
        have HRX := Lib.hid hrx
        have HE0 := Lib.hid e0
        have HF0 := Lib.hid f0
        have HKB := Lib.hid kb
        have kb7 := q7.cell kb
        have hgb : g ≠ B := Nat.ne_of_lt HGW
        have HKS := Lib.hid (fun (w5 : World) (v : Value) (h : w5.cell? ⟨B, 0, none⟩ = some (.slice (some ⟨g, 0, none⟩) n n)) => show (w5.setCell ⟨g, a, none⟩ v).cell? ⟨B, 0, none⟩ = some (.slice (some ⟨g, 0, none⟩) n n) from (World.cell?_setCell_far w5 ⟨g, a, none⟩ ⟨B, 0, none⟩ v (fun e => hgb e)).trans h)
        clear q7 hrx hux hur e0 f0
        go_upto_region 9 with (fail)
        go_region_held3 (fun w' => w'.cell? ⟨B, 0, none⟩ = some (.slice (some ⟨g, 0, none⟩) n n)) (first | exact kb | exact kb7 | exact kb8 | exact HKS.out _ _ kb8) ((first | (go_at_call 36; with_reducible refine (preached_at n l [a] _ _ _ HN7 HS7 HD7 HL7 HG hn64).mono ?_; rintro e w8 ⟨g8, rfl, hr8, q8⟩; rw [HRS.out] at hr8; have HR8 := Lib.hid hr8; have kb8 := q8.cell kb7; have HQ8 := Lib.hid (HQ7.out.trans q8); have e8 := HQ8.out.cell HE0.out; have f8 := frozen_kept HQ8.out HE0.out HF0.out; clear hr8 q8)))
        have HNEWT := Lib.hid (HT.out.turn (w4 := w8) (i := a) (m := n) (by decide) (by rw [rowM_len]; exact hlt) HUX.out (fun k hk _ => HQ8.out.block k hk) (row_down HR8.out (Nat.le_trans (HT.out.out.lt g rfl).1 (Nat.le_trans (Nat.le_of_lt (HT.out.out.lt g rfl).2) HQ7.out.size))) (.inr ⟨g8, rfl, Nat.le_trans HQ7.out.size (HR8.out.lt g8 rfl).1⟩))
        go_wp2
        go_roundw
        case rel =>
          refine ⟨a + 1, vs.set a (.slice (some ⟨g8, 0, none⟩) n n), by go_num, hlt, (q.trans HQ8.out).setCell (p := ⟨g, a, none⟩) (Nat.le_of_eq HGG.out) _, HKS.out _ _ kb8, ?_⟩
          rw [rowM_succ hlt]
          exact HNEWT.out
        case measure => simp [intOf]; omega
      · have ean : a = n := by omega
        subst ean
        have HGRD := Lib.hid (show Cels wr (.slice (some ⟨g, 0, none⟩) a a) (rowB a l a) by rw [← rowM_end]; exact HT.out.cels)
        have HKB := Lib.hid kb
        have k0 := q.cell HK0.out
        have HQ45 := Lib.hid (HG2.out.trans q)
        generalize hw4 : wr = w4 at *
        clear hw4
        go_upto_region 13 with (fail)
        clear kb k0
        go_loopw [8, 9, 10, 36] (fun vo _ _ vi wy => ∃ (k : Nat) (vs : List Value), vi = .int .i64 (k : Int) ∧ k ≤ a ∧ Own w wy ∧ Own w4 wy ∧ TabV wy w4.heap.size 29 3 vo (cellsL (ptsK a l k)) vs) (fun _ _ _ vi _ => a - (intOf vi).toNat)
        case atStart => exact ⟨0, [], rfl, Nat.zero_le _, HQ45.out, Own.refl _, tab_nil _ _ _ _⟩
        case round =>
          clear HT q vs
          obtain ⟨k, vs, rfl, hka, qw, q, ht⟩ := hrel
          have hzl : (ptsK a l k).length = (rps a l k).length := pts_len
          obtain ⟨z, hz⟩ : ∃ z, (rps a l k).length = z := ⟨_, rfl⟩
          have hzk : z ≤ k := by rw [← hz]; exact rps_len ..
          have HZZ := Lib.hid hz
          obtain ⟨Ao, co, rfl⟩ := rows_shape ht.out
          have HT := Lib.hid ht
          rw [cellsL_len, hzl, hz] at HT ⊢
          clear ht hz hzl
          by_cases hlt : k < a
          · have hkn : (k : Int) < a := by omega
            have q5 := (Own.refl wr).alloc (.cells #[.int .i64 (k : Int)] 3)
            have kc := show (wr.alloc (.cells #[.int .i64 (k : Int)] 3)).cell? ⟨wr.heap.size, 0, none⟩ = some (.int .i64 (k : Int)) by go_simp
            have hCw : w4.heap.size ≤ wr.heap.size := q.size
            go_upto_region 15 with (fail)
            obtain ⟨C, hC⟩ : ∃ C, wr.heap.size = C := ⟨_, rfl⟩
            have HC := Lib.hid hC
            generalize hw5 : wr.alloc (.cells #[.int .i64 (k : Int)] 3) = w5 at *
            rw [hC] at kc ⊢
            clear hw5 hC
            have kb := (q.trans q5).cell HKB.out
            have HGR5 := Lib.hid (HGRD.out.own (q.trans q5))
            have HT5 := Lib.hid (HT.out.own q5).cels
            go_upto_region 16 with (go_at_call 40; with_reducible refine (pindex_at a l _ _ k B C _ kb kc HGR5 HT5 hlt hn64).mono ?_; rintro e w6 ⟨r, rfl, q6, hcase⟩; have kc6 := q6.cell kc; have HQ6 := Lib.hid (q5.trans q6); have HCASE := Lib.hid hcase; clear hcase q5 q6 kc kb)
            rcases HCASE.out with ⟨rfl, hno⟩ | ⟨i, x, rfl, hia, he⟩
            · have HNX2 := Lib.hid (pts_new HG.out hlt hno)
              have q7 := (Own.refl w6).alloc (.cells #[.int .i64 (k : Int)] 3)
              have q8 := q7.alloc (.cells #[.slice (some ⟨w6.heap.size, 0, none⟩) 1 1] 29)
              have HU8 := Lib.hid (row_own (row_one (w := w6) (e := 3) (.int .i64 (k : Int)) (Nat.le_refl _)) ((Own.refl _).alloc (.cells #[.slice (some ⟨w6.heap.size, 0, none⟩) 1 1] 29)))
              have HQ8 := Lib.hid (HQ6.out.trans q8)
              have HT8 := Lib.hid (HT.out.own HQ8.out)
              have HRO := Lib.hid (show ((w6.alloc (.cells #[.int .i64 (k : Int)] 3)).alloc (.cells #[.slice (some ⟨w6.heap.size, 0, none⟩) 1 1] 29)).ownsRow w4.heap.size 29 1 (.slice Ao z co) z vs by have := HT8.out.out; rw [cellsL_len, pts_len, HZZ.out] at this; exact this)
              have HCEL := Lib.hid (show Cel ((w6.alloc (.cells #[.int .i64 (k : Int)] 3)).alloc (.cells #[.slice (some ⟨w6.heap.size, 0, none⟩) 1 1] 29)) (.slice (some ⟨w6.heap.size + 1, 0, none⟩) 1 1) [.slice (some ⟨w6.heap.size, 0, none⟩) 1 1] from by rw [show w6.heap.size + 1 = (w6.alloc (.cells #[.int .i64 (k : Int)] 3)).heap.size by simp]; exact cel_lit (w := w6.alloc (.cells #[.int .i64 (k : Int)] 3)) (T := 29) (cs := #[.slice (some ⟨w6.heap.size, 0, none⟩) 1 1]) (xs := [.slice (some ⟨w6.heap.size, 0, none⟩) 1 1]) (k := 1) rfl rfl (by unfold maxLen; decide))
              have K2 := Lib.hid (show z + 1 ≤ maxLen by unfold maxLen; omega)
              have K3 := Lib.hid (show (z + 1) * 24 ≤ 140737488355328 by omega)
              have HBS := Lib.hid (show w4.heap.size ≤ ((w6.alloc (.cells #[.int .i64 (k : Int)] 3)).alloc (.cells #[.slice (some ⟨w6.heap.size, 0, none⟩) 1 1] 29)).heap.size from (q.trans HQ8.out).size)
              clear q7 q8 hno
              go_wp2_with (at_builtin; refine wpList_append_k (by go_simp) _ _ 39 rfl w4.heap.size 29 i2 (.slice none 0 0) 24 Try.underlying39 LI.out LZ0.out LZ1.out LZ2.out rfl (.slice Ao z co) z vs rfl HRO.out _ [.slice (some ⟨w6.heap.size, 0, none⟩) 1 1] rfl HCEL.out (fun x hx => by rw [List.mem_singleton.1 hx]; rfl) (z + 1) rfl K2.out K3.out HBS.out ?_; intro v8 w8 hown8 hgr8; have HOWN8 := Lib.hid hown8; have HGR8 := Lib.hid hgr8; clear hown8 hgr8)
              go_roundw
              case rel =>
                have hrb := fun k (hk : (Value.slice Ao z co).ownBlock = some k) => (HRO.out.lt k hk).1
                refine ⟨k + 1, vs ++ [.slice (some ⟨w6.heap.size, 0, none⟩) 1 1], by go_num, hlt, (qw.trans HQ8.out).grown HGR8.out (fun j hj => Nat.le_trans HQ45.out.size (hrb j hj)), (q.trans HQ8.out).grown HGR8.out hrb, ?_⟩
                rw [HNX2.out, cellsL_snoc]
                exact HT.out.more (by decide) HQ8.out (b1 := w6.heap.size) HU8.out HQ6.out.size hCw HGR8.out (by rw [cellsL_len, pts_len, HZZ.out]; exact HOWN8.out)
              case measure => simp [intOf]; omega
            · have hil := (List.getElem?_eq_some_iff.1 hia).1
              have hiz : i < z := by rw [← HZZ.out]; exact hil
              have HNX2 := Lib.hid (show cellsL (ptsK a l (k + 1)) = (cellsL (ptsK a l k)).set i (cellsI (ints (cls a l k x)) ++ [.int .i64 (k : Int)]) by
                rw [pts_old HG.out hlt hia he]
                unfold cellsL
                rw [List.map_set, ints_app, cellsI_app]
                rfl)
              have ht6 := HT.out.own HQ6.out
              obtain ⟨go, co', e, _, _⟩ := row_form (show w6.ownsRow w4.heap.size 29 1 (.slice Ao z co) z vs by have := ht6.out; rw [cellsL_len, pts_len, HZZ.out] at this; exact this) (by omega)
              injection e with e1 e2 e3
              subst e1
              subst e3
              obtain ⟨u, xs, hrx, hux, e0, f0, hur⟩ := ht6.row (i := i) (by rw [cellsL_len, pts_len, HZZ.out]; exact hiz)
              have hrx2 : (cellsL (ptsK a l k))[i]? = some (cellsI (ints (cls a l k x))) := by
                unfold cellsL ptsK
                rw [List.getElem?_map, List.getElem?_map, hia]
                rfl
              rw [hrx2] at hrx
              injection hrx with hrx
              subst hrx
              have HTQ := Lib.hid ht6
              have HUX := Lib.hid hux
              have HBU := Lib.hid (show some C = u.ownBlock → False from fun e => by have := (Tab.lt HT.out hux e.symm).2; have := HC.out; omega)
              have hle := cls_len a l k x
              have hxl : (cellsI (ints (cls a l k x))).length = (cls a l k x).length := by rw [cellsI_len, ints_len]
              rw [hxl] at hur
              obtain ⟨y, hy⟩ : ∃ y, (cls a l k x).length = y := ⟨_, rfl⟩
              rw [hy] at hur hle
              obtain ⟨Au, cu, rfl⟩ := rows_shape hur
              have q' := (Own.refl w6).drew.alloc (.cells #[.int .i64 (k : Int)] 3)
              have HROW1 := Lib.hid (row_own hur q')
              have HBS := Lib.hid (show w4.heap.size ≤ (w6.drew.alloc (.cells #[.int .i64 (k : Int)] 3)).heap.size from ((q.trans HQ6.out).trans q').size)
              have HQ := Lib.hid q'
              have hizz : (i : Int) < z := by omega
              have HGU := Lib.hid (show (Value.slice Au y cu).ownBlock = some go → False from fun e => by
                rcases rows_apart hur ht6.out (by decide) with r | r
                · rw [r] at e; cases e
                · exact r (by rw [e]; rfl))
              have hgoC : go < C := by have := (HT.out.out.lt go rfl).2; have := HC.out; omega
              have g2 := q'.cell e0
              have f2 := (q'.frozen (p := ⟨go, i, none⟩) (block_lt_of_cell e0)).trans f0
              have b0 := q'.cell kc6
              have HBL := Lib.hid (block_lt_of_cell b0)
              have HLT2 := Lib.hid (block_lt_of_cell g2)
              clear hrx2 hux hxl hy hur q' ht6 hia he hil
              go_upto_region 18 with (fail)
              have HS0 := Lib.hid (fun (w5 : World) (z v : Value) (h : w5.cell? ⟨C, 0, none⟩ = some z) => show (w5.setCell ⟨go, i, none⟩ v).cell? ⟨C, 0, none⟩ = some z from (World.cell?_setCell_far w5 ⟨go, i, none⟩ ⟨C, 0, none⟩ v (fun e => by have e : go = C := e; omega)).trans h)
              refine wp_region_noPanic ?_
              refine wp_region_held_drew (S := (fun w' => w'.cell? ⟨C, 0, none⟩ = some (.int .i64 (k : Int)))) (by kernel_rfl) ?_ (fun hHeld => ?_)
              · (try dsimp only); first | exact kc6 | exact b0 | exact a4 | exact HS0.out _ _ _ a4
              refine held_take (i := 0) (v := ?_) rfl (by kernel_rfl) (by kernel_rfl) (by kernel_rfl) (fun _ _ _ h => h) (Or.inl ⟨by rfl, ?_⟩) (by assumption) ?_
              rotate_left 1
              · (intro w hSw; (try dsimp only at hSw); go_simp) <;> with_reducible rfl
              try simp only [Act.put, List.setIfInBounds_toArray, List.set_cons_zero, List.set_cons_succ]
              refine held_take (i := 1) (v := ?_) rfl (by kernel_rfl) (by kernel_rfl) (by kernel_rfl) (fun _ _ _ h => h) (Or.inl ⟨by rfl, ?_⟩) (by assumption) ?_
              rotate_left 1
              · (intro w hSw; (try dsimp only at hSw); go_simp) <;> with_reducible rfl
              try simp only [Act.put, List.setIfInBounds_toArray, List.set_cons_zero, List.set_cons_succ]
              refine held_take (i := 2) (v := ?_) rfl (by kernel_rfl) (by kernel_rfl) (by kernel_rfl) (fun _ _ _ h => h) (Or.inl ⟨by rfl, ?_⟩) (by assumption) ?_
              rotate_left 1
              · (intro w hSw; (try dsimp only at hSw); go_simp) <;> with_reducible rfl
              try simp only [Act.put, List.setIfInBounds_toArray, List.set_cons_zero, List.set_cons_succ]
              refine held_take (i := 3) (v := ?_) rfl (by kernel_rfl) (by kernel_rfl) (by kernel_rfl) (fun _ _ _ h => h) (Or.inl ⟨by rfl, ?_⟩) (by assumption) ?_
              rotate_left 1
              · (intro w hSw; (try dsimp only at hSw); go_simp) <;> with_reducible rfl
              try simp only [Act.put, List.setIfInBounds_toArray, List.set_cons_zero, List.set_cons_succ]
              refine held_take (i := 4) (v := ?_) rfl (by kernel_rfl) (by kernel_rfl) (by kernel_rfl) (fun _ _ _ h => h) (Or.inl ⟨by rfl, ?_⟩) (by assumption) ?_
              rotate_left 1
              · (intro w hSw; (try dsimp only at hSw); go_simp) <;> with_reducible rfl
              try simp only [Act.put, List.setIfInBounds_toArray, List.set_cons_zero, List.set_cons_succ]
              refine held_take (i := 6) (v := ?_) rfl (by kernel_rfl) (by kernel_rfl) (by kernel_rfl) (fun _ _ _ h => h) (Or.inl ⟨by rfl, ?_⟩) (by assumption) ?_
              rotate_left 1
              · (intro w hSw; (try dsimp only at hSw); go_simp) <;> with_reducible rfl
              try simp only [Act.put, List.setIfInBounds_toArray, List.set_cons_zero, List.set_cons_succ]
              refine wpAnyH_ready (rs := [5, 7]) (by kernel_rfl) (by simp) ?_
              refine held_cons rfl (fun K hK => ?_) (held_cons rfl (fun K hK => ?_) AllReadyH.nil)
              ·
                go_simp
                refine hK.out _ _ ?_ (fun hHeld => ?_)
                · (try dsimp only); first | exact kc6 | exact b0 | exact a4 | exact HS0.out _ _ _ a4
                clear hK K
                try simp only [Act.put, List.setIfInBounds_toArray, List.set_cons_zero, List.set_cons_succ]
                refine wpAnyH_ready (rs := [7]) (by kernel_rfl) (by simp) ?_
                refine held_cons rfl (fun K hK => ?_) AllReadyH.nil
                go_simp
                refine hK.out _ _ ?_ (fun hHeld => ?_)
                · (try dsimp only); first | exact kc6 | exact b0 | exact a4 | exact HS0.out _ _ _ a4
                clear hK K
                try simp only [Act.put, List.setIfInBounds_toArray, List.set_cons_zero, List.set_cons_succ]
                refine wpAnyH_ready (rs := [8]) (by kernel_rfl) (by simp) ?_
                refine held_cons rfl (fun K hK => ?_) AllReadyH.nil
                (refine step_append_lies _ (by rfl) _ _ _ (by rfl) w4.heap.size 3 i0 (.int .i64 0) 1 8 Try.underlying29 HI.out HZ0.out HZ1.out HZ2.out rfl (by omega) _ _ _ (by rfl) HROW1.out ⟨w6.heap.size, 0, none⟩ 1 1 [.int .i64 (k : Int)] (by rfl) (by rfl) (World.news_of_block (cs := #[.int .i64 (k : Int)]) (t := 3) (fr := (0, 0)) (heap_alloc_new w6.drew _)) (by simp [Value.oneCell']) (by omega) (by unfold maxLen; omega) (by omega) HBS.out _ rfl ?_; intro g4 gcap w9 hown hgr hat hlt4; have k4 := (hgr.cell_far ⟨go, i, none⟩ HLT2.out (fun e => HGU.out e.symm)).trans g2; have f4 := (hgr.frozen_far ⟨go, i, none⟩ HLT2.out (fun e => HGU.out e.symm)).trans f2; have a4 := (hgr.cell_far ⟨C, 0, none⟩ HBL.out HBU.out).trans b0; have HGR9 := Lib.hid hgr; have HOWN := Lib.hid hown; have HAT := Lib.hid hat; have HS4 := Lib.hid (Nat.lt_of_lt_of_le HLT2.out hgr.size); clear hown hat hlt4 hgr)
                refine hK.out _ _ ?_ (fun hHeld => ?_)
                · (try dsimp only); first | exact kc6 | exact b0 | exact a4 | exact HS0.out _ _ _ a4
                clear hK K
                try simp only [Act.put, List.setIfInBounds_toArray, List.set_cons_zero, List.set_cons_succ]
                refine held_take (i := 9) (v := ?_) rfl (by kernel_rfl) (by kernel_rfl) (by kernel_rfl) (fun _ _ _ h => h) (Or.inl ⟨by rfl, ?_⟩) (by assumption) ?_
                rotate_left 1
                · (intro w hSw; (try dsimp only at hSw); go_simp) <;> with_reducible rfl
                try simp only [Act.put, List.setIfInBounds_toArray, List.set_cons_zero, List.set_cons_succ]
                refine wpAnyH_ready (rs := [10]) (by kernel_rfl) (by simp) ?_
                refine held_cons rfl (fun K hK => ?_) AllReadyH.nil
                go_simp
                refine hK.out _ _ ?_ (fun hHeld => ?_)
                · (try dsimp only); first | exact kc6 | exact b0 | exact a4 | exact HS0.out _ _ _ a4
                clear hK K
                try simp only [Act.put, List.setIfInBounds_toArray, List.set_cons_zero, List.set_cons_succ]
                refine wpAnyH_done (by kernel_rfl) ?_ _
                refine NoPanic.normal ?_
                have HNEW := Lib.hid (HTQ.out.app (by decide) (by rw [cellsL_len, pts_len, HZZ.out]; exact hiz) HUX.out HQ.out HGR9.out HOWN.out HAT.out)
                go_wp2
                go_roundw
                case rel =>
                  refine ⟨k + 1, vs.set i (.slice (some ⟨g4, 0, none⟩) (y + 1) gcap), by go_num, hlt, HNEW.out.2 _ (HQ45.out.trans (q.trans HQ6.out)) HQ45.out.size, HNEW.out.2 _ (q.trans HQ6.out) (Nat.le_refl _), ?_⟩
                  rw [HNX2.out]
                  exact HNEW.out.1
                case measure => simp [intOf]; omega
              ·
                go_simp
                refine hK.out _ _ ?_ (fun hHeld => ?_)
                · (try dsimp only); first | exact kc6 | exact b0 | exact a4 | exact HS0.out _ _ _ a4
                clear hK K
                try simp only [Act.put, List.setIfInBounds_toArray, List.set_cons_zero, List.set_cons_succ]
                refine wpAnyH_ready (rs := [5]) (by kernel_rfl) (by simp) ?_
                refine held_cons rfl (fun K hK => ?_) AllReadyH.nil
                go_simp
                refine hK.out _ _ ?_ (fun hHeld => ?_)
                · (try dsimp only); first | exact kc6 | exact b0 | exact a4 | exact HS0.out _ _ _ a4
                clear hK K
                try simp only [Act.put, List.setIfInBounds_toArray, List.set_cons_zero, List.set_cons_succ]
                refine wpAnyH_ready (rs := [8]) (by kernel_rfl) (by simp) ?_
                refine held_cons rfl (fun K hK => ?_) AllReadyH.nil
                (refine step_append_lies _ (by rfl) _ _ _ (by rfl) w4.heap.size 3 i0 (.int .i64 0) 1 8 Try.underlying29 HI.out HZ0.out HZ1.out HZ2.out rfl (by omega) _ _ _ (by rfl) HROW1.out ⟨w6.heap.size, 0, none⟩ 1 1 [.int .i64 (k : Int)] (by rfl) (by rfl) (World.news_of_block (cs := #[.int .i64 (k : Int)]) (t := 3) (fr := (0, 0)) (heap_alloc_new w6.drew _)) (by simp [Value.oneCell']) (by omega) (by unfold maxLen; omega) (by omega) HBS.out _ rfl ?_; intro g4 gcap w9 hown hgr hat hlt4; have k4 := (hgr.cell_far ⟨go, i, none⟩ HLT2.out (fun e => HGU.out e.symm)).trans g2; have f4 := (hgr.frozen_far ⟨go, i, none⟩ HLT2.out (fun e => HGU.out e.symm)).trans f2; have a4 := (hgr.cell_far ⟨C, 0, none⟩ HBL.out HBU.out).trans b0; have HGR9 := Lib.hid hgr; have HOWN := Lib.hid hown; have HAT := Lib.hid hat; have HS4 := Lib.hid (Nat.lt_of_lt_of_le HLT2.out hgr.size); clear hown hat hlt4 hgr)
                refine hK.out _ _ ?_ (fun hHeld => ?_)
                · (try dsimp only); first | exact kc6 | exact b0 | exact a4 | exact HS0.out _ _ _ a4
                clear hK K
                try simp only [Act.put, List.setIfInBounds_toArray, List.set_cons_zero, List.set_cons_succ]
                refine held_take (i := 9) (v := ?_) rfl (by kernel_rfl) (by kernel_rfl) (by kernel_rfl) (fun _ _ _ h => h) (Or.inl ⟨by rfl, ?_⟩) (by assumption) ?_
                rotate_left 1
                · (intro w hSw; (try dsimp only at hSw); go_simp) <;> with_reducible rfl
                try simp only [Act.put, List.setIfInBounds_toArray, List.set_cons_zero, List.set_cons_succ]
                refine wpAnyH_ready (rs := [10]) (by kernel_rfl) (by simp) ?_
                refine held_cons rfl (fun K hK => ?_) AllReadyH.nil
                go_simp
                refine hK.out _ _ ?_ (fun hHeld => ?_)
                · (try dsimp only); first | exact kc6 | exact b0 | exact a4 | exact HS0.out _ _ _ a4
                clear hK K
                try simp only [Act.put, List.setIfInBounds_toArray, List.set_cons_zero, List.set_cons_succ]
                refine wpAnyH_done (by kernel_rfl) ?_ _
                refine NoPanic.normal ?_
                have HNEW := Lib.hid (HTQ.out.app (by decide) (by rw [cellsL_len, pts_len, HZZ.out]; exact hiz) HUX.out HQ.out HGR9.out HOWN.out HAT.out)
                go_wp2
                go_roundw
                case rel =>
                  refine ⟨k + 1, vs.set i (.slice (some ⟨g4, 0, none⟩) (y + 1) gcap), by go_num, hlt, HNEW.out.2 _ (HQ45.out.trans (q.trans HQ6.out)) HQ45.out.size, HNEW.out.2 _ (q.trans HQ6.out) (Nat.le_refl _), ?_⟩
                  rw [HNX2.out]
                  exact HNEW.out.1
                case measure => simp [intOf]; omega
          · have eka : k = a := by omega
            subst eka
            go_wp2
            go_ret2
            exact ⟨_, vs, rfl, HT.out.down HQ45.out.size, qw⟩
  · obtain ⟨rfl, rfl⟩ : ce = f ∧ [] = V := ⟨by rw [← H.out.1, hce], by rw [← H.out.2]; unfold parW; rw [if_neg (by rw [hce]; exact c0)]⟩
    have d1 : (ce == 0) = false := beq_eq_false_iff_ne.2 c0
    clear hi hz0 hz1 hz2 hce H
    go_enter Try.func23, Try.ntmps23
    go_upto_region 1 with (fail)
    have k0 : (w.alloc (.cells #[.int .i64 N, sv] 24)).cell? ⟨w.heap.size, 0, none⟩ = some (.int .i64 N) := by go_simp
    have k1 : (w.alloc (.cells #[.int .i64 N, sv] 24)).cell? ⟨w.heap.size, 1, none⟩ = some sv := by go_simp
    have g0 : Own w (w.alloc (.cells #[.int .i64 N, sv] 24)) := (Own.refl w).alloc _
    generalize hW : (w.alloc (.cells #[.int .i64 N, sv] 24)) = W0 at *
    clear hW
    have HP0 := Lib.hid (HP.out.own g0)
    go_wp2_with (go_at_call 11; with_reducible refine (pcheck_at N l _ ce _ HP0 HCE).mono ?_; rintro e w1 ⟨rfl, q1⟩; replace k0 := q1.cell k0; replace k1 := q1.cell k1; have p1 := q1)
    go_ret2
    exact ⟨_, [], rfl, tab_nil _ _ _ _, g0.trans p1⟩
end Go.Proofs.Ytkdfmjhhdfiiiaa.GraW
