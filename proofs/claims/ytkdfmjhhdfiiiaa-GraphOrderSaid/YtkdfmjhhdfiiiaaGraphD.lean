/-
  Walks of the specification of package graph: far. Condition: none.
-/
import Derived.Test.YtkdfmjhhdfiiiaaGraphC
namespace Go.Proofs.Ytkdfmjhhdfiiiaa.GraW
open Go.ChangeShapes Go.WideShapes Go.ChangeAt Go.RowKit
open PairW CelW GraP
theorem fill_end {D : List Int} {n : Nat} (hl : D.length = n) (h : ∀ b, b < n → D[b]? = some (-1)) : D = List.replicate n (-1) := by
  refine List.ext_getElem (by rw [hl, List.length_replicate]) fun i h1 h2 => ?_
  have := h i (by omega)
  rw [List.getElem?_eq_getElem h1] at this
  injection this with this
  rw [this, List.getElem_replicate]
theorem fill_more {D : List Int} {n k : Nat} (hl : D.length = n) (hk : k < n) (h : ∀ b, b < k → D[b]? = some (-1)) : ∀ b, b < k + 1 → (D.set k (-1))[b]? = some (-1) := fun b hb => by
  rw [List.getElem?_set]
  by_cases e : k = b
  · rw [if_pos e, if_pos (by omega)]
  · rw [if_neg e]
    exact h b (by omega)
set_option maxRecDepth 100000 in
set_option maxHeartbeats 2000000 in
theorem rfar_at (n t : Nat) (l : List Ar) (sv : Value) (w : World) (HP : Hid (Pts w sv l)) (HG : Hid (Fit n l)) (htn : t < n) (hn64 : n ≤ 64) :
    Calls Try.prog 39 #[grV (n : Int) sv, .int .i64 (t : Int)] w fun e w' => ∃ g, e = .returned (.slice (some ⟨g, 0, none⟩) n n) ∧ w'.ownsRow w.heap.size 3 1 (.slice (some ⟨g, 0, none⟩) n n) n (cellsI (dstV n l t)) ∧ Own w w' := by
  obtain ⟨i0, hi, hz0, hz1, hz2⟩ := info_parts (show (Try.prog.info? 3).map (fun i => (i.zero, i.size, i.bytes)) = some (some (.int .i64 0), 1, 8) by kernel_rfl)
  have HI := Lib.hid hi
  have HZ0 := Lib.hid hz0
  have HZ1 := Lib.hid hz1
  have HZ2 := Lib.hid hz2
  obtain ⟨A, cap, rfl, a1, a2, a3⟩ := HP.out.open
  unfold maxLen at a2
  obtain ⟨m, hm⟩ : ∃ m, l.length = m := ⟨_, rfl⟩
  rw [hm] at a1 a3 HP ⊢
  have HM := Lib.hid hm
  have HCA := Lib.hid a3
  have HTN := Lib.hid htn
  have HBY := Lib.hid (show i0.bytes * n ≤ 281474976710656 by rw [hz2]; omega)
  have HMX := Lib.hid (show n ≤ maxLen by unfold maxLen; omega)
  have HZL := Lib.hid (show (madeCells (Value.int .i64 0).cells (n * 1)).toList = cellsI (List.replicate n 0) by rw [Nat.mul_one]; show (madeCells #[Value.int .i64 0] n).toList = _; rw [toList_madeCells_one]; unfold cellsI; rw [List.map_replicate])
  have HST := Lib.hid (di_start (l := l) htn)
  have htn2 : (t : Int) < n := by omega
  clear a3 hm hi hz0 hz1 hz2
  go_enter Try.func39, Try.ntmps39
  go_upto_region 1 with (fail)
  have k0 : (w.alloc (.cells #[.int .i64 (n : Int), .slice A m cap] 24)).cell? ⟨w.heap.size, 0, none⟩ = some (.int .i64 (n : Int)) := by go_simp
  have k1 : (w.alloc (.cells #[.int .i64 (n : Int), .slice A m cap] 24)).cell? ⟨w.heap.size, 1, none⟩ = some (.slice A m cap) := by go_simp
  have g0 : Own w (w.alloc (.cells #[.int .i64 (n : Int), .slice A m cap] 24)) := (Own.refl w).alloc _
  generalize hW : (w.alloc (.cells #[.int .i64 (n : Int), .slice A m cap] 24)) = W0 at *
  have HBX := Lib.hid (show w.heap.size < W0.heap.size by rw [← hW]; simp)
  have HK0 := Lib.hid k0
  have HK1 := Lib.hid k1
  clear hW
  go_upto_region 2 with
    (at_make; refine wpList_make_full _ rfl _ _ 29 rfl W0.heap.size 3 i0 (.int .i64 0) 1 Try.underlying29 HI.out HZ0.out HZ1.out _ _ _ _ n rfl rfl rfl rfl HBY.out HMX.out (Nat.le_refl _) ?_; intro w3 hown3 hg3; have q3 := (Own.refl W0).grown hg3 (by simp); replace k0 := q3.cell k0; replace k1 := q3.cell k1; have HR3 := Lib.hid (show w3.ownsRow W0.heap.size 3 1 (.slice (some ⟨W0.heap.size, 0, none⟩) n n) n (cellsI (List.replicate n 0)) from HZL.out ▸ hown3); clear hown3 hg3)
  have HGB := Lib.hid (show W0.heap.size ≤ W0.heap.size from Nat.le_refl _)
  obtain ⟨g, hgg⟩ : ∃ g, W0.heap.size = g := ⟨_, rfl⟩
  have HGG := Lib.hid hgg
  rw [hgg]
  rw [hgg] at HR3 HGB
  clear hgg k0 k1
  go_wp2
  go_loopw [6] (fun vi wr => ∃ (k : Nat) (D : List Int), vi = .int .i64 (k : Int) ∧ k ≤ n ∧ Own W0 wr ∧ wr.ownsRow g 3 1 (.slice (some ⟨g, 0, none⟩) n n) n (cellsI D) ∧ D.length = n ∧ ∀ b, b < k → D[b]? = some (-1)) (fun vi _ => n - (intOf vi).toNat)
  case atStart => exact ⟨0, _, rfl, Nat.zero_le _, q3, HR3.out, List.length_replicate, fun b hb => absurd hb (Nat.not_lt_zero _)⟩
  case round =>
    clear q3 HR3
    obtain ⟨k, D, rfl, hk, q, hrow, hl, hd⟩ := hrel
    have k0 := q.cell HK0.out
    have k1 := q.cell HK1.out
    by_cases hlt : k < n
    · obtain ⟨v, e0, _, f0⟩ := row_int hrow hl hlt
      have HROW := Lib.hid (row_puti hrow k (-1))
      have HL := Lib.hid (len_set (i := k) (v := (-1 : Int)) hl)
      have HD := Lib.hid (fill_more hl hlt hd)
      have hkn : (k : Int) < n := by omega
      clear hrow hl hd
      go_wp2
      go_roundw
      case rel => exact ⟨k + 1, _, by go_num, hlt, q.setCell (Nat.le_of_eq HGG.out) _, HROW.out, HL.out, HD.out⟩
      case measure => simp [intOf]; omega
    · obtain rfl : k = n := by omega
      have hD := fill_end hl hd
      subst hD
      have hrl : (List.replicate k (-1 : Int)).length = k := List.length_replicate
      obtain ⟨v, e0, _, f0⟩ := row_int hrow hrl htn
      have HR4 := Lib.hid (row_puti hrow t 0)
      have q4 := q.setCell (p := ⟨g, t, none⟩) (Nat.le_of_eq HGG.out) (.int .i64 0)
      clear hrow hl hd hrl k0 k1
      have k0 := q.cell HK0.out
      go_upto_region 7 with (fail)
      generalize hw4 : wr.setCell ⟨g, t, none⟩ (.int .i64 0) = w4 at *
      clear hw4 e0 f0 q k0
      go_wp2
      go_loopw [7, 8] (fun vm _ wr => ∃ (k2 : Nat) (R : List Int), vm = .int .i64 (k2 : Int) ∧ k2 ≤ k ∧ Own W0 wr ∧ wr.ownsRow g 3 1 (.slice (some ⟨g, 0, none⟩) k k) k (cellsI R) ∧ R.length = k ∧ DiS k l t R ∧ DiF k l t k2 R) (fun vm _ _ => k - (intOf vm).toNat)
      case atStart => exact ⟨0, _, rfl, Nat.zero_le _, q4, HR4.out, len_set List.length_replicate, HST.out.1, HST.out.2⟩
      case round =>
        clear q4 HR4
        obtain ⟨k2, R, rfl, hk2, q, hrow, hrl, hs, hf⟩ := hrel
        have k0 := q.cell HK0.out
        have k1 := q.cell HK1.out
        have HROW := Lib.hid hrow
        have HRL := Lib.hid hrl
        have HS := Lib.hid hs
        have HF := Lib.hid hf
        clear hrow hrl hs hf
        by_cases hlt : k2 < k
        · have hkn : (k2 : Int) < k := by omega
          go_wp2
          clear k0 k1
          go_loopw [8] (fun vi wy => ∃ (i : Nat) (R : List Int), vi = .int .i64 (i : Int) ∧ i ≤ m ∧ Own W0 wy ∧ wy.ownsRow g 3 1 (.slice (some ⟨g, 0, none⟩) k k) k (cellsI R) ∧ R.length = k ∧ DiS k l t R ∧ DiF k l t k2 R ∧ DiU k l t k2 i R) (fun vi _ => m - (intOf vi).toNat)
          case atStart => exact ⟨0, R, rfl, Nat.zero_le _, q, HROW.out, HRL.out, HS.out, HF.out, fun j hj => absurd hj (Nat.not_lt_zero _)⟩
          case round =>
            clear HROW HRL HS HF q
            obtain ⟨i, R, rfl, hi, q, hrow, hrl, hs, hf, hu⟩ := hrel
            have k0 := q.cell HK0.out
            have k1 := q.cell HK1.out
            by_cases hlt2 : i < m
            · obtain ⟨b, off, rfl, hc⟩ := HCA.out (by omega)
              have hil : i < l.length := by rw [HM.out]; exact hlt2
              obtain ⟨u, v, huv, hun, hvn⟩ := HG.out.at hil
              have c0 := (g0.trans q).cell (hc i hlt2).1
              have c1 := (g0.trans q).cell (hc i hlt2).2
              rw [huv] at c0 c1
              simp only at c0 c1
              obtain ⟨bu, e0, hbu, f0⟩ := row_int hrow hrl hun
              obtain ⟨bv, e1, hbv, _⟩ := row_int hrow hrl hvn
              have him : (i : Int) < m := by omega
              have hun2 : (u : Int) < k := by omega
              have hvn2 : (v : Int) < k := by omega
              have i1 : IntKind.i64.wrap ((k2 : Int) + 1) = (k2 : Int) + 1 := IntWalk.i64_in _ (by omega)
              by_cases t1 : bv = k2
              · subst t1
                by_cases t2 : bu < 0
                · obtain ⟨n1, n2, n3⟩ := di_set HG.out hil huv hbv hbu t2 hs hf hu
                  have HN1 := Lib.hid n1
                  have HN2 := Lib.hid n2
                  have HN3 := Lib.hid n3
                  have HROW := Lib.hid (row_puti hrow u ((k2 : Int) + 1))
                  have HRL := Lib.hid (len_set (i := u) (v := (k2 : Int) + 1) hrl)
                  clear hc huv hbu hbv hs hf hu n1 n2 n3 hrow hrl hil
                  go_wp2
                  go_roundw
                  case rel => exact ⟨i + 1, _, by go_num, hlt2, q.setCell (Nat.le_of_eq HGG.out) _, HROW.out, HRL.out, HN1.out, HN2.out, HN3.out⟩
                  case measure => simp [intOf]; omega
                · have HN3 := Lib.hid (di_skip huv hbv hbu (.inr t2) hf hu)
                  have HROW := Lib.hid hrow
                  have HRL := Lib.hid hrl
                  have HS := Lib.hid hs
                  have HF := Lib.hid hf
                  clear hc huv hbu hbv hs hf hu hrow hrl hil
                  go_wp2
                  go_roundw
                  case rel => exact ⟨i + 1, R, by go_num, hlt2, q, HROW.out, HRL.out, HS.out, HF.out, HN3.out⟩
                  case measure => simp [intOf]; omega
              · have HN3 := Lib.hid (di_skip huv hbv hbu (.inl t1) hf hu)
                have d1 : (bv == (k2 : Int)) = false := beq_eq_false_iff_ne.2 t1
                have HROW := Lib.hid hrow
                have HRL := Lib.hid hrl
                have HS := Lib.hid hs
                have HF := Lib.hid hf
                clear hc huv hbu hbv hs hf hu hrow hrl hil t1
                go_wp2
                go_roundw
                case rel => exact ⟨i + 1, R, by go_num, hlt2, q, HROW.out, HRL.out, HS.out, HF.out, HN3.out⟩
                case measure => simp [intOf]; omega
            · obtain rfl : i = m := by omega
              have HN := Lib.hid (di_round HG.out hs hf (by rw [HM.out]; exact hu))
              have HROW := Lib.hid hrow
              have HRL := Lib.hid hrl
              have HS := Lib.hid hs
              clear hs hf hu hrow hrl
              go_wp2
              go_roundw
              case rel => exact ⟨k2 + 1, R, by go_num, hlt, q, HROW.out, HRL.out, HS.out, HN.out⟩
              case measure => simp [intOf]; omega
        · obtain rfl : k2 = k := by omega
          have hR := di_end HRL.out HS.out HF.out
          subst hR
          go_wp2
          go_ret
          exact ⟨_, rfl, row_down HROW.out (by rw [← HGG.out]; exact Nat.le_of_lt HBX.out), g0.trans q⟩
end Go.Proofs.Ytkdfmjhhdfiiiaa.GraW
