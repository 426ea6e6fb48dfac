/-
  Walks of the program's closure in Parts, and of slices.IndexFunc with it. Condition: none.
-/
import Derived.Test.YtkdfmjhhdfiiiaaGraphK
namespace Go.Proofs.Ytkdfmjhhdfiiiaa.GraW
open Go.ChangeShapes Go.WideShapes Go.ChangeAt Go.RowKit
open PairW CelW GraP TabW
set_option maxRecDepth 100000 in
set_option maxHeartbeats 2000000 in
theorem pclos_at (n : Nat) (l : List Ar) (vr vp : Value) (a k : Nat) (r : List Nat) (B C : Nat) (t : Bool) (w : World) (hB : w.cell? ⟨B, 0, none⟩ = some vr) (hC : w.cell? ⟨C, 0, none⟩ = some (.int .i64 (k : Int))) (HG : Hid (Cels w vr (rowB n l n))) (HC : Hid (Cel w vp (cellsI (ints (a :: r))))) (ha : a < n) (hk : k < n) (hn : n ≤ 64) (H : Hid (eqv n l a k = t)) :
    Calls Try.prog 41 #[vp, .pointer (some ⟨B, 0, none⟩), .pointer (some ⟨C, 0, none⟩)] w fun e w' => e = .returned (.bool t) ∧ Own w w' := by
  obtain ⟨A, cap, rfl, p1, p2, p3⟩ := cel_ints HC.out
  obtain ⟨m, hm⟩ : ∃ m, (ints (a :: r)).length = m := ⟨_, rfl⟩
  have hm0 : 0 < m := by rw [← hm, ints_len]; simp
  obtain ⟨gp, op, rfl, p4⟩ := p3 (by omega)
  have e0 : w.cell? ⟨gp, op, none⟩ = some (.int .i64 (a : Int)) := p4 0 (by omega)
  rw [hm] at p1 ⊢
  unfold maxLen at p2
  clear p3 p4 hm HC
  have hmz : (0 : Int) < m := by omega
  obtain ⟨gr, orr, cr, rfl, r1, r2, hgrid⟩ := grid_open HG.out (by omega)
  unfold maxLen at r2
  obtain ⟨ga, oa, ca, e1, a1, a2, x2⟩ := hgrid a ha
  obtain ⟨gb, ob, cb, e3, b1, b2, y2⟩ := hgrid k hk
  unfold maxLen at a2 b2
  have e2 := x2 k hk
  have e4 := y2 a ha
  have haz : (a : Int) < n := by omega
  have hkz : (k : Int) < n := by omega
  have ht := H.out
  unfold eqv at ht
  clear hgrid x2 y2 HG H
  cases t1 : rch n l a k with
  | false =>
    rw [t1] at e2 ht
    rw [Bool.false_and] at ht
    subst ht
    clear t1
    go_enter Try.func41, Try.ntmps41
    go_upto_region 2 with (fail)
    first | go_quiet (fail) | skip
    go_wp2
    go_ret
    exact ⟨rfl, by first | exact (Own.refl _).drewN _ | exact Own.refl _⟩
  | true =>
    rw [t1] at e2 ht
    rw [Bool.true_and] at ht
    rw [ht] at e4
    clear t1 ht
    go_enter Try.func41, Try.ntmps41
    go_upto_region 2 with (fail)
    first | go_quiet (fail) | skip
    go_wp2
    go_ret
    exact ⟨rfl, by first | exact (Own.refl _).drewN _ | exact Own.refl _⟩
set_option maxRecDepth 100000 in
set_option maxHeartbeats 2000000 in
theorem pindex_at (n : Nat) (l : List Ar) (vr vp : Value) (k : Nat) (B C : Nat) (w : World) (hB : w.cell? ⟨B, 0, none⟩ = some vr) (hC : w.cell? ⟨C, 0, none⟩ = some (.int .i64 (k : Int))) (HG : Hid (Cels w vr (rowB n l n))) (HT : Hid (Cels w vp (cellsL (ptsK n l k)))) (hk : k < n) (hn : n ≤ 64) :
    Calls Try.prog 40 #[vp, .func (.func 41) #[] #[.pointer (some ⟨B, 0, none⟩), .pointer (some ⟨C, 0, none⟩)]] w fun e w' => ∃ r : Int, e = .returned (.int .i64 r) ∧ Own w w' ∧ ((r = -1 ∧ ∀ a ∈ rps n l k, eqv n l a k = false) ∨ ∃ i a : Nat, r = i ∧ (rps n l k)[i]? = some a ∧ eqv n l a k = true) := by
  have eg : ∀ args w, (callFunc 41 args).run Try.prog w = .ok (.enter 41 args) w := enters_of Try.func41 (by kernel_rfl) rfl
  obtain ⟨A, cap, rfl, ha1, ha2, ha⟩ := cels_open HT.out
  unfold maxLen at ha2
  have HA := Lib.hid ha
  clear ha HT
  obtain ⟨m, hm⟩ : ∃ m, (rps n l k).length = m := ⟨_, rfl⟩
  have hmk : m ≤ k := by rw [← hm]; exact rps_len ..
  rw [cellsL_len, pts_len, hm] at HA ha1 ⊢
  have HM := Lib.hid hm
  clear hm
  go_enter Try.func40, Try.ntmps40
  go_wp2
  go_loopw [5, 8] (fun _ i wr => ∃ j : Nat, i = .int .i64 (j : Int) ∧ j ≤ m ∧ Own w wr ∧ ∀ (i a : Nat), i < j → (rps n l k)[i]? = some a → eqv n l a k = false) (fun _ i _ => m - (intOf i).toNat)
  case atStart => exact ⟨0, rfl, Nat.zero_le _, Own.refl w, fun i a hi => absurd hi (Nat.not_lt_zero _)⟩
  case round =>
    obtain ⟨j, rfl, hj, g0, hno⟩ := hrel
    have HNO := Lib.hid hno
    clear hno
    by_cases hlt : j < m
    · obtain ⟨b, off, rfl, hc⟩ := HA.out (by omega)
      obtain ⟨a, hra⟩ : ∃ a, (rps n l k)[j]? = some a := ⟨_, List.getElem?_eq_getElem (show j < (rps n l k).length by rw [HM.out]; exact hlt)⟩
      have ham := List.mem_of_getElem? hra
      obtain ⟨rest, hcl⟩ := cls_head (Nat.le_of_lt hk) ham
      obtain ⟨u, e0, hu⟩ := hc j (cellsI (ints (a :: rest))) (by
        unfold cellsL ptsK
        rw [List.getElem?_map, List.getElem?_map, hra]
        show some (cellsI (ints (cls n l k a))) = _
        rw [hcl])
      have hak := (rps_mem.1 ham).1
      replace e0 := g0.cell e0
      have HU := Lib.hid (hu.own g0)
      have HGR := Lib.hid (HG.out.own g0)
      have HRA := Lib.hid hra
      have hlti : (j : Int) < m := by omega
      clear hc hra ham hcl hu
      obtain ⟨t, ht⟩ : ∃ t, eqv n l a k = t := ⟨_, rfl⟩
      have HTT := Lib.hid ht
      have hcall := pclos_at n l vr u a k rest B C t wr (g0.cell hB) (g0.cell hC) HGR HU (by omega) hk hn HTT
      clear ht
      cases t
      · go_wp2_with (go_at_fn 41; refine hcall.mono ?_; rintro e w1 ⟨rfl, hg⟩)
        go_roundw
        case rel => exact ⟨j + 1, by go_num, hlt, g0.trans hg, fun i b hi hb => by
            by_cases e : i = j
            · subst e
              rw [HRA.out] at hb
              injection hb with hb
              rw [← hb]
              exact HTT.out
            · exact HNO.out i b (by omega) hb⟩
        case measure => simp [intOf]; omega
      · go_wp2_with (go_at_fn 41; refine hcall.mono ?_; rintro e w1 ⟨rfl, hg⟩)
        go_ret
        exact ⟨j, rfl, g0.trans hg, .inr ⟨j, a, rfl, HRA.out, HTT.out⟩⟩
    · obtain rfl : j = m := by omega
      go_wp2
      go_ret
      exact ⟨-1, rfl, g0, .inl ⟨rfl, fun a ha => by
        obtain ⟨i, hi, e⟩ := List.mem_iff_getElem.1 ha
        exact HNO.out i a (by rw [← HM.out]; exact hi) (by rw [List.getElem?_eq_getElem hi, e])⟩⟩
end Go.Proofs.Ytkdfmjhhdfiiiaa.GraW
