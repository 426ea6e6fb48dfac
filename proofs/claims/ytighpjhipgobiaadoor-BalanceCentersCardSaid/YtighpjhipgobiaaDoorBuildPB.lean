/-
  Walks of Mass of package build and of its specification. Condition: the table of bounds lies in memory (Tab).
-/
import Derived.Test.YtighpjhipgobiaaDoorBuildA
namespace Go.Proofs.YtighpjhipgobiaaDoor.BuiW
open Go.ChangeShapes Go.WideShapes Go.ChangeAt Go.RowKit
open PairW BuiP
set_option maxRecDepth 100000 in
theorem pmass_at (b : Bl) (v c : Int) (w : World) (HT : Hid (Tab w)) (H : Hid (masV b = v ∧ chk b = c)) :
    Calls Tryd.prog 48 #[.agg #[.int .i64 (b 0), .int .i64 (b 1), .int .i64 (b 2), .int .i64 (b 3), .int .i64 (b 4), .int .i64 (b 5), .int .i64 (b 6), .int .i64 (b 7), .int .i64 (b 8), .int .i64 (b 9), .int .i64 (b 10), .int .i64 (b 11), .int .i64 (b 12), .int .i64 (b 13), .int .i64 (b 14)]] w fun e w' => e = .returned (.tuple #[.int .i64 v, .int .i64 c]) ∧ Own w w' := by
  obtain ⟨h1, h2⟩ := H.out
  have HC := Lib.hid h2
  have hb := Bx.new w b
  have g0 : Own w (w.alloc (.cells #[.int .i64 (b 0), .int .i64 (b 1), .int .i64 (b 2), .int .i64 (b 3), .int .i64 (b 4), .int .i64 (b 5), .int .i64 (b 6), .int .i64 (b 7), .int .i64 (b 8), .int .i64 (b 9), .int .i64 (b 10), .int .i64 (b 11), .int .i64 (b 12), .int .i64 (b 13), .int .i64 (b 14)] 24)) := (Own.refl w).alloc _
  clear H
  by_cases ho : Okb b
  · obtain rfl : 0 = c := by rw [← h2, chk_yes ho]
    have hm := ho.2
    have m0 := hm 0 (by omega)
    have m1 := hm 1 (by omega)
    have m2 := hm 2 (by omega)
    have m3 := hm 3 (by omega)
    simp only [Nat.add_zero, Nat.reduceAdd] at m0 m1 m2 m3
    have HV := Lib.hid (show b 11 + b 12 + 2 * b 13 + 2 * b 14 = v by rw [← h1]; exact (if_pos ho).symm)
    clear h1 h2 ho hm
    go_enter Tryd.func48, Tryd.ntmps48
    go_upto_region 1 with (fail)
    generalize w.alloc (.cells #[.int .i64 (b 0), .int .i64 (b 1), .int .i64 (b 2), .int .i64 (b 3), .int .i64 (b 4), .int .i64 (b 5), .int .i64 (b 6), .int .i64 (b 7), .int .i64 (b 8), .int .i64 (b 9), .int .i64 (b 10), .int .i64 (b 11), .int .i64 (b 12), .int .i64 (b 13), .int .i64 (b 14)] 24) = W0 at *
    generalize w.heap.size = B at *
    have HB := Lib.hid hb
    obtain ⟨k0, k1, k2, k3, k4, k5, k6, k7, k8, k9, k10, k11, k12, k13, k14⟩ := hb.cells
    clear hb
    go_upto_region 4 with (go_at_call 17; refine (pcheck_at b 0 _ (Lib.hid (HT.out.own g0)) HC).mono ?_; rintro e w1 ⟨rfl, hg⟩; replace g0 : Own w w1 := g0.trans hg; replace HB := Lib.hid (HB.out.own hg); clear hg k0 k1 k2 k3 k4 k5 k6 k7 k8 k9 k10 k11 k12 k13 k14; have hb := HB.out; obtain ⟨k0, k1, k2, k3, k4, k5, k6, k7, k8, k9, k10, k11, k12, k13, k14⟩ := hb.cells)
    go_wp2
    go_ret2
    first | exact ⟨ret_two HV.out rfl, g0⟩ | exact ⟨ret_two HV.out rfl, g0.alloc _⟩
  · obtain rfl : 23 = c := by rw [← h2, chk_no ho]
    obtain rfl : 0 = v := by rw [← h1]; exact (if_neg ho).symm
    clear h1 h2 ho
    go_enter Tryd.func48, Tryd.ntmps48
    go_upto_region 1 with (fail)
    generalize w.alloc (.cells #[.int .i64 (b 0), .int .i64 (b 1), .int .i64 (b 2), .int .i64 (b 3), .int .i64 (b 4), .int .i64 (b 5), .int .i64 (b 6), .int .i64 (b 7), .int .i64 (b 8), .int .i64 (b 9), .int .i64 (b 10), .int .i64 (b 11), .int .i64 (b 12), .int .i64 (b 13), .int .i64 (b 14)] 24) = W0 at *
    generalize w.heap.size = B at *
    obtain ⟨k0, k1, k2, k3, k4, k5, k6, k7, k8, k9, k10, k11, k12, k13, k14⟩ := hb.cells
    clear hb
    go_wp2_with (go_at_call 17; refine (pcheck_at b 23 _ (Lib.hid (HT.out.own g0)) HC).mono ?_; rintro e w1 ⟨rfl, hg⟩; replace g0 : Own w w1 := g0.trans hg; clear hg)
    go_ret2
    exact ⟨rfl, g0⟩
set_option maxRecDepth 100000 in
theorem rmass_at (b : Bl) (v c : Int) (w : World) (H : Hid (masV b = v ∧ chk b = c)) :
    Calls Tryd.prog 22 #[.agg #[.int .i64 (b 0), .int .i64 (b 1), .int .i64 (b 2), .int .i64 (b 3), .int .i64 (b 4), .int .i64 (b 5), .int .i64 (b 6), .int .i64 (b 7), .int .i64 (b 8), .int .i64 (b 9), .int .i64 (b 10), .int .i64 (b 11), .int .i64 (b 12), .int .i64 (b 13), .int .i64 (b 14)]] w fun e w' => e = .returned (.tuple #[.int .i64 v, .int .i64 c]) ∧ Own w w' := by
  obtain ⟨h1, h2⟩ := H.out
  have HC := Lib.hid h2
  have hb := Bx.new w b
  have g0 : Own w (w.alloc (.cells #[.int .i64 (b 0), .int .i64 (b 1), .int .i64 (b 2), .int .i64 (b 3), .int .i64 (b 4), .int .i64 (b 5), .int .i64 (b 6), .int .i64 (b 7), .int .i64 (b 8), .int .i64 (b 9), .int .i64 (b 10), .int .i64 (b 11), .int .i64 (b 12), .int .i64 (b 13), .int .i64 (b 14)] 24)) := (Own.refl w).alloc _
  clear H
  by_cases ho : Okb b
  · obtain rfl : 0 = c := by rw [← h2, chk_yes ho]
    have hm := ho.2
    have m0 := hm 0 (by omega)
    have m1 := hm 1 (by omega)
    have m2 := hm 2 (by omega)
    have m3 := hm 3 (by omega)
    simp only [Nat.add_zero, Nat.reduceAdd] at m0 m1 m2 m3
    have HV := Lib.hid (show b 11 + b 12 + 2 * b 13 + 2 * b 14 = v by rw [← h1]; exact (if_pos ho).symm)
    clear h1 h2 ho hm
    go_enter Tryd.func22, Tryd.ntmps22
    go_upto_region 1 with (fail)
    generalize w.alloc (.cells #[.int .i64 (b 0), .int .i64 (b 1), .int .i64 (b 2), .int .i64 (b 3), .int .i64 (b 4), .int .i64 (b 5), .int .i64 (b 6), .int .i64 (b 7), .int .i64 (b 8), .int .i64 (b 9), .int .i64 (b 10), .int .i64 (b 11), .int .i64 (b 12), .int .i64 (b 13), .int .i64 (b 14)] 24) = W0 at *
    generalize w.heap.size = B at *
    have HB := Lib.hid hb
    obtain ⟨k0, k1, k2, k3, k4, k5, k6, k7, k8, k9, k10, k11, k12, k13, k14⟩ := hb.cells
    clear hb
    go_upto_region 4 with (go_at_call 54; refine (rcheck_at b 0 _ HC).mono ?_; rintro e w1 ⟨rfl, hg⟩; replace g0 : Own w w1 := g0.trans hg; replace HB := Lib.hid (HB.out.own hg); clear hg k0 k1 k2 k3 k4 k5 k6 k7 k8 k9 k10 k11 k12 k13 k14; have hb := HB.out; obtain ⟨k0, k1, k2, k3, k4, k5, k6, k7, k8, k9, k10, k11, k12, k13, k14⟩ := hb.cells)
    go_wp2
    go_ret2
    first | exact ⟨ret_two HV.out rfl, g0⟩ | exact ⟨ret_two HV.out rfl, g0.alloc _⟩
  · obtain rfl : 23 = c := by rw [← h2, chk_no ho]
    obtain rfl : 0 = v := by rw [← h1]; exact (if_neg ho).symm
    clear h1 h2 ho
    go_enter Tryd.func22, Tryd.ntmps22
    go_upto_region 1 with (fail)
    generalize w.alloc (.cells #[.int .i64 (b 0), .int .i64 (b 1), .int .i64 (b 2), .int .i64 (b 3), .int .i64 (b 4), .int .i64 (b 5), .int .i64 (b 6), .int .i64 (b 7), .int .i64 (b 8), .int .i64 (b 9), .int .i64 (b 10), .int .i64 (b 11), .int .i64 (b 12), .int .i64 (b 13), .int .i64 (b 14)] 24) = W0 at *
    generalize w.heap.size = B at *
    obtain ⟨k0, k1, k2, k3, k4, k5, k6, k7, k8, k9, k10, k11, k12, k13, k14⟩ := hb.cells
    clear hb
    go_wp2_with (go_at_call 54; refine (rcheck_at b 23 _ HC).mono ?_; rintro e w1 ⟨rfl, hg⟩; replace g0 : Own w w1 := g0.trans hg; clear hg)
    go_ret2
    exact ⟨rfl, g0⟩
end Go.Proofs.YtighpjhipgobiaaDoor.BuiW
