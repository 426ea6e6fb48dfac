/-
  Package assign: the laws' awake, over what the laws ask of the program. Condition: none.
-/
import Derived.Test.YtfhdoeajoeaddaaAssignV
namespace Go.Proofs.Ytfhdoeajoeaddaa.AsgW
open Go.ChangeShapes Go.WideShapes Go.ChangeAt Go.RowKit
open PairW CelW TabW MchW AsgP
theorem glit3 (w : World) (a b c : Array Value) (r0 r1 r2 : List Int) (k0 k1 k2 : Nat) (T T' : TypeId) (ha : a.toList = cellsI r0) (hb : b.toList = cellsI r1) (hc : c.toList = cellsI r2) (h0 : r0.length = k0) (h1 : r1.length = k1) (h2 : r2.length = k2) (m0 : k0 ≤ maxLen) (m1 : k1 ≤ maxLen) (m2 : k2 ≤ maxLen) :
    Cels ((((w.alloc (.cells a T)).alloc (.cells b T)).alloc (.cells c T)).alloc (.cells #[.slice (some ⟨w.heap.size, 0, none⟩) k0 k0, .slice (some ⟨w.heap.size + 1, 0, none⟩) k1 k1, .slice (some ⟨w.heap.size + 1 + 1, 0, none⟩) k2 k2] T')) (.slice (some ⟨w.heap.size + 1 + 1 + 1, 0, none⟩) 3 3) (cellsG [r0, r1, r2]) := by
  have c0 : Cel (w.alloc (.cells a T)) (.slice (some ⟨w.heap.size, 0, none⟩) k0 k0) (cellsI r0) := cel_lit ha ((cellsI_len r0).trans h0) m0
  have e1 : (w.alloc (.cells a T)).heap.size = w.heap.size + 1 := by go_simp
  have c1 : Cel ((w.alloc (.cells a T)).alloc (.cells b T)) (.slice (some ⟨w.heap.size + 1, 0, none⟩) k1 k1) (cellsI r1) := by rw [← e1]; exact cel_lit hb ((cellsI_len r1).trans h1) m1
  have e2 : ((w.alloc (.cells a T)).alloc (.cells b T)).heap.size = w.heap.size + 1 + 1 := by go_simp
  have c2 : Cel (((w.alloc (.cells a T)).alloc (.cells b T)).alloc (.cells c T)) (.slice (some ⟨w.heap.size + 1 + 1, 0, none⟩) k2 k2) (cellsI r2) := by rw [← e2]; exact cel_lit hc ((cellsI_len r2).trans h2) m2
  have e3 : (((w.alloc (.cells a T)).alloc (.cells b T)).alloc (.cells c T)).heap.size = w.heap.size + 1 + 1 + 1 := by go_simp
  refine ⟨[.slice (some ⟨w.heap.size, 0, none⟩) k0 k0, .slice (some ⟨w.heap.size + 1, 0, none⟩) k1 k1, .slice (some ⟨w.heap.size + 1 + 1, 0, none⟩) k2 k2], rfl, ?_, fun i xs u hx hu => ?_⟩
  · rw [← e3]
    exact cel_lit rfl rfl (by unfold maxLen; decide)
  · match i, hx, hu with
    | 0, hx, hu => injection hx with hx; injection hu with hu; rw [← hx, ← hu]; exact c0.own ((((Own.refl _).alloc _).alloc _).alloc _)
    | 1, hx, hu => injection hx with hx; injection hu with hu; rw [← hx, ← hu]; exact c1.own (((Own.refl _).alloc _).alloc _)
    | 2, hx, hu => injection hx with hx; injection hu with hu; rw [← hx, ← hu]; exact c2.own ((Own.refl _).alloc _)
theorem glit2 (w : World) (a b : Array Value) (r0 r1 : List Int) (k0 k1 : Nat) (T T' : TypeId) (ha : a.toList = cellsI r0) (hb : b.toList = cellsI r1) (h0 : r0.length = k0) (h1 : r1.length = k1) (m0 : k0 ≤ maxLen) (m1 : k1 ≤ maxLen) :
    Cels (((w.alloc (.cells a T)).alloc (.cells b T)).alloc (.cells #[.slice (some ⟨w.heap.size, 0, none⟩) k0 k0, .slice (some ⟨w.heap.size + 1, 0, none⟩) k1 k1] T')) (.slice (some ⟨w.heap.size + 1 + 1, 0, none⟩) 2 2) (cellsG [r0, r1]) := by
  have c0 : Cel (w.alloc (.cells a T)) (.slice (some ⟨w.heap.size, 0, none⟩) k0 k0) (cellsI r0) := cel_lit ha ((cellsI_len r0).trans h0) m0
  have e1 : (w.alloc (.cells a T)).heap.size = w.heap.size + 1 := by go_simp
  have c1 : Cel ((w.alloc (.cells a T)).alloc (.cells b T)) (.slice (some ⟨w.heap.size + 1, 0, none⟩) k1 k1) (cellsI r1) := by rw [← e1]; exact cel_lit hb ((cellsI_len r1).trans h1) m1
  have e2 : ((w.alloc (.cells a T)).alloc (.cells b T)).heap.size = w.heap.size + 1 + 1 := by go_simp
  refine ⟨[.slice (some ⟨w.heap.size, 0, none⟩) k0 k0, .slice (some ⟨w.heap.size + 1, 0, none⟩) k1 k1], rfl, ?_, fun i xs u hx hu => ?_⟩
  · rw [← e2]
    exact cel_lit rfl rfl (by unfold maxLen; decide)
  · match i, hx, hu with
    | 0, hx, hu => injection hx with hx; injection hu with hu; rw [← hx, ← hu]; exact c0.own (((Own.refl _).alloc _).alloc _)
    | 1, hx, hu => injection hx with hx; injection hu with hu; rw [← hx, ← hu]; exact c1.own ((Own.refl _).alloc _)
theorem gnew3 (w : World) : ∃ W0, ((((w.alloc (.cells #[.int .i64 4, .int .i64 1, .int .i64 3] 3)).alloc (.cells #[.int .i64 2, .int .i64 0, .int .i64 5] 3)).alloc (.cells #[.int .i64 3, .int .i64 2, .int .i64 2] 3)).alloc (.cells #[.slice (some ⟨w.heap.size, 0, none⟩) 3 3, .slice (some ⟨w.heap.size + 1, 0, none⟩) 3 3, .slice (some ⟨w.heap.size + 1 + 1, 0, none⟩) 3 3] 23)) = W0 ∧ Cels W0 (.slice (some ⟨w.heap.size + 1 + 1 + 1, 0, none⟩) 3 3) (cellsG tA) ∧ Own w W0 :=
  ⟨_, rfl, glit3 w _ _ _ _ _ _ 3 3 3 _ _ rfl rfl rfl rfl rfl rfl (by unfold maxLen; decide) (by unfold maxLen; decide) (by unfold maxLen; decide), ((((Own.refl _).alloc _).alloc _).alloc _).alloc _⟩
theorem glitB (w : World) : Cels (((w.alloc (.cells #[.int .i64 1, .int .i64 1] 3)).alloc (.cells #[.int .i64 1, .int .i64 1] 3)).alloc (.cells #[.slice (some ⟨w.heap.size, 0, none⟩) 2 2, .slice (some ⟨w.heap.size + 1, 0, none⟩) 2 2] 23)) (.slice (some ⟨w.heap.size + 1 + 1, 0, none⟩) 2 2) (cellsG tB) :=
  glit2 w _ _ _ _ 2 2 _ _ rfl rfl rfl rfl (by unfold maxLen; decide) (by unfold maxLen; decide)
theorem gownB (w : World) : Own w (((w.alloc (.cells #[.int .i64 1, .int .i64 1] 3)).alloc (.cells #[.int .i64 1, .int .i64 1] 3)).alloc (.cells #[.slice (some ⟨w.heap.size, 0, none⟩) 2 2, .slice (some ⟨w.heap.size + 1, 0, none⟩) 2 2] 23)) := (((Own.refl w).alloc _).alloc _).alloc _
theorem glitC (w : World) : Cels (((w.alloc (.cells #[.int .i64 (-1), .int .i64 2] 3)).alloc (.cells #[.int .i64 3] 3)).alloc (.cells #[.slice (some ⟨w.heap.size, 0, none⟩) 2 2, .slice (some ⟨w.heap.size + 1, 0, none⟩) 1 1] 23)) (.slice (some ⟨w.heap.size + 1 + 1, 0, none⟩) 2 2) (cellsG tC) :=
  glit2 w _ _ _ _ 2 1 _ _ rfl rfl rfl rfl (by unfold maxLen; decide) (by unfold maxLen; decide)
theorem gownC (w : World) : Own w (((w.alloc (.cells #[.int .i64 (-1), .int .i64 2] 3)).alloc (.cells #[.int .i64 3] 3)).alloc (.cells #[.slice (some ⟨w.heap.size, 0, none⟩) 2 2, .slice (some ⟨w.heap.size + 1, 0, none⟩) 1 1] 23)) := (((Own.refl w).alloc _).alloc _).alloc _
theorem gli3 (w : World) (x y z : Int) : Cel (w.alloc (.cells #[.int .i64 x, .int .i64 y, .int .i64 z] 3)) (.slice (some ⟨w.heap.size, 0, none⟩) 3 3) (cellsI [x, y, z]) := cel_lit rfl rfl (by unfold maxLen; decide)
theorem gli2 (w : World) (x y : Int) : Cel (w.alloc (.cells #[.int .i64 x, .int .i64 y] 3)) (.slice (some ⟨w.heap.size, 0, none⟩) 2 2) (cellsI [x, y]) := cel_lit rfl rfl (by unfold maxLen; decide)
theorem gown3 (w : World) (x y z : Int) : Own w (w.alloc (.cells #[.int .i64 x, .int .i64 y, .int .i64 z] 3)) := (Own.refl w).alloc _
theorem gown2 (w : World) (x y : Int) : Own w (w.alloc (.cells #[.int .i64 x, .int .i64 y] 3)) := (Own.refl w).alloc _
section
variable (A : AsgC)
include A
theorem solve_tA (v : Value) (w : World) (HT : Hid (Cels w v (cellsG tA))) : Calls Try.prog 14 #[v] w fun e w' => ∃ x, e = .returned (.tuple #[x, .int .i64 5, .int .i64 0]) ∧ Cel w' x (cellsI [1, 0, 2]) ∧ Own w w' := by
  refine (A.solve tA v 0 w HT (Lib.hid chk_tA)).mono ?_
  rintro e w' ⟨x, M, m, rfl, h1, h2, h3, _⟩
  obtain ⟨rfl, rfl⟩ := (h3 rfl).uniq bst_tA
  exact ⟨x, rfl, h1, h2⟩
theorem solve_tB (v : Value) (w : World) (HT : Hid (Cels w v (cellsG tB))) : Calls Try.prog 14 #[v] w fun e w' => ∃ x, e = .returned (.tuple #[x, .int .i64 2, .int .i64 0]) ∧ Cel w' x (cellsI [0, 1]) ∧ Own w w' := by
  refine (A.solve tB v 0 w HT (Lib.hid chk_tB)).mono ?_
  rintro e w' ⟨x, M, m, rfl, h1, h2, h3, _⟩
  obtain ⟨rfl, rfl⟩ := (h3 rfl).uniq bst_tB
  exact ⟨x, rfl, h1, h2⟩
theorem cost_a (v vl : Value) (w : World) (HT : Hid (Cels w v (cellsG tA))) (HL : Hid (Cel w vl (cellsI [0, 1, 2]))) : Calls Try.prog 16 #[v, vl] w fun e w' => e = .returned (.tuple #[.int .i64 6, .int .i64 0]) ∧ Own w w' := A.cost tA [0, 1, 2] v vl 6 0 w HT HL (Lib.hid cost_tA.1) (Lib.hid cost_tA.2)
theorem cost_b (v vl : Value) (w : World) (HT : Hid (Cels w v (cellsG tA))) (HL : Hid (Cel w vl (cellsI [0, 0, 2]))) : Calls Try.prog 16 #[v, vl] w fun e w' => e = .returned (.tuple #[.int .i64 0, .int .i64 2]) ∧ Own w w' := A.cost tA [0, 0, 2] v vl 0 2 w HT HL (Lib.hid (by decide)) (Lib.hid form_tA)
theorem check_c (v : Value) (w : World) (HT : Hid (Cels w v (cellsG tC))) : Calls Try.prog 12 #[v] w fun e w' => e = .returned (.int .i64 2) ∧ Own w w' := A.check tC v 2 w HT (Lib.hid chk_tC)
set_option maxRecDepth 100000 in
set_option maxHeartbeats 4000000 in
theorem awake_at (w : World) :
    Calls Try.prog 13 #[] w fun e w' => e = .returned (.bool true) ∧ Own w w' := by
  go_enter Try.func13, Try.ntmps13
  go_upto_region 2 with (fail)
  obtain ⟨w1, hw1, c1, q1⟩ := gnew3 w
  rw [hw1]
  clear hw1
  obtain ⟨v3, hv3⟩ : ∃ v, Value.slice (some ⟨w.heap.size + 1 + 1 + 1, 0, none⟩) 3 3 = v := ⟨_, rfl⟩
  rw [hv3] at c1
  rw [hv3]
  have HT1 := Lib.hid c1
  have HQ1 := Lib.hid q1
  clear hv3 c1 q1
  go_upto_region 3 with (go_at_call 14; with_reducible refine (solve_tA A _ _ HT1).mono ?_; rintro e w2 ⟨x, rfl, cx, q2⟩; have HX2 := Lib.hid cx; have HQ2 := Lib.hid (HQ1.out.trans q2); have HT2 := Lib.hid (HT1.out.own q2); clear cx q2)
  have H3a := Lib.hid (HX2.out.own (gown3 w2 1 0 2))
  have H3b := Lib.hid (gli3 w2 1 0 2)
  go_upto_region 5 with (go_at_call 18; with_reducible refine (same_yes [1, 0, 2] _ _ _ H3a H3b).mono ?_; rintro e w3 ⟨rfl, q3⟩; have HQ3 := Lib.hid ((HQ2.out.trans (gown3 w2 1 0 2)).trans q3); have HT3 := Lib.hid (HT2.out.own ((gown3 w2 1 0 2).trans q3)); clear q3)
  have H5a := Lib.hid (HT3.out.own (gown3 w3 0 1 2))
  have H5b := Lib.hid (gli3 w3 0 1 2)
  go_upto_region 6 with (go_at_call 16; with_reducible refine (cost_a A _ _ _ H5a H5b).mono ?_; rintro e w4 ⟨rfl, q4⟩; have HQ4 := Lib.hid ((HQ3.out.trans (gown3 w3 0 1 2)).trans q4); have HT4 := Lib.hid (HT3.out.own ((gown3 w3 0 1 2).trans q4)); clear q4)
  have H6a := Lib.hid (HT4.out.own (gown3 w4 0 0 2))
  have H6b := Lib.hid (gli3 w4 0 0 2)
  go_upto_region 7 with (go_at_call 16; with_reducible refine (cost_b A _ _ _ H6a H6b).mono ?_; rintro e w5 ⟨rfl, q5⟩; have HQ5 := Lib.hid ((HQ4.out.trans (gown3 w4 0 0 2)).trans q5); have HT5 := Lib.hid (HT4.out.own ((gown3 w4 0 0 2).trans q5)); clear q5)
  have H7 := Lib.hid (glitB w5)
  go_upto_region 8 with (go_at_call 14; with_reducible refine (solve_tB A _ _ H7).mono ?_; rintro e w6 ⟨y, rfl, cy, q6⟩; have HY6 := Lib.hid cy; have HQ6 := Lib.hid ((HQ5.out.trans (gownB w5)).trans q6); have HT6 := Lib.hid (HT5.out.own ((gownB w5).trans q6)); clear cy q6)
  have H8a := Lib.hid (HY6.out.own (gown2 w6 0 1))
  have H8b := Lib.hid (gli2 w6 0 1)
  have H8c := Lib.hid (fun wx => glitC wx)
  have HFT := Lib.hid (fun wx (q : Own w6 wx) => Lib.hid (HT6.out.own q))
  have HK := Lib.hid chk_tA
  go_wp2_with (first
    | (go_at_call 18; with_reducible refine (same_yes [0, 1] _ _ _ H8a H8b).mono ?_; rintro e w7 ⟨rfl, q7⟩; have HQ7 := Lib.hid ((gown2 w6 0 1).trans q7); clear q7)
    | (go_at_call 12; refine (check_c A _ _ (Lib.hid (H8c.out w7))).mono ?_; rintro e w8 ⟨rfl, q8⟩; have HQ8 := Lib.hid ((HQ7.out.trans (gownC w7)).trans q8); clear q8)
    | (go_at_call 20; refine (proves_yes A tA _ w8 (HFT.out w8 HQ8.out) HK).mono ?_; rintro e w9 ⟨rfl, q9⟩; have HQ9 := Lib.hid (HQ8.out.trans q9); clear q9))
  go_ret
  exact ⟨rfl, HQ6.out.trans HQ9.out⟩
end
end Go.Proofs.Ytfhdoeajoeaddaa.AsgW
