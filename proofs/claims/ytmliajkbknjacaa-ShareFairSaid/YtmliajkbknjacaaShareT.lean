/-
  What the laws ask of the program's package share, and the laws' awake over it. Condition: none.
-/
import Derived.Test.YtmliajkbknjacaaShareC
namespace Go.Proofs.Ytmliajkbknjacaa.ShaW
open Go.ChangeShapes Go.WideShapes Go.ChangeAt Go.RowKit
open PairW CelW MchW ShaP
/-- A number of 64 bits. -/
def I64 (x : Int) : Prop := -9223372036854775808 ≤ x ∧ x ≤ 9223372036854775807
/-- What the laws ask of Split and Stages. -/
structure ShaC : Prop where
  split : ∀ (t : Int) (ws : List Int) (v : Value) (f : Int) (M : List Int) (w : World), I64 t → Hid (∀ x ∈ ws, I64 x) → Hid (Cel w v (cellsI ws)) → Hid (splE t ws = f) → Hid (splV t ws = M) →
    Calls Try.prog 10 #[.int .i64 t, v] w fun e w' => ∃ x, e = .returned (.tuple #[x, .int .i64 f]) ∧ Cel w' x (cellsI M) ∧ Own w w'
  stages : ∀ (t n f : Int) (M : List Int) (w : World), I64 t → I64 n → Hid (staE t n = f) → Hid (staV t n = M) →
    Calls Try.prog 13 #[.int .i64 t, .int .i64 n] w fun e w' => ∃ x, e = .returned (.tuple #[x, .int .i64 f]) ∧ Cel w' x (cellsI M) ∧ Own w w'
theorem gli4 (w : World) (x y z u : Int) : Cel (w.alloc (.cells #[.int .i64 x, .int .i64 y, .int .i64 z, .int .i64 u] 3)) (.slice (some ⟨w.heap.size, 0, none⟩) 4 4) (cellsI [x, y, z, u]) := cel_lit rfl rfl (by unfold maxLen; decide)
theorem gli3 (w : World) (x y z : Int) : Cel (w.alloc (.cells #[.int .i64 x, .int .i64 y, .int .i64 z] 3)) (.slice (some ⟨w.heap.size, 0, none⟩) 3 3) (cellsI [x, y, z]) := cel_lit rfl rfl (by unfold maxLen; decide)
theorem gli2 (w : World) (x y : Int) : Cel (w.alloc (.cells #[.int .i64 x, .int .i64 y] 3)) (.slice (some ⟨w.heap.size, 0, none⟩) 2 2) (cellsI [x, y]) := cel_lit rfl rfl (by unfold maxLen; decide)
theorem gown4 (w : World) (x y z u : Int) : Own w (w.alloc (.cells #[.int .i64 x, .int .i64 y, .int .i64 z, .int .i64 u] 3)) := (Own.refl w).alloc _
theorem gown3 (w : World) (x y z : Int) : Own w (w.alloc (.cells #[.int .i64 x, .int .i64 y, .int .i64 z] 3)) := (Own.refl w).alloc _
theorem gown2 (w : World) (x y : Int) : Own w (w.alloc (.cells #[.int .i64 x, .int .i64 y] 3)) := (Own.refl w).alloc _
theorem i64_all {ws : List Int} (h : ws.all (fun x => decide (-9223372036854775808 ≤ x) && decide (x ≤ 9223372036854775807)) = true) : ∀ x ∈ ws, I64 x := fun x hx => by
  have := List.all_eq_true.1 h x hx
  rw [Bool.and_eq_true, decide_eq_true_eq, decide_eq_true_eq] at this
  exact this
section
variable (S : ShaC)
include S
theorem split_of (t : Int) (ws : List Int) (v : Value) (f : Int) (M : List Int) (w : World) (HC : Hid (Cel w v (cellsI ws))) (h1 : (decide (-9223372036854775808 ≤ t) && decide (t ≤ 9223372036854775807)) = true) (h2 : ws.all (fun x => decide (-9223372036854775808 ≤ x) && decide (x ≤ 9223372036854775807)) = true) (h3 : splE t ws = f) (h4 : splV t ws = M) :
    Calls Try.prog 10 #[.int .i64 t, v] w fun e w' => ∃ x, e = .returned (.tuple #[x, .int .i64 f]) ∧ Cel w' x (cellsI M) ∧ Own w w' := by
  rw [Bool.and_eq_true, decide_eq_true_eq, decide_eq_true_eq] at h1
  exact S.split t ws v f M w h1 (Lib.hid (i64_all h2)) HC (Lib.hid h3) (Lib.hid h4)
theorem ex1 (v : Value) (w : World) (HC : Hid (Cel w v (cellsI [3, 3, 1]))) : Calls Try.prog 10 #[.int .i64 10, v] w fun e w' => ∃ x, e = .returned (.tuple #[x, .int .i64 0]) ∧ Cel w' x (cellsI [4, 4, 2]) ∧ Own w w' := split_of S 10 [3, 3, 1] v 0 [4, 4, 2] w HC (by decide) (by decide) (by decide +kernel) (by decide +kernel)
theorem ex2 (v : Value) (w : World) (HC : Hid (Cel w v (cellsI [1, 1, 1]))) : Calls Try.prog 10 #[.int .i64 1000, v] w fun e w' => ∃ x, e = .returned (.tuple #[x, .int .i64 0]) ∧ Cel w' x (cellsI [334, 333, 333]) ∧ Own w w' := split_of S 1000 [1, 1, 1] v 0 [334, 333, 333] w HC (by decide) (by decide) (by decide +kernel) (by decide +kernel)
theorem ex3 (v : Value) (w : World) (HC : Hid (Cel w v (cellsI [0, 5]))) : Calls Try.prog 10 #[.int .i64 0, v] w fun e w' => ∃ x, e = .returned (.tuple #[x, .int .i64 0]) ∧ Cel w' x (cellsI [0, 0]) ∧ Own w w' := split_of S 0 [0, 5] v 0 [0, 0] w HC (by decide) (by decide) (by decide +kernel) (by decide +kernel)
theorem ex4 (v : Value) (w : World) (HC : Hid (Cel w v (cellsI [0, 0]))) : Calls Try.prog 10 #[.int .i64 5, v] w fun e w' => ∃ x, e = .returned (.tuple #[x, .int .i64 11]) ∧ Cel w' x (cellsI []) ∧ Own w w' := split_of S 5 [0, 0] v 11 [] w HC (by decide) (by decide) (by decide +kernel) (by decide +kernel)
theorem ex5 (w : World) : Calls Try.prog 13 #[.int .i64 10, .int .i64 4] w fun e w' => ∃ x, e = .returned (.tuple #[x, .int .i64 0]) ∧ Cel w' x (cellsI [2, 3, 2, 3]) ∧ Own w w' := S.stages 10 4 0 [2, 3, 2, 3] w (by unfold I64; omega) (by unfold I64; omega) (Lib.hid (by decide +kernel)) (Lib.hid (by decide +kernel))
set_option maxRecDepth 100000 in
set_option maxHeartbeats 4000000 in
theorem awake_at (w : World) :
    Calls Try.prog 9 #[] w fun e w' => e = .returned (.bool true) ∧ Own w w' := by
  have L1 := Lib.hid (gli3 w 3 3 1)
  go_enter Try.func9, Try.ntmps9
  go_upto_region 2 with (go_at_call 10; with_reducible refine (ex1 S _ _ L1).mono ?_; rintro e w1 ⟨x1, rfl, c1, q1⟩; have C1 := Lib.hid c1; have Q1 := Lib.hid ((gown3 w 3 3 1).trans q1); clear c1 q1)
  have L2 := Lib.hid (gli3 w1 1 1 1)
  go_upto_region 3 with (go_at_call 10; with_reducible refine (ex2 S _ _ L2).mono ?_; rintro e w2 ⟨x2, rfl, c2, q2⟩; have C2 := Lib.hid c2; have Q2 := Lib.hid ((gown3 w1 1 1 1).trans q2); clear c2 q2)
  have L3 := Lib.hid (gli2 w2 0 5)
  go_upto_region 4 with (go_at_call 10; with_reducible refine (ex3 S _ _ L3).mono ?_; rintro e w3 ⟨x3, rfl, c3, q3⟩; have C3 := Lib.hid c3; have Q3 := Lib.hid ((gown2 w2 0 5).trans q3); clear c3 q3)
  have L4 := Lib.hid (gli2 w3 0 0)
  go_upto_region 5 with (go_at_call 10; with_reducible refine (ex4 S _ _ L4).mono ?_; rintro e w4 ⟨x4, rfl, c4, q4⟩; have Q4 := Lib.hid ((gown2 w3 0 0).trans q4); clear c4 q4)
  go_upto_region 6 with (go_at_call 13; with_reducible refine (ex5 S _).mono ?_; rintro e w5 ⟨x5, rfl, c5, q5⟩; have C5 := Lib.hid c5; have Q5 := Lib.hid q5; clear c5 q5)
  have A1 := Lib.hid (C1.out.own ((((Q2.out.trans Q3.out).trans Q4.out).trans Q5.out).trans (gown3 w5 4 4 2)))
  have B1 := Lib.hid (gli3 w5 4 4 2)
  have HA2 := Lib.hid (fun w6 (q : Own w5 w6) => Lib.hid (C2.out.own (((Q3.out.trans Q4.out).trans Q5.out).trans (q.trans (gown3 w6 334 333 333)))))
  have HA3 := Lib.hid (fun w6 (q : Own w5 w6) => Lib.hid (C3.out.own ((Q4.out.trans Q5.out).trans (q.trans (gown2 w6 0 0)))))
  have HA5 := Lib.hid (fun w6 (q : Own w5 w6) => Lib.hid (C5.out.own (q.trans (gown4 w6 2 3 2 3))))
  go_wp2_with (first
    | (go_at_call 12; with_reducible refine (rsame_yes [4, 4, 2] _ _ _ A1 B1).mono ?_; rintro e w6 ⟨rfl, q6⟩; have Q6 := Lib.hid ((gown3 w5 4 4 2).trans q6); have A2 := HA2.out w6 Q6.out; have B2 := Lib.hid (gli3 w6 334 333 333); clear q6)
    | (go_at_call 12; with_reducible refine (rsame_yes [334, 333, 333] _ _ _ A2 B2).mono ?_; rintro e w7 ⟨rfl, q7⟩; have Q7 := Lib.hid ((Q6.out.trans (gown3 w6 334 333 333)).trans q7); have A3 := HA3.out w7 Q7.out; have B3 := Lib.hid (gli2 w7 0 0); clear q7)
    | (go_at_call 12; with_reducible refine (rsame_yes [0, 0] _ _ _ A3 B3).mono ?_; rintro e w8 ⟨rfl, q8⟩; have Q8 := Lib.hid ((Q7.out.trans (gown2 w7 0 0)).trans q8); have A5 := HA5.out w8 Q8.out; have B5 := Lib.hid (gli4 w8 2 3 2 3); clear q8)
    | (go_at_call 12; with_reducible refine (rsame_yes [2, 3, 2, 3] _ _ _ A5 B5).mono ?_; rintro e w9 ⟨rfl, q9⟩; have Q9 := Lib.hid ((Q8.out.trans (gown4 w8 2 3 2 3)).trans q9); clear q9))
  go_ret
  exact ⟨rfl, ((((Q1.out.trans Q2.out).trans Q3.out).trans Q4.out).trans Q5.out).trans Q9.out⟩
end
end Go.Proofs.Ytmliajkbknjacaa.ShaW
