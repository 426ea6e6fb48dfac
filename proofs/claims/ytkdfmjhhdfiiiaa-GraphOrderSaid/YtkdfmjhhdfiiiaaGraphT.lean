/-
  Package graph: the laws' awake. Condition: none.
-/
import Derived.Test.YtkdfmjhhdfiiiaaGraphS
namespace Go.Proofs.Ytkdfmjhhdfiiiaa.GraW
open Go.ChangeShapes Go.WideShapes Go.ChangeAt Go.RowKit
open PairW CelW GraP TabW RowA
def smA : List Ar := smp ++ [(0, 1)]
def smB : List Ar := smp ++ [(5, 0)]
theorem lit_l (w : World) : Cel (w.alloc (.cells #[.int .i64 2, .int .i64 3, .int .i64 1, .int .i64 0, .int .i64 4] 3)) (.slice (some ⟨w.heap.size, 0, none⟩) 5 5) (cellsI (ints [2, 3, 1, 0, 4])) := cel_lit rfl rfl (by unfold maxLen; decide)
theorem lit_r (w : World) : Cel (w.alloc (.cells #[.bool true, .bool true, .bool false, .bool true, .bool false] 4)) (.slice (some ⟨w.heap.size, 0, none⟩) 5 5) (cellsT [true, true, false, true, false]) := cel_lit rfl rfl (by unfold maxLen; decide)
theorem lit_p (w : World) : Cel (w.alloc (.cells #[.int .i64 3, .int .i64 0] 3)) (.slice (some ⟨w.heap.size, 0, none⟩) 2 2) (cellsI (ints [3, 0])) := cel_lit rfl rfl (by unfold maxLen; decide)
theorem lit_c (w : World) : Cel (w.alloc (.cells #[.int .i64 0, .int .i64 1] 3)) (.slice (some ⟨w.heap.size, 0, none⟩) 2 2) (cellsI (ints [0, 1])) := cel_lit rfl rfl (by unfold maxLen; decide)
theorem lit_d (w : World) : Cel (w.alloc (.cells #[.int .i64 4] 3)) (.slice (some ⟨w.heap.size, 0, none⟩) 1 1) (cellsI (ints [4])) := cel_lit rfl rfl (by unfold maxLen; decide)
theorem pts_lit (w : World) (l : List Ar) (cs : Array Value) (n : Nat) (hl : l.length = n) (hc : cs.toList = cellsP l) (hn : n ≤ 1000) : Pts (w.alloc (.cells cs 46)) (.slice (some ⟨w.heap.size, 0, none⟩) n n) l := by
  have hs : cs.size = n * 2 := by rw [← Array.length_toList, hc, cellsP_len, hl]
  have h := own_lit w cs 46 n hs hn
  rw [hc] at h
  subst hl
  exact pts_of_row h
theorem lit_a (w : World) : Pts (w.alloc (.cells #[.int .i64 0, .int .i64 1] 46)) (.slice (some ⟨w.heap.size, 0, none⟩) 1 1) [(0, 1)] := pts_lit w _ _ 1 rfl rfl (by omega)
theorem lit_b (w : World) : Pts (w.alloc (.cells #[.int .i64 5, .int .i64 0] 46)) (.slice (some ⟨w.heap.size, 0, none⟩) 1 1) [(5, 0)] := pts_lit w _ _ 1 rfl rfl (by omega)
theorem lit_e (w : World) : Pts (w.alloc (.cells #[.int .i64 2, .int .i64 1, .int .i64 1, .int .i64 0] 46)) (.slice (some ⟨w.heap.size, 0, none⟩) 2 2) [(2, 1), (1, 0)] := pts_lit w _ _ 2 rfl rfl (by omega)
theorem lit_f (w : World) : Pts (w.alloc (.cells #[.int .i64 1, .int .i64 0, .int .i64 2, .int .i64 0, .int .i64 2, .int .i64 1] 46)) (.slice (some ⟨w.heap.size, 0, none⟩) 3 3) [(1, 0), (2, 0), (2, 1)] := pts_lit w _ _ 3 rfl rfl (by omega)
theorem par_open {w : World} {v : Value} (h : Cels w v (cellsL [[0, 1], [2], [3], [4]])) : ∃ g off cap u0 u3, v = .slice (some ⟨g, off, none⟩) 4 cap ∧ 4 ≤ cap ∧ cap ≤ maxLen ∧ w.cell? ⟨g, off, none⟩ = some u0 ∧ w.cell? ⟨g, off + 3, none⟩ = some u3 ∧ Cel w u0 (cellsI (ints [0, 1])) ∧ Cel w u3 (cellsI (ints [4])) := by
  obtain ⟨A, cap, rfl, h1, h2, h3⟩ := cels_open h
  obtain ⟨g, off, rfl, h4⟩ := h3 (by decide)
  obtain ⟨u0, a0, b0⟩ := h4 0 _ rfl
  obtain ⟨u3, a3, b3⟩ := h4 3 _ rfl
  exact ⟨g, off, cap, u0, u3, rfl, h1, h2, a0, a3, b0, b3⟩
theorem slice3 {w : World} {v : Value} {a b c : Ar} (h : Pts w v [a, b, c]) : ∃ A k, v = .slice A 3 k := by
  obtain ⟨A, k, e, _⟩ := h.open
  exact ⟨A, k, e⟩
set_option maxRecDepth 100000 in
set_option maxHeartbeats 4000000 in
theorem awake_at (w : World) :
    Calls Try.prog 13 #[] w fun e w' => e = .returned (.bool true) ∧ Own w w' := by
  have HS0 := Lib.hid (show smp ++ [] = smp from rfl)
  have HL0 := Lib.hid (show ([] : List Ar).length ≤ 4 by decide)
  have HN := Lib.hid (fun (w : World) => pts_nil w)
  have HE1 := Lib.hid ex_ord
  have HE2 := Lib.hid ex_rea
  have HE3 := Lib.hid ex_pth
  have HE4 := Lib.hid ex_no
  have HE5 := Lib.hid (show ordE 5 smA = 15 ∧ ordV 5 smA = [] from ex_cyc)
  have HE6 := Lib.hid (show chkE 5 smA = 0 ∧ parW 5 smA = [[0, 1], [2], [3], [4]] from ex_par)
  have HE7 := Lib.hid ex_clo
  have HE8 := Lib.hid (show chkE 5 smB = 6 from ex_chk)
  go_enter Try.func13, Try.ntmps13
  go_upto_region 2 with (first
    | (go_at_call 31; with_reducible refine (sample_at [] smp _ _ (Lib.hid (HN.out _)) HS0 HL0.out).mono ?_; rintro e wa ⟨sv, rfl, hp, qa⟩; have HPA := Lib.hid hp; clear hp)
    | (go_at_call 15; with_reducible refine (porder_at 5 smp _ 0 [2, 3, 1, 0, 4] _ HPA HE1).mono ?_; rintro e w1 ⟨v1, rfl, h1, q1⟩; have HC1 := Lib.hid (cel_of_row h1); have HQ1 := Lib.hid (qa.trans q1); clear h1 qa q1))
  clear HPA
  go_upto_region 3 with (first
    | (go_at_call 31; with_reducible refine (sample_at [] smp _ _ (Lib.hid (HN.out _)) HS0 HL0.out).mono ?_; rintro e wa ⟨sv, rfl, hp, qa⟩; have HPA := Lib.hid hp; clear hp)
    | (go_at_call 18; with_reducible refine (preach_at 5 3 smp _ 0 [true, true, false, true, false] _ HPA HE2).mono ?_; rintro e w2 ⟨v2, rfl, h2, q2⟩; have HC2 := Lib.hid (cel_of_row h2); have HQ2 := Lib.hid (qa.trans q2); clear h2 qa q2))
  clear HPA
  go_upto_region 4 with (first
    | (go_at_call 31; with_reducible refine (sample_at [] smp _ _ (Lib.hid (HN.out _)) HS0 HL0.out).mono ?_; rintro e wa ⟨sv, rfl, hp, qa⟩; have HPA := Lib.hid hp; clear hp)
    | (go_at_call 20; with_reducible refine (ppath_at 5 3 0 smp _ 0 [3, 0] _ HPA HE3).mono ?_; rintro e w3 ⟨v3, rfl, h3, q3⟩; have HC3 := Lib.hid (cel_of_row h3); have HQ3 := Lib.hid (qa.trans q3); clear h3 qa q3))
  clear HPA
  go_upto_region 5 with (first
    | (go_at_call 31; with_reducible refine (sample_at [] smp _ _ (Lib.hid (HN.out _)) HS0 HL0.out).mono ?_; rintro e wa ⟨sv, rfl, hp, qa⟩; have HPA := Lib.hid hp; clear hp)
    | (go_at_call 20; with_reducible refine (ppath_at 5 0 3 smp _ 6 [] _ HPA HE4).mono ?_; rintro e w4 ⟨v4, rfl, _, q4⟩; have HQ4 := Lib.hid (qa.trans q4); clear qa q4))
  clear HPA
  have HB1 := Lib.hid (fun w5 (q : Own w4 w5) => HC1.out.own (((HQ2.out.trans HQ3.out).trans HQ4.out).trans q))
  have HB2 := Lib.hid (fun w5 (q : Own w4 w5) => HC2.out.own ((HQ3.out.trans HQ4.out).trans q))
  have HB3 := Lib.hid (fun w5 (q : Own w4 w5) => HC3.out.own (HQ4.out.trans q))
  have HLL := Lib.hid (fun (w : World) => lit_l w)
  have HLR := Lib.hid (fun (w : World) => lit_r w)
  have HLP := Lib.hid (fun (w : World) => lit_p w)
  go_upto_region 7 with (first
    | (go_at_call 17; with_reducible refine (rints_yes (ints [2, 3, 1, 0, 4]) _ _ _ (Lib.hid (HB1.out _ ((Own.refl _).alloc _))) (Lib.hid (HLL.out _))).mono ?_; rintro e w5 ⟨rfl, q5⟩; have HQ5 := Lib.hid (((Own.refl _).alloc _).trans q5); clear q5)
    | (go_at_call 22; with_reducible refine (rbools_yes [true, true, false, true, false] _ _ _ (Lib.hid (HB2.out _ (HQ5.out.alloc _))) (Lib.hid (HLR.out _))).mono ?_; rintro e w6 ⟨rfl, q6⟩; have HQ6 := Lib.hid ((HQ5.out.alloc _).trans q6); clear q6)
    | (go_at_call 17; with_reducible refine (rints_yes (ints [3, 0]) _ _ _ (Lib.hid (HB3.out _ (HQ6.out.alloc _))) (Lib.hid (HLP.out _))).mono ?_; rintro e w7 ⟨rfl, q7⟩; have HQ7 := Lib.hid ((HQ6.out.alloc _).trans q7); clear q7))
  have HQA := Lib.hid ((((HQ1.out.trans HQ2.out).trans HQ3.out).trans HQ4.out).trans HQ7.out)
  clear HB1 HB2 HB3 HLL HLR HLP HC1 HC2 HC3 HQ1 HQ2 HQ3 HQ4 HQ5 HQ6 HQ7 HE1 HE2 HE3 HE4 HS0 HL0 HN
  have HS1 := Lib.hid (show smp ++ [(0, 1)] = smA from rfl)
  have HL1 := Lib.hid (show ([((0 : Int), (1 : Int))] : List Ar).length ≤ 4 by decide)
  have HLA := Lib.hid (fun (w : World) => lit_a w)
  have HLE := Lib.hid (fun (w : World) => lit_e w)
  go_upto_region 8 with (first
    | (go_at_call 31; with_reducible refine (sample_at [(0, 1)] smA _ _ (Lib.hid (HLA.out _)) HS1 HL1.out).mono ?_; rintro e wa ⟨sv, rfl, hp, qa⟩; have HPA := Lib.hid hp; have HQB := Lib.hid ((HQA.out.alloc _).trans qa); clear hp qa)
    | (go_at_call 15; with_reducible refine (porder_at 5 smA _ 15 [] _ HPA HE5).mono ?_; rintro e w8 ⟨v8, rfl, _, q8⟩; have HQ8 := Lib.hid (HQB.out.trans q8); clear q8))
  clear HPA HQB
  go_upto_region 9 with (first
    | (go_at_call 31; with_reducible refine (sample_at [(0, 1)] smA _ _ (Lib.hid (HLA.out _)) HS1 HL1.out).mono ?_; rintro e wa ⟨sv, rfl, hp, qa⟩; have HPA := Lib.hid hp; have HQB := Lib.hid ((HQ8.out.alloc _).trans qa); clear hp qa)
    | (go_at_call 23; with_reducible refine (pparts_at 5 smA _ 0 [[0, 1], [2], [3], [4]] _ HPA HE6).mono ?_; rintro e w9 ⟨v9, vs9, rfl, ht9, q9⟩; have HQ9 := Lib.hid (HQB.out.trans q9); have HP9 := Lib.hid (par_open ht9.cels); clear q9 ht9))
  clear HPA HQB
  obtain ⟨gp, op, cp, u0, u3, rfl, b1, b2, c0, c3, d0, d3⟩ := HP9.out
  unfold maxLen at b2
  go_upto_region 10 with (go_at_call 25; with_reducible refine (pclose_at 3 [(2, 1), (1, 0)] _ 0 3 [(1, 0), (2, 0), (2, 1)] _ (Lib.hid (HLE.out _)) HE7).mono ?_; rintro e w10 ⟨v10, rfl, hp10, q10⟩; obtain ⟨A10, c10, rfl⟩ := slice3 hp10; have HP10 := Lib.hid hp10; have HQ10 := Lib.hid (((Own.refl _).alloc _).trans q10); clear hp10 q10)
  have k0 : (w10.alloc (.cells #[.int .i64 3, .slice A10 3 c10] 24)).cell? ⟨w10.heap.size, 0, none⟩ = some (.int .i64 3) := by go_simp
  have k1 : (w10.alloc (.cells #[.int .i64 3, .slice A10 3 c10] 24)).cell? ⟨w10.heap.size, 1, none⟩ = some (.slice A10 3 c10) := by go_simp
  have q11 := HQ10.out.alloc (.cells #[.int .i64 3, .slice A10 3 c10] 24)
  have HP11 := Lib.hid (HP10.out.own ((Own.refl w10).alloc (.cells #[.int .i64 3, .slice A10 3 c10] 24)))
  obtain ⟨B, hB⟩ : ∃ B, w10.heap.size = B := ⟨_, rfl⟩
  rw [hB] at k0 k1 ⊢
  generalize hW : w10.alloc (.cells #[.int .i64 3, .slice A10 3 c10] 24) = w11 at *
  clear hW hB
  replace c0 := q11.cell c0
  replace c3 := q11.cell c3
  have HD0 := Lib.hid (fun wx (q : Own w11 wx) => (d0.own q11).own q)
  have HD3 := Lib.hid (fun wx (q : Own w11 wx) => (d3.own q11).own q)
  have HQ11 := Lib.hid (HQ9.out.trans q11)
  have HLC := Lib.hid (fun (w : World) => lit_c w)
  have HLD := Lib.hid (fun (w : World) => lit_d w)
  have HK0 := Lib.hid k0
  have HK1 := Lib.hid k1
  have hc3 := Lib.hid c3
  clear d0 d3 q11 k0 k1
  go_upto_region 12 with (first
    | (go_at_call 17; with_reducible refine (rints_yes (ints [0, 1]) _ _ _ (Lib.hid (HD0.out _ ((Own.refl _).alloc _))) (Lib.hid (HLC.out _))).mono ?_; rintro e w12 ⟨rfl, q12⟩; have HQ12 := Lib.hid (((Own.refl _).alloc _).trans q12); have c3 := HQ12.out.cell hc3.out; clear q12)
    | (go_at_call 17; with_reducible refine (rints_yes (ints [4]) _ _ _ (Lib.hid (HD3.out _ (HQ12.out.alloc _))) (Lib.hid (HLD.out _))).mono ?_; rintro e w13 ⟨rfl, q13⟩; have HQ13 := Lib.hid ((HQ12.out.alloc _).trans q13); clear q13))
  have k0 := HQ13.out.cell HK0.out
  have k1 := HQ13.out.cell HK1.out
  have HP13 := Lib.hid (HP11.out.own HQ13.out)
  have HQD := Lib.hid (HQ11.out.trans HQ13.out)
  have HKA := Lib.hid k0
  have HKB := Lib.hid k1
  have HL2 := Lib.hid (show ([((5 : Int), (0 : Int))] : List Ar).length ≤ 4 by decide)
  have HS2 := Lib.hid (show smp ++ [(5, 0)] = smB from rfl)
  have HLB := Lib.hid (fun (w : World) => lit_b w)
  have HLF := Lib.hid (fun (w : World) => lit_f w)
  clear c0 c3 HD0 HD3
  go_wp2_with (first
    | (go_at_call 31; with_reducible refine (sample_at [(5, 0)] smB _ _ (Lib.hid (HLB.out _)) HS2 HL2.out).mono ?_; rintro e wa ⟨sv, rfl, hp, qa⟩; have HPA := Lib.hid hp; have HQE := Lib.hid (((Own.refl _).alloc _).trans qa); clear hp qa)
    | (go_at_call 11; with_reducible refine (pcheck_at 5 smB _ 6 _ HPA HE8).mono ?_; rintro e w14 ⟨rfl, q14⟩; have HQF := Lib.hid (HQE.out.trans q14); have k0 := HQF.out.cell HKA.out; have k1 := HQF.out.cell HKB.out; clear q14)
    | (go_at_call 27; with_reducible refine (rsame_yes 3 [(1, 0), (2, 0), (2, 1)] _ _ _ (Lib.hid (HP13.out.own (HQF.out.alloc _))) (Lib.hid (HLF.out _))).mono ?_; rintro e w15 ⟨rfl, q15⟩; have HQG := Lib.hid ((HQF.out.alloc _).trans q15); clear q15))
  go_ret
  exact ⟨rfl, HQD.out.trans HQG.out⟩
end Go.Proofs.Ytkdfmjhhdfiiiaa.GraW
