/-
  Package match: the laws' awake. Condition: none.
-/
import Derived.Test.YtdgahlojdllkbaaMatchS
import Derived.Test.YtdgahlojdllkbaaMatchPlainF
namespace Go.Proofs.Ytdgahlojdllkbaa.MchW
open Go.ChangeShapes Go.WideShapes Go.ChangeAt Go.RowKit
open PairW CelW TabW MchP
theorem lit3 (w : World) (a b c : Array Value) (r0 r1 r2 : List Bool) (k0 k1 k2 : Nat) (T T' : TypeId) (ha : a.toList = cellsT r0) (hb : b.toList = cellsT r1) (hc : c.toList = cellsT r2) (h0 : r0.length = k0) (h1 : r1.length = k1) (h2 : r2.length = k2) (m0 : k0 ≤ maxLen) (m1 : k1 ≤ maxLen) (m2 : k2 ≤ maxLen) :
    Cels ((((w.alloc (.cells a T)).alloc (.cells b T)).alloc (.cells c T)).alloc (.cells #[.slice (some ⟨w.heap.size, 0, none⟩) k0 k0, .slice (some ⟨w.heap.size + 1, 0, none⟩) k1 k1, .slice (some ⟨w.heap.size + 1 + 1, 0, none⟩) k2 k2] T')) (.slice (some ⟨w.heap.size + 1 + 1 + 1, 0, none⟩) 3 3) (cellsB [r0, r1, r2]) := by
  have c0 : Cel (w.alloc (.cells a T)) (.slice (some ⟨w.heap.size, 0, none⟩) k0 k0) (cellsT r0) := cel_lit ha ((cellsT_len r0).trans h0) m0
  have e1 : (w.alloc (.cells a T)).heap.size = w.heap.size + 1 := by go_simp
  have c1 : Cel ((w.alloc (.cells a T)).alloc (.cells b T)) (.slice (some ⟨w.heap.size + 1, 0, none⟩) k1 k1) (cellsT r1) := by rw [← e1]; exact cel_lit hb ((cellsT_len r1).trans h1) m1
  have e2 : ((w.alloc (.cells a T)).alloc (.cells b T)).heap.size = w.heap.size + 1 + 1 := by go_simp
  have c2 : Cel (((w.alloc (.cells a T)).alloc (.cells b T)).alloc (.cells c T)) (.slice (some ⟨w.heap.size + 1 + 1, 0, none⟩) k2 k2) (cellsT r2) := by rw [← e2]; exact cel_lit hc ((cellsT_len r2).trans h2) m2
  have e3 : (((w.alloc (.cells a T)).alloc (.cells b T)).alloc (.cells c T)).heap.size = w.heap.size + 1 + 1 + 1 := by go_simp
  refine ⟨[.slice (some ⟨w.heap.size, 0, none⟩) k0 k0, .slice (some ⟨w.heap.size + 1, 0, none⟩) k1 k1, .slice (some ⟨w.heap.size + 1 + 1, 0, none⟩) k2 k2], rfl, ?_, fun i xs u hx hu => ?_⟩
  · rw [← e3]
    exact cel_lit rfl rfl (by unfold maxLen; decide)
  · match i, hx, hu with
    | 0, hx, hu => injection hx with hx; injection hu with hu; rw [← hx, ← hu]; exact c0.own ((((Own.refl _).alloc _).alloc _).alloc _)
    | 1, hx, hu => injection hx with hx; injection hu with hu; rw [← hx, ← hu]; exact c1.own (((Own.refl _).alloc _).alloc _)
    | 2, hx, hu => injection hx with hx; injection hu with hu; rw [← hx, ← hu]; exact c2.own ((Own.refl _).alloc _)
theorem lit2 (w : World) (a b : Array Value) (r0 r1 : List Bool) (k0 k1 : Nat) (T T' : TypeId) (ha : a.toList = cellsT r0) (hb : b.toList = cellsT r1) (h0 : r0.length = k0) (h1 : r1.length = k1) (m0 : k0 ≤ maxLen) (m1 : k1 ≤ maxLen) :
    Cels (((w.alloc (.cells a T)).alloc (.cells b T)).alloc (.cells #[.slice (some ⟨w.heap.size, 0, none⟩) k0 k0, .slice (some ⟨w.heap.size + 1, 0, none⟩) k1 k1] T')) (.slice (some ⟨w.heap.size + 1 + 1, 0, none⟩) 2 2) (cellsB [r0, r1]) := by
  have c0 : Cel (w.alloc (.cells a T)) (.slice (some ⟨w.heap.size, 0, none⟩) k0 k0) (cellsT r0) := cel_lit ha ((cellsT_len r0).trans h0) m0
  have e1 : (w.alloc (.cells a T)).heap.size = w.heap.size + 1 := by go_simp
  have c1 : Cel ((w.alloc (.cells a T)).alloc (.cells b T)) (.slice (some ⟨w.heap.size + 1, 0, none⟩) k1 k1) (cellsT r1) := by rw [← e1]; exact cel_lit hb ((cellsT_len r1).trans h1) m1
  have e2 : ((w.alloc (.cells a T)).alloc (.cells b T)).heap.size = w.heap.size + 1 + 1 := by go_simp
  refine ⟨[.slice (some ⟨w.heap.size, 0, none⟩) k0 k0, .slice (some ⟨w.heap.size + 1, 0, none⟩) k1 k1], rfl, ?_, fun i xs u hx hu => ?_⟩
  · rw [← e2]
    exact cel_lit rfl rfl (by unfold maxLen; decide)
  · match i, hx, hu with
    | 0, hx, hu => injection hx with hx; injection hu with hu; rw [← hx, ← hu]; exact c0.own (((Own.refl _).alloc _).alloc _)
    | 1, hx, hu => injection hx with hx; injection hu with hu; rw [← hx, ← hu]; exact c1.own ((Own.refl _).alloc _)
theorem CovR.out {l : List (List Bool)} {w : World} {n : Nat} {e : Ending} {w' : World} (h : CovR l w n e w') : ∃ a b A B, e = .returned (.tuple #[a, b, .int .i64 0]) ∧ Own w w' ∧ w'.ownsRow w.heap.size 3 1 a A.length (cellsI (natsI A)) ∧ w'.ownsRow w.heap.size 3 1 b B.length (cellsI (natsI B)) ∧ Cov l n A B := h
theorem vok_a : VOk t2 [-1, 0, 1] := ⟨ck2, rfl, is2'⟩
theorem vok_b : ¬ VOk t2 [0, 0, 1] := fun h => by
  have := h.2.2.one 0 1 0 rfl rfl
  omega
theorem vok_c : ¬ VOk t2 [0, -1] := fun h => absurd h.2.1 (by decide)
theorem iff_t {p : Prop} (h : p) : true = true ↔ p := ⟨fun _ => h, fun _ => rfl⟩
theorem iff_f {p : Prop} (h : ¬ p) : false = true ↔ p := ⟨fun e => absurd e (by simp), fun q => absurd q h⟩
theorem new3 (w : World) : ∃ W0, ((((w.alloc (.cells #[.bool true, .bool true, .bool false] 4)).alloc (.cells #[.bool true, .bool false, .bool false] 4)).alloc (.cells #[.bool false, .bool true, .bool true] 4)).alloc (.cells #[.slice (some ⟨w.heap.size, 0, none⟩) 3 3, .slice (some ⟨w.heap.size + 1, 0, none⟩) 3 3, .slice (some ⟨w.heap.size + 1 + 1, 0, none⟩) 3 3] 38)) = W0 ∧ Cels W0 (.slice (some ⟨w.heap.size + 1 + 1 + 1, 0, none⟩) 3 3) (cellsB t3) ∧ Own w W0 :=
  ⟨_, rfl, lit3 w _ _ _ _ _ _ 3 3 3 _ _ rfl rfl rfl rfl rfl rfl (by unfold maxLen; decide) (by unfold maxLen; decide) (by unfold maxLen; decide), ((((Own.refl _).alloc _).alloc _).alloc _).alloc _⟩
theorem new2 (w : World) : ∃ W0, ((((w.alloc (.cells #[.bool true, .bool false] 4)).alloc (.cells #[.bool true, .bool false] 4)).alloc (.cells #[.bool false, .bool true] 4)).alloc (.cells #[.slice (some ⟨w.heap.size, 0, none⟩) 2 2, .slice (some ⟨w.heap.size + 1, 0, none⟩) 2 2, .slice (some ⟨w.heap.size + 1 + 1, 0, none⟩) 2 2] 38)) = W0 ∧ Cels W0 (.slice (some ⟨w.heap.size + 1 + 1 + 1, 0, none⟩) 3 3) (cellsB t2) ∧ Own w W0 :=
  ⟨_, rfl, lit3 w _ _ _ _ _ _ 2 2 2 _ _ rfl rfl rfl rfl rfl rfl (by unfold maxLen; decide) (by unfold maxLen; decide) (by unfold maxLen; decide), ((((Own.refl _).alloc _).alloc _).alloc _).alloc _⟩
theorem lit0 (w : World) : Cels (((((w.alloc (.cells #[] 4)).alloc (.cells #[] 4)).alloc (.cells #[] 4)).alloc (.cells #[.slice (some ⟨w.heap.size, 0, none⟩) 0 0, .slice (some ⟨w.heap.size + 1, 0, none⟩) 0 0, .slice (some ⟨w.heap.size + 1 + 1, 0, none⟩) 0 0] 38)).alloc (.cells #[.int .i64 (-1), .int .i64 (-1), .int .i64 (-1)] 3)) (.slice (some ⟨w.heap.size + 1 + 1 + 1, 0, none⟩) 3 3) (cellsB t0) :=
  (lit3 w _ _ _ _ _ _ 0 0 0 _ _ rfl rfl rfl rfl rfl rfl (Nat.zero_le _) (Nat.zero_le _) (Nat.zero_le _)).own ((Own.refl _).alloc _)
theorem lit0i (w : World) : Cel (((((w.alloc (.cells #[] 4)).alloc (.cells #[] 4)).alloc (.cells #[] 4)).alloc (.cells #[.slice (some ⟨w.heap.size, 0, none⟩) 0 0, .slice (some ⟨w.heap.size + 1, 0, none⟩) 0 0, .slice (some ⟨w.heap.size + 1 + 1, 0, none⟩) 0 0] 38)).alloc (.cells #[.int .i64 (-1), .int .i64 (-1), .int .i64 (-1)] 3)) (.slice (some ⟨w.heap.size + 1 + 1 + 1 + 1, 0, none⟩) 3 3) (cellsI [-1, -1, -1]) := by
  have e : ((((w.alloc (.cells #[] 4)).alloc (.cells #[] 4)).alloc (.cells #[] 4)).alloc (.cells #[.slice (some ⟨w.heap.size, 0, none⟩) 0 0, .slice (some ⟨w.heap.size + 1, 0, none⟩) 0 0, .slice (some ⟨w.heap.size + 1 + 1, 0, none⟩) 0 0] 38)).heap.size = w.heap.size + 1 + 1 + 1 + 1 := by go_simp
  rw [← e]
  exact cel_lit rfl rfl (by unfold maxLen; decide)
theorem own0 (w : World) : Own w (((((w.alloc (.cells #[] 4)).alloc (.cells #[] 4)).alloc (.cells #[] 4)).alloc (.cells #[.slice (some ⟨w.heap.size, 0, none⟩) 0 0, .slice (some ⟨w.heap.size + 1, 0, none⟩) 0 0, .slice (some ⟨w.heap.size + 1 + 1, 0, none⟩) 0 0] 38)).alloc (.cells #[.int .i64 (-1), .int .i64 (-1), .int .i64 (-1)] 3)) := (((((Own.refl w).alloc _).alloc _).alloc _).alloc _).alloc _
theorem ownb (w : World) : Own w (((w.alloc (.cells #[.bool true] 4)).alloc (.cells #[] 4)).alloc (.cells #[.slice (some ⟨w.heap.size, 0, none⟩) 1 1, .slice (some ⟨w.heap.size + 1, 0, none⟩) 0 0] 38)) := (((Own.refl w).alloc _).alloc _).alloc _
theorem li2 (w : World) (x y : Int) : Cel (w.alloc (.cells #[.int .i64 x, .int .i64 y] 3)) (.slice (some ⟨w.heap.size, 0, none⟩) 2 2) (cellsI [x, y]) := cel_lit rfl rfl (by unfold maxLen; decide)
theorem litb (w : World) : Cels (((w.alloc (.cells #[.bool true] 4)).alloc (.cells #[] 4)).alloc (.cells #[.slice (some ⟨w.heap.size, 0, none⟩) 1 1, .slice (some ⟨w.heap.size + 1, 0, none⟩) 0 0] 38)) (.slice (some ⟨w.heap.size + 1 + 1, 0, none⟩) 2 2) (cellsB tb) :=
  lit2 w _ _ _ _ 1 0 _ _ rfl rfl rfl rfl (by unfold maxLen; decide) (Nat.zero_le _)
theorem li3 (w : World) (x y z : Int) : Cel (w.alloc (.cells #[.int .i64 x, .int .i64 y, .int .i64 z] 3)) (.slice (some ⟨w.heap.size, 0, none⟩) 3 3) (cellsI [x, y, z]) := cel_lit rfl rfl (by unfold maxLen; decide)
set_option maxRecDepth 100000 in
set_option maxHeartbeats 4000000 in
theorem awake_at (w : World) :
    Calls Try.prog 15 #[] w fun e w' => e = .returned (.bool true) ∧ Own w w' := by
  go_enter Try.func15, Try.ntmps15
  go_upto_region 2 with (fail)
  obtain ⟨w1, hw1, c1, q1⟩ := new3 w
  rw [hw1]
  clear hw1
  obtain ⟨v3, hv3⟩ : ∃ v, Value.slice (some ⟨w.heap.size + 1 + 1 + 1, 0, none⟩) 3 3 = v := ⟨_, rfl⟩
  rw [hv3] at c1
  rw [hv3]
  have HT3 := Lib.hid c1
  have HQ1 := Lib.hid q1
  clear hv3 c1 q1
  go_upto_region 3 with (fail)
  obtain ⟨w2, hw2, c2, q2⟩ := new2 w1
  rw [hw2]
  clear hw2
  obtain ⟨v2, hv2⟩ : ∃ v, Value.slice (some ⟨w1.heap.size + 1 + 1 + 1, 0, none⟩) 3 3 = v := ⟨_, rfl⟩
  rw [hv2] at c2
  rw [hv2]
  have HT2 := Lib.hid c2
  have HT3' := Lib.hid (HT3.out.own q2)
  have HQ2 := Lib.hid (HQ1.out.trans q2)
  clear hv2 c2 q2 HT3 HQ1
  have HK3 := Lib.hid ck3
  have HK2 := Lib.hid ck2
  have HN3 := Lib.hid nv3.1
  have HN2 := Lib.hid nv2.1
  go_upto_region 4 with (go_at_call 11; with_reducible refine (psizeOf_at t3 _ 3 0 _ HT3' HK3 HN3).mono ?_; rintro e w3 ⟨rfl, q3, _⟩; have HQ3 := Lib.hid q3; clear q3)
  have HT2b := Lib.hid (HT2.out.own HQ3.out)
  go_upto_region 5 with (go_at_call 11; with_reducible refine (psizeOf_at t2 _ 2 0 _ HT2b HK2 HN2).mono ?_; rintro e w4 ⟨rfl, q4, _⟩; have HQ4 := Lib.hid q4; clear q4)
  have HT3c := Lib.hid (fun w5 (q : Own w4 w5) => HT3'.out.own ((HQ3.out.trans HQ4.out).trans q))
  have HT2c := Lib.hid (fun w5 (q : Own w4 w5) => HT2b.out.own (HQ4.out.trans q))
  have HQ4' := Lib.hid ((HQ2.out.trans HQ3.out).trans HQ4.out)
  have HL3 := Lib.hid (fun w x y z => li3 w x y z)
  have HL0 := Lib.hid (fun w => lit0 w)
  have HL0i := Lib.hid (fun w => lit0i w)
  have HO0 := Lib.hid (fun w => own0 w)
  have HM3 := Lib.hid nv3.2
  have HM2 := Lib.hid nv2.2
  have HM0 := Lib.hid nv0.2
  have HK0 := Lib.hid ck0
  have HQL := Lib.hid (fun (w a : World) (x y z : Int) (h : Own a w) => show Own a (w.alloc (.cells #[.int .i64 x, .int .i64 y, .int .i64 z] 3)) from h.alloc _)
  have HN2' := HN2
  clear HT3' HT2 HT2b HQ2 HQ3 HQ4 HN3 HN2 HK3
  have HK3 := Lib.hid ck3
  go_upto_region 7 with (first
    | (go_at_call 29; with_reducible refine (matches_at t3 [1, 0, 2] _ _ _ (Lib.hid (HT3c.out _ (HQL.out w4 w4 1 0 2 (Own.refl w4)))) (Lib.hid (HL3.out w4 1 0 2)) HK3 HM3).mono ?_; rintro e w5 ⟨rfl, q5⟩; have HQ5 := Lib.hid ((HQL.out w4 w4 1 0 2 (Own.refl w4)).trans q5); clear q5)
    | (go_at_call 29; with_reducible refine (matches_at t2 [0, -1, 1] _ _ _ (Lib.hid (HT2c.out _ (HQL.out w5 w4 0 (-1) 1 HQ5.out))) (Lib.hid (HL3.out w5 0 (-1) 1)) HK2 HM2).mono ?_; rintro e w6 ⟨rfl, q6⟩; have HQ6 := Lib.hid ((HQL.out w5 w4 0 (-1) 1 HQ5.out).trans q6); clear q6)
    | (go_at_call 29; with_reducible refine (matches_at t0 [-1, -1, -1] _ _ _ (Lib.hid (HL0.out w6)) (Lib.hid (HL0i.out w6)) HK0 HM0).mono ?_; rintro e w7 ⟨rfl, q7⟩; have HQ7 := Lib.hid ((HQ6.out.trans (HO0.out w6)).trans q7); clear q7))
  have HT2d := Lib.hid (HT2c.out w7 HQ7.out)
  go_upto_region 8 with (go_at_call 19; with_reducible refine (pcover_at t2 _ 2 _ HT2d HK2 HN2').mono ?_; rintro e w8 hcv; obtain ⟨a, b, A, B, rfl, q8, ra, rb, hcov⟩ := CovR.out hcv; have HQ8 := Lib.hid q8; obtain ⟨Aa, ca, rfl⟩ := rows_shape ra; obtain ⟨Ab, cb, rfl⟩ := rows_shape rb; have HCL := Lib.hid hcov.len; clear q8 ra rb hcov)
  obtain ⟨za, hza⟩ : ∃ z, A.length = z := ⟨_, rfl⟩
  obtain ⟨zb, hzb⟩ : ∃ z, B.length = z := ⟨_, rfl⟩
  have hzz : za + zb = 2 := by rw [← hza, ← hzb]; exact HCL.out
  rw [hza, hzb]
  have d0 : ((za : Int) + (zb : Int) != 2) = false := by rw [show (za : Int) + (zb : Int) = 2 from by omega]; rfl
  have hza2 : za ≤ 2 := by omega
  have hzb2 : zb ≤ 2 := by omega
  clear hza hzb hzz HCL
  have HT2e := Lib.hid (fun w9 (q : Own w8 w9) => HT2d.out.own (HQ8.out.trans q))
  have HQ8' := Lib.hid ((HQ4'.out.trans HQ7.out).trans HQ8.out)
  have HVA := Lib.hid (iff_t vok_a)
  have HVB := Lib.hid (iff_f vok_b)
  have HVC := Lib.hid (iff_f vok_c)
  have HL2 := Lib.hid (fun w x y => li2 w x y)
  have HQ2' := Lib.hid (fun (w a : World) (x y : Int) (h : Own a w) => show Own a (w.alloc (.cells #[.int .i64 x, .int .i64 y] 3)) from h.alloc _)
  have HLB := Lib.hid (fun w => litb w)
  have HOB := Lib.hid (fun w => ownb w)
  have HKB := Lib.hid ckb
  clear HT3c HT2c HQ4' HQ7 HQ8 HT2d HM3 HM2 HM0 HK0 HK3 HL0 HL0i HO0 HQ5 HQ6
  go_wp2_with (first
    | (go_at_call 20; with_reducible refine (pvalid_at t2 [-1, 0, 1] _ _ true _ (Lib.hid (HT2e.out _ (HQL.out w8 w8 (-1) 0 1 (Own.refl w8)))) (Lib.hid (HL3.out w8 (-1) 0 1)) HVA).mono ?_; rintro e w9 ⟨rfl, q9⟩; have HQ9 := Lib.hid ((HQL.out w8 w8 (-1) 0 1 (Own.refl w8)).trans q9); clear q9)
    | (go_at_call 20; with_reducible refine (pvalid_at t2 [0, 0, 1] _ _ false _ (Lib.hid (HT2e.out _ (HQL.out w9 w8 0 0 1 HQ9.out))) (Lib.hid (HL3.out w9 0 0 1)) HVB).mono ?_; rintro e w10 ⟨rfl, q10⟩; have HQ10 := Lib.hid ((HQL.out w9 w8 0 0 1 HQ9.out).trans q10); clear q10)
    | (go_at_call 20; with_reducible refine (pvalid_at t2 [0, -1] _ _ false _ (Lib.hid (HT2e.out _ (HQ2'.out w10 w8 0 (-1) HQ10.out))) (Lib.hid (HL2.out w10 0 (-1))) HVC).mono ?_; rintro e w11 ⟨rfl, q11⟩; have HQ11 := Lib.hid ((HQ2'.out w10 w8 0 (-1) HQ10.out).trans q11); clear q11)
    | (go_at_call 13; with_reducible refine (pcheck_at tb _ 2 _ (Lib.hid (HLB.out w11)) HKB).mono ?_; rintro e w12 ⟨rfl, rfl⟩))
  go_ret
  exact ⟨rfl, HQ8'.out.trans (HQ11.out.trans (HOB.out w11))⟩
end Go.Proofs.Ytdgahlojdllkbaa.MchW
