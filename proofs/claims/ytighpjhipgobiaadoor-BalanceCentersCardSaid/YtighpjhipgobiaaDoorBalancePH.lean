/-
  Walk of the program's First of package balance, all cases. Condition: the table of sines, the table of bounds and the numbers of both sides lie in memory.
-/
import Derived.Test.YtighpjhipgobiaaDoorBalancePG
namespace Go.Proofs.YtighpjhipgobiaaDoor.BalW
open Go.ChangeShapes Go.WideShapes Go.ChangeAt Go.RowKit
open PairW AimP AimW BlkW PrtW PstP PstW JntP JntW BalP
/-- A length that doesn't fit, also where one more wraps. -/
theorem form_ne {n m : Nat} (h : n ≠ m + 1) (h1 : (n : Int) ≤ 9223372036854775807) (h2 : (m : Int) ≤ 9223372036854775807) : (n : Int) ≠ IntKind.i64.wrap ((m : Int) + 1) := by
  by_cases c : (m : Int) + 1 ≤ 9223372036854775807
  · rw [IntWalk.i64_in _ (by omega)]; omega
  · have e : (m : Int) = 9223372036854775807 := by omega
    have e2 : IntKind.i64.wrap ((9223372036854775807 : Int) + 1) = -9223372036854775808 := by decide
    rw [e, e2]; omega
set_option maxRecDepth 100000 in
set_option maxHeartbeats 2000000 in
theorem bfirst_bad (b : Vl) (sv tv : Value) (f : Nat → Vl) (q : Nat → Int) (n m : Nat) (w : World) (HM : Hid (Mov sv tv f q n m w)) (hf : m = 0 ∨ n ≠ m + 1) :
    Calls Tryd.prog 18 #[.agg (cz 15 b), .agg #[sv, tv]] w fun r w' => r = .returned (.tuple #[.int .i64 0, .int .i64 2]) ∧ PairW.Own w w' := by
  obtain ⟨⟨A, ca, rfl, -⟩, ⟨A2, cb, rfl, -⟩, hnl, hml⟩ := HM.out
  unfold maxLen at hnl hml
  by_cases h0 : m = 0
  · have d1 : decide ((m : Int) = 0) = true := decide_eq_true (by omega)
    have d5 : ((m : Int) == 0) = true := beq_iff_eq.2 (by omega)
    clear hf h0 HM hnl hml
    go_enter Tryd.func18, Tryd.ntmps18
    go_upto_region 1 with (fail)
    obtain ⟨W0, B, Mb, hW, hMb, hB, hb1, hm2, g0, -, -, -⟩ := two_new w (cz 15 b) 24 #[.slice A n ca, .slice A2 m cb] 52
    rw [hW, hMb, hB]
    have k0 := hm2.cell 0
    have k1 := hm2.cell 1
    clear hW hMb hB hb1 hm2
    refine wp_scope_straight ?_
    go_wp2
    rw [Exit.noGoto_ret]
    go_ret2
    exact ⟨rfl, g0⟩
  · have d1 : decide ((m : Int) = 0) = false := decide_eq_false (by omega)
    have d5 : ((m : Int) == 0) = false := beq_eq_false_iff_ne.2 (by omega)
    obtain ⟨z, i1⟩ : ∃ z, IntKind.i64.wrap ((m : Int) + 1) = z := ⟨_, rfl⟩
    have hz : (n : Int) ≠ z := by rw [← i1]; exact form_ne (by omega) (by omega) (by omega)
    have d2 : decide ((n : Int) = z) = false := decide_eq_false hz
    have d3 : ((n : Int) == z) = false := beq_eq_false_iff_ne.2 hz
    have d4 : ((n : Int) != z) = true := bne_iff_ne.2 hz
    clear hf h0 HM hnl hml hz
    go_enter Tryd.func18, Tryd.ntmps18
    go_upto_region 1 with (fail)
    obtain ⟨W0, B, Mb, hW, hMb, hB, hb1, hm2, g0, -, -, -⟩ := two_new w (cz 15 b) 24 #[.slice A n ca, .slice A2 m cb] 52
    rw [hW, hMb, hB]
    have k0 := hm2.cell 0
    have k1 := hm2.cell 1
    clear hW hMb hB hb1 hm2
    refine wp_scope_straight ?_
    go_wp2
    rw [Exit.noGoto_ret]
    go_ret2
    exact ⟨rfl, g0⟩
theorem bFirst_at (b : Vl) (sv tv : Value) (f : Nat → Vl) (q : Nat → Int) (n m : Nat) (v c : Int) (w : World) (HT : Hid (AngW.Tab w)) (HBT : Hid (BuiW.Tab w)) (HS : Hid (Sds w)) (HM : Hid (Mov sv tv f q n m w)) (H : Hid (fiV b f q n m = v ∧ fiE b f q n m = c)) :
    Calls Tryd.prog 18 #[.agg (cz 15 b), .agg #[sv, tv]] w fun r w' => r = .returned (.tuple #[.int .i64 v, .int .i64 c]) ∧ PairW.Own w w' := by
  by_cases h : m = 0 ∨ n ≠ m + 1
  · obtain ⟨hv, hc⟩ := H.out
    rw [(fi_form h).1] at hc
    rw [(fi_form h).2] at hv
    subst hv
    subst hc
    exact bfirst_bad b sv tv f q n m w HM h
  · exact bfirst_good b sv tv f q n m v c w HT HBT HS HM (by omega) (by omega) H
end Go.Proofs.YtighpjhipgobiaaDoor.BalW
