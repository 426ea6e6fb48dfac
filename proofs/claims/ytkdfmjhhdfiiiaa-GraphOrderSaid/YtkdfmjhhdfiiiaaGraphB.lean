/-
  Walks of the specification of package graph: Light, Ints, Bools, Same. Condition: none.
-/
import Derived.Test.YtkdfmjhhdfiiiaaGraphA
import Derived.Test.YtkdfmjhhdfiiiaaLists
namespace Go.Proofs.Ytkdfmjhhdfiiiaa.GraW
open Go.ChangeShapes Go.WideShapes Go.ChangeAt Go.RowKit
open PairW CelW GraP
/-- What Light returns. -/
def ligB (N : Int) (l : List Ar) : Bool := decide (l.length ≤ 600) && (decide (chkE N l ≠ 0) || (decide (N ≤ 24) && decide (l.length ≤ 80)))
theorem lig_ok {N : Int} {l : List Ar} (h : ligB N l = true) (k : chkE N l = 0) : N ≤ 24 ∧ l.length ≤ 80 := by
  unfold ligB at h
  rw [k] at h
  simp at h
  exact h.2
set_option maxRecDepth 100000 in
set_option maxHeartbeats 1000000 in
theorem rlight_at (N : Int) (l : List Ar) (sv : Value) (t : Bool) (w : World) (HP : Hid (Pts w sv l)) (H : Hid (ligB N l = t)) :
    Calls Try.prog 14 #[grV N sv] w fun e w' => e = .returned (.bool t) ∧ Own w w' := by
  have hsv := HP.out.open
  obtain ⟨A, cap, rfl, ha1, ha2, _⟩ := hsv
  unfold maxLen at ha2
  obtain ⟨f, hf⟩ : ∃ f, chkE N l = f := ⟨_, rfl⟩
  have HF := Lib.hid hf
  have ht := H.out
  unfold ligB at ht
  rw [hf] at ht
  obtain ⟨n, hn⟩ : ∃ n, l.length = n := ⟨_, rfl⟩
  rw [hn] at ha1 HP ht ⊢
  clear hn H hf
  by_cases c1 : n ≤ 600
  · have d1 : (n : Int) ≤ 600 := by omega
    rw [decide_eq_true c1, Bool.true_and] at ht
    by_cases c2 : f = 0
    · subst c2
      simp only [ne_eq, not_true_eq_false, decide_false, Bool.false_or] at ht
      by_cases c3 : N ≤ 24
      · rw [decide_eq_true c3, Bool.true_and] at ht
        have HT := Lib.hid (show decide ((n : Int) ≤ 80) = t by rw [← ht]; exact decide_eq_decide.2 (by omega))
        clear ht c1
        go_enter Try.func14, Try.ntmps14
        go_upto_region 1 with (fail)
        have k0 : (w.alloc (.cells #[.int .i64 N, .slice A n cap] 24)).cell? ⟨w.heap.size, 0, none⟩ = some (.int .i64 N) := by go_simp
        have k1 : (w.alloc (.cells #[.int .i64 N, .slice A n cap] 24)).cell? ⟨w.heap.size, 1, none⟩ = some (.slice A n cap) := by go_simp
        have g0 : Own w (w.alloc (.cells #[.int .i64 N, .slice A n cap] 24)) := (Own.refl w).alloc _
        generalize hW : (w.alloc (.cells #[.int .i64 N, .slice A n cap] 24)) = W0 at *
        have HBX := Lib.hid (show w.heap.size < W0.heap.size by rw [← hW]; simp)
        clear hW
        have HP0 := Lib.hid (HP.out.own g0)
        go_wp2_with (go_at_call 12; with_reducible refine (rcheck_at N l _ 0 _ HP0 HF).mono ?_; rintro e w1 ⟨rfl, hg⟩; replace k0 := hg.cell k0; replace k1 := hg.cell k1)
        go_ret
        exact ⟨ret_bool HT.out, g0.trans hg⟩
      · rw [decide_eq_false c3, Bool.false_and] at ht
        subst ht
        clear c1
        go_enter Try.func14, Try.ntmps14
        go_upto_region 1 with (fail)
        have k0 : (w.alloc (.cells #[.int .i64 N, .slice A n cap] 24)).cell? ⟨w.heap.size, 0, none⟩ = some (.int .i64 N) := by go_simp
        have k1 : (w.alloc (.cells #[.int .i64 N, .slice A n cap] 24)).cell? ⟨w.heap.size, 1, none⟩ = some (.slice A n cap) := by go_simp
        have g0 : Own w (w.alloc (.cells #[.int .i64 N, .slice A n cap] 24)) := (Own.refl w).alloc _
        generalize hW : (w.alloc (.cells #[.int .i64 N, .slice A n cap] 24)) = W0 at *
        have HBX := Lib.hid (show w.heap.size < W0.heap.size by rw [← hW]; simp)
        clear hW
        have HP0 := Lib.hid (HP.out.own g0)
        go_wp2_with (go_at_call 12; with_reducible refine (rcheck_at N l _ 0 _ HP0 HF).mono ?_; rintro e w1 ⟨rfl, hg⟩; replace k0 := hg.cell k0; replace k1 := hg.cell k1)
        go_ret
        exact ⟨rfl, g0.trans hg⟩
    · have d2 : (f == 0) = false := beq_eq_false_iff_ne.2 c2
      have d4 : decide (f = 0) = false := decide_eq_false c2
      rw [decide_eq_true (show f ≠ 0 from c2), Bool.true_or] at ht
      subst ht
      clear c1
      go_enter Try.func14, Try.ntmps14
      go_upto_region 1 with (fail)
      have k0 : (w.alloc (.cells #[.int .i64 N, .slice A n cap] 24)).cell? ⟨w.heap.size, 0, none⟩ = some (.int .i64 N) := by go_simp
      have k1 : (w.alloc (.cells #[.int .i64 N, .slice A n cap] 24)).cell? ⟨w.heap.size, 1, none⟩ = some (.slice A n cap) := by go_simp
      have g0 : Own w (w.alloc (.cells #[.int .i64 N, .slice A n cap] 24)) := (Own.refl w).alloc _
      generalize hW : (w.alloc (.cells #[.int .i64 N, .slice A n cap] 24)) = W0 at *
      have HBX := Lib.hid (show w.heap.size < W0.heap.size by rw [← hW]; simp)
      clear hW
      have HP0 := Lib.hid (HP.out.own g0)
      go_wp2_with (go_at_call 12; with_reducible refine (rcheck_at N l _ f _ HP0 HF).mono ?_; rintro e w1 ⟨rfl, hg⟩; replace k0 := hg.cell k0; replace k1 := hg.cell k1)
      go_ret
      exact ⟨rfl, g0.trans hg⟩
  · have d1 : ¬ (n : Int) ≤ 600 := by omega
    rw [decide_eq_false c1, Bool.false_and] at ht
    subst ht
    clear c1
    go_enter Try.func14, Try.ntmps14
    go_wp2
    go_ret
    exact ⟨rfl, (Own.refl w).alloc _⟩
set_option maxRecDepth 100000 in
set_option maxHeartbeats 1000000 in
theorem rints_yes (l : List Int) (va vb : Value) (w : World) (HA : Hid (Cel w va (cellsI l))) (HB : Hid (Cel w vb (cellsI l))) :
    Calls Try.prog 17 #[va, vb] w fun e w' => e = .returned (.bool true) ∧ Own w w' := by
  obtain ⟨A, ca, rfl, a1, a2, a3⟩ := cel_ints HA.out
  obtain ⟨B, cb, rfl, b1, b2, b3⟩ := cel_ints HB.out
  unfold maxLen at a2 b2
  have HCA := Lib.hid a3
  have HCB := Lib.hid b3
  obtain ⟨n, hn⟩ : ∃ n, l.length = n := ⟨_, rfl⟩
  have HN := Lib.hid hn
  rw [hn] at a1 b1 ⊢
  clear a3 b3 HA HB hn
  go_enter Try.func17, Try.ntmps17
  go_wp2
  go_loopw [5] (fun i wr => ∃ k : Nat, i = .int .i64 k ∧ k ≤ n ∧ Own w wr) (fun i _ => n - (intOf i).toNat)
  case atStart => exact ⟨0, rfl, Nat.zero_le _, Own.refl w⟩
  case round =>
    obtain ⟨k, rfl, hk, q⟩ := hrel
    by_cases hlt : k < n
    · obtain ⟨g, off, rfl, hc⟩ := HCA.out (by rw [HN.out]; omega)
      obtain ⟨g2, off2, rfl, hc2⟩ := HCB.out (by rw [HN.out]; omega)
      have hkl : k < l.length := by rw [HN.out]; exact hlt
      have c0 := q.cell (hc k hkl)
      have c1 := q.cell (hc2 k hkl)
      obtain ⟨z, hz⟩ : ∃ z, l[k] = z := ⟨_, rfl⟩
      rw [hz] at c0 c1
      clear hc hc2 hz hkl
      have hkn : (k : Int) < n := by omega
      have hzz : (z == z) = true := beq_self_eq_true z
      go_upto_region 6 with (fail)
      go_quiet (fail)
      go_wp2
      go_roundw
      case rel => exact ⟨k + 1, by go_num, hlt, q.drewN _⟩
      case measure => simp [intOf]; omega
    · obtain rfl : k = n := by omega
      go_wp2
      go_ret
      exact ⟨rfl, q⟩
set_option maxRecDepth 100000 in
set_option maxHeartbeats 1000000 in
theorem rbools_yes (l : List Bool) (va vb : Value) (w : World) (HA : Hid (Cel w va (cellsT l))) (HB : Hid (Cel w vb (cellsT l))) :
    Calls Try.prog 22 #[va, vb] w fun e w' => e = .returned (.bool true) ∧ Own w w' := by
  obtain ⟨A, ca, rfl, a1, a2, a3⟩ := cel_bools HA.out
  obtain ⟨B, cb, rfl, b1, b2, b3⟩ := cel_bools HB.out
  unfold maxLen at a2 b2
  have HCA := Lib.hid a3
  have HCB := Lib.hid b3
  obtain ⟨n, hn⟩ : ∃ n, l.length = n := ⟨_, rfl⟩
  have HN := Lib.hid hn
  rw [hn] at a1 b1 ⊢
  clear a3 b3 HA HB hn
  go_enter Try.func22, Try.ntmps22
  go_wp2
  go_loopw [5] (fun i wr => ∃ k : Nat, i = .int .i64 k ∧ k ≤ n ∧ Own w wr) (fun i _ => n - (intOf i).toNat)
  case atStart => exact ⟨0, rfl, Nat.zero_le _, Own.refl w⟩
  case round =>
    obtain ⟨k, rfl, hk, q⟩ := hrel
    by_cases hlt : k < n
    · obtain ⟨g, off, rfl, hc⟩ := HCA.out (by rw [HN.out]; omega)
      obtain ⟨g2, off2, rfl, hc2⟩ := HCB.out (by rw [HN.out]; omega)
      have hkl : k < l.length := by rw [HN.out]; exact hlt
      have c0 := q.cell (hc k hkl)
      have c1 := q.cell (hc2 k hkl)
      obtain ⟨z, hz⟩ : ∃ z, l[k] = z := ⟨_, rfl⟩
      rw [hz] at c0 c1
      clear hc hc2 hz hkl
      have hkn : (k : Int) < n := by omega
      have hzz : (z == z) = true := beq_self_eq_true z
      go_upto_region 6 with (fail)
      go_quiet (fail)
      go_wp2
      go_roundw
      case rel => exact ⟨k + 1, by go_num, hlt, q.drewN _⟩
      case measure => simp [intOf]; omega
    · obtain rfl : k = n := by omega
      go_wp2
      go_ret
      exact ⟨rfl, q⟩
set_option maxRecDepth 100000 in
set_option maxHeartbeats 1000000 in
theorem rsame_yes (N : Int) (l : List Ar) (va vb : Value) (w : World) (HA : Hid (Pts w va l)) (HB : Hid (Pts w vb l)) :
    Calls Try.prog 27 #[grV N va, grV N vb] w fun e w' => e = .returned (.bool true) ∧ Own w w' := by
  obtain ⟨A, ca, rfl, a1, a2, a3⟩ := HA.out.open
  obtain ⟨B, cb, rfl, b1, b2, b3⟩ := HB.out.open
  unfold maxLen at a2 b2
  obtain ⟨n, hn⟩ : ∃ n, l.length = n := ⟨_, rfl⟩
  rw [hn] at a1 b1 a3 b3 ⊢
  have HCA := Lib.hid a3
  have HCB := Lib.hid b3
  clear a3 b3 HA HB hn
  go_enter Try.func27, Try.ntmps27
  go_upto_region 1 with (fail)
  have k0 : ((w.alloc (.cells #[.int .i64 N, .slice A n ca] 24)).alloc (.cells #[.int .i64 N, .slice B n cb] 24)).cell? ⟨w.heap.size, 0, none⟩ = some (.int .i64 N) := by go_simp
  have k1 : ((w.alloc (.cells #[.int .i64 N, .slice A n ca] 24)).alloc (.cells #[.int .i64 N, .slice B n cb] 24)).cell? ⟨w.heap.size, 1, none⟩ = some (.slice A n ca) := by go_simp
  have k2 : ((w.alloc (.cells #[.int .i64 N, .slice A n ca] 24)).alloc (.cells #[.int .i64 N, .slice B n cb] 24)).cell? ⟨w.heap.size + 1, 0, none⟩ = some (.int .i64 N) := by go_simp
  have k3 : ((w.alloc (.cells #[.int .i64 N, .slice A n ca] 24)).alloc (.cells #[.int .i64 N, .slice B n cb] 24)).cell? ⟨w.heap.size + 1, 1, none⟩ = some (.slice B n cb) := by go_simp
  have g0 : Own w ((w.alloc (.cells #[.int .i64 N, .slice A n ca] 24)).alloc (.cells #[.int .i64 N, .slice B n cb] 24)) := ((Own.refl w).alloc _).alloc _
  generalize hW : (w.alloc (.cells #[.int .i64 N, .slice A n ca] 24)).alloc (.cells #[.int .i64 N, .slice B n cb] 24) = W0 at *
  clear hW
  go_wp2
  go_loopw [5] (fun i wr => ∃ k : Nat, i = .int .i64 k ∧ k ≤ n ∧ Own W0 wr) (fun i _ => n - (intOf i).toNat)
  case atStart => exact ⟨0, rfl, Nat.zero_le _, Own.refl W0⟩
  case round =>
    obtain ⟨k, rfl, hk, q⟩ := hrel
    replace k0 := q.cell k0
    replace k1 := q.cell k1
    replace k2 := q.cell k2
    replace k3 := q.cell k3
    by_cases hlt : k < n
    · obtain ⟨g, off, rfl, hc⟩ := HCA.out (by omega)
      obtain ⟨g2, off2, rfl, hc2⟩ := HCB.out (by omega)
      have q0 := g0.trans q
      have c0 := q0.cell (hc k hlt).1
      have c1 := q0.cell (hc k hlt).2
      have c2 := q0.cell (hc2 k hlt).1
      have c3 := q0.cell (hc2 k hlt).2
      obtain ⟨z, hz⟩ : ∃ z, at' l k = z := ⟨_, rfl⟩
      rw [hz] at c0 c1 c2 c3
      obtain ⟨x, y⟩ := z
      simp only at c0 c1 c2 c3
      clear hc hc2 hz
      have hkn : (k : Int) < n := by omega
      have hxx : (x == x) = true := beq_self_eq_true x
      have hyy : (y == y) = true := beq_self_eq_true y
      go_upto_region 6 with (fail)
      go_quiet (fail)
      go_wp2
      go_roundw
      case rel => exact ⟨k + 1, by go_num, hlt, q.drewN _⟩
      case measure => simp [intOf]; omega
    · obtain rfl : k = n := by omega
      go_wp2
      go_ret
      exact ⟨rfl, g0.trans q⟩
end Go.Proofs.Ytkdfmjhhdfiiiaa.GraW
