/-
  Walks of the laws AngleTurned and AngleTurns: each returns true for every input. Condition: the table of sines lies in memory (Tab).
-/
import Derived.Test.YtcchenfagkohdaaDoorAngleI
namespace Go.Proofs.YtcchenfagkohdaaDoor.AngW
open Go.ChangeShapes Go.WideShapes Go.ChangeAt Go.RowKit Go.Joins
open NumP NumW AngP

theorem rtur_at (x y a u v f : Int) (w : World) (H : Hid (turU x y a = u ∧ turV x y a = v ∧ turE x y = f)) :
    Calls Tryd.prog 21 #[.agg #[.int .i64 x, .int .i64 y], .int .i64 a] w fun e w' => e = .returned (.tuple #[.agg #[.int .i64 u, .int .i64 v], .int .i64 f]) ∧ Grown w w' := by
  obtain ⟨rfl, rfl, rfl⟩ := H.out
  exact rtur_any x y a w
theorem old_cell {w : World} {a : Addr} {v : Value} (h : w.cell? a = some v) (o : Obj) : (w.alloc o).cell? a = some v := by
  have hb := block_lt_of_cell h
  rw [World.cell?_alloc_old _ _ _ (by omega)]
  exact h
set_option maxRecDepth 100000 in
set_option maxHeartbeats 2000000 in
theorem AngleTurned_walk (a0 a1 a2 : Int) (_b0 : -9223372036854775808 ≤ a0 ∧ a0 ≤ 9223372036854775807) (_b1 : -9223372036854775808 ≤ a1 ∧ a1 ≤ 9223372036854775807) (_b2 : -9223372036854775808 ≤ a2 ∧ a2 ≤ 9223372036854775807) (w : World) (hT : Tab w) :
    Calls Tryd.prog 8 #[.agg #[.int .i64 a0, .int .i64 a1], .int .i64 a2] w fun e w' => e = .returned (.bool true) ∧ Grown w w' := by
  clear _b0 _b1 _b2
  obtain ⟨u, hu⟩ : ∃ u, turU a0 a1 a2 = u := ⟨_, rfl⟩
  obtain ⟨v, hv⟩ : ∃ v, turV a0 a1 a2 = v := ⟨_, rfl⟩
  obtain ⟨f, hf⟩ : ∃ f, turE a0 a1 = f := ⟨_, rfl⟩
  have H := Lib.hid (show turU a0 a1 a2 = u ∧ turV a0 a1 a2 = v ∧ turE a0 a1 = f from ⟨hu, hv, hf⟩)
  clear hu hv hf
  go_enter Tryd.func8, Tryd.ntmps8
  go_wp2_with (fail)
  refine (tur_at _ _ _ u v f _ H (tab_grown hT ((Grown.refl w).alloc _ _))).mono ?_
  rintro e w1 ⟨rfl, hg⟩
  have k0 : w1.cell? ⟨w.heap.size, 0, none⟩ = some (.int .i64 a0) := grown_cell hg (by go_simp)
  have k1 : w1.cell? ⟨w.heap.size, 1, none⟩ = some (.int .i64 a1) := grown_cell hg (by go_simp)
  have G1 : Kept w w1 := ⟨grown_trans ((Grown.refl w).alloc _ _) hg⟩
  have T1 := tab_grown hT G1.g
  clear hg
  have K0 : ∀ o, (w1.alloc o).cell? ⟨w.heap.size, 0, none⟩ = some (.int .i64 a0) := fun o => old_cell k0 o
  have K1 : ∀ o, (w1.alloc o).cell? ⟨w.heap.size, 1, none⟩ = some (.int .i64 a1) := fun o => old_cell k1 o
  go_wp2_with (fail)
  refine (rtur_at _ _ _ u v f _ H).mono ?_
  rintro e w2 ⟨rfl, hg⟩
  have m0 : w2.cell? ⟨w1.heap.size, 0, none⟩ = some (.int .i64 u) := grown_cell hg (by go_simp)
  have m1 : w2.cell? ⟨w1.heap.size, 1, none⟩ = some (.int .i64 v) := grown_cell hg (by go_simp)
  have G2 : Kept w w2 := ⟨grown_trans (G1.g.alloc _ _) hg⟩
  have T2 := tab_grown hT G2.g
  clear hg
  have M0 : ∀ o, (w2.alloc o).cell? ⟨w1.heap.size, 0, none⟩ = some (.int .i64 u) := fun o => old_cell m0 o
  have M1 : ∀ o, (w2.alloc o).cell? ⟨w1.heap.size, 1, none⟩ = some (.int .i64 v) := fun o => old_cell m1 o
  go_wp2_with (fail)
  refine (awake_any _ (tab_grown T2 ((Grown.refl w2).alloc _ _))).mono ?_
  rintro e w3 ⟨rfl, hg⟩
  have HK := Lib.hid (grown_trans (G2.g.alloc _ _) hg)
  clear hg
  go_wp2_with (fail)
  go_ret
  exact ⟨rfl, HK.out⟩

theorem tur_quarter {x y : Int} (h : inMM x y = true) :
    (turU x y 0 = x ∧ turV x y 0 = y ∧ turE x y = 0) ∧ (turU x y 64 = y ∧ turV x y 64 = -x ∧ turE x y = 0) ∧ (turU x y 128 = -x ∧ turV x y 128 = -y ∧ turE x y = 0) ∧ (turU x y (-64) = -y ∧ turV x y (-64) = x ∧ turE x y = 0) := by
  unfold turU turV turE
  rw [if_pos h, if_pos h, if_pos h, if_pos h, if_pos h, if_pos h, if_pos h, if_pos h, if_pos h]
  obtain ⟨⟨q1, q2⟩, ⟨q3, q4⟩, ⟨q5, q6⟩, q7, q8⟩ := quarter x y
  exact ⟨⟨q1, q2, rfl⟩, ⟨q3, q4, rfl⟩, ⟨q5, q6, rfl⟩, q7, q8, rfl⟩
set_option maxRecDepth 100000 in
set_option maxHeartbeats 2000000 in
theorem AngleTurns_bad (a0 a1 a2 : Int) (w : World) (hT : Tab w) (h : inMM a0 a1 = false) :
    Calls Tryd.prog 9 #[.agg #[.int .i64 a0, .int .i64 a1], .int .i64 a2] w fun e w' => e = .returned (.bool true) ∧ Grown w w' := by
  have H := Lib.hid (show turU a0 a1 a2 = 0 ∧ turV a0 a1 a2 = 0 ∧ turE a0 a1 = 1 by unfold turU turV turE; rw [h]; exact ⟨rfl, rfl, rfl⟩)
  have hTa : Tab (w.alloc (.cells #[.int .i64 a0, .int .i64 a1] 31)) := tab_grown hT ((Grown.refl w).alloc _ _)
  have HR := Lib.hid (show Grown w (w.alloc (.cells #[.int .i64 a0, .int .i64 a1] 31)) from (Grown.refl w).alloc _ _)
  have f0 : (w.alloc (.cells #[.int .i64 a0, .int .i64 a1] 31)).cell? ⟨w.heap.size, 0, none⟩ = some (.int .i64 a0) := by go_simp
  have f1 : (w.alloc (.cells #[.int .i64 a0, .int .i64 a1] 31)).cell? ⟨w.heap.size, 1, none⟩ = some (.int .i64 a1) := by go_simp
  rw [inMM_no] at h
  have t : a0 < -32768 ∨ ¬ a0 < -32768 ∧ 32768 < a0 ∨ ¬ a0 < -32768 ∧ ¬ 32768 < a0 ∧ a1 < -32768 ∨ ¬ a0 < -32768 ∧ ¬ 32768 < a0 ∧ ¬ a1 < -32768 ∧ 32768 < a1 := by omega
  clear h
  rcases t with t | ⟨t, t1⟩ | ⟨t, t1, t2⟩ | ⟨t, t1, t2, t3⟩
  all_goals
    go_enter Tryd.func9, Tryd.ntmps9
    go_wp2_with (first
      | (go_at_call 20; refine (tur_at _ _ _ 0 0 1 _ H (by with_reducible assumption)).mono ?_; rintro e w1 ⟨rfl, hg⟩; have hT1 := tab_grown (by with_reducible assumption) hg; have k0 : w1.cell? ⟨w.heap.size, 0, none⟩ = some (.int .i64 a0) := grown_cell hg (by with_reducible assumption); have k1 : w1.cell? ⟨w.heap.size, 1, none⟩ = some (.int .i64 a1) := grown_cell hg (by with_reducible assumption); have HK := Lib.hid (grown_trans (Hid.out (by with_reducible assumption)) hg); clear hg; have hTA := fun c t => tab_grown hT1 ((Grown.refl w1).alloc c t); have HKA := fun c t => Grown.alloc HK.out c t)
      | (go_at_call 13; refine (awake_any _ (hTA _ _)).mono ?_; rintro e w1 ⟨rfl, hg⟩; have HK := Lib.hid (grown_trans (HKA _ _) hg); clear hg))
    go_ret
    exact ⟨rfl, HK.out⟩
set_option maxRecDepth 100000 in
set_option maxHeartbeats 4000000 in
theorem AngleTurns_good (a0 a1 a2 u v : Int) (w : World) (hT : Tab w) (hx : -32768 ≤ a0 ∧ a0 ≤ 32768) (hy : -32768 ≤ a1 ∧ a1 ≤ 32768)
    (Q1 : Hid (turU a0 a1 0 = a0 ∧ turV a0 a1 0 = a1 ∧ turE a0 a1 = 0)) (Q2 : Hid (turU a0 a1 64 = a1 ∧ turV a0 a1 64 = -a0 ∧ turE a0 a1 = 0)) (Q3 : Hid (turU a0 a1 128 = -a0 ∧ turV a0 a1 128 = -a1 ∧ turE a0 a1 = 0)) (Q4 : Hid (turU a0 a1 (-64) = -a1 ∧ turV a0 a1 (-64) = a0 ∧ turE a0 a1 = 0))
    (H : Hid (turU a0 a1 a2 = u ∧ turV a0 a1 a2 = v ∧ turE a0 a1 = 0)) (hu : -100000 ≤ u ∧ u ≤ 100000) (hv : -100000 ≤ v ∧ v ≤ 100000)
    (N1 : Hid (nearOk (a0 * a0 + a1 * a1) (u * u + v * v))) (N2 : Hid (nearOk (u * u + v * v) (a0 * a0 + a1 * a1)))
    (p1 : 0 ≤ a0 * a0 ∧ a0 * a0 ≤ 1073741824) (p2 : 0 ≤ a1 * a1 ∧ a1 * a1 ≤ 1073741824) (p3 : 0 ≤ u * u ∧ u * u ≤ 10000000000) (p4 : 0 ≤ v * v ∧ v * v ≤ 10000000000) :
    Calls Tryd.prog 9 #[.agg #[.int .i64 a0, .int .i64 a1], .int .i64 a2] w fun e w' => e = .returned (.bool true) ∧ Grown w w' := by
  have hTa : Tab (w.alloc (.cells #[.int .i64 a0, .int .i64 a1] 31)) := tab_grown hT ((Grown.refl w).alloc _ _)
  have HR := Lib.hid (show Grown w (w.alloc (.cells #[.int .i64 a0, .int .i64 a1] 31)) from (Grown.refl w).alloc _ _)
  have f0 : (w.alloc (.cells #[.int .i64 a0, .int .i64 a1] 31)).cell? ⟨w.heap.size, 0, none⟩ = some (.int .i64 a0) := by go_simp
  have f1 : (w.alloc (.cells #[.int .i64 a0, .int .i64 a1] 31)).cell? ⟨w.heap.size, 1, none⟩ = some (.int .i64 a1) := by go_simp
  go_enter Tryd.func9, Tryd.ntmps9
  go_wp2_with (first
    | (go_at_call 22; (first | (with_reducible refine (turned_yes a0 a1 0 a0 a1 _ Q1 (by with_reducible assumption)).mono ?_) | (with_reducible refine (turned_yes a0 a1 64 a1 (-a0) _ Q2 (by with_reducible assumption)).mono ?_) | (with_reducible refine (turned_yes a0 a1 128 (-a0) (-a1) _ Q3 (by with_reducible assumption)).mono ?_) | (with_reducible refine (turned_yes a0 a1 (-64) (-a1) a0 _ Q4 (by with_reducible assumption)).mono ?_)); rintro e w1 ⟨rfl, hg⟩; have hT1 := tab_grown (by with_reducible assumption) hg; have k0 : w1.cell? ⟨w.heap.size, 0, none⟩ = some (.int .i64 a0) := grown_cell hg (by with_reducible assumption); have k1 : w1.cell? ⟨w.heap.size, 1, none⟩ = some (.int .i64 a1) := grown_cell hg (by with_reducible assumption); have HK := Lib.hid (grown_trans (Hid.out (by with_reducible assumption)) hg); clear hg))
  refine (tur_at a0 a1 a2 u v 0 _ H (by with_reducible assumption)).mono ?_
  rintro e w5 ⟨rfl, hg⟩
  have hT5 := tab_grown (by with_reducible assumption) hg
  have k0 : w5.cell? ⟨w.heap.size, 0, none⟩ = some (.int .i64 a0) := grown_cell hg (by with_reducible assumption)
  have k1 : w5.cell? ⟨w.heap.size, 1, none⟩ = some (.int .i64 a1) := grown_cell hg (by with_reducible assumption)
  have HK5 := Lib.hid (grown_trans (Hid.out (by with_reducible assumption)) hg)
  clear hg
  have K0 : ∀ o, (w5.alloc o).cell? ⟨w.heap.size, 0, none⟩ = some (.int .i64 a0) := fun o => old_cell k0 o
  have K1 : ∀ o, (w5.alloc o).cell? ⟨w.heap.size, 1, none⟩ = some (.int .i64 a1) := fun o => old_cell k1 o
  go_wp2_with (first
    | (go_at_call 23; (first | (with_reducible refine (near_yes (a0 * a0 + a1 * a1) (u * u + v * v) _ N1 (by omega) (by omega)).mono ?_) | (with_reducible refine (near_yes (u * u + v * v) (a0 * a0 + a1 * a1) _ N2 (by omega) (by omega)).mono ?_)); rintro e w' ⟨rfl, rfl⟩)
    | (go_at_call 13; refine (awake_any _ (tab_grown hT5 ((Grown.refl w5).alloc _ _))).mono ?_; rintro e w1 ⟨rfl, hg⟩; have HZ := Lib.hid (grown_trans (HK5.out.alloc _ _) hg); clear hg))
  go_ret
  exact ⟨rfl, HZ.out⟩
theorem AngleTurns_walk (a0 a1 a2 : Int) (_b0 : -9223372036854775808 ≤ a0 ∧ a0 ≤ 9223372036854775807) (_b1 : -9223372036854775808 ≤ a1 ∧ a1 ≤ 9223372036854775807) (_b2 : -9223372036854775808 ≤ a2 ∧ a2 ≤ 9223372036854775807) (w : World) (hT : Tab w) :
    Calls Tryd.prog 9 #[.agg #[.int .i64 a0, .int .i64 a1], .int .i64 a2] w fun e w' => e = .returned (.bool true) ∧ Grown w w' := by
  by_cases h : inMM a0 a1 = true
  · obtain ⟨hx, hy⟩ := (inMM_iff a0 a1).1 h
    obtain ⟨q1, q2, q3, q4⟩ := tur_quarter h
    obtain ⟨l1, l2, l3, l4⟩ := len_both h a2
    have ht : turU a0 a1 a2 = turX a0 a1 a2 ∧ turV a0 a1 a2 = turY a0 a1 a2 ∧ turE a0 a1 = 0 := by unfold turU turV turE; rw [if_pos h, if_pos h, if_pos h]; exact ⟨rfl, rfl, rfl⟩
    exact AngleTurns_good a0 a1 a2 (turX a0 a1 a2) (turY a0 a1 a2) w hT hx hy (Lib.hid q1) (Lib.hid q2) (Lib.hid q3) (Lib.hid q4) (Lib.hid ht) l3 l4 (Lib.hid l1) (Lib.hid l2)
      ⟨sq_nonneg _, sq_bd (m := 32768) hx⟩ ⟨sq_nonneg _, sq_bd (m := 32768) hy⟩ ⟨sq_nonneg _, sq_bd (m := 100000) l3⟩ ⟨sq_nonneg _, sq_bd (m := 100000) l4⟩
  · exact AngleTurns_bad a0 a1 a2 w hT (Bool.of_not_eq_true h)
end Go.Proofs.YtcchenfagkohdaaDoor.AngW
