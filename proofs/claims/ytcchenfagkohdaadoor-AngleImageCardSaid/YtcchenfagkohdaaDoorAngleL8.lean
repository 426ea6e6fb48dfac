/-
  Walk of the law AngleImage: it returns true for every input. Condition: the table of sines lies in memory (Tab).
-/
import Derived.Test.YtcchenfagkohdaaDoorAngleL6
import Derived.Deep.RegionWith
namespace Go.Proofs.YtcchenfagkohdaaDoor.AngW
open Go.ChangeShapes Go.WideShapes Go.ChangeAt Go.RowKit Go.Joins
open NumP NumW AngP

set_option maxRecDepth 100000 in
set_option maxHeartbeats 2000000 in
theorem AngleImage_bad (a0 a1 a2 : Int) (w : World) (hT : Tab w) (h : inMM a0 a1 = false) :
    Calls Tryd.prog 10 #[.agg #[.int .i64 a0, .int .i64 a1], .int .i64 a2] w fun e w' => e = .returned (.bool true) ∧ Grown w w' := by
  have hTa : Tab (w.alloc (.cells #[.int .i64 a0, .int .i64 a1] 31)) := tab_grown hT ((Grown.refl w).alloc _ _)
  have HR := Lib.hid (show Grown w (w.alloc (.cells #[.int .i64 a0, .int .i64 a1] 31)) from (Grown.refl w).alloc _ _)
  have f0 : (w.alloc (.cells #[.int .i64 a0, .int .i64 a1] 31)).cell? ⟨w.heap.size, 0, none⟩ = some (.int .i64 a0) := by go_simp
  have f1 : (w.alloc (.cells #[.int .i64 a0, .int .i64 a1] 31)).cell? ⟨w.heap.size, 1, none⟩ = some (.int .i64 a1) := by go_simp
  rw [inMM_no] at h
  have t : a0 < -32768 ∨ ¬ a0 < -32768 ∧ 32768 < a0 ∨ ¬ a0 < -32768 ∧ ¬ 32768 < a0 ∧ a1 < -32768 ∨ ¬ a0 < -32768 ∧ ¬ 32768 < a0 ∧ ¬ a1 < -32768 ∧ 32768 < a1 := by omega
  clear h
  rcases t with t | ⟨t, t1⟩ | ⟨t, t1, t2⟩ | ⟨t, t1, t2, t3⟩
  all_goals
    go_enter Tryd.func10, Tryd.ntmps10
    go_wp2_with (go_at_call 13; refine (awake_any _ hTa).mono ?_; rintro e w1 ⟨rfl, hg⟩; have HK := Lib.hid (grown_trans HR.out hg); clear hg)
    go_ret
    exact ⟨rfl, HK.out⟩
theorem Kept.alloc' {w w' : World} (h : Kept w w') (c : Array Value) (t : TypeId) : Kept w (w'.alloc (.cells c t)) := ⟨h.g.alloc _ _⟩
theorem tab_held {w wc : World} {B C : Nat} {x y z u : Value} (hT : Tab w) (h : wc.cell? ⟨B, 0, none⟩ = some x ∧ wc.cell? ⟨B, 1, none⟩ = some y ∧ wc.cell? ⟨C, 0, none⟩ = some z ∧ wc.cell? ⟨C, 1, none⟩ = some u ∧ Kept w wc) : Tab wc := tab_grown hT h.2.2.2.2.g
theorem old_frozen {w w8 : World} {B : Nat} (h : Kept w w8) (hb : w.heap.size ≤ B) (o : Nat) : w8.frozen? ⟨B, o, none⟩ = false := by
  rw [h.g.2.1]
  obtain ⟨k, rfl⟩ : ∃ k, B = w.heap.size + k := ⟨B - w.heap.size, by omega⟩
  exact fresh_frozen w k o
/-- What the second point's statement leaves. -/
def CutRel (w : World) (B : Nat) (u v : Int) (s7 s8 : Value) (wx : World) : Prop := ∃ g : Nat, s7 = .pointer (some ⟨g, 0, none⟩) ∧ s8 = .int .i64 0 ∧ wx.cell? ⟨g, 0, none⟩ = some (.int .i64 (-u)) ∧ wx.cell? ⟨g, 1, none⟩ = some (.int .i64 v) ∧ wx.cell? ⟨B, 0, none⟩ = some (.int .i64 u) ∧ wx.cell? ⟨B, 1, none⟩ = some (.int .i64 v) ∧ Kept w wx
set_option maxRecDepth 100000 in
set_option maxHeartbeats 4000000 in
theorem AngleImage_good (a0 a1 a2 m u v : Int) (w : World) (hT : Tab w) (hx : -32768 ≤ a0 ∧ a0 ≤ 32768) (hy : -32768 ≤ a1 ∧ a1 ≤ 32768) (M : Hid ((-a2) % 256 = m))
    (H : Hid (turU a0 a1 a2 = u ∧ turV a0 a1 a2 = v ∧ turE a0 a1 = 0)) (H2 : Hid (turU (-a0) a1 m = -u ∧ turV (-a0) a1 m = v ∧ turE (-a0) a1 = 0)) (hu : -100000 ≤ u ∧ u ≤ 100000) :
    Calls Tryd.prog 10 #[.agg #[.int .i64 a0, .int .i64 a1], .int .i64 a2] w fun e w' => e = .returned (.bool true) ∧ Grown w w' := by
  have hTa : Tab (w.alloc (.cells #[.int .i64 a0, .int .i64 a1] 31)) := tab_grown hT ((Grown.refl w).alloc _ _)
  have HR := Lib.hid (show Grown w (w.alloc (.cells #[.int .i64 a0, .int .i64 a1] 31)) from (Grown.refl w).alloc _ _)
  have f0 : (w.alloc (.cells #[.int .i64 a0, .int .i64 a1] 31)).cell? ⟨w.heap.size, 0, none⟩ = some (.int .i64 a0) := by go_simp
  have f1 : (w.alloc (.cells #[.int .i64 a0, .int .i64 a1] 31)).cell? ⟨w.heap.size, 1, none⟩ = some (.int .i64 a1) := by go_simp
  go_enter Tryd.func10, Tryd.ntmps10
  go_wp2_with (fail)
  refine (tur_at a0 a1 a2 u v 0 _ H (by with_reducible assumption)).mono ?_
  rintro e w5 ⟨rfl, hg⟩
  have hT5 := tab_grown (by with_reducible assumption) hg
  have k0 : w5.cell? ⟨w.heap.size, 0, none⟩ = some (.int .i64 a0) := grown_cell hg (by with_reducible assumption)
  have k1 : w5.cell? ⟨w.heap.size, 1, none⟩ = some (.int .i64 a1) := grown_cell hg (by with_reducible assumption)
  have HK5 := Lib.hid (grown_trans (Hid.out (by with_reducible assumption)) hg)
  clear hg
  have K0 : ∀ o, (w5.alloc o).cell? ⟨w.heap.size, 0, none⟩ = some (.int .i64 a0) := fun o => old_cell k0 o
  have K1 : ∀ o, (w5.alloc o).cell? ⟨w.heap.size, 1, none⟩ = some (.int .i64 a1) := fun o => old_cell k1 o
  have q0 : ∀ o : Obj, o = .cells #[.int .i64 u, .int .i64 v] 31 → (w5.alloc o).cell? ⟨w5.heap.size, 0, none⟩ = some (.int .i64 u) := fun o h => by rw [h]; go_simp
  have q1 : ∀ o : Obj, o = .cells #[.int .i64 u, .int .i64 v] 31 → (w5.alloc o).cell? ⟨w5.heap.size, 1, none⟩ = some (.int .i64 v) := fun o h => by rw [h]; go_simp
  have Q0 := Lib.hid q0
  have Q1 := Lib.hid q1
  clear q0 q1
  go_upto_region 4 with (fail)
  have c0 := K0 (.cells #[.int .i64 u, .int .i64 v] 31)
  have c1 := K1 (.cells #[.int .i64 u, .int .i64 v] 31)
  have c2 := Q0.out _ rfl
  have c3 := Q1.out _ rfl
  have g6 : Kept w (w5.alloc (.cells #[.int .i64 u, .int .i64 v] 31)) := ⟨HK5.out.alloc _ _⟩
  clear K0 K1 Q0 Q1 k0 k1
  generalize hW : w5.alloc (.cells #[.int .i64 u, .int .i64 v] 31) = w6 at *
  clear hW
  have E1 : IntKind.i64.wrap (-a0) = -a0 := IntWalk.i64_in _ (by omega)
  have lt56 : w5.heap.size < w6.heap.size := block_lt_of_cell c2
  have h7 : w6.drew.cell? ⟨w5.heap.size, 0, none⟩ = some (.int .i64 u) ∧ w6.drew.cell? ⟨w5.heap.size, 1, none⟩ = some (.int .i64 v) ∧ w6.drew.cell? ⟨w5.heap.size, 0, none⟩ = some (.int .i64 u) ∧ w6.drew.cell? ⟨w5.heap.size, 1, none⟩ = some (.int .i64 v) ∧ Kept w w6.drew := ⟨c2, c3, c2, c3, g6.drew⟩
  have h8 : (w6.alloc (.cells #[.int .i64 0, .int .i64 0] 31)).drew.cell? ⟨w5.heap.size, 0, none⟩ = some (.int .i64 u) ∧ (w6.alloc (.cells #[.int .i64 0, .int .i64 0] 31)).drew.cell? ⟨w5.heap.size, 1, none⟩ = some (.int .i64 v) ∧ (w6.alloc (.cells #[.int .i64 0, .int .i64 0] 31)).drew.cell? ⟨w6.heap.size, 0, none⟩ = some (.int .i64 0) ∧ (w6.alloc (.cells #[.int .i64 0, .int .i64 0] 31)).drew.cell? ⟨w6.heap.size, 1, none⟩ = some (.int .i64 0) ∧ Kept w (w6.alloc (.cells #[.int .i64 0, .int .i64 0] 31)).drew := ⟨old_cell c2 _, old_cell c3 _, by go_simp, by go_simp, (g6.alloc' _ _).drew⟩
  have T7 := tab_grown hT g6.drew.g
  have T8 : Tab (w6.alloc (.cells #[.int .i64 0, .int .i64 0] 31)).drew := tab_grown hT h8.2.2.2.2.g
  have gw := g6.g.2.2
  have H7 := Lib.hid h7
  have H8 := Lib.hid h8
  have KA0 : ∀ o, (w6.alloc o).cell? ⟨w.heap.size, 0, none⟩ = some (.int .i64 a0) := fun o => old_cell c0 o
  have KA1 : ∀ o, (w6.alloc o).cell? ⟨w.heap.size, 1, none⟩ = some (.int .i64 a1) := fun o => old_cell c1 o
  have LT := Lib.hid lt56
  have GW := Lib.hid gw
  clear h7 h8 lt56 gw
  go_cut [7, 8] (fun s7 s8 wx => CutRel w w5.heap.size u v s7 s8 wx)
  case first =>
    go_region_with (first
      | (go_at_call 12; refine (mir_at _ m _ M).mono ?_; rintro e w' ⟨rfl, rfl⟩)
      | (go_at_call 20; (with_reducible refine (tur_at (-a0) a1 m (-u) v 0 _ H2 T7).mono ?_); rintro e w8 ⟨rfl, hg⟩; obtain ⟨d2, d3, _, _, d4⟩ := held_step hg H7.out; have D2 := fun o => old_cell d2 o; have D3 := fun o => old_cell d3 o; have GK := fun c t => d4.alloc' c t; clear hg)
      | (go_at_call 20; (with_reducible refine (tur_at (-a0) a1 m (-u) v 0 _ H2 T8).mono ?_); rintro e w8 ⟨rfl, hg⟩; obtain ⟨d2, d3, z2, z3, d4⟩ := held_step hg H8.out; have y0 := old_frozen d4 GW.out 0; have y1 := old_frozen d4 GW.out 1; have ne := Nat.ne_of_lt LT.out; clear hg))
    all_goals
      go_wp2_with (fail)
      go_meet
      first
        | exact ⟨w8.heap.size, rfl, rfl, by go_simp, by go_simp, D2 _, D3 _, GK _ _⟩
        | exact ⟨w6.heap.size, rfl, rfl, by go_simp, by go_simp, by go_simp, by go_simp, ⟨(d4.g.setCell GW.out _).setCell GW.out _⟩⟩
  case rest =>
    unfold CutRel at hcut
    obtain ⟨g, rfl, rfl, r0, r1, r2, r3, r4⟩ := hcut
    have T9 := tab_grown hT r4.g
    go_wp2_with (go_at_call 13; refine (awake_any _ T9).mono ?_; rintro e w9 ⟨rfl, hg⟩; have HZ := Lib.hid (grown_trans r4.g hg); clear hg)
    go_ret
    exact ⟨rfl, HZ.out⟩

theorem AngleImage_walk (a0 a1 a2 : Int) (_b0 : -9223372036854775808 ≤ a0 ∧ a0 ≤ 9223372036854775807) (_b1 : -9223372036854775808 ≤ a1 ∧ a1 ≤ 9223372036854775807) (_b2 : -9223372036854775808 ≤ a2 ∧ a2 ≤ 9223372036854775807) (w : World) (hT : Tab w) :
    Calls Tryd.prog 10 #[.agg #[.int .i64 a0, .int .i64 a1], .int .i64 a2] w fun e w' => e = .returned (.bool true) ∧ Grown w w' := by
  by_cases h : inMM a0 a1 = true
  · obtain ⟨hx, hy⟩ := (inMM_iff a0 a1).1 h
    have h' : inMM (-a0) a1 = true := (inMM_iff _ _).2 ⟨by omega, hy⟩
    obtain ⟨i1, i2⟩ := image a0 a1 a2
    have l3 := (len_both h a2).2.2.1
    have ht : turU a0 a1 a2 = turX a0 a1 a2 ∧ turV a0 a1 a2 = turY a0 a1 a2 ∧ turE a0 a1 = 0 := by unfold turU turV turE; rw [if_pos h, if_pos h, if_pos h]; exact ⟨rfl, rfl, rfl⟩
    have ht2 : turU (-a0) a1 ((-a2) % 256) = -turX a0 a1 a2 ∧ turV (-a0) a1 ((-a2) % 256) = turY a0 a1 a2 ∧ turE (-a0) a1 = 0 := by unfold turU turV turE; rw [if_pos h', if_pos h', if_pos h', i1, i2]; exact ⟨rfl, rfl, rfl⟩
    exact AngleImage_good a0 a1 a2 ((-a2) % 256) (turX a0 a1 a2) (turY a0 a1 a2) w hT hx hy (Lib.hid rfl) (Lib.hid ht) (Lib.hid ht2) l3
  · exact AngleImage_bad a0 a1 a2 w hT (Bool.of_not_eq_true h)
end Go.Proofs.YtcchenfagkohdaaDoor.AngW
