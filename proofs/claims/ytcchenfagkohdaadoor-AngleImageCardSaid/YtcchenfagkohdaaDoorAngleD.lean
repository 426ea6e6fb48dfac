/-
  Walks of Turned of the specification of package angle: what a call returns for every input. Condition: none.
-/
import Derived.Test.YtcchenfagkohdaaDoorAngleC
import Derived.Test.YtcchenfagkohdaaDoorNumE
import Derived.Deep.RegionHeld3
import Derived.Deep.DeepCutAuto
import Derived.IntWalk
namespace Go.Proofs.YtcchenfagkohdaaDoor.AngW
open Go.ChangeShapes Go.WideShapes Go.ChangeAt Go.RowKit
open NumP NumW AngP

/-- Grown, closed to the walk. -/
structure Kept (w w' : World) : Prop where
  g : Grown w w'
theorem Kept.drew {w w' : World} (h : Kept w w') : Kept w w'.drew := ⟨h.g⟩
theorem Kept.drewN {w w' : World} (h : Kept w w') (n : Nat) : Kept w (w'.drewN n) := ⟨h.g⟩
theorem held_step {w wc w1 : World} {B C : Nat} {x y z u : Value} (hg : Grown wc w1) (h : wc.cell? ⟨B, 0, none⟩ = some x ∧ wc.cell? ⟨B, 1, none⟩ = some y ∧ wc.cell? ⟨C, 0, none⟩ = some z ∧ wc.cell? ⟨C, 1, none⟩ = some u ∧ Kept w wc) :
    w1.cell? ⟨B, 0, none⟩ = some x ∧ w1.cell? ⟨B, 1, none⟩ = some y ∧ w1.cell? ⟨C, 0, none⟩ = some z ∧ w1.cell? ⟨C, 1, none⟩ = some u ∧ Kept w w1 :=
  ⟨grown_cell hg h.1, grown_cell hg h.2.1, grown_cell hg h.2.2.1, grown_cell hg h.2.2.2.1, ⟨grown_trans h.2.2.2.2.g hg⟩⟩
theorem fresh_frozen (w : World) (k o : Nat) : w.frozen? ⟨w.heap.size + k, o, none⟩ = false := by
  simp [World.frozen?]

theorem rround_at (a b v f : Int) (w : World) (H : Hid (roundV a b = v ∧ roundE a b = f)) :
    Calls Tryd.prog 33 #[.int .i64 a, .int .i64 b] w fun e w' => e = .returned (.tuple #[.int .i64 v, .int .i64 f]) ∧ Drew w w' := by
  obtain ⟨rfl, rfl⟩ := H.out
  exact rround_any a b w
theorem far_no (x y : Int) (w : World) (h : -32768 ≤ x ∧ x ≤ 32768) (h2 : -32768 ≤ y ∧ y ≤ 32768) :
    Calls Tryd.prog 32 #[.agg #[.int .i64 x, .int .i64 y]] w fun e w' => e = .returned (.bool false) ∧ w' = w.alloc (.cells #[.int .i64 x, .int .i64 y] 31) := by
  go_enter Tryd.func32, Tryd.ntmps32
  go_wp2
  go_ret
  exact ⟨by first | rfl | (simp; omega), rfl⟩
theorem far_yes (x y : Int) (w : World) (h : inMM x y = false) :
    Calls Tryd.prog 32 #[.agg #[.int .i64 x, .int .i64 y]] w fun e w' => e = .returned (.bool true) ∧ w' = w.alloc (.cells #[.int .i64 x, .int .i64 y] 31) := by
  rw [inMM_no] at h
  have t : x < -32768 ∨ ¬ x < -32768 ∧ 32768 < x ∨ ¬ x < -32768 ∧ ¬ 32768 < x ∧ y < -32768 ∨ ¬ x < -32768 ∧ ¬ 32768 < x ∧ ¬ y < -32768 ∧ 32768 < y := by omega
  clear h
  rcases t with t | ⟨t, t1⟩ | ⟨t, t1, t2⟩ | ⟨t, t1, t2, t3⟩
  all_goals
    go_enter Tryd.func32, Tryd.ntmps32
    go_wp2
    go_ret
    exact ⟨rfl, rfl⟩
set_option maxRecDepth 100000 in
set_option maxHeartbeats 4000000 in
theorem rtur (x y a c s u v : Int) (w : World) (h : -32768 ≤ x ∧ x ≤ 32768) (h2 : -32768 ≤ y ∧ y ≤ 32768) (HC : Hid (cosV a = c)) (HS : Hid (sinV a = s))
    (b1 : -536870912 ≤ x * c ∧ x * c ≤ 536870912) (b2 : -536870912 ≤ y * s ∧ y * s ≤ 536870912) (b3 : -536870912 ≤ y * c ∧ y * c ≤ 536870912) (b4 : -536870912 ≤ x * s ∧ x * s ≤ 536870912)
    (HX : Hid (roundV (x * c + y * s) 16384 = u ∧ roundE (x * c + y * s) 16384 = 0)) (HY : Hid (roundV (y * c - x * s) 16384 = v ∧ roundE (y * c - x * s) 16384 = 0)) :
    Calls Tryd.prog 21 #[.agg #[.int .i64 x, .int .i64 y], .int .i64 a] w fun e w' => e = .returned (.tuple #[.agg #[.int .i64 u, .int .i64 v], .int .i64 0]) ∧ Grown w w' := by
  have e1 : IntKind.i64.wrap (x * c) = x * c := IntWalk.i64_in _ (by omega)
  have e2 : IntKind.i64.wrap (y * s) = y * s := IntWalk.i64_in _ (by omega)
  have e3 : IntKind.i64.wrap (x * c + y * s) = x * c + y * s := IntWalk.i64_in _ (by omega)
  have e4 : IntKind.i64.wrap (y * c) = y * c := IntWalk.i64_in _ (by omega)
  have e5 : IntKind.i64.wrap (x * s) = x * s := IntWalk.i64_in _ (by omega)
  have e6 : IntKind.i64.wrap (y * c - x * s) = y * c - x * s := IntWalk.i64_in _ (by omega)
  have E4 := Lib.hid e4
  have E5 := Lib.hid e5
  have E6 := Lib.hid e6
  clear e4 e5 e6
  go_enter Tryd.func21, Tryd.ntmps21
  go_upto_region 3 with (go_at_call 32; refine (far_no _ _ _ h h2).mono ?_; rintro e w' ⟨rfl, rfl⟩)
  have g0 : Kept w (((w.alloc (.cells #[.int .i64 x, .int .i64 y] 31)).alloc (.cells #[.int .i64 0, .int .i64 0] 31)).alloc (.cells #[.int .i64 x, .int .i64 y] 31)) := ⟨(((Grown.refl w).alloc _ _).alloc _ _).alloc _ _⟩
  have f0 : (((w.alloc (.cells #[.int .i64 x, .int .i64 y] 31)).alloc (.cells #[.int .i64 0, .int .i64 0] 31)).alloc (.cells #[.int .i64 x, .int .i64 y] 31)).cell? ⟨w.heap.size, 0, none⟩ = some (.int .i64 x) := by go_simp
  have f1 : (((w.alloc (.cells #[.int .i64 x, .int .i64 y] 31)).alloc (.cells #[.int .i64 0, .int .i64 0] 31)).alloc (.cells #[.int .i64 x, .int .i64 y] 31)).cell? ⟨w.heap.size, 1, none⟩ = some (.int .i64 y) := by go_simp
  have f2 : (((w.alloc (.cells #[.int .i64 x, .int .i64 y] 31)).alloc (.cells #[.int .i64 0, .int .i64 0] 31)).alloc (.cells #[.int .i64 x, .int .i64 y] 31)).cell? ⟨w.heap.size + 1, 0, none⟩ = some (.int .i64 0) := by go_simp
  have f3 : (((w.alloc (.cells #[.int .i64 x, .int .i64 y] 31)).alloc (.cells #[.int .i64 0, .int .i64 0] 31)).alloc (.cells #[.int .i64 x, .int .i64 y] 31)).cell? ⟨w.heap.size + 1, 1, none⟩ = some (.int .i64 0) := by go_simp
  generalize hW : (((w.alloc (.cells #[.int .i64 x, .int .i64 y] 31)).alloc (.cells #[.int .i64 0, .int .i64 0] 31)).alloc (.cells #[.int .i64 x, .int .i64 y] 31)) = W0 at *
  clear hW
  have g1 := g0.drew
  go_region_held3 (fun w' => w'.cell? ⟨w.heap.size, 0, none⟩ = some (.int .i64 x) ∧ w'.cell? ⟨w.heap.size, 1, none⟩ = some (.int .i64 y) ∧ w'.cell? ⟨w.heap.size + 1, 0, none⟩ = some (.int .i64 0) ∧ w'.cell? ⟨w.heap.size + 1, 1, none⟩ = some (.int .i64 0) ∧ Kept w w') (go_keep)
    (first
      | (go_at_call 17; refine (rcos_at a c _ HC).mono ?_; rintro e w1 ⟨rfl, hg⟩; obtain ⟨k0, k1, k2, k3, k4⟩ := held_step hg (by with_reducible assumption); clear hg)
      | (go_at_call 15; refine (rsin_at a s _ HS).mono ?_; rintro e w1 ⟨rfl, hg⟩; obtain ⟨k0, k1, k2, k3, k4⟩ := held_step hg (by with_reducible assumption); clear hg)
      | (go_at_call 33; refine (rround_at _ _ u 0 _ HX).mono ?_; rintro e w1 ⟨rfl, hd⟩; have hg := grown_drew hd; clear hd; obtain ⟨k0, k1, k2, k3, k4⟩ := held_step hg (by with_reducible assumption); clear hg))
  clear e1 e2 e3 f0 f1 f2 f3 g0 g1
  have e4 := E4.out
  have e5 := E5.out
  have e6 := E6.out
  clear E4 E5 E6
  go_upto_region 4 with (fail)
  have g1 := k4.drew
  go_region_held3 (fun w' => w'.cell? ⟨w.heap.size, 0, none⟩ = some (.int .i64 x) ∧ w'.cell? ⟨w.heap.size, 1, none⟩ = some (.int .i64 y) ∧ w'.cell? ⟨w.heap.size + 1, 0, none⟩ = some (.int .i64 0) ∧ w'.cell? ⟨w.heap.size + 1, 1, none⟩ = some (.int .i64 0) ∧ Kept w w') (go_keep)
    (first
      | (go_at_call 17; refine (rcos_at a c _ HC).mono ?_; rintro e w1 ⟨rfl, hg⟩; obtain ⟨k0, k1, k2, k3, k4⟩ := held_step hg (by with_reducible assumption); clear hg)
      | (go_at_call 15; refine (rsin_at a s _ HS).mono ?_; rintro e w1 ⟨rfl, hg⟩; obtain ⟨k0, k1, k2, k3, k4⟩ := held_step hg (by with_reducible assumption); clear hg)
      | (go_at_call 33; refine (rround_at _ _ v 0 _ HY).mono ?_; rintro e w1 ⟨rfl, hd⟩; have hg := grown_drew hd; clear hd; obtain ⟨k0, k1, k2, k3, k4⟩ := held_step hg (by with_reducible assumption); clear hg))
  clear e4 e5 e6 g1
  have z0 : w1.frozen? ⟨w.heap.size + 1, 0, none⟩ = false := (k4.g.2.1 _).trans (fresh_frozen w 1 0)
  have z1 : w1.frozen? ⟨w.heap.size + 1, 1, none⟩ = false := (k4.g.2.1 _).trans (fresh_frozen w 1 1)
  go_wp2
  exact bodyPost_ret (v := .tuple #[.agg #[.int .i64 u, .int .i64 v], .int .i64 0]) (by simp [results, Tryd.results21, go_sem, k2, k3]) rfl ⟨rfl, (k4.g.setCell (by simp) _).setCell (by simp) _⟩
set_option maxHeartbeats 1000000 in
theorem rtur_bad (x y a : Int) (w : World) (h : inMM x y = false) :
    Calls Tryd.prog 21 #[.agg #[.int .i64 x, .int .i64 y], .int .i64 a] w fun e w' => e = .returned (.tuple #[.agg #[.int .i64 0, .int .i64 0], .int .i64 1]) ∧ Grown w w' := by
  have H := Lib.hid h
  clear h
  go_enter Tryd.func21, Tryd.ntmps21
  go_wp2_with (go_at_call 32; refine (far_yes _ _ _ H.out).mono ?_; rintro e w' ⟨rfl, rfl⟩)
  exact bodyPost_ret (v := .tuple #[.agg #[.int .i64 0, .int .i64 0], .int .i64 1]) (by simp [results, Tryd.results21, go_sem]) rfl ⟨rfl, (((Grown.refl w).alloc _ _).alloc _ _).alloc _ _⟩
/-- Turned's value and error. -/
def turE (x y : Int) : Int := if inMM x y = true then 0 else 1
def turU (x y a : Int) : Int := if inMM x y = true then turX x y a else 0
def turV (x y a : Int) : Int := if inMM x y = true then turY x y a else 0
theorem near_round {s : Int} (h : -2147483648 ≤ s ∧ s ≤ 2147483648) : roundV s 16384 = nearV s 16384 ∧ roundE s 16384 = 0 := by
  have h1 := round_ok ((small_iff s).2 (by omega)) ((small_iff 16384).2 (by decide)) (by decide)
  rw [if_neg (by decide)] at h1
  exact ⟨h1.2, h1.1⟩
theorem rtur_any (x y a : Int) (w : World) :
    Calls Tryd.prog 21 #[.agg #[.int .i64 x, .int .i64 y], .int .i64 a] w fun e w' => e = .returned (.tuple #[.agg #[.int .i64 (turU x y a), .int .i64 (turV x y a)], .int .i64 (turE x y)]) ∧ Grown w w' := by
  unfold turU turV turE
  by_cases h : inMM x y = true
  · rw [if_pos h, if_pos h, if_pos h]
    obtain ⟨b1, b2, b3, b4⟩ := tur_bds h a
    obtain ⟨h1, h2⟩ := (inMM_iff x y).1 h
    exact rtur x y a (cosV a) (sinV a) (turX x y a) (turY x y a) w h1 h2 (Lib.hid rfl) (Lib.hid rfl) b1 b2 b3 b4
      (Lib.hid (near_round (by generalize x * cosV a = p at *; generalize y * sinV a = q at *; omega))) (Lib.hid (near_round (by generalize y * cosV a = p at *; generalize x * sinV a = q at *; omega)))
  · rw [if_neg h, if_neg h, if_neg h]
    exact rtur_bad x y a w (Bool.of_not_eq_true h)
end Go.Proofs.YtcchenfagkohdaaDoor.AngW
