/-
  Walks of the program of package posture: the small functions, isCarried, Check. Condition: the target straight down lies in memory (Dn), which every start of the program gives.
-/
import Derived.Test.YtneobaininejaaaDoorPosturePA
namespace Go.Proofs.YtneobaininejaaaDoor.PstW
open Go.ChangeShapes Go.WideShapes Go.ChangeAt Go.RowKit
open PairW AimP AimW BlkW PrtW PstP
def egB (d : Int) : Bool := decide (0 ≤ d) && decide (d ≤ 7)
theorem eg_iff (d : Int) : egB d = true ↔ 0 ≤ d ∧ d ≤ 7 := by unfold egB; rw [Bool.and_eq_true, decide_eq_true_eq, decide_eq_true_eq]
theorem eg_no (d : Int) : egB d = false ↔ d < 0 ∨ 7 < d := by rw [← Bool.not_eq_true, eg_iff]; omega
def lvB (d : Int) : Bool := decide (-1 ≤ d) && decide (d ≤ 1)
theorem lv_iff (d : Int) : lvB d = true ↔ -1 ≤ d ∧ d ≤ 1 := by unfold lvB; rw [Bool.and_eq_true, decide_eq_true_eq, decide_eq_true_eq]
theorem lv_no (d : Int) : lvB d = false ↔ d < -1 ∨ 1 < d := by rw [← Bool.not_eq_true, lv_iff]; omega
def suB (d : Int) : Bool := decide (1 ≤ d) && decide (d ≤ 3)
theorem su_iff (d : Int) : suB d = true ↔ 1 ≤ d ∧ d ≤ 3 := by unfold suB; rw [Bool.and_eq_true, decide_eq_true_eq, decide_eq_true_eq]
theorem su_no (d : Int) : suB d = false ↔ d < 1 ∨ 3 < d := by rw [← Bool.not_eq_true, su_iff]; omega
def anB (d : Int) : Bool := decide (0 ≤ d) && decide (d ≤ 255)
theorem an_iff (d : Int) : anB d = true ↔ 0 ≤ d ∧ d ≤ 255 := by unfold anB; rw [Bool.and_eq_true, decide_eq_true_eq, decide_eq_true_eq]
theorem an_no (d : Int) : anB d = false ↔ d < 0 ∨ 255 < d := by rw [← Bool.not_eq_true, an_iff]; omega
def lfB (d : Int) : Bool := decide (-8 ≤ d) && decide (d ≤ 8)
theorem lf_iff (d : Int) : lfB d = true ↔ -8 ≤ d ∧ d ≤ 8 := by unfold lfB; rw [Bool.and_eq_true, decide_eq_true_eq, decide_eq_true_eq]
theorem lf_no (d : Int) : lfB d = false ↔ d < -8 ∨ 8 < d := by rw [← Bool.not_eq_true, lf_iff]; omega
theorem fl_no (d : Int) : AngW.floorB d = false ↔ d < -32768 ∨ 32768 < d := by rw [← Bool.not_eq_true, AngW.floor_iff]; omega
theorem pfl_at (d : Int) (t : Bool) (w : World) (H : Hid (AngW.floorB d = t)) :
    Calls Tryd.prog 66 #[.int .i64 d] w fun r w' => r = .returned (.bool t) ∧ w = w' := by
  have hi := AngW.floor_iff d
  rw [H.out] at hi
  clear H
  by_cases h1 : -32768 ≤ d
  · by_cases h2 : d ≤ 32768
    · obtain rfl : t = true := hi.2 (by omega)
      clear hi
      go_enter Tryd.func66, Tryd.ntmps66
      go_wp2
      go_ret
      exact ⟨ret_bool (by simp), rfl⟩
    · obtain rfl : t = false := by cases t <;> simp at hi ⊢; omega
      clear hi
      go_enter Tryd.func66, Tryd.ntmps66
      go_wp2
      go_ret
      exact ⟨ret_bool (by simp), rfl⟩
  · obtain rfl : t = false := by cases t <;> simp at hi ⊢; omega
    clear hi
    go_enter Tryd.func66, Tryd.ntmps66
    go_wp2
    go_ret
    exact ⟨ret_bool (by simp), rfl⟩
theorem peg_at (d : Int) (t : Bool) (w : World) (H : Hid (egB d = t)) :
    Calls Tryd.prog 31 #[.int .i64 d] w fun r w' => r = .returned (.bool t) ∧ w = w' := by
  have hi := eg_iff d
  rw [H.out] at hi
  clear H
  by_cases h1 : 0 ≤ d
  · by_cases h2 : d < 8
    · obtain rfl : t = true := hi.2 (by omega)
      clear hi
      go_enter Tryd.func31, Tryd.ntmps31
      go_wp2
      go_ret
      exact ⟨ret_bool (by simp), rfl⟩
    · obtain rfl : t = false := by cases t <;> simp at hi ⊢; omega
      clear hi
      go_enter Tryd.func31, Tryd.ntmps31
      go_wp2
      go_ret
      exact ⟨ret_bool (by simp), rfl⟩
  · obtain rfl : t = false := by cases t <;> simp at hi ⊢; omega
    clear hi
    go_enter Tryd.func31, Tryd.ntmps31
    go_wp2
    go_ret
    exact ⟨ret_bool (by simp), rfl⟩
theorem plv_at (d : Int) (t : Bool) (w : World) (H : Hid (lvB d = t)) :
    Calls Tryd.prog 32 #[.int .i64 d] w fun r w' => r = .returned (.bool t) ∧ w = w' := by
  have hi := lv_iff d
  rw [H.out] at hi
  clear H
  by_cases h1 : -1 ≤ d
  · by_cases h2 : d ≤ 1
    · obtain rfl : t = true := hi.2 (by omega)
      clear hi
      go_enter Tryd.func32, Tryd.ntmps32
      go_wp2
      go_ret
      exact ⟨ret_bool (by simp), rfl⟩
    · obtain rfl : t = false := by cases t <;> simp at hi ⊢; omega
      clear hi
      go_enter Tryd.func32, Tryd.ntmps32
      go_wp2
      go_ret
      exact ⟨ret_bool (by simp), rfl⟩
  · obtain rfl : t = false := by cases t <;> simp at hi ⊢; omega
    clear hi
    go_enter Tryd.func32, Tryd.ntmps32
    go_wp2
    go_ret
    exact ⟨ret_bool (by simp), rfl⟩
theorem psu_at (d : Int) (t : Bool) (w : World) (H : Hid (suB d = t)) :
    Calls Tryd.prog 33 #[.int .i64 d] w fun r w' => r = .returned (.bool t) ∧ w = w' := by
  have hi := su_iff d
  rw [H.out] at hi
  clear H
  by_cases h1 : 1 ≤ d
  · by_cases h2 : d ≤ 3
    · obtain rfl : t = true := hi.2 (by omega)
      clear hi
      go_enter Tryd.func33, Tryd.ntmps33
      go_wp2
      go_ret
      exact ⟨ret_bool (by simp), rfl⟩
    · obtain rfl : t = false := by cases t <;> simp at hi ⊢; omega
      clear hi
      go_enter Tryd.func33, Tryd.ntmps33
      go_wp2
      go_ret
      exact ⟨ret_bool (by simp), rfl⟩
  · obtain rfl : t = false := by cases t <;> simp at hi ⊢; omega
    clear hi
    go_enter Tryd.func33, Tryd.ntmps33
    go_wp2
    go_ret
    exact ⟨ret_bool (by simp), rfl⟩
theorem pan_at (d : Int) (t : Bool) (w : World) (H : Hid (anB d = t)) :
    Calls Tryd.prog 42 #[.int .i64 d] w fun r w' => r = .returned (.bool t) ∧ w = w' := by
  have hi := an_iff d
  rw [H.out] at hi
  clear H
  by_cases h1 : 0 ≤ d
  · by_cases h2 : d < 256
    · obtain rfl : t = true := hi.2 (by omega)
      clear hi
      go_enter Tryd.func42, Tryd.ntmps42
      go_wp2
      go_ret
      exact ⟨ret_bool (by simp), rfl⟩
    · obtain rfl : t = false := by cases t <;> simp at hi ⊢; omega
      clear hi
      go_enter Tryd.func42, Tryd.ntmps42
      go_wp2
      go_ret
      exact ⟨ret_bool (by simp), rfl⟩
  · obtain rfl : t = false := by cases t <;> simp at hi ⊢; omega
    clear hi
    go_enter Tryd.func42, Tryd.ntmps42
    go_wp2
    go_ret
    exact ⟨ret_bool (by simp), rfl⟩
theorem plf_at (d : Int) (t : Bool) (w : World) (H : Hid (lfB d = t)) :
    Calls Tryd.prog 43 #[.int .i64 d] w fun r w' => r = .returned (.bool t) ∧ w = w' := by
  have hi := lf_iff d
  rw [H.out] at hi
  clear H
  by_cases h1 : -8 ≤ d
  · by_cases h2 : d ≤ 8
    · obtain rfl : t = true := hi.2 (by omega)
      clear hi
      go_enter Tryd.func43, Tryd.ntmps43
      go_wp2
      go_ret
      exact ⟨ret_bool (by simp), rfl⟩
    · obtain rfl : t = false := by cases t <;> simp at hi ⊢; omega
      clear hi
      go_enter Tryd.func43, Tryd.ntmps43
      go_wp2
      go_ret
      exact ⟨ret_bool (by simp), rfl⟩
  · obtain rfl : t = false := by cases t <;> simp at hi ⊢; omega
    clear hi
    go_enter Tryd.func43, Tryd.ntmps43
    go_wp2
    go_ret
    exact ⟨ret_bool (by simp), rfl⟩
def plB (x y : Int) : Bool := AngW.floorB x && AngW.floorB y
theorem pl_yes {x y : Int} (hx : -32768 ≤ x ∧ x ≤ 32768) (hy : -32768 ≤ y ∧ y ≤ 32768) : plB x y = true := by unfold plB; rw [(AngW.floor_iff x).2 hx, (AngW.floor_iff y).2 hy]; rfl
theorem pl_no {x y : Int} (h : ¬ ((-32768 ≤ x ∧ x ≤ 32768) ∧ -32768 ≤ y ∧ y ≤ 32768)) : plB x y = false := by
  cases e : plB x y with
  | false => rfl
  | true =>
    unfold plB at e
    rw [Bool.and_eq_true, AngW.floor_iff, AngW.floor_iff] at e
    exact absurd e h
theorem ppl_at (x y : Int) (t : Bool) (w : World) (H : Hid (plB x y = t)) :
    Calls Tryd.prog 30 #[.agg #[.int .i64 x, .int .i64 y]] w fun r w' => r = .returned (.bool t) ∧ Own w w' := by
  obtain rfl := H.out
  clear H
  unfold plB
  cases hx : AngW.floorB x with
  | false =>
    have HX := Lib.hid hx
    clear hx
    go_enter Tryd.func30, Tryd.ntmps30
    go_wp2_with (go_at_call 66; with_reducible refine (pfl_at x false _ HX).mono ?_; rintro r w1 ⟨rfl, rfl⟩)
    go_ret
    exact ⟨rfl, (Own.refl w).alloc _⟩
  | true =>
    have HX := Lib.hid hx
    clear hx
    cases hy : AngW.floorB y with
    | false =>
      have HY := Lib.hid hy
      clear hy
      go_enter Tryd.func30, Tryd.ntmps30
      go_wp2_with (first | (go_at_call 66; with_reducible refine (pfl_at x true _ HX).mono ?_; rintro r w1 ⟨rfl, rfl⟩) | (go_at_call 66; with_reducible refine (pfl_at y false _ HY).mono ?_; rintro r w1 ⟨rfl, rfl⟩))
      go_ret
      exact ⟨rfl, (Own.refl w).alloc _⟩
    | true =>
      have HY := Lib.hid hy
      clear hy
      go_enter Tryd.func30, Tryd.ntmps30
      go_wp2_with (first | (go_at_call 66; with_reducible refine (pfl_at x true _ HX).mono ?_; rintro r w1 ⟨rfl, rfl⟩) | (go_at_call 66; with_reducible refine (pfl_at y true _ HY).mono ?_; rintro r w1 ⟨rfl, rfl⟩))
      go_ret
      exact ⟨rfl, (Own.refl w).alloc _⟩
/-- A target is straight down. -/
def dwB (d v b : Int) : Bool := (d == 0) && ((v == -1) && (b == 0))
theorem dw_iff (d v b : Int) : dwB d v b = true ↔ d = 0 ∧ v = -1 ∧ b = 0 := by unfold dwB; simp
theorem tg_under : Tryd.prog.underlying 25 = some (.struct (Tryd.prog.fieldsOf 25)) := by kernel_rfl
theorem tg_stood : Tryd.prog.stoodInHeld 25 = false := by kernel_rfl
theorem tg_guards : Tryd.prog.eqGuardType Tryd.prog.depth 25 = false := by kernel_rfl
@[go_sem high] theorem tg_guard (op : BinOp) (x y : Operand) (xs ys : Array Value) (W : World) : (eqGuard op 25 x y (.agg xs) (.agg ys)).run Tryd.prog W = .ok () W := run_eqGuard_agg W op 25 x y xs ys tg_guards
theorem tg_eq (d v b : Int) (W : World) : (Op.equalIn 10000 25 (.agg #[.int .i64 d, .int .i64 v, .int .i64 b]) (.agg #[.int .i64 0, .int .i64 (-1), .int .i64 0])).run Tryd.prog W = .ok (dwB d v b) W := by
  rw [run_equalIn_agg W 9999 25 _ _ tg_under tg_stood]
  unfold dwB
  simp [go_sem, Op.eqFields, part, Program.fieldsOf, Tryd.underlying25, Tryd.underlying3]
  by_cases h1 : d = 0 <;> by_cases h2 : v = -1 <;> by_cases h3 : b = 0 <;> simp [h1, h2, h3]
@[go_sem high] theorem tg_eql (d v b : Int) (W : World) : (binOp .eql 25 (.agg #[.int .i64 d, .int .i64 v, .int .i64 b]) (.agg #[.int .i64 0, .int .i64 (-1), .int .i64 0])).run Tryd.prog W = .ok (.bool (dwB d v b)) W := by
  rw [run_eql_struct, tg_eq]
  rfl
@[go_sem high] theorem tg_neq (d v b : Int) (W : World) : (binOp .neq 25 (.agg #[.int .i64 d, .int .i64 v, .int .i64 b]) (.agg #[.int .i64 0, .int .i64 (-1), .int .i64 0])).run Tryd.prog W = .ok (.bool (!dwB d v b)) W := by
  rw [run_neq_struct, tg_eq]
  rfl
theorem wt_bool (s : Vl) : decide (wtOk s) = ((decide (s 4 = 2) || dwB (s 5) (s 6) (s 7)) && (decide (s 4 = 1) || dwB (s 8) (s 9) (s 10))) := by
  rw [Bool.eq_iff_iff, decide_eq_true_eq, Bool.and_eq_true, Bool.or_eq_true, Bool.or_eq_true, decide_eq_true_eq, decide_eq_true_eq, dw_iff, dw_iff]
  rfl
/-- The target straight down lies in memory. -/
structure Dn (w : World) : Prop where
  d0 : w.cell? ⟨0, 0, none⟩ = some (.int .i64 0)
  d1 : w.cell? ⟨0, 1, none⟩ = some (.int .i64 (-1))
  d2 : w.cell? ⟨0, 2, none⟩ = some (.int .i64 0)
theorem Dn.own {w w' : World} (h : Dn w) (g : Own w w') : Dn w' := ⟨g.cell h.d0, g.cell h.d1, g.cell h.d2⟩
set_option maxRecDepth 100000 in
set_option maxHeartbeats 2000000 in
theorem pcar_at (s : Vl) (t : Bool) (w : World) (HD : Hid (Dn w)) (hu : 1 ≤ s 4 ∧ s 4 ≤ 3) (H : Hid (decide (wtOk s) = t)) :
    Calls Tryd.prog 34 #[.agg (cz 23 s)] w fun r w' => r = .returned (.bool t) ∧ Own w w' := by
  obtain rfl := H.out
  clear H
  rw [wt_bool]
  obtain ⟨t0, h0⟩ : ∃ t, dwB (s 5) (s 6) (s 7) = t := ⟨_, rfl⟩
  obtain ⟨t1, h1⟩ : ∃ t, dwB (s 8) (s 9) (s 10) = t := ⟨_, rfl⟩
  rw [h0, h1]
  obtain ⟨W0, B, hW, hBq, hb, g0, -⟩ := blk_new w (cz 23 s) 28
  have k4 := blk_num hb (i := 4) (by omega)
  have k5 := blk_num hb (i := 5) (by omega)
  have k6 := blk_num hb (i := 6) (by omega)
  have k7 := blk_num hb (i := 7) (by omega)
  have k8 := blk_num hb (i := 8) (by omega)
  have k9 := blk_num hb (i := 9) (by omega)
  have k10 := blk_num hb (i := 10) (by omega)
  have hd := HD.out.own g0
  have e0 := hd.d0
  have e1 := hd.d1
  have e2 := hd.d2
  clear hd HD hb
  generalize s 4 = s4 at *
  generalize s 5 = s5 at *
  generalize s 6 = s6 at *
  generalize s 7 = s7 at *
  generalize s 8 = s8 at *
  generalize s 9 = s9 at *
  generalize s 10 = s10 at *
  have tu : s4 = 1 ∨ s4 = 2 ∨ s4 = 3 := by omega
  clear hu
  have HW := Lib.hid hW
  have HBq := Lib.hid hBq
  clear hW hBq
  rcases tu with rfl | rfl | rfl <;> cases t0 <;> cases t1
  all_goals
    go_enter Tryd.func34, Tryd.ntmps34
    go_upto_region 1 with (fail)
    rw [HW.out, HBq.out]
    go_wp2
    go_ret
    exact ⟨by first | rfl | (exact ret_bool (by simp)), g0⟩
set_option maxRecDepth 100000 in
set_option maxHeartbeats 2000000 in
theorem pcheck_any (s : Vl) (w : World) (HD : Hid (Dn w)) :
    Calls Tryd.prog 13 #[.agg (cz 23 s)] w fun r w' => r = .returned (.int .i64 (stE s)) ∧ Own w w' := by
  unfold stE
  by_cases hp : (-32768 ≤ s 0 ∧ s 0 ≤ 32768) ∧ -32768 ≤ s 1 ∧ s 1 ≤ 32768
  · have HP := Lib.hid (pl_yes hp.1 hp.2)
    by_cases he : 0 ≤ s 2 ∧ s 2 ≤ 7
    · have HE := Lib.hid ((eg_iff (s 2)).2 he)
      by_cases hl : -1 ≤ s 3 ∧ s 3 ≤ 1
      · have HL := Lib.hid ((lv_iff (s 3)).2 hl)
        by_cases hu : 1 ≤ s 4 ∧ s 4 ≤ 3
        · have HU := Lib.hid ((su_iff (s 4)).2 hu)
          rw [if_pos (show stR s from ⟨hp.1, hp.2, he, hl, hu⟩)]
          clear hp he hl
          by_cases hf : fe (tE s) = 0
          · rw [if_pos hf]
            have HA := Lib.hid hf
            clear hf
            by_cases hw : wtOk s
            · rw [if_pos hw]
              have HW := Lib.hid (decide_eq_true hw)
              clear hw
              go_enter Tryd.func13, Tryd.ntmps13
              go_upto_region 1 with (fail)
              obtain ⟨W0, B, hW, hBq, hb, g0, -⟩ := blk_new w (cz 23 s) 28
              rw [hW, hBq]
              have HB := Lib.hid hb
              have k2 := blk_num hb (i := 2) (by omega)
              have k3 := blk_num hb (i := 3) (by omega)
              have k4 := blk_num hb (i := 4) (by omega)
              clear hW hBq hb
              go_upto_region 3 with (first | ((with_reducible show wpList _ _ _ (⟨_, .load 23 (.tmp 5), _, _, _, none⟩ :: _) _ _); refine wpList_load_part rfl 23 (.tmp 5) rfl B (0) rfl 2 HB.out (by omega) (#[.int .i64 (s 0), .int .i64 (s 1)]) rfl _ Tryd.underlying23 rfl infoPt ?_) | (go_at_call 30; with_reducible refine (ppl_at _ _ true _ HP).mono ?_; rintro r w1 ⟨rfl, hg⟩; replace g0 := g0.trans hg; replace HB := Lib.hid (HB.out.own hg); replace k2 := hg.cell k2; replace k3 := hg.cell k3; replace k4 := hg.cell k4; clear hg) | (go_at_call 31; with_reducible refine (peg_at _ true _ HE).mono ?_; rintro r w1 ⟨rfl, rfl⟩) | (go_at_call 32; with_reducible refine (plv_at _ true _ HL).mono ?_; rintro r w1 ⟨rfl, rfl⟩) | (go_at_call 33; with_reducible refine (psu_at _ true _ HU).mono ?_; rintro r w1 ⟨rfl, rfl⟩))
              clear k2 k3 k4 HP HE HL HU
              go_upto_region 4 with (first | ((with_reducible show wpList _ _ _ (⟨_, .load 26 (.tmp 28), _, _, _, none⟩ :: _) _ _); refine wpList_load_part rfl 26 (.tmp 28) rfl B (5) rfl 18 HB.out (by omega) (cz 18 (fun j => s (5 + j))) rfl _ Tryd.underlying26 rfl infoT6 ?_) | (go_at_call 28; with_reducible refine (paims_at s 0 _ HA).mono ?_; rintro r w2 ⟨rfl, hg⟩; replace g0 := g0.trans hg; replace HB := Lib.hid (HB.out.own hg); clear hg) | ((with_reducible show wpList _ _ _ (⟨_, .store 31 (.tmp 3) (.tmp 31), _, _, _, none⟩ :: _) _ _); refine wpList_store_row rfl 31 (.tmp 3) (.tmp 31) rfl _ (cz 18 (amV s)) rfl rfl 31 _ (heap_new _ _) infoA6 rfl (cz_one _ _) ?_; rw [World.setRow_alloc_new]))
              obtain ⟨w3, C, hW, hBq, hb, hg, Cg⟩ := blk_new w2 (cz 18 (amV s)) 31
              rw [hW, hBq]
              have HC := Lib.hid hb
              replace g0 := g0.trans hg
              replace HB := Lib.hid (HB.out.own hg)
              clear hW hBq hb hg
              have HD' := Lib.hid (HD.out.own g0)
              clear Cg HC HA
              go_wp2_with (first | ((with_reducible show wpList _ _ _ (⟨_, .load 28 (.tmp 1), _, _, _, none⟩ :: _) _ _); refine wpList_load_row rfl 28 (.tmp 1) rfl B rfl 28 _ (0, 0) _ HB.out.raw Tryd.underlying28 rfl infoS ?_) | (go_at_call 34; with_reducible refine (pcar_at s true _ HD' hu HW).mono ?_; rintro r w4 ⟨rfl, hg⟩; replace g0 := g0.trans hg; clear hg))
              go_ret
              exact ⟨rfl, g0⟩
            · rw [if_neg hw]
              have HW := Lib.hid (decide_eq_false hw)
              clear hw
              go_enter Tryd.func13, Tryd.ntmps13
              go_upto_region 1 with (fail)
              obtain ⟨W0, B, hW, hBq, hb, g0, -⟩ := blk_new w (cz 23 s) 28
              rw [hW, hBq]
              have HB := Lib.hid hb
              have k2 := blk_num hb (i := 2) (by omega)
              have k3 := blk_num hb (i := 3) (by omega)
              have k4 := blk_num hb (i := 4) (by omega)
              clear hW hBq hb
              go_upto_region 3 with (first | ((with_reducible show wpList _ _ _ (⟨_, .load 23 (.tmp 5), _, _, _, none⟩ :: _) _ _); refine wpList_load_part rfl 23 (.tmp 5) rfl B (0) rfl 2 HB.out (by omega) (#[.int .i64 (s 0), .int .i64 (s 1)]) rfl _ Tryd.underlying23 rfl infoPt ?_) | (go_at_call 30; with_reducible refine (ppl_at _ _ true _ HP).mono ?_; rintro r w1 ⟨rfl, hg⟩; replace g0 := g0.trans hg; replace HB := Lib.hid (HB.out.own hg); replace k2 := hg.cell k2; replace k3 := hg.cell k3; replace k4 := hg.cell k4; clear hg) | (go_at_call 31; with_reducible refine (peg_at _ true _ HE).mono ?_; rintro r w1 ⟨rfl, rfl⟩) | (go_at_call 32; with_reducible refine (plv_at _ true _ HL).mono ?_; rintro r w1 ⟨rfl, rfl⟩) | (go_at_call 33; with_reducible refine (psu_at _ true _ HU).mono ?_; rintro r w1 ⟨rfl, rfl⟩))
              clear k2 k3 k4 HP HE HL HU
              go_upto_region 4 with (first | ((with_reducible show wpList _ _ _ (⟨_, .load 26 (.tmp 28), _, _, _, none⟩ :: _) _ _); refine wpList_load_part rfl 26 (.tmp 28) rfl B (5) rfl 18 HB.out (by omega) (cz 18 (fun j => s (5 + j))) rfl _ Tryd.underlying26 rfl infoT6 ?_) | (go_at_call 28; with_reducible refine (paims_at s 0 _ HA).mono ?_; rintro r w2 ⟨rfl, hg⟩; replace g0 := g0.trans hg; replace HB := Lib.hid (HB.out.own hg); clear hg) | ((with_reducible show wpList _ _ _ (⟨_, .store 31 (.tmp 3) (.tmp 31), _, _, _, none⟩ :: _) _ _); refine wpList_store_row rfl 31 (.tmp 3) (.tmp 31) rfl _ (cz 18 (amV s)) rfl rfl 31 _ (heap_new _ _) infoA6 rfl (cz_one _ _) ?_; rw [World.setRow_alloc_new]))
              obtain ⟨w3, C, hW, hBq, hb, hg, Cg⟩ := blk_new w2 (cz 18 (amV s)) 31
              rw [hW, hBq]
              have HC := Lib.hid hb
              replace g0 := g0.trans hg
              replace HB := Lib.hid (HB.out.own hg)
              clear hW hBq hb hg
              have HD' := Lib.hid (HD.out.own g0)
              clear Cg HC HA
              go_wp2_with (first | ((with_reducible show wpList _ _ _ (⟨_, .load 28 (.tmp 1), _, _, _, none⟩ :: _) _ _); refine wpList_load_row rfl 28 (.tmp 1) rfl B rfl 28 _ (0, 0) _ HB.out.raw Tryd.underlying28 rfl infoS ?_) | (go_at_call 34; with_reducible refine (pcar_at s false _ HD' hu HW).mono ?_; rintro r w4 ⟨rfl, hg⟩; replace g0 := g0.trans hg; clear hg))
              go_ret
              exact ⟨rfl, g0⟩
          · rw [if_neg hf]
            obtain ⟨c, hc⟩ : ∃ c, fe (tE s) = c := ⟨_, rfl⟩
            rw [hc] at hf ⊢
            have kc : (c != 0) = true := bne_iff_ne.2 hf
            have HA := Lib.hid hc
            clear hf hc
            go_enter Tryd.func13, Tryd.ntmps13
            go_upto_region 1 with (fail)
            obtain ⟨W0, B, hW, hBq, hb, g0, -⟩ := blk_new w (cz 23 s) 28
            rw [hW, hBq]
            have HB := Lib.hid hb
            have k2 := blk_num hb (i := 2) (by omega)
            have k3 := blk_num hb (i := 3) (by omega)
            have k4 := blk_num hb (i := 4) (by omega)
            clear hW hBq hb

            go_wp2_with (first | ((with_reducible show wpList _ _ _ (⟨_, .load 23 (.tmp 5), _, _, _, none⟩ :: _) _ _); refine wpList_load_part rfl 23 (.tmp 5) rfl B (0) rfl 2 HB.out (by omega) (#[.int .i64 (s 0), .int .i64 (s 1)]) rfl _ Tryd.underlying23 rfl infoPt ?_) | (go_at_call 30; with_reducible refine (ppl_at _ _ true _ HP).mono ?_; rintro r w1 ⟨rfl, hg⟩; replace g0 := g0.trans hg; replace HB := Lib.hid (HB.out.own hg); replace k2 := hg.cell k2; replace k3 := hg.cell k3; replace k4 := hg.cell k4; clear hg) | (go_at_call 31; with_reducible refine (peg_at _ true _ HE).mono ?_; rintro r w1 ⟨rfl, rfl⟩) | (go_at_call 32; with_reducible refine (plv_at _ true _ HL).mono ?_; rintro r w1 ⟨rfl, rfl⟩) | (go_at_call 33; with_reducible refine (psu_at _ true _ HU).mono ?_; rintro r w1 ⟨rfl, rfl⟩) | ((with_reducible show wpList _ _ _ (⟨_, .load 26 (.tmp 28), _, _, _, none⟩ :: _) _ _); refine wpList_load_part rfl 26 (.tmp 28) rfl B (5) rfl 18 HB.out (by omega) (cz 18 (fun j => s (5 + j))) rfl _ Tryd.underlying26 rfl infoT6 ?_) | (go_at_call 28; with_reducible refine (paims_at s c _ HA).mono ?_; rintro r w2 ⟨rfl, hg⟩; replace g0 := g0.trans hg; replace HB := Lib.hid (HB.out.own hg); clear hg) | ((with_reducible show wpList _ _ _ (⟨_, .store 31 (.tmp 3) (.tmp 31), _, _, _, none⟩ :: _) _ _); refine wpList_store_row rfl 31 (.tmp 3) (.tmp 31) rfl _ (cz 18 (amV s)) rfl rfl 31 _ (heap_new _ _) infoA6 rfl (cz_one _ _) ?_; rw [World.setRow_alloc_new]))
            go_ret
            exact ⟨rfl, g0.alloc _⟩
        · have HU := Lib.hid ((su_no (s 4)).2 (by omega))
          rw [if_neg (fun x : stR s => hu x.2.2.2.2)]
          clear hp he hl hu
          go_enter Tryd.func13, Tryd.ntmps13
          go_upto_region 1 with (fail)
          obtain ⟨W0, B, hW, hBq, hb, g0, -⟩ := blk_new w (cz 23 s) 28
          rw [hW, hBq]
          have HB := Lib.hid hb
          have k2 := blk_num hb (i := 2) (by omega)
          have k3 := blk_num hb (i := 3) (by omega)
          have k4 := blk_num hb (i := 4) (by omega)
          clear hW hBq hb
          go_wp2_with (first | ((with_reducible show wpList _ _ _ (⟨_, .load 23 (.tmp 5), _, _, _, none⟩ :: _) _ _); refine wpList_load_part rfl 23 (.tmp 5) rfl B (0) rfl 2 HB.out (by omega) (#[.int .i64 (s 0), .int .i64 (s 1)]) rfl _ Tryd.underlying23 rfl infoPt ?_) | (go_at_call 30; with_reducible refine (ppl_at _ _ true _ HP).mono ?_; rintro r w1 ⟨rfl, hg⟩; replace g0 := g0.trans hg; replace HB := Lib.hid (HB.out.own hg); replace k2 := hg.cell k2; replace k3 := hg.cell k3; replace k4 := hg.cell k4; clear hg) | (go_at_call 31; with_reducible refine (peg_at _ true _ HE).mono ?_; rintro r w1 ⟨rfl, rfl⟩) | (go_at_call 32; with_reducible refine (plv_at _ true _ HL).mono ?_; rintro r w1 ⟨rfl, rfl⟩) | (go_at_call 33; with_reducible refine (psu_at _ false _ HU).mono ?_; rintro r w1 ⟨rfl, rfl⟩))
          go_ret
          exact ⟨rfl, g0⟩

      · have HL := Lib.hid ((lv_no (s 3)).2 (by omega))
        rw [if_neg (fun x : stR s => hl x.2.2.2.1)]
        clear hp he hl
        go_enter Tryd.func13, Tryd.ntmps13
        go_upto_region 1 with (fail)
        obtain ⟨W0, B, hW, hBq, hb, g0, -⟩ := blk_new w (cz 23 s) 28
        rw [hW, hBq]
        have HB := Lib.hid hb
        have k2 := blk_num hb (i := 2) (by omega)
        have k3 := blk_num hb (i := 3) (by omega)
        have k4 := blk_num hb (i := 4) (by omega)
        clear hW hBq hb
        go_wp2_with (first | ((with_reducible show wpList _ _ _ (⟨_, .load 23 (.tmp 5), _, _, _, none⟩ :: _) _ _); refine wpList_load_part rfl 23 (.tmp 5) rfl B (0) rfl 2 HB.out (by omega) (#[.int .i64 (s 0), .int .i64 (s 1)]) rfl _ Tryd.underlying23 rfl infoPt ?_) | (go_at_call 30; with_reducible refine (ppl_at _ _ true _ HP).mono ?_; rintro r w1 ⟨rfl, hg⟩; replace g0 := g0.trans hg; replace HB := Lib.hid (HB.out.own hg); replace k2 := hg.cell k2; replace k3 := hg.cell k3; replace k4 := hg.cell k4; clear hg) | (go_at_call 31; with_reducible refine (peg_at _ true _ HE).mono ?_; rintro r w1 ⟨rfl, rfl⟩) | (go_at_call 32; with_reducible refine (plv_at _ false _ HL).mono ?_; rintro r w1 ⟨rfl, rfl⟩))
        go_ret
        exact ⟨rfl, g0⟩

    · have HE := Lib.hid ((eg_no (s 2)).2 (by omega))
      rw [if_neg (fun x : stR s => he x.2.2.1)]
      clear hp he
      go_enter Tryd.func13, Tryd.ntmps13
      go_upto_region 1 with (fail)
      obtain ⟨W0, B, hW, hBq, hb, g0, -⟩ := blk_new w (cz 23 s) 28
      rw [hW, hBq]
      have HB := Lib.hid hb
      have k2 := blk_num hb (i := 2) (by omega)
      have k3 := blk_num hb (i := 3) (by omega)
      have k4 := blk_num hb (i := 4) (by omega)
      clear hW hBq hb
      go_wp2_with (first | ((with_reducible show wpList _ _ _ (⟨_, .load 23 (.tmp 5), _, _, _, none⟩ :: _) _ _); refine wpList_load_part rfl 23 (.tmp 5) rfl B (0) rfl 2 HB.out (by omega) (#[.int .i64 (s 0), .int .i64 (s 1)]) rfl _ Tryd.underlying23 rfl infoPt ?_) | (go_at_call 30; with_reducible refine (ppl_at _ _ true _ HP).mono ?_; rintro r w1 ⟨rfl, hg⟩; replace g0 := g0.trans hg; replace HB := Lib.hid (HB.out.own hg); replace k2 := hg.cell k2; replace k3 := hg.cell k3; replace k4 := hg.cell k4; clear hg) | (go_at_call 31; with_reducible refine (peg_at _ false _ HE).mono ?_; rintro r w1 ⟨rfl, rfl⟩))
      go_ret
      exact ⟨rfl, g0⟩

  · have HP := Lib.hid (pl_no hp)
    rw [if_neg (fun x : stR s => hp ⟨x.1, x.2.1⟩)]
    clear hp
    go_enter Tryd.func13, Tryd.ntmps13
    go_upto_region 1 with (fail)
    obtain ⟨W0, B, hW, hBq, hb, g0, -⟩ := blk_new w (cz 23 s) 28
    rw [hW, hBq]
    have HB := Lib.hid hb
    have k2 := blk_num hb (i := 2) (by omega)
    have k3 := blk_num hb (i := 3) (by omega)
    have k4 := blk_num hb (i := 4) (by omega)
    clear hW hBq hb
    go_wp2_with (first | ((with_reducible show wpList _ _ _ (⟨_, .load 23 (.tmp 5), _, _, _, none⟩ :: _) _ _); refine wpList_load_part rfl 23 (.tmp 5) rfl B (0) rfl 2 HB.out (by omega) (#[.int .i64 (s 0), .int .i64 (s 1)]) rfl _ Tryd.underlying23 rfl infoPt ?_) | (go_at_call 30; with_reducible refine (ppl_at _ _ false _ HP).mono ?_; rintro r w1 ⟨rfl, hg⟩; replace g0 := g0.trans hg; replace HB := Lib.hid (HB.out.own hg); replace k2 := hg.cell k2; replace k3 := hg.cell k3; replace k4 := hg.cell k4; clear hg))
    go_ret
    exact ⟨rfl, g0⟩

theorem pcheck_at (s : Vl) (c : Int) (w : World) (HD : Hid (Dn w)) (H : Hid (stE s = c)) :
    Calls Tryd.prog 13 #[.agg (cz 23 s)] w fun r w' => r = .returned (.int .i64 c) ∧ Own w w' := by
  rw [← H.out]
  exact pcheck_any s w HD
end Go.Proofs.YtneobaininejaaaDoor.PstW
