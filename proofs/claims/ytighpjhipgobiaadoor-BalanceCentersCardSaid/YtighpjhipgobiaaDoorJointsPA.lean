/-
  Walks of the program of package posture: Valid, MirrorPose, RotatePose. Condition: the table of sines lies in memory (Tab).
-/
import Derived.Test.YtighpjhipgobiaaDoorPosturePlain
import Derived.Test.YtighpjhipgobiaaDoorPart
import Derived.Test.YtighpjhipgobiaaDoorAimPC
import Derived.Test.YtighpjhipgobiaaDoorRegBase
import Derived.Deep.DeepCutAuto
namespace Go.Proofs.YtighpjhipgobiaaDoor.PstW
open Go.ChangeShapes Go.WideShapes Go.ChangeAt Go.RowKit
open PairW AimP AimW BlkW PrtW PstP
theorem infoP : (Tryd.prog.info? 31).map (·.size) = some 22 := by kernel_rfl
theorem infoPt : (Tryd.prog.info? 26).map (·.size) = some 2 := by kernel_rfl
theorem infoA6 : (Tryd.prog.info? 29).map (·.size) = some 18 := by kernel_rfl
theorem cz22_nul : (#[.int .i64 0, .int .i64 0, .int .i64 0, .int .i64 0, .int .i64 0, .int .i64 0, .int .i64 0, .int .i64 0, .int .i64 0, .int .i64 0, .int .i64 0, .int .i64 0, .int .i64 0, .int .i64 0, .int .i64 0, .int .i64 0, .int .i64 0, .int .i64 0, .int .i64 0, .int .i64 0, .int .i64 0, .int .i64 0] : Array Value) = cz 22 nul := rfl
theorem idxA (s : Vl) {k : Nat} (hk : k < 6) (w : World) : (Instr.index 29 (.agg (cz 18 (fun j => s (4 + j)))) (.int .i64 (k : Int))).run Tryd.prog w = .ok (.agg #[.int .i64 (s (4 + k * 3)), .int .i64 (s (4 + k * 3 + 1)), .int .i64 (s (4 + k * 3 + 2))]) w :=
  index_num (n := 6) (m := 3) Tryd.underlying29 (fun w => by go_simp) (fun w => by go_simp) hk _ w
def anB (d : Int) : Bool := decide (0 ≤ d) && decide (d ≤ 255)
theorem an_iff (d : Int) : anB d = true ↔ 0 ≤ d ∧ d ≤ 255 := by unfold anB; rw [Bool.and_eq_true, decide_eq_true_eq, decide_eq_true_eq]
theorem an_no (d : Int) : anB d = false ↔ d < 0 ∨ 255 < d := by rw [← Bool.not_eq_true, an_iff]; omega
def lfB (d : Int) : Bool := decide (-8 ≤ d) && decide (d ≤ 8)
theorem lf_iff (d : Int) : lfB d = true ↔ -8 ≤ d ∧ d ≤ 8 := by unfold lfB; rw [Bool.and_eq_true, decide_eq_true_eq, decide_eq_true_eq]
theorem lf_no (d : Int) : lfB d = false ↔ d < -8 ∨ 8 < d := by rw [← Bool.not_eq_true, lf_iff]; omega
theorem fl_no (d : Int) : AngW.floorB d = false ↔ d < -32768 ∨ 32768 < d := by rw [← Bool.not_eq_true, AngW.floor_iff]; omega
theorem pfl_at (d : Int) (t : Bool) (w : World) (H : Hid (AngW.floorB d = t)) :
    Calls Tryd.prog 67 #[.int .i64 d] w fun r w' => r = .returned (.bool t) ∧ w = w' := by
  have hi := AngW.floor_iff d
  rw [H.out] at hi
  clear H
  by_cases h1 : -32768 ≤ d
  · by_cases h2 : d ≤ 32768
    · obtain rfl : t = true := hi.2 (by omega)
      clear hi
      go_enter Tryd.func67, Tryd.ntmps67
      go_wp2
      go_ret
      exact ⟨ret_bool (by simp), rfl⟩
    · obtain rfl : t = false := by cases t <;> simp at hi ⊢; omega
      clear hi
      go_enter Tryd.func67, Tryd.ntmps67
      go_wp2
      go_ret
      exact ⟨ret_bool (by simp), rfl⟩
  · obtain rfl : t = false := by cases t <;> simp at hi ⊢; omega
    clear hi
    go_enter Tryd.func67, Tryd.ntmps67
    go_wp2
    go_ret
    exact ⟨ret_bool (by simp), rfl⟩
theorem pan_at (d : Int) (t : Bool) (w : World) (H : Hid (anB d = t)) :
    Calls Tryd.prog 38 #[.int .i64 d] w fun r w' => r = .returned (.bool t) ∧ w = w' := by
  have hi := an_iff d
  rw [H.out] at hi
  clear H
  by_cases h1 : 0 ≤ d
  · by_cases h2 : d < 256
    · obtain rfl : t = true := hi.2 (by omega)
      clear hi
      go_enter Tryd.func38, Tryd.ntmps38
      go_wp2
      go_ret
      exact ⟨ret_bool (by simp), rfl⟩
    · obtain rfl : t = false := by cases t <;> simp at hi ⊢; omega
      clear hi
      go_enter Tryd.func38, Tryd.ntmps38
      go_wp2
      go_ret
      exact ⟨ret_bool (by simp), rfl⟩
  · obtain rfl : t = false := by cases t <;> simp at hi ⊢; omega
    clear hi
    go_enter Tryd.func38, Tryd.ntmps38
    go_wp2
    go_ret
    exact ⟨ret_bool (by simp), rfl⟩
theorem plf_at (d : Int) (t : Bool) (w : World) (H : Hid (lfB d = t)) :
    Calls Tryd.prog 39 #[.int .i64 d] w fun r w' => r = .returned (.bool t) ∧ w = w' := by
  have hi := lf_iff d
  rw [H.out] at hi
  clear H
  by_cases h1 : -8 ≤ d
  · by_cases h2 : d ≤ 8
    · obtain rfl : t = true := hi.2 (by omega)
      clear hi
      go_enter Tryd.func39, Tryd.ntmps39
      go_wp2
      go_ret
      exact ⟨ret_bool (by simp), rfl⟩
    · obtain rfl : t = false := by cases t <;> simp at hi ⊢; omega
      clear hi
      go_enter Tryd.func39, Tryd.ntmps39
      go_wp2
      go_ret
      exact ⟨ret_bool (by simp), rfl⟩
  · obtain rfl : t = false := by cases t <;> simp at hi ⊢; omega
    clear hi
    go_enter Tryd.func39, Tryd.ntmps39
    go_wp2
    go_ret
    exact ⟨ret_bool (by simp), rfl⟩
def plB (x y : Int) : Bool := AngW.floorB x && AngW.floorB y
theorem pl_yes {x y : Int} (hx : -32768 ≤ x ∧ x ≤ 32768) (hy : -32768 ≤ y ∧ y ≤ 32768) : plB x y = true := by unfold plB; rw [(AngW.floor_iff x).2 hx, (AngW.floor_iff y).2 hy]; rfl
theorem pl_no {x y : Int} (h : ¬ ((-32768 ≤ x ∧ x ≤ 32768) ∧ -32768 ≤ y ∧ y ≤ 32768)) : plB x y = false := by
  cases e : plB x y with
  | false => rfl
  | true =>
    unfold plB at e
    rw [Bool.and_eq_true, AngW.floor_iff, AngW.floor_iff] at e
    exact absurd e h
theorem ppl_at (x y : Int) (t : Bool) (w : World) (H : Hid (plB x y = t)) :
    Calls Tryd.prog 37 #[.agg #[.int .i64 x, .int .i64 y]] w fun r w' => r = .returned (.bool t) ∧ Own w w' := by
  obtain rfl := H.out
  clear H
  unfold plB
  cases hx : AngW.floorB x with
  | false =>
    have HX := Lib.hid hx
    clear hx
    go_enter Tryd.func37, Tryd.ntmps37
    go_wp2_with (go_at_call 67; with_reducible refine (pfl_at x false _ HX).mono ?_; rintro r w1 ⟨rfl, rfl⟩)
    go_ret
    exact ⟨rfl, (Own.refl w).alloc _⟩
  | true =>
    have HX := Lib.hid hx
    clear hx
    cases hy : AngW.floorB y with
    | false =>
      have HY := Lib.hid hy
      clear hy
      go_enter Tryd.func37, Tryd.ntmps37
      go_wp2_with (first | (go_at_call 67; with_reducible refine (pfl_at x true _ HX).mono ?_; rintro r w1 ⟨rfl, rfl⟩) | (go_at_call 67; with_reducible refine (pfl_at y false _ HY).mono ?_; rintro r w1 ⟨rfl, rfl⟩))
      go_ret
      exact ⟨rfl, (Own.refl w).alloc _⟩
    | true =>
      have HY := Lib.hid hy
      clear hy
      go_enter Tryd.func37, Tryd.ntmps37
      go_wp2_with (first | (go_at_call 67; with_reducible refine (pfl_at x true _ HX).mono ?_; rintro r w1 ⟨rfl, rfl⟩) | (go_at_call 67; with_reducible refine (pfl_at y true _ HY).mono ?_; rintro r w1 ⟨rfl, rfl⟩))
      go_ret
      exact ⟨rfl, (Own.refl w).alloc _⟩
set_option maxRecDepth 100000 in
set_option maxHeartbeats 2000000 in
theorem qvalid_any (p : Vl) (w : World) :
    Calls Tryd.prog 16 #[.agg (cz 22 p)] w fun r w' => r = .returned (.int .i64 (vaE p)) ∧ Own w w' := by
  by_cases hp : (-32768 ≤ p 0 ∧ p 0 ≤ 32768) ∧ -32768 ≤ p 1 ∧ p 1 ≤ 32768
  · have HP := Lib.hid (pl_yes hp.1 hp.2)
    by_cases he : 0 ≤ p 2 ∧ p 2 ≤ 255
    · have HE := Lib.hid ((an_iff (p 2)).2 he)
      by_cases hl : -8 ≤ p 3 ∧ p 3 ≤ 8
      · have HL := Lib.hid ((lf_iff (p 3)).2 hl)
        have hv : vaE p = fe (pE p) := if_pos (show paR p from ⟨hp.1, hp.2, he, hl⟩)
        rw [hv]
        clear hp he hl hv
        have HX := Lib.hid (fun (k : Nat) (h : k < 6) => idxA p h)
        go_enter Tryd.func16, Tryd.ntmps16
        go_upto_region 1 with (fail)
        obtain ⟨W0, B, hW, hBq, hb, g0, -⟩ := blk_new w (cz 22 p) 31
        rw [hW, hBq]
        have HB := Lib.hid hb
        have k2 := blk_num hb (i := 2) (by omega)
        have k3 := blk_num hb (i := 3) (by omega)
        clear hW hBq hb

        go_upto_region 3 with (first | ((with_reducible show wpList _ _ _ (⟨_, .load 26 (.tmp 6), _, _, _, none⟩ :: _) _ _); refine wpList_load_part rfl 26 (.tmp 6) rfl B (0) rfl 2 HB.out (by omega) (#[.int .i64 (p 0), .int .i64 (p 1)]) rfl _ Tryd.underlying26 rfl infoPt ?_) | (go_at_call 37; with_reducible refine (ppl_at _ _ true _ HP).mono ?_; rintro r w1 ⟨rfl, hg⟩; replace g0 := g0.trans hg; replace HB := Lib.hid (HB.out.own hg); replace k2 := hg.cell k2; replace k3 := hg.cell k3; clear hg) | (go_at_call 38; with_reducible refine (pan_at _ true _ HE).mono ?_; rintro r w1 ⟨rfl, rfl⟩) | (go_at_call 39; with_reducible refine (plf_at _ true _ HL).mono ?_; rintro r w1 ⟨rfl, rfl⟩))
        clear k2 k3 HP HE HL
        go_wp2_with ((with_reducible show wpList _ _ _ (⟨_, .load 29 (.tmp 22), _, _, _, none⟩ :: _) _ _); refine wpList_load_part rfl 29 (.tmp 22) rfl B (3 + 1) rfl 18 HB.out (by omega) (cz 18 (fun j => p (4 + j))) rfl _ Tryd.underlying29 rfl infoA6 ?_)
        generalize cz 18 (fun j => p (4 + j)) = TT at *
        clear HB
        go_loopw [3, 4, 5, 24] (fun _ _ _ vi wr => ∃ k : Nat, vi = .int .i64 (k : Int) ∧ k ≤ 6 ∧ (∀ i, i < k → pE p i = 0) ∧ Own w wr) (fun _ _ _ vi _ => 6 - (intOf vi).toNat)
        case atStart => exact ⟨0, rfl, by omega, fun i hi => absurd hi (by omega), g0⟩
        case round =>
          clear g0
          obtain ⟨k, rfl, hk, hz, g0⟩ := hrel
          have HZ := Lib.hid hz
          clear hz
          by_cases hlt : k < 6
          · have ix := HX.out k hlt
            obtain ⟨c, hc⟩ : ∃ x, pE p k = x := ⟨_, rfl⟩
            have HO := Lib.hid hc
            have HOF := Lib.hid (show chk k (p (4 + k * 3)) (p (4 + k * 3 + 1)) (p (4 + k * 3 + 2)) = c from hc)
            clear hc
            have hkn : (k : Int) < 6 := by omega
            generalize p (4 + k * 3) = z0 at ix HOF
            generalize p (4 + k * 3 + 1) = e0 at ix HOF
            generalize p (4 + k * 3 + 2) = b0 at ix HOF
            go_upto_region 6 with (fail)
            obtain ⟨w1, E, hW, hBq, hb, hg, Eg⟩ := blk_new wr (#[.int .i64 z0, .int .i64 e0, .int .i64 b0]) 28
            rw [hW, hBq]
            have HE := Lib.hid hb
            replace g0 := g0.trans hg
            clear hW hBq hb hg
            by_cases c0 : c = 0
            · subst c0
              go_wp2_with (first | ((with_reducible show wpList _ _ _ (⟨_, .load 28 (.tmp 4), _, _, _, none⟩ :: _) _ _); refine wpList_load_row rfl 28 (.tmp 4) rfl E rfl 28 _ (0, 0) _ HE.out.raw Tryd.underlying28 rfl infoA ?_) | (go_at_call 40; with_reducible refine (AimW.pcheck_at k z0 e0 b0 0 _ HOF).mono ?_; rintro r w2 ⟨rfl, hg⟩; replace g0 := g0.trans hg; clear hg))
              go_roundw
              case rel =>
                refine ⟨k + 1, by go_num, hlt, fun i hi => ?_, g0⟩
                by_cases e : i = k
                · rw [e]; exact HO.out
                · exact HZ.out i (by omega)
              case measure => simp [intOf]; omega
            · have kc : (c != 0) = true := bne_iff_ne.2 c0
              have HV := Lib.hid (show c = fe (pE p) by rw [fe_at HZ.out (by rw [HO.out]; exact c0) hlt]; exact HO.out.symm)
              clear HO HZ HX c0
              go_wp2_with (first | ((with_reducible show wpList _ _ _ (⟨_, .load 28 (.tmp 4), _, _, _, none⟩ :: _) _ _); refine wpList_load_row rfl 28 (.tmp 4) rfl E rfl 28 _ (0, 0) _ HE.out.raw Tryd.underlying28 rfl infoA ?_) | (go_at_call 40; with_reducible refine (AimW.pcheck_at k z0 e0 b0 c _ HOF).mono ?_; rintro r w2 ⟨rfl, hg⟩; replace g0 := g0.trans hg; clear hg))
              go_ret
              exact ⟨ret_int HV.out, g0⟩
          · obtain rfl : k = 6 := by omega
            have HV := Lib.hid (show 0 = fe (pE p) from (fe_ok HZ.out).symm)
            clear HZ HX
            go_wp2
            go_ret
            exact ⟨ret_int HV.out, g0⟩
      · have HL := Lib.hid ((lf_no (p 3)).2 (by omega))
        have hv : vaE p = 1 := if_neg (fun x : paR p => hl x.2.2.2)
        rw [hv]
        clear hp he hl hv
        go_enter Tryd.func16, Tryd.ntmps16
        go_upto_region 1 with (fail)
        obtain ⟨W0, B, hW, hBq, hb, g0, -⟩ := blk_new w (cz 22 p) 31
        rw [hW, hBq]
        have HB := Lib.hid hb
        have k2 := blk_num hb (i := 2) (by omega)
        have k3 := blk_num hb (i := 3) (by omega)
        clear hW hBq hb
        go_wp2_with (first | ((with_reducible show wpList _ _ _ (⟨_, .load 26 (.tmp 6), _, _, _, none⟩ :: _) _ _); refine wpList_load_part rfl 26 (.tmp 6) rfl B (0) rfl 2 HB.out (by omega) (#[.int .i64 (p 0), .int .i64 (p 1)]) rfl _ Tryd.underlying26 rfl infoPt ?_) | (go_at_call 37; with_reducible refine (ppl_at _ _ true _ HP).mono ?_; rintro r w1 ⟨rfl, hg⟩; replace g0 := g0.trans hg; replace HB := Lib.hid (HB.out.own hg); replace k2 := hg.cell k2; replace k3 := hg.cell k3; clear hg) | (go_at_call 38; with_reducible refine (pan_at _ true _ HE).mono ?_; rintro r w1 ⟨rfl, rfl⟩) | (go_at_call 39; with_reducible refine (plf_at _ false _ HL).mono ?_; rintro r w1 ⟨rfl, rfl⟩))
        go_ret
        exact ⟨rfl, g0⟩

    · have HE := Lib.hid ((an_no (p 2)).2 (by omega))
      have hv : vaE p = 1 := if_neg (fun x : paR p => he x.2.2.1)
      rw [hv]
      clear hp he hv
      go_enter Tryd.func16, Tryd.ntmps16
      go_upto_region 1 with (fail)
      obtain ⟨W0, B, hW, hBq, hb, g0, -⟩ := blk_new w (cz 22 p) 31
      rw [hW, hBq]
      have HB := Lib.hid hb
      have k2 := blk_num hb (i := 2) (by omega)
      have k3 := blk_num hb (i := 3) (by omega)
      clear hW hBq hb
      go_wp2_with (first | ((with_reducible show wpList _ _ _ (⟨_, .load 26 (.tmp 6), _, _, _, none⟩ :: _) _ _); refine wpList_load_part rfl 26 (.tmp 6) rfl B (0) rfl 2 HB.out (by omega) (#[.int .i64 (p 0), .int .i64 (p 1)]) rfl _ Tryd.underlying26 rfl infoPt ?_) | (go_at_call 37; with_reducible refine (ppl_at _ _ true _ HP).mono ?_; rintro r w1 ⟨rfl, hg⟩; replace g0 := g0.trans hg; replace HB := Lib.hid (HB.out.own hg); replace k2 := hg.cell k2; replace k3 := hg.cell k3; clear hg) | (go_at_call 38; with_reducible refine (pan_at _ false _ HE).mono ?_; rintro r w1 ⟨rfl, rfl⟩))
      go_ret
      exact ⟨rfl, g0⟩

  · have HP := Lib.hid (pl_no hp)
    have hv : vaE p = 1 := if_neg (fun x : paR p => hp ⟨x.1, x.2.1⟩)
    rw [hv]
    clear hp hv
    go_enter Tryd.func16, Tryd.ntmps16
    go_upto_region 1 with (fail)
    obtain ⟨W0, B, hW, hBq, hb, g0, -⟩ := blk_new w (cz 22 p) 31
    rw [hW, hBq]
    have HB := Lib.hid hb
    have k2 := blk_num hb (i := 2) (by omega)
    have k3 := blk_num hb (i := 3) (by omega)
    clear hW hBq hb
    go_wp2_with (first | ((with_reducible show wpList _ _ _ (⟨_, .load 26 (.tmp 6), _, _, _, none⟩ :: _) _ _); refine wpList_load_part rfl 26 (.tmp 6) rfl B (0) rfl 2 HB.out (by omega) (#[.int .i64 (p 0), .int .i64 (p 1)]) rfl _ Tryd.underlying26 rfl infoPt ?_) | (go_at_call 37; with_reducible refine (ppl_at _ _ false _ HP).mono ?_; rintro r w1 ⟨rfl, hg⟩; replace g0 := g0.trans hg; replace HB := Lib.hid (HB.out.own hg); replace k2 := hg.cell k2; replace k3 := hg.cell k3; clear hg))
    go_ret
    exact ⟨rfl, g0⟩

theorem qvalid_at (p : Vl) (c : Int) (w : World) (H : Hid (vaE p = c)) :
    Calls Tryd.prog 16 #[.agg (cz 22 p)] w fun r w' => r = .returned (.int .i64 c) ∧ Own w w' := by
  rw [← H.out]
  exact qvalid_any p w
theorem and3 (n : Int) : bits .and .i64 n 3 = n % 4 := by
  have h3 : (BitVec.ofInt 64 3).toNat = 2 ^ 2 - 1 := by decide
  have key : (BitVec.ofInt 64 n &&& BitVec.ofInt 64 3).toNat = (n % ((2 ^ 64 : Nat) : Int)).toNat % 2 ^ 2 := by
    rw [BitVec.toNat_and, BitVec.toNat_ofInt, h3, Nat.and_two_pow_sub_one_eq_mod]
  show IntKind.i64.wrap ((BitVec.ofInt 64 n &&& BitVec.ofInt 64 3).toNat : Nat) = n % 4
  rw [key, IntKind.wrap_i64]
  omega
theorem qred_at (n q : Int) (w : World) (H : Hid (n % 4 = q)) :
    Calls Tryd.prog 32 #[.int .i64 n] w fun r w' => r = .returned (.int .i64 q) ∧ w = w' := by
  have HA := Lib.hid ((and3 n).trans H.out)
  go_enter Tryd.func32, Tryd.ntmps32
  go_wp2
  go_ret
  exact ⟨ret_int HA.out, rfl⟩
theorem ups_ps4 (x y f l v : Int) (t : Vl) (i : Nat) : ups (ps4 x y f l t) 2 v i = ps4 x y v l t i := by
  unfold ups ps4
  by_cases e : i = 2
  · subst e; rfl
  · rw [if_neg e, if_neg e, if_neg e]
/-- Turning by quarters. -/
theorem tur_q {x y q : Int} (hx : -32768 ≤ x ∧ x ≤ 32768) (hy : -32768 ≤ y ∧ y ≤ 32768) (hq : 0 ≤ q ∧ q ≤ 3) :
    AngW.turU x y (64 * q) = tuX q x y ∧ AngW.turV x y (64 * q) = tuY q x y ∧ AngW.turE x y = 0 := by
  have h := (AngP.inMM_iff x y).2 ⟨hx, hy⟩
  obtain ⟨⟨q1, q2⟩, ⟨q3, q4⟩, ⟨q5, q6⟩, q7, q8⟩ := AngP.quarter x y
  have e1 : AngP.cosV 192 = AngP.cosV (-64) := by rw [AngP.cosV_sin, AngP.cosV_sin]; exact AngP.sinV_eq (by decide)
  have e2 : AngP.sinV 192 = AngP.sinV (-64) := AngP.sinV_eq (by decide)
  have e3 : AngP.turX x y 192 = AngP.turX x y (-64) := by unfold AngP.turX; rw [e1, e2]
  have e4 : AngP.turY x y 192 = AngP.turY x y (-64) := by unfold AngP.turY; rw [e1, e2]
  unfold AngW.turU AngW.turV AngW.turE
  rw [if_pos h, if_pos h, if_pos h]
  have t : q = 0 ∨ q = 1 ∨ q = 2 ∨ q = 3 := by omega
  rcases t with rfl | rfl | rfl | rfl
  · exact ⟨q1, q2, rfl⟩
  · exact ⟨q3, q4, rfl⟩
  · exact ⟨q5, q6, rfl⟩
  · exact ⟨e3.trans q7, e4.trans q8, rfl⟩
set_option maxRecDepth 100000 in
set_option maxHeartbeats 2000000 in
theorem qrot_at (x y q X Y : Int) (w : World) (HT : Hid (AngW.Tab w)) (hx : -32768 ≤ x ∧ x ≤ 32768) (hy : -32768 ≤ y ∧ y ≤ 32768) (hq : 0 ≤ q ∧ q ≤ 3) (H : Hid (tuX q x y = X ∧ tuY q x y = Y)) :
    Calls Tryd.prog 33 #[.agg #[.int .i64 x, .int .i64 y], .int .i64 q] w fun r w' => r = .returned (.agg #[.int .i64 X, .int .i64 Y]) ∧ Own w w' := by
  have HQ := Lib.hid (show AngW.turU x y (64 * q) = X ∧ AngW.turV x y (64 * q) = Y ∧ AngW.turE x y = 0 by
    obtain ⟨h1, h2, h3⟩ := tur_q hx hy hq
    exact ⟨h1.trans H.out.1, h2.trans H.out.2, h3⟩)
  clear hx hy H
  go_enter Tryd.func33, Tryd.ntmps33
  go_upto_region 1 with (fail)
  obtain ⟨W0, B, P, hW, hP, hB, hb, hp, g0, -, hP0, -⟩ := two_new w (#[.int .i64 x, .int .i64 y]) 26 (#[.int .i64 0, .int .i64 0]) 26
  rw [hW, hP, hB]
  have HB := Lib.hid hb
  have HP := Lib.hid hp
  clear hW hP hB hb hp
  go_upto_region 2 with (first | ((with_reducible show wpList _ _ _ (⟨_, .load 26 (.tmp 2), _, _, _, none⟩ :: _) _ _); refine wpList_load_row rfl 26 (.tmp 2) rfl B rfl 26 _ (0, 0) _ HB.out.raw Tryd.underlying26 rfl infoPt ?_) | (go_at_call 62; with_reducible refine (AngW.tur_at x y (64 * q) X Y 0 _ HQ (AimW.tab_own HT.out g0)).mono ?_; rintro r w1 ⟨rfl, hg⟩; replace hg := AimW.own_gr hg; replace g0 : Own w w1 := g0.trans hg; replace HP := Lib.hid (HP.out.own hg); clear hg) | ((with_reducible show wpList _ _ _ (⟨_, .store 26 (.tmp 5) (.tmp 12), _, _, _, none⟩ :: _) _ _); refine wpList_store_row rfl 26 (.tmp 5) (.tmp 12) rfl _ #[.int .i64 X, .int .i64 Y] rfl rfl 26 _ (heap_new _ _) infoPt rfl (by simp [Value.oneCell']) ?_; rw [World.setRow_alloc_new]))
  clear HB
  obtain ⟨w2, C, hW, hBq, hb, hg, Cg⟩ := blk_new w1 (#[.int .i64 X, .int .i64 Y]) 26
  rw [hW, hBq]
  have HC := Lib.hid hb
  replace g0 := g0.trans hg
  replace HP := Lib.hid (HP.out.own hg)
  clear hW hBq hb hg
  go_wp2_with (first | ((with_reducible show wpList _ _ _ (⟨_, .load 26 (.tmp 5), _, _, _, none⟩ :: _) _ _); refine wpList_load_row rfl 26 (.tmp 5) rfl C rfl 26 _ (0, 0) _ HC.out.raw Tryd.underlying26 rfl infoPt ?_) | ((with_reducible show wpList _ _ _ (⟨_, .store 26 (.tmp 4) (.tmp 14), _, _, _, none⟩ :: _) _ _); refine wpList_store_row rfl 26 (.tmp 4) (.tmp 14) rfl P #[.int .i64 X, .int .i64 Y] rfl rfl 26 _ HP.out.raw infoPt rfl (by simp [Value.oneCell']) ?_))
  have hp := HP.out.row #[.int .i64 X, .int .i64 Y]
  exact bodyPost_ret (blk_result rfl rfl hp Tryd.underlying26 rfl infoPt) rfl ⟨rfl, own_setRow g0 hP0 _⟩
set_option maxRecDepth 100000 in
set_option maxHeartbeats 2000000 in
theorem qrotp_any (s : Vl) (n : Int) (w : World) (HT : Hid (AngW.Tab w)) :
    Calls Tryd.prog 12 #[.agg (cz 22 s), .int .i64 n] w fun r w' => r = .returned (.tuple #[.agg (cz 22 (rpV s n)), .int .i64 (vaE s)]) ∧ Own w w' := by
  by_cases h : vaE s = 0
  · obtain ⟨⟨b0, b1, b2, -⟩, -⟩ := va_yes h
    have HC := Lib.hid h
    obtain ⟨q, hq⟩ : ∃ q, n % 4 = q := ⟨_, rfl⟩
    have bq : 0 ≤ q ∧ q ≤ 3 := by omega
    obtain ⟨X, hX⟩ : ∃ x, tuX q (s 0) (s 1) = x := ⟨_, rfl⟩
    obtain ⟨Y, hY⟩ : ∃ x, tuY q (s 0) (s 1) = x := ⟨_, rfl⟩
    have HQ := Lib.hid hq
    have HXY := Lib.hid (And.intro hX hY)
    have HV := Lib.hid (show cz 22 (ps4 X Y ((s 2 + 64 * q) % 256) (s 3) (fun j => s (4 + j))) = cz 22 (rpV s n) by rw [rpV_yes h, ← hX, ← hY, ← hq]; rfl)
    rw [h]
    clear hq hX hY h
    go_enter Tryd.func12, Tryd.ntmps12
    go_upto_region 1 with (fail)
    obtain ⟨W0, B, P, hW, hP, hB, hb, hp, g0, hB0, hP0, hne⟩ := two_new w (cz 22 s) 31 (cz 22 nul) 31
    rw [← cz22_nul] at hW
    rw [hW, hP, hB]
    have HB := Lib.hid hb
    have HP := Lib.hid hp
    have HNE := Lib.hid hne
    clear hW hP hB hb hp hne

    go_upto_region 5 with (first | ((with_reducible show wpList _ _ _ (⟨_, .load 31 (.tmp 2), _, _, _, none⟩ :: _) _ _); refine wpList_load_row rfl 31 (.tmp 2) rfl B rfl 31 _ (0, 0) _ HB.out.raw Tryd.underlying31 rfl infoP ?_) | (go_at_call 16; with_reducible refine (qvalid_at s 0 _ HC).mono ?_; rintro r w1 ⟨rfl, hg⟩; replace g0 := g0.trans hg; replace HB := Lib.hid (HB.out.own hg); replace HP := Lib.hid (HP.out.own hg); clear hg) | (go_at_call 32; with_reducible refine (qred_at n q _ HQ).mono ?_; rintro r w1 ⟨rfl, rfl⟩))
    go_upto_region 6 with (first | ((with_reducible show wpList _ _ _ (⟨_, .load 26 (.tmp 15), _, _, _, none⟩ :: _) _ _); refine wpList_load_part rfl 26 (.tmp 15) rfl B (0) rfl 2 HB.out (by omega) (#[.int .i64 (s 0), .int .i64 (s 1)]) rfl _ Tryd.underlying26 rfl infoPt ?_) | (go_at_call 33; with_reducible refine (qrot_at _ _ q X Y _ (Lib.hid (AimW.tab_own HT.out g0)) b0 b1 bq HXY).mono ?_; rintro r w2 ⟨rfl, hg⟩; replace g0 := g0.trans hg; replace HB := Lib.hid (HB.out.own hg); replace HP := Lib.hid (HP.out.own hg); clear hg) | ((with_reducible show wpList _ _ _ (⟨_, .store 26 (.tmp 19) (.tmp 18), _, _, _, none⟩ :: _) _ _); refine wpList_store_part rfl 26 (.tmp 19) (.tmp 18) rfl B (0) 2 (l2 X Y) rfl (#[.int .i64 X, .int .i64 Y]) rfl rfl HB.out (by omega) infoPt ?_))
    have hb := blk_to (HB.out.row (cz 22 (put s 0 2 (l2 X Y)))) (g := ps4 X Y (s 2) (s 3) (fun j => s (4 + j))) (fun i hi => ps4_eq (p := put s 0 2 (l2 X Y)) (n := 18) rfl rfl rfl rfl (fun j _ => put_out s _ (by omega)) i (by omega))
    have hp := HP.out.rowfar HNE.out.symm (cz 22 (put s 0 2 (l2 X Y)))
    replace g0 := own_setRow g0 hB0 (cz 22 (put s 0 2 (l2 X Y)))
    clear HB HP
    generalize w2.setRow B (cz 22 (put s 0 2 (l2 X Y))) = w3 at *
    have k2 : w3.cell? ⟨B, 2, none⟩ = some (.int .i64 (s 2)) := blk_num hb (i := 2) (by omega)
    have f2 := hb.frozen 2
    have HB := Lib.hid hb
    have HP := Lib.hid hp
    clear hb hp
    go_upto_region 7 with (go_at_call 34; with_reducible refine (AngW.norm_any _ _).mono ?_; rintro r w9 ⟨rfl, rfl⟩)
    have hb := blk_to (blk_ups HB.out (k := 2) (by omega) ((s 2 + 64 * q) % 256)) (g := ps4 X Y ((s 2 + 64 * q) % 256) (s 3) (fun j => s (4 + j))) (fun i _ => ups_ps4 ..)
    have hp := HP.out.far (p := ⟨B, 2, none⟩) HNE.out.symm (.int .i64 ((s 2 + 64 * q) % 256))
    replace g0 := g0.setCell (p := ⟨B, 2, none⟩) hB0 (.int .i64 ((s 2 + 64 * q) % 256))
    clear HB HP k2 f2
    generalize w3.setCell ⟨B, 2, none⟩ (.int .i64 ((s 2 + 64 * q) % 256)) = w4 at *
    have HB := Lib.hid hb
    have HP := Lib.hid hp
    clear hb hp
    go_wp2_with (first | ((with_reducible show wpList _ _ _ (⟨_, .load 31 (.tmp 2), _, _, _, none⟩ :: _) _ _); refine wpList_load_row rfl 31 (.tmp 2) rfl B rfl 31 _ (0, 0) _ HB.out.raw Tryd.underlying31 rfl infoP ?_) | ((with_reducible show wpList _ _ _ (⟨_, .store 31 (.tmp 4) (.tmp 27), _, _, _, none⟩ :: _) _ _); refine wpList_store_row rfl 31 (.tmp 4) (.tmp 27) rfl P (cz 22 (ps4 X Y ((s 2 + 64 * q) % 256) (s 3) (fun j => s (4 + j)))) rfl rfl 31 _ HP.out.raw infoP rfl (cz_one _ _) ?_))
    have hp := HP.out.row (cz 22 (ps4 X Y ((s 2 + 64 * q) % 256) (s 3) (fun j => s (4 + j))))
    rw [← HV.out]
    exact bodyPost_ret (blk_results rfl rfl rfl hp Tryd.underlying31 rfl infoP) rfl ⟨rfl, own_setRow g0 hP0 _⟩
  · obtain ⟨c, hc⟩ : ∃ c, vaE s = c := ⟨_, rfl⟩
    rw [rpV_no h, hc]
    rw [hc] at h
    have kc : (c != 0) = true := bne_iff_ne.2 h
    have HC := Lib.hid hc
    clear h hc
    go_enter Tryd.func12, Tryd.ntmps12
    go_upto_region 1 with (fail)
    obtain ⟨W0, B, P, hW, hP, hB, hb, hp, g0, hB0, hP0, hne⟩ := two_new w (cz 22 s) 31 (cz 22 nul) 31
    rw [← cz22_nul] at hW
    rw [hW, hP, hB]
    have HB := Lib.hid hb
    have HP := Lib.hid hp
    have HNE := Lib.hid hne
    clear hW hP hB hb hp hne

    go_wp2_with (first | ((with_reducible show wpList _ _ _ (⟨_, .load 31 (.tmp 2), _, _, _, none⟩ :: _) _ _); refine wpList_load_row rfl 31 (.tmp 2) rfl B rfl 31 _ (0, 0) _ HB.out.raw Tryd.underlying31 rfl infoP ?_) | (go_at_call 16; with_reducible refine (qvalid_at s c _ HC).mono ?_; rintro r w1 ⟨rfl, hg⟩; replace g0 := g0.trans hg; replace HB := Lib.hid (HB.out.own hg); replace HP := Lib.hid (HP.out.own hg); clear hg) | ((with_reducible show wpList _ _ _ (⟨_, .store 31 (.tmp 4) (.tmp 11), _, _, _, none⟩ :: _) _ _); refine wpList_store_row rfl 31 (.tmp 4) (.tmp 11) rfl P (cz 22 (nul)) rfl rfl 31 _ HP.out.raw infoP rfl (cz_one _ _) ?_))
    have hp := HP.out.row (cz 22 nul)
    exact bodyPost_ret (blk_results rfl rfl rfl hp Tryd.underlying31 rfl infoP) rfl ⟨rfl, own_setRow g0 hP0 _⟩
theorem qrotp_at (s r0 : Vl) (n c : Int) (w : World) (HT : Hid (AngW.Tab w)) (H : Hid (cz 22 (rpV s n) = cz 22 r0 ∧ vaE s = c)) :
    Calls Tryd.prog 12 #[.agg (cz 22 s), .int .i64 n] w fun r w' => r = .returned (.tuple #[.agg (cz 22 r0), .int .i64 c]) ∧ Own w w' := by
  rw [← H.out.1, ← H.out.2]
  exact qrotp_any s n w HT
theorem qmp_at (x y : Int) (w : World) (hx : -32768 ≤ x ∧ x ≤ 32768) :
    Calls Tryd.prog 28 #[.agg #[.int .i64 x, .int .i64 y]] w fun r w' => r = .returned (.agg #[.int .i64 (-x), .int .i64 y]) ∧ Own w w' := by
  go_enter Tryd.func28, Tryd.ntmps28
  go_upto_region 1 with (fail)
  obtain ⟨W0, B, P, hW, hP, hB, hb, hp, g0, -, hP0, -⟩ := two_new w (#[.int .i64 x, .int .i64 y]) 26 (#[.int .i64 0, .int .i64 0]) 26
  rw [hW, hP, hB]
  have k0 := hb.cell 0
  have k1 := hb.cell 1
  have HP := Lib.hid hp
  clear hW hP hB hb hp
  go_wp2_with ((with_reducible show wpList _ _ _ (⟨_, .store 26 (.tmp 2) (.tmp 8), _, _, _, none⟩ :: _) _ _); refine wpList_store_row rfl 26 (.tmp 2) (.tmp 8) rfl P #[.int .i64 (-x), .int .i64 y] rfl rfl 26 _ HP.out.raw infoPt rfl (by simp [Value.oneCell']) ?_)
  have hp := HP.out.row #[.int .i64 (-x), .int .i64 y]
  exact bodyPost_ret (blk_result rfl rfl hp Tryd.underlying26 rfl infoPt) rfl ⟨rfl, own_setRow g0 hP0 _⟩
theorem swN_inj {i k : Nat} (hi : i < 6) (hk : k < 6) (h : swN i = swN k) : i = k := by rw [← swN_swN hi, h, swN_swN hk]
theorem bld_pose3 (x y f l : Int) : Tryd.prog.built 31 [(0, .agg #[.int .i64 x, .int .i64 y]), (1, .int .i64 f), (2, .int .i64 l)] = some (cz 22 (ps4 x y f l nul)) := by kernel_rfl
set_option maxRecDepth 100000 in
set_option maxHeartbeats 2000000 in
theorem qmirp_any (p : Vl) (w : World) :
    Calls Tryd.prog 11 #[.agg (cz 22 p)] w fun r w' => r = .returned (.tuple #[.agg (cz 22 (mpV p)), .int .i64 (vaE p)]) ∧ Own w w' := by
  by_cases h : vaE p = 0
  · obtain ⟨⟨b0, b1, b2, b3⟩, hz⟩ := va_yes h
    have HC := Lib.hid h
    obtain ⟨f2, hu⟩ : ∃ x, (-p 2) % 256 = x := ⟨_, rfl⟩
    have HU := Lib.hid hu
    have HZ := Lib.hid hz
    have HVE := Lib.hid (show mpV p = mpS p from mpV_yes h)
    have HX := Lib.hid (fun (k : Nat) (h : k < 6) => idxA p h)
    rw [h]
    clear h hu hz
    go_enter Tryd.func11, Tryd.ntmps11
    go_upto_region 1 with (fail)
    obtain ⟨W0, B, P, hW, hP, hB, hb, hp, g0, -, hP0, hne⟩ := two_new w (cz 22 p) 31 (cz 22 nul) 31
    rw [← cz22_nul] at hW
    rw [hW, hP, hB]
    have HB := Lib.hid hb
    have HP := Lib.hid hp
    have HNE := Lib.hid hne
    clear hW hP hB hb hp hne

    go_upto_region 4 with (first | ((with_reducible show wpList _ _ _ (⟨_, .load 31 (.tmp 1), _, _, _, none⟩ :: _) _ _); refine wpList_load_row rfl 31 (.tmp 1) rfl B rfl 31 _ (0, 0) _ HB.out.raw Tryd.underlying31 rfl infoP ?_) | (go_at_call 16; with_reducible refine (qvalid_at p 0 _ HC).mono ?_; rintro r w1 ⟨rfl, hg⟩; replace g0 := g0.trans hg; replace HB := Lib.hid (HB.out.own hg); replace HP := Lib.hid (HP.out.own hg); clear hg))
    refine RegD.region_new [16, 17, 18, 19, 20, 21, 22, 23, 24, 5] 5 9 10 (RegI.upd (RegI.upd (RegI.upd (RegI.upd (RegI.upd (RegI.upd (RegI.upd (RegI.upd (RegI.upd (fun _ => undef) 16 (.pointer (some ⟨B, 0, none⟩))) 17 (.agg #[.int .i64 (p 0), .int .i64 (p 1)])) 18 (.agg #[.int .i64 (-p 0), .int .i64 (p 1)])) 19 (.pointer (some ⟨B, 2, none⟩))) 20 (.int .i64 (p 2))) 21 (.int .i64 f2)) 22 (.pointer (some ⟨B, 3, none⟩))) 23 (.int .i64 (p 3))) 24 (.agg (cz 22 (ps4 (-p 0) (p 1) f2 (p 3) nul)))) (cz 22 nul) (cz 22 (ps4 (-p 0) (p 1) f2 (p 3) nul)) 31 (by kernel_rfl) (by kernel_rfl) (by decide) (by intro d hd; simp at hd; simp; omega) ?hs ?he
    case hs =>
      refine And.intro ?s0 (And.intro ?s1 (And.intro ?s2 (And.intro ?s3 (And.intro ?s4 (And.intro ?s5 (And.intro ?s6 (And.intro ?s7 (And.intro ?s8 (And.intro ?s9 (And.intro ?s10 (trivial)))))))))))
      case s0 =>
        refine RegD.det_new (by decide) (by decide) (by simp) (fun u w1 hO => ?_)
        simp only [RegD.FF, RegI.FX, RegI.upd, List.foldl_cons, List.foldl_nil, List.mem_cons, List.not_mem_nil, if_true, if_false, Nat.reduceEqDiff, or_false]
        simp only [List.setIfInBounds_toArray, List.set_cons_succ, List.set_cons_zero]
        go_wp2
        exact ⟨rfl, rfl, rfl, Own.refl _⟩
      case s1 =>
        refine RegD.det_new (by decide) (by decide) (by simp) (fun u w1 hO => ?_)
        have HB9 := Lib.hid (HB.out.own hO)
        simp only [RegD.FF, RegI.FX, RegI.upd, List.foldl_cons, List.foldl_nil, List.mem_cons, List.not_mem_nil, if_true, if_false, Nat.reduceEqDiff, or_false]
        simp only [List.setIfInBounds_toArray, List.set_cons_succ, List.set_cons_zero]
        go_wp2_with ((with_reducible show wpList _ _ _ (⟨_, .load 26 (.tmp 16), _, _, _, none⟩ :: _) _ _); refine wpList_load_part rfl 26 (.tmp 16) rfl B (0) rfl 2 HB9.out (by omega) (#[.int .i64 (p 0), .int .i64 (p 1)]) rfl _ Tryd.underlying26 rfl infoPt ?_)
        exact ⟨rfl, rfl, rfl, Own.refl _⟩
      case s2 =>
        refine RegD.det_new (by decide) (by decide) (by simp) (fun u w1 hO => ?_)
        simp only [RegD.FF, RegI.FX, RegI.upd, List.foldl_cons, List.foldl_nil, List.mem_cons, List.not_mem_nil, if_true, if_false, Nat.reduceEqDiff, or_false]
        simp only [List.setIfInBounds_toArray, List.set_cons_succ, List.set_cons_zero]
        go_wp2_with (go_at_call 28; with_reducible refine (qmp_at (p 0) (p 1) _ b0).mono ?_; rintro r w2 ⟨rfl, hg⟩)
        exact ⟨rfl, rfl, rfl, hg⟩
      case s3 =>
        refine RegD.det_new (by decide) (by decide) (by simp) (fun u w1 hO => ?_)
        simp only [RegD.FF, RegI.FX, RegI.upd, List.foldl_cons, List.foldl_nil, List.mem_cons, List.not_mem_nil, if_true, if_false, Nat.reduceEqDiff, or_false]
        simp only [List.setIfInBounds_toArray, List.set_cons_succ, List.set_cons_zero]
        go_wp2
        exact ⟨rfl, rfl, rfl, Own.refl _⟩
      case s4 =>
        refine RegD.det_new (by decide) (by decide) (by simp) (fun u w1 hO => ?_)
        have k := blk_num (HB.out.own hO) (i := 2) (by omega)
        simp only [RegD.FF, RegI.FX, RegI.upd, List.foldl_cons, List.foldl_nil, List.mem_cons, List.not_mem_nil, if_true, if_false, Nat.reduceEqDiff, or_false]
        simp only [List.setIfInBounds_toArray, List.set_cons_succ, List.set_cons_zero]
        go_wp2
        exact ⟨rfl, rfl, rfl, Own.refl _⟩
      case s5 =>
        refine RegD.det_new (by decide) (by decide) (by simp) (fun u w1 hO => ?_)
        simp only [RegD.FF, RegI.FX, RegI.upd, List.foldl_cons, List.foldl_nil, List.mem_cons, List.not_mem_nil, if_true, if_false, Nat.reduceEqDiff, or_false]
        simp only [List.setIfInBounds_toArray, List.set_cons_succ, List.set_cons_zero]
        go_wp2_with (go_at_call 29; with_reducible refine (AngW.mir_at (p 2) f2 _ HU).mono ?_; rintro r w1 ⟨rfl, rfl⟩)
        exact ⟨rfl, rfl, rfl, Own.refl _⟩
      case s6 =>
        refine RegD.det_new (by decide) (by decide) (by simp) (fun u w1 hO => ?_)
        simp only [RegD.FF, RegI.FX, RegI.upd, List.foldl_cons, List.foldl_nil, List.mem_cons, List.not_mem_nil, if_true, if_false, Nat.reduceEqDiff, or_false]
        simp only [List.setIfInBounds_toArray, List.set_cons_succ, List.set_cons_zero]
        go_wp2
        exact ⟨rfl, rfl, rfl, Own.refl _⟩
      case s7 =>
        refine RegD.det_new (by decide) (by decide) (by simp) (fun u w1 hO => ?_)
        have k := blk_num (HB.out.own hO) (i := 3) (by omega)
        simp only [RegD.FF, RegI.FX, RegI.upd, List.foldl_cons, List.foldl_nil, List.mem_cons, List.not_mem_nil, if_true, if_false, Nat.reduceEqDiff, or_false]
        simp only [List.setIfInBounds_toArray, List.set_cons_succ, List.set_cons_zero]
        go_wp2
        exact ⟨rfl, rfl, rfl, Own.refl _⟩
      case s8 =>
        refine RegD.det_new (by decide) (by decide) (by simp) (fun u w1 hO => ?_)
        simp only [RegD.FF, RegI.FX, RegI.upd, List.foldl_cons, List.foldl_nil, List.mem_cons, List.not_mem_nil, if_true, if_false, Nat.reduceEqDiff, or_false]
        simp only [List.setIfInBounds_toArray, List.set_cons_succ, List.set_cons_zero]
        go_wp2_with ((with_reducible show wpList _ _ _ (⟨_, .build 31 _, _, _, _, _⟩ :: _) _ _); refine wpList_build_as rfl 31 [(0, .tmp 18), (1, .tmp 21), (2, .tmp 23)] rfl [(0, .agg #[.int .i64 (-p 0), .int .i64 (p 1)]), (1, .int .i64 f2), (2, .int .i64 (p 3))] rfl (cz 22 (ps4 (-p 0) (p 1) f2 (p 3) nul)) (bld_pose3 _ _ _ _) ?_)
        exact ⟨rfl, rfl, rfl, Own.refl _⟩
      case s9 =>
        refine RegD.alloc_new (by decide) rfl (fun u w1 hO => ?_)
        simp only [RegD.FF, RegI.FX, RegI.upd, List.foldl_cons, List.foldl_nil, List.mem_cons, List.not_mem_nil, if_true, if_false, Nat.reduceEqDiff, or_false]
        simp only [List.setIfInBounds_toArray, List.set_cons_succ, List.set_cons_zero]
        go_wp2
        exact ⟨rfl, rfl, rfl, rfl⟩
      case s10 =>
        refine RegD.store_new (by decide) rfl (by kernel_rfl) (fun u w1 N hO hu hN => ?_)
        have HN := Lib.hid hN
        simp only [RegD.FF, RegI.FX, RegI.upd, List.foldl_cons, List.foldl_nil, List.mem_cons, List.not_mem_nil, if_true, if_false, Nat.reduceEqDiff, or_false, hu]
        simp only [List.setIfInBounds_toArray, List.set_cons_succ, List.set_cons_zero]
        clear hN
        go_wp2_with ((with_reducible show wpList _ _ _ (⟨_, .store 31 (.tmp 5) (.tmp 24), _, _, _, none⟩ :: _) _ _); refine wpList_store_row rfl 31 (.tmp 5) (.tmp 24) rfl N (cz 22 (ps4 (-p 0) (p 1) f2 (p 3) nul)) rfl rfl 31 _ HN.out.raw infoP rfl (cz_one _ _) ?_)
        exact ⟨rfl, rfl, rfl⟩
    case he =>
      intro u w2 N g1 hu hn hN
      have hPN := Lib.hid (Nat.ne_of_lt (Nat.lt_of_lt_of_le HP.out.lt hn))
      have hN0 : w.heap.size ≤ N := Nat.le_trans g0.size hn
      replace g0 := g0.trans g1
      replace HB := Lib.hid (HB.out.own g1)
      replace HP := Lib.hid (HP.out.own g1)
      have HN := Lib.hid hN
      simp only [RegD.FF, RegI.FX, RegI.upd, List.foldl_cons, List.foldl_nil, List.mem_cons, List.not_mem_nil, if_true, if_false, Nat.reduceEqDiff, or_false, hu]
      simp only [List.setIfInBounds_toArray, List.set_cons_succ, List.set_cons_zero]
      clear g1 hn hN hu

      go_wp2_with ((with_reducible show wpList _ _ _ (⟨_, .load 29 (.tmp 25), _, _, _, none⟩ :: _) _ _); refine wpList_load_part rfl 29 (.tmp 25) rfl B (4) rfl 18 HB.out (by omega) (cz 18 (fun j => p (4 + j))) rfl _ Tryd.underlying29 rfl infoA6 ?_)
      generalize cz 18 (fun j => p (4 + j)) = TT at *
      clear HB
      go_loopw [6, 7, 8, 9, 27] (fun _ _ _ _ vi wr => ∃ k : Nat, vi = .int .i64 (k : Int) ∧ k ≤ 6 ∧ Own w wr ∧ Blk wr P (cz 22 nul) 31 ∧ ∃ f, Blk wr N (cz 22 f) 31 ∧ (∀ j, j < 4 → f j = mpS p j) ∧ ∀ i, i < k → f (4 + swN i * 3) = mpZ p (swN i) ∧ f (4 + swN i * 3 + 1) = mpL p (swN i) ∧ f (4 + swN i * 3 + 2) = mpB p (swN i)) (fun _ _ _ _ vi _ => 6 - (intOf vi).toNat)
      case atStart =>
        refine ⟨0, rfl, by omega, g0, HP.out, _, HN.out, fun j hj => ?_, fun i hi => absurd hi (by omega)⟩
        rw [← HU.out]
        have t : j = 0 ∨ j = 1 ∨ j = 2 ∨ j = 3 := by omega
        rcases t with rfl | rfl | rfl | rfl <;> rfl
      case round =>
        clear HP HN g0
        obtain ⟨k, rfl, hk, g0, hp, f, hn, hf, hF⟩ := hrel
        have HP := Lib.hid hp
        have HN := Lib.hid hn
        have HF := Lib.hid (And.intro hf hF)
        clear hp hn hf hF
        by_cases hlt : k < 6
        · have ix := HX.out k hlt
          obtain ⟨m, hm⟩ : ∃ m, swN k = m := ⟨_, rfl⟩
          have bm : m < 6 := by rw [← hm]; exact swN_lt hlt
          have HM := Lib.hid hm
          have HSW := Lib.hid (show swp (k : Int) = (m : Int) ∧ swE (k : Int) = 0 from ⟨by rw [swp_nat hlt, hm], if_pos (by omega)⟩)
          have hc := HZ.out k hlt
          obtain ⟨y1, y2, y3⟩ := mir_yes hc
          obtain ⟨d1, hd1⟩ : ∃ x, mpZ p m = x := ⟨_, rfl⟩
          have HMD := Lib.hid (show mirZ k (p (4 + k * 3)) (p (4 + k * 3 + 1)) (p (4 + k * 3 + 2)) = d1 ∧ mirL k (p (4 + k * 3)) (p (4 + k * 3 + 1)) (p (4 + k * 3 + 2)) = p (4 + k * 3 + 1) ∧ mirB k (p (4 + k * 3)) (p (4 + k * 3 + 1)) (p (4 + k * 3 + 2)) = p (4 + k * 3 + 2) ∧ chk k (p (4 + k * 3)) (p (4 + k * 3 + 1)) (p (4 + k * 3 + 2)) = 0 from ⟨by rw [y1, ← hd1]; unfold mpZ; rw [← hm, swN_swN hlt], y2, y3, hc⟩)
          have HMB := Lib.hid (show p (4 + k * 3 + 1) = mpL p m ∧ p (4 + k * 3 + 2) = mpB p m from ⟨by unfold mpL; rw [← hm, swN_swN hlt], by unfold mpB; rw [← hm, swN_swN hlt]⟩)
          have HD1 := Lib.hid hd1
          have hkn : (k : Int) < 6 := by omega
          have hmn : (m : Int) < 6 := by omega
          clear hm hd1 hc y1 y2 y3
          generalize p (4 + k * 3) = d0 at ix HMD
          generalize p (4 + k * 3 + 1) = v0 at ix HMB HMD
          generalize p (4 + k * 3 + 2) = b0' at ix HMB HMD
          go_upto_region 8 with (fail)
          obtain ⟨w3, G, hW, hBq, hb, hg, Gg⟩ := blk_new wr (#[.int .i64 d0, .int .i64 v0, .int .i64 b0']) 28
          rw [hW, hBq]
          have HG := Lib.hid hb
          replace g0 := g0.trans hg
          replace HP := Lib.hid (HP.out.own hg)
          replace HN := Lib.hid (HN.out.own hg)
          clear hW hBq hb hg
          go_upto_region 10 with (first | (go_at_call 30; with_reducible refine (pswap_at k m 0 _ HSW).mono ?_; rintro r w1 ⟨rfl, rfl⟩) | ((with_reducible show wpList _ _ _ (⟨_, .load 28 (.tmp 7), _, _, _, none⟩ :: _) _ _); refine wpList_load_row rfl 28 (.tmp 7) rfl G rfl 28 _ (0, 0) _ HG.out.raw Tryd.underlying28 rfl infoA ?_) | (go_at_call 31; with_reducible refine (pmir_at k d0 v0 b0' d1 v0 b0' 0 _ HMD).mono ?_; rintro r w4 ⟨rfl, hg⟩; replace g0 := g0.trans hg; replace HP := Lib.hid (HP.out.own hg); replace HN := Lib.hid (HN.out.own hg); clear hg) | ((with_reducible show wpList _ _ _ (⟨_, .store 28 (.tmp 44) (.tmp 41), _, _, _, none⟩ :: _) _ _); refine wpList_store_part rfl 28 (.tmp 44) (.tmp 41) rfl N (4 + m * 3) 3 (l3 d1 v0 b0') rfl (#[.int .i64 d1, .int .i64 v0, .int .i64 b0']) rfl rfl HN.out (by omega) infoA ?_))
          have hn := HN.out.row (cz 22 (put f (4 + m * 3) 3 (l3 d1 v0 b0')))
          have hp := HP.out.rowfar hPN.out (cz 22 (put f (4 + m * 3) 3 (l3 d1 v0 b0')))
          replace g0 := own_setRow g0 hN0 (cz 22 (put f (4 + m * 3) 3 (l3 d1 v0 b0')))
          clear HP HN HG Gg
          generalize w4.setRow N (cz 22 (put f (4 + m * 3) 3 (l3 d1 v0 b0'))) = w5 at *
          have HR := Lib.hid (And.intro hp hn)
          clear hp hn
          go_wp2
          go_roundw
          case rel =>
            refine ⟨k + 1, by go_num, hlt, g0, HR.out.1, _, HR.out.2, fun j hj => ?_, fun i hi => ?_⟩
            · rw [put_out _ _ (by omega)]; exact HF.out.1 j hj
            · by_cases e : i = k
              · have hm := HM.out
                rw [e, hm]
                have q0 := put_in f (k := 4 + m * 3) (m := 3) (j := 0) (l3 d1 v0 b0') (by omega)
                have q1 := put_in f (k := 4 + m * 3) (m := 3) (j := 1) (l3 d1 v0 b0') (by omega)
                have q2 := put_in f (k := 4 + m * 3) (m := 3) (j := 2) (l3 d1 v0 b0') (by omega)
                exact ⟨q0.trans HD1.out.symm, q1.trans HMB.out.1, q2.trans HMB.out.2⟩
              · have hi6 : i < 6 := by omega
                have hne : swN i ≠ m := fun x => e (swN_inj hi6 hlt (x.trans HM.out.symm))
                obtain ⟨q0, q1, q2⟩ := HF.out.2 i (by omega)
                rw [put_out _ _ (by omega), put_out _ _ (by omega), put_out _ _ (by omega)]
                exact ⟨q0, q1, q2⟩
          case measure => simp [intOf]; omega
        · obtain rfl : k = 6 := by omega
          have HV := Lib.hid (show cz 22 f = cz 22 (mpV p) by
            rw [HVE.out]
            refine cz_congr fun i hi => ?_
            obtain ⟨h1, h2⟩ := HF.out
            by_cases e : i < 4
            · exact h1 i e
            · obtain ⟨j, rfl⟩ : ∃ j, i = 4 + j := ⟨i - 4, by omega⟩
              have hk6 : j / 3 < 6 := by omega
              have hs := swN_swN hk6
              obtain ⟨q0, q1, q2⟩ := h2 (swN (j / 3)) (swN_lt hk6)
              rw [hs] at q0 q1 q2
              obtain ⟨z0, z1, z2⟩ := mp_cells p (j / 3)
              have t : j = j / 3 * 3 ∨ j = j / 3 * 3 + 1 ∨ j = j / 3 * 3 + 2 := by omega
              rcases t with t | t | t
              · rw [t]; exact q0.trans z0.symm
              · rw [t, ← Nat.add_assoc]; exact q1.trans z1.symm
              · rw [t, ← Nat.add_assoc]; exact q2.trans z2.symm)
          clear HF HZ HX HVE
          go_wp2_with (first | ((with_reducible show wpList _ _ _ (⟨_, .load 31 (.tmp 5), _, _, _, none⟩ :: _) _ _); refine wpList_load_row rfl 31 (.tmp 5) rfl N rfl 31 _ (0, 0) _ HN.out.raw Tryd.underlying31 rfl infoP ?_) | ((with_reducible show wpList _ _ _ (⟨_, .store 31 (.tmp 2) (.tmp 46), _, _, _, none⟩ :: _) _ _); refine wpList_store_row rfl 31 (.tmp 2) (.tmp 46) rfl P (cz 22 (f)) rfl rfl 31 _ HP.out.raw infoP rfl (cz_one _ _) ?_))
          have hp := HP.out.row (cz 22 f)
          rw [← HV.out]
          exact bodyPost_ret (blk_results rfl rfl rfl hp Tryd.underlying31 rfl infoP) rfl ⟨rfl, own_setRow g0 hP0 _⟩
  · obtain ⟨c, hc⟩ : ∃ c, vaE p = c := ⟨_, rfl⟩
    rw [mpV_no h, hc]
    rw [hc] at h
    have kc : (c != 0) = true := bne_iff_ne.2 h
    have HC := Lib.hid hc
    clear h hc
    go_enter Tryd.func11, Tryd.ntmps11
    go_upto_region 1 with (fail)
    obtain ⟨W0, B, P, hW, hP, hB, hb, hp, g0, -, hP0, hne⟩ := two_new w (cz 22 p) 31 (cz 22 nul) 31
    rw [← cz22_nul] at hW
    rw [hW, hP, hB]
    have HB := Lib.hid hb
    have HP := Lib.hid hp
    have HNE := Lib.hid hne
    clear hW hP hB hb hp hne

    go_wp2_with (first | ((with_reducible show wpList _ _ _ (⟨_, .load 31 (.tmp 1), _, _, _, none⟩ :: _) _ _); refine wpList_load_row rfl 31 (.tmp 1) rfl B rfl 31 _ (0, 0) _ HB.out.raw Tryd.underlying31 rfl infoP ?_) | (go_at_call 16; with_reducible refine (qvalid_at p c _ HC).mono ?_; rintro r w1 ⟨rfl, hg⟩; replace g0 := g0.trans hg; replace HB := Lib.hid (HB.out.own hg); replace HP := Lib.hid (HP.out.own hg); clear hg) | ((with_reducible show wpList _ _ _ (⟨_, .store 31 (.tmp 2) (.tmp 14), _, _, _, none⟩ :: _) _ _); refine wpList_store_row rfl 31 (.tmp 2) (.tmp 14) rfl P (cz 22 (nul)) rfl rfl 31 _ HP.out.raw infoP rfl (cz_one _ _) ?_))
    have hp := HP.out.row (cz 22 nul)
    exact bodyPost_ret (blk_results rfl rfl rfl hp Tryd.underlying31 rfl infoP) rfl ⟨rfl, own_setRow g0 hP0 _⟩
theorem qmirp_at (p m : Vl) (c : Int) (w : World) (H : Hid (cz 22 (mpV p) = cz 22 m ∧ vaE p = c)) :
    Calls Tryd.prog 11 #[.agg (cz 22 p)] w fun r w' => r = .returned (.tuple #[.agg (cz 22 m), .int .i64 c]) ∧ Own w w' := by
  rw [← H.out.1, ← H.out.2]
  exact qmirp_any p w
end Go.Proofs.YtighpjhipgobiaaDoor.PstW
