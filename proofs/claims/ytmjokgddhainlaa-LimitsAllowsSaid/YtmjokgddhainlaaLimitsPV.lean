/-
  Walks of package posture: Valid, of the program and of the specification. Condition: none.
-/
import Derived.Test.YtmjokgddhainlaaPosturePlain
import Derived.Test.YtmjokgddhainlaaPartMore
import Derived.Test.YtmjokgddhainlaaAimPB
import Derived.Test.YtmjokgddhainlaaAimA
import Derived.Test.YtmjokgddhainlaaRegBase
import Derived.Deep.DeepCutAuto
namespace Go.Proofs.Ytmjokgddhainlaa.PstW
open Go.ChangeShapes Go.WideShapes Go.ChangeAt Go.RowKit
open PairW AimP AimW BlkW PrtW PstP
theorem infoP : (Try.prog.info? 63).map (·.size) = some 22 := by kernel_rfl
theorem infoPt : (Try.prog.info? 60).map (·.size) = some 2 := by kernel_rfl
theorem infoA6 : (Try.prog.info? 61).map (·.size) = some 18 := by kernel_rfl
theorem cz22_nul : (#[.int .i64 0, .int .i64 0, .int .i64 0, .int .i64 0, .int .i64 0, .int .i64 0, .int .i64 0, .int .i64 0, .int .i64 0, .int .i64 0, .int .i64 0, .int .i64 0, .int .i64 0, .int .i64 0, .int .i64 0, .int .i64 0, .int .i64 0, .int .i64 0, .int .i64 0, .int .i64 0, .int .i64 0, .int .i64 0] : Array Value) = cz 22 nul := rfl
theorem idxA (s : Vl) {k : Nat} (hk : k < 6) (w : World) : (Instr.index 61 (.agg (cz 18 (fun j => s (4 + j)))) (.int .i64 (k : Int))).run Try.prog w = .ok (.agg #[.int .i64 (s (4 + k * 3)), .int .i64 (s (4 + k * 3 + 1)), .int .i64 (s (4 + k * 3 + 2))]) w :=
  index_num (n := 6) (m := 3) Try.underlying61 (fun w => by go_simp) (fun w => by go_simp) hk _ w
def anB (d : Int) : Bool := decide (0 ≤ d) && decide (d ≤ 255)
theorem an_iff (d : Int) : anB d = true ↔ 0 ≤ d ∧ d ≤ 255 := by unfold anB; rw [Bool.and_eq_true, decide_eq_true_eq, decide_eq_true_eq]
theorem an_no (d : Int) : anB d = false ↔ d < 0 ∨ 255 < d := by rw [← Bool.not_eq_true, an_iff]; omega
def lfB (d : Int) : Bool := decide (-8 ≤ d) && decide (d ≤ 8)
theorem lf_iff (d : Int) : lfB d = true ↔ -8 ≤ d ∧ d ≤ 8 := by unfold lfB; rw [Bool.and_eq_true, decide_eq_true_eq, decide_eq_true_eq]
theorem lf_no (d : Int) : lfB d = false ↔ d < -8 ∨ 8 < d := by rw [← Bool.not_eq_true, lf_iff]; omega
theorem fl_no (d : Int) : AngW.floorB d = false ↔ d < -32768 ∨ 32768 < d := by rw [← Bool.not_eq_true, AngW.floor_iff]; omega
theorem pfl_at (d : Int) (t : Bool) (w : World) (H : Hid (AngW.floorB d = t)) :
    Calls Try.prog 76 #[.int .i64 d] w fun r w' => r = .returned (.bool t) ∧ w = w' := by
  have hi := AngW.floor_iff d
  rw [H.out] at hi
  clear H
  by_cases h1 : -32768 ≤ d
  · by_cases h2 : d ≤ 32768
    · obtain rfl : t = true := hi.2 (by omega)
      clear hi
      go_enter Try.func76, Try.ntmps76
      go_wp2
      go_ret
      exact ⟨ret_bool (by simp), rfl⟩
    · obtain rfl : t = false := by cases t <;> simp at hi ⊢; omega
      clear hi
      go_enter Try.func76, Try.ntmps76
      go_wp2
      go_ret
      exact ⟨ret_bool (by simp), rfl⟩
  · obtain rfl : t = false := by cases t <;> simp at hi ⊢; omega
    clear hi
    go_enter Try.func76, Try.ntmps76
    go_wp2
    go_ret
    exact ⟨ret_bool (by simp), rfl⟩
theorem pan_at (d : Int) (t : Bool) (w : World) (H : Hid (anB d = t)) :
    Calls Try.prog 70 #[.int .i64 d] w fun r w' => r = .returned (.bool t) ∧ w = w' := by
  have hi := an_iff d
  rw [H.out] at hi
  clear H
  by_cases h1 : 0 ≤ d
  · by_cases h2 : d < 256
    · obtain rfl : t = true := hi.2 (by omega)
      clear hi
      go_enter Try.func70, Try.ntmps70
      go_wp2
      go_ret
      exact ⟨ret_bool (by simp), rfl⟩
    · obtain rfl : t = false := by cases t <;> simp at hi ⊢; omega
      clear hi
      go_enter Try.func70, Try.ntmps70
      go_wp2
      go_ret
      exact ⟨ret_bool (by simp), rfl⟩
  · obtain rfl : t = false := by cases t <;> simp at hi ⊢; omega
    clear hi
    go_enter Try.func70, Try.ntmps70
    go_wp2
    go_ret
    exact ⟨ret_bool (by simp), rfl⟩
theorem plf_at (d : Int) (t : Bool) (w : World) (H : Hid (lfB d = t)) :
    Calls Try.prog 71 #[.int .i64 d] w fun r w' => r = .returned (.bool t) ∧ w = w' := by
  have hi := lf_iff d
  rw [H.out] at hi
  clear H
  by_cases h1 : -8 ≤ d
  · by_cases h2 : d ≤ 8
    · obtain rfl : t = true := hi.2 (by omega)
      clear hi
      go_enter Try.func71, Try.ntmps71
      go_wp2
      go_ret
      exact ⟨ret_bool (by simp), rfl⟩
    · obtain rfl : t = false := by cases t <;> simp at hi ⊢; omega
      clear hi
      go_enter Try.func71, Try.ntmps71
      go_wp2
      go_ret
      exact ⟨ret_bool (by simp), rfl⟩
  · obtain rfl : t = false := by cases t <;> simp at hi ⊢; omega
    clear hi
    go_enter Try.func71, Try.ntmps71
    go_wp2
    go_ret
    exact ⟨ret_bool (by simp), rfl⟩
def plB (x y : Int) : Bool := AngW.floorB x && AngW.floorB y
theorem pl_yes {x y : Int} (hx : -32768 ≤ x ∧ x ≤ 32768) (hy : -32768 ≤ y ∧ y ≤ 32768) : plB x y = true := by unfold plB; rw [(AngW.floor_iff x).2 hx, (AngW.floor_iff y).2 hy]; rfl
theorem pl_no {x y : Int} (h : ¬ ((-32768 ≤ x ∧ x ≤ 32768) ∧ -32768 ≤ y ∧ y ≤ 32768)) : plB x y = false := by
  cases e : plB x y with
  | false => rfl
  | true =>
    unfold plB at e
    rw [Bool.and_eq_true, AngW.floor_iff, AngW.floor_iff] at e
    exact absurd e h
theorem ppl_at (x y : Int) (t : Bool) (w : World) (H : Hid (plB x y = t)) :
    Calls Try.prog 69 #[.agg #[.int .i64 x, .int .i64 y]] w fun r w' => r = .returned (.bool t) ∧ Own w w' := by
  obtain rfl := H.out
  clear H
  unfold plB
  cases hx : AngW.floorB x with
  | false =>
    have HX := Lib.hid hx
    clear hx
    go_enter Try.func69, Try.ntmps69
    go_wp2_with (go_at_call 76; with_reducible refine (pfl_at x false _ HX).mono ?_; rintro r w1 ⟨rfl, rfl⟩)
    go_ret
    exact ⟨rfl, (Own.refl w).alloc _⟩
  | true =>
    have HX := Lib.hid hx
    clear hx
    cases hy : AngW.floorB y with
    | false =>
      have HY := Lib.hid hy
      clear hy
      go_enter Try.func69, Try.ntmps69
      go_wp2_with (first | (go_at_call 76; with_reducible refine (pfl_at x true _ HX).mono ?_; rintro r w1 ⟨rfl, rfl⟩) | (go_at_call 76; with_reducible refine (pfl_at y false _ HY).mono ?_; rintro r w1 ⟨rfl, rfl⟩))
      go_ret
      exact ⟨rfl, (Own.refl w).alloc _⟩
    | true =>
      have HY := Lib.hid hy
      clear hy
      go_enter Try.func69, Try.ntmps69
      go_wp2_with (first | (go_at_call 76; with_reducible refine (pfl_at x true _ HX).mono ?_; rintro r w1 ⟨rfl, rfl⟩) | (go_at_call 76; with_reducible refine (pfl_at y true _ HY).mono ?_; rintro r w1 ⟨rfl, rfl⟩))
      go_ret
      exact ⟨rfl, (Own.refl w).alloc _⟩
set_option maxRecDepth 100000 in
set_option maxHeartbeats 2000000 in
theorem qvalid_any (p : Vl) (w : World) :
    Calls Try.prog 62 #[.agg (cz 22 p)] w fun r w' => r = .returned (.int .i64 (vaE p)) ∧ Own w w' := by
  by_cases hp : (-32768 ≤ p 0 ∧ p 0 ≤ 32768) ∧ -32768 ≤ p 1 ∧ p 1 ≤ 32768
  · have HP := Lib.hid (pl_yes hp.1 hp.2)
    by_cases he : 0 ≤ p 2 ∧ p 2 ≤ 255
    · have HE := Lib.hid ((an_iff (p 2)).2 he)
      by_cases hl : -8 ≤ p 3 ∧ p 3 ≤ 8
      · have HL := Lib.hid ((lf_iff (p 3)).2 hl)
        have hv : vaE p = fe (pE p) := if_pos (show paR p from ⟨hp.1, hp.2, he, hl⟩)
        rw [hv]
        clear hp he hl hv
        have HX := Lib.hid (fun (k : Nat) (h : k < 6) => idxA p h)
        go_enter Try.func62, Try.ntmps62
        go_upto_region 1 with (fail)
        obtain ⟨W0, B, hW, hBq, hb, g0, -⟩ := blk_new w (cz 22 p) 63
        rw [hW, hBq]
        have HB := Lib.hid hb
        have k2 := blk_num hb (i := 2) (by omega)
        have k3 := blk_num hb (i := 3) (by omega)
        clear hW hBq hb

        go_upto_region 3 with (first | ((with_reducible show wpList _ _ _ (⟨_, .load 60 (.tmp 6), _, _, _, none⟩ :: _) _ _); refine wpList_load_part rfl 60 (.tmp 6) rfl B (0) rfl 2 HB.out (by omega) (#[.int .i64 (p 0), .int .i64 (p 1)]) rfl _ Try.underlying60 rfl infoPt ?_) | (go_at_call 69; with_reducible refine (ppl_at _ _ true _ HP).mono ?_; rintro r w1 ⟨rfl, hg⟩; replace g0 := g0.trans hg; replace HB := Lib.hid (HB.out.own hg); replace k2 := hg.cell k2; replace k3 := hg.cell k3; clear hg) | (go_at_call 70; with_reducible refine (pan_at _ true _ HE).mono ?_; rintro r w1 ⟨rfl, rfl⟩) | (go_at_call 71; with_reducible refine (plf_at _ true _ HL).mono ?_; rintro r w1 ⟨rfl, rfl⟩))
        clear k2 k3 HP HE HL
        go_wp2_with ((with_reducible show wpList _ _ _ (⟨_, .load 61 (.tmp 22), _, _, _, none⟩ :: _) _ _); refine wpList_load_part rfl 61 (.tmp 22) rfl B (3 + 1) rfl 18 HB.out (by omega) (cz 18 (fun j => p (4 + j))) rfl _ Try.underlying61 rfl infoA6 ?_)
        generalize cz 18 (fun j => p (4 + j)) = TT at *
        clear HB
        go_loopw [3, 4, 5, 24] (fun _ _ _ vi wr => ∃ k : Nat, vi = .int .i64 (k : Int) ∧ k ≤ 6 ∧ (∀ i, i < k → pE p i = 0) ∧ Own w wr) (fun _ _ _ vi _ => 6 - (intOf vi).toNat)
        case atStart => exact ⟨0, rfl, by omega, fun i hi => absurd hi (by omega), g0⟩
        case round =>
          clear g0
          obtain ⟨k, rfl, hk, hz, g0⟩ := hrel
          have HZ := Lib.hid hz
          clear hz
          by_cases hlt : k < 6
          · have ix := HX.out k hlt
            obtain ⟨c, hc⟩ : ∃ x, pE p k = x := ⟨_, rfl⟩
            have HO := Lib.hid hc
            have HOF := Lib.hid (show chk k (p (4 + k * 3)) (p (4 + k * 3 + 1)) (p (4 + k * 3 + 2)) = c from hc)
            clear hc
            have hkn : (k : Int) < 6 := by omega
            generalize p (4 + k * 3) = z0 at ix HOF
            generalize p (4 + k * 3 + 1) = e0 at ix HOF
            generalize p (4 + k * 3 + 2) = b0 at ix HOF
            go_upto_region 6 with (fail)
            obtain ⟨w1, E, hW, hBq, hb, hg, Eg⟩ := blk_new wr (#[.int .i64 z0, .int .i64 e0, .int .i64 b0]) 34
            rw [hW, hBq]
            have HE := Lib.hid hb
            replace g0 := g0.trans hg
            clear hW hBq hb hg
            by_cases c0 : c = 0
            · subst c0
              go_wp2_with (first | ((with_reducible show wpList _ _ _ (⟨_, .load 34 (.tmp 4), _, _, _, none⟩ :: _) _ _); refine wpList_load_row rfl 34 (.tmp 4) rfl E rfl 34 _ (0, 0) _ HE.out.raw Try.underlying34 rfl infoA ?_) | (go_at_call 36; with_reducible refine (AimW.pcheck_at k z0 e0 b0 0 _ HOF).mono ?_; rintro r w2 ⟨rfl, hg⟩; replace g0 := g0.trans hg; clear hg))
              go_roundw
              case rel =>
                refine ⟨k + 1, by go_num, hlt, fun i hi => ?_, g0⟩
                by_cases e : i = k
                · rw [e]; exact HO.out
                · exact HZ.out i (by omega)
              case measure => simp [intOf]; omega
            · have kc : (c != 0) = true := bne_iff_ne.2 c0
              have HV := Lib.hid (show c = fe (pE p) by rw [fe_at HZ.out (by rw [HO.out]; exact c0) hlt]; exact HO.out.symm)
              clear HO HZ HX c0
              go_wp2_with (first | ((with_reducible show wpList _ _ _ (⟨_, .load 34 (.tmp 4), _, _, _, none⟩ :: _) _ _); refine wpList_load_row rfl 34 (.tmp 4) rfl E rfl 34 _ (0, 0) _ HE.out.raw Try.underlying34 rfl infoA ?_) | (go_at_call 36; with_reducible refine (AimW.pcheck_at k z0 e0 b0 c _ HOF).mono ?_; rintro r w2 ⟨rfl, hg⟩; replace g0 := g0.trans hg; clear hg))
              go_ret
              exact ⟨ret_int HV.out, g0⟩
          · obtain rfl : k = 6 := by omega
            have HV := Lib.hid (show 0 = fe (pE p) from (fe_ok HZ.out).symm)
            clear HZ HX
            go_wp2
            go_ret
            exact ⟨ret_int HV.out, g0⟩
      · have HL := Lib.hid ((lf_no (p 3)).2 (by omega))
        have hv : vaE p = 1 := if_neg (fun x : paR p => hl x.2.2.2)
        rw [hv]
        clear hp he hl hv
        go_enter Try.func62, Try.ntmps62
        go_upto_region 1 with (fail)
        obtain ⟨W0, B, hW, hBq, hb, g0, -⟩ := blk_new w (cz 22 p) 63
        rw [hW, hBq]
        have HB := Lib.hid hb
        have k2 := blk_num hb (i := 2) (by omega)
        have k3 := blk_num hb (i := 3) (by omega)
        clear hW hBq hb
        go_wp2_with (first | ((with_reducible show wpList _ _ _ (⟨_, .load 60 (.tmp 6), _, _, _, none⟩ :: _) _ _); refine wpList_load_part rfl 60 (.tmp 6) rfl B (0) rfl 2 HB.out (by omega) (#[.int .i64 (p 0), .int .i64 (p 1)]) rfl _ Try.underlying60 rfl infoPt ?_) | (go_at_call 69; with_reducible refine (ppl_at _ _ true _ HP).mono ?_; rintro r w1 ⟨rfl, hg⟩; replace g0 := g0.trans hg; replace HB := Lib.hid (HB.out.own hg); replace k2 := hg.cell k2; replace k3 := hg.cell k3; clear hg) | (go_at_call 70; with_reducible refine (pan_at _ true _ HE).mono ?_; rintro r w1 ⟨rfl, rfl⟩) | (go_at_call 71; with_reducible refine (plf_at _ false _ HL).mono ?_; rintro r w1 ⟨rfl, rfl⟩))
        go_ret
        exact ⟨rfl, g0⟩

    · have HE := Lib.hid ((an_no (p 2)).2 (by omega))
      have hv : vaE p = 1 := if_neg (fun x : paR p => he x.2.2.1)
      rw [hv]
      clear hp he hv
      go_enter Try.func62, Try.ntmps62
      go_upto_region 1 with (fail)
      obtain ⟨W0, B, hW, hBq, hb, g0, -⟩ := blk_new w (cz 22 p) 63
      rw [hW, hBq]
      have HB := Lib.hid hb
      have k2 := blk_num hb (i := 2) (by omega)
      have k3 := blk_num hb (i := 3) (by omega)
      clear hW hBq hb
      go_wp2_with (first | ((with_reducible show wpList _ _ _ (⟨_, .load 60 (.tmp 6), _, _, _, none⟩ :: _) _ _); refine wpList_load_part rfl 60 (.tmp 6) rfl B (0) rfl 2 HB.out (by omega) (#[.int .i64 (p 0), .int .i64 (p 1)]) rfl _ Try.underlying60 rfl infoPt ?_) | (go_at_call 69; with_reducible refine (ppl_at _ _ true _ HP).mono ?_; rintro r w1 ⟨rfl, hg⟩; replace g0 := g0.trans hg; replace HB := Lib.hid (HB.out.own hg); replace k2 := hg.cell k2; replace k3 := hg.cell k3; clear hg) | (go_at_call 70; with_reducible refine (pan_at _ false _ HE).mono ?_; rintro r w1 ⟨rfl, rfl⟩))
      go_ret
      exact ⟨rfl, g0⟩

  · have HP := Lib.hid (pl_no hp)
    have hv : vaE p = 1 := if_neg (fun x : paR p => hp ⟨x.1, x.2.1⟩)
    rw [hv]
    clear hp hv
    go_enter Try.func62, Try.ntmps62
    go_upto_region 1 with (fail)
    obtain ⟨W0, B, hW, hBq, hb, g0, -⟩ := blk_new w (cz 22 p) 63
    rw [hW, hBq]
    have HB := Lib.hid hb
    have k2 := blk_num hb (i := 2) (by omega)
    have k3 := blk_num hb (i := 3) (by omega)
    clear hW hBq hb
    go_wp2_with (first | ((with_reducible show wpList _ _ _ (⟨_, .load 60 (.tmp 6), _, _, _, none⟩ :: _) _ _); refine wpList_load_part rfl 60 (.tmp 6) rfl B (0) rfl 2 HB.out (by omega) (#[.int .i64 (p 0), .int .i64 (p 1)]) rfl _ Try.underlying60 rfl infoPt ?_) | (go_at_call 69; with_reducible refine (ppl_at _ _ false _ HP).mono ?_; rintro r w1 ⟨rfl, hg⟩; replace g0 := g0.trans hg; replace HB := Lib.hid (HB.out.own hg); replace k2 := hg.cell k2; replace k3 := hg.cell k3; clear hg))
    go_ret
    exact ⟨rfl, g0⟩

theorem qvalid_at (p : Vl) (c : Int) (w : World) (H : Hid (vaE p = c)) :
    Calls Try.prog 62 #[.agg (cz 22 p)] w fun r w' => r = .returned (.int .i64 c) ∧ Own w w' := by
  rw [← H.out]
  exact qvalid_any p w
theorem ron_at (d : Int) (t : Bool) (w : World) (H : Hid (AngW.floorB d = t)) :
    Calls Try.prog 65 #[.int .i64 d] w fun r w' => r = .returned (.bool t) ∧ w = w' := by
  have hi := AngW.floor_iff d
  rw [H.out] at hi
  clear H
  by_cases h1 : -32768 ≤ d
  · by_cases h2 : d ≤ 32768
    · obtain rfl : t = true := hi.2 (by omega)
      clear hi
      go_enter Try.func65, Try.ntmps65
      go_wp2
      go_ret
      exact ⟨ret_bool (by simp), rfl⟩
    · obtain rfl : t = false := by cases t <;> simp at hi ⊢; omega
      clear hi
      go_enter Try.func65, Try.ntmps65
      go_wp2
      go_ret
      exact ⟨ret_bool (by simp), rfl⟩
  · obtain rfl : t = false := by cases t <;> simp at hi ⊢; omega
    clear hi
    go_enter Try.func65, Try.ntmps65
    go_wp2
    go_ret
    exact ⟨ret_bool (by simp), rfl⟩
set_option maxRecDepth 100000 in
set_option maxHeartbeats 2000000 in
theorem rvalid_any (p : Vl) (w : World) :
    Calls Try.prog 45 #[.agg (cz 22 p)] w fun r w' => r = .returned (.int .i64 (vaE p)) ∧ Own w w' := by
  by_cases h0 : -32768 ≤ p 0 ∧ p 0 ≤ 32768
  · have H0 := Lib.hid ((AngW.floor_iff (p 0)).2 h0)
    by_cases h1 : -32768 ≤ p 1 ∧ p 1 ≤ 32768
    · have H1 := Lib.hid ((AngW.floor_iff (p 1)).2 h1)
      by_cases hr : (0 ≤ p 2 ∧ p 2 ≤ 255) ∧ -8 ≤ p 3 ∧ p 3 ≤ 8
      · have hE : vaE p = fe (pE p) := if_pos (show paR p from ⟨h0, h1, hr⟩)
        rw [hE]
        have d0 : decide (p 2 < 0) = false := decide_eq_false (by omega)
        have d1 : decide (255 < p 2) = false := decide_eq_false (by omega)
        have d2 : decide (p 3 < -8) = false := decide_eq_false (by omega)
        have d3 : decide (8 < p 3) = false := decide_eq_false (by omega)
        clear hE h0 h1 hr
        go_enter Try.func45, Try.ntmps45
        go_upto_region 1 with (fail)
        obtain ⟨W0, B, hW, hBq, hb, g0, -⟩ := blk_new w (cz 22 p) 63
        rw [hW, hBq]
        have HB := Lib.hid hb
        have k0 : W0.cell? ⟨B, 0, none⟩ = some (.int .i64 (p 0)) := blk_num HB.out (by omega)
        have k1 : W0.cell? ⟨B, 1, none⟩ = some (.int .i64 (p 1)) := blk_num HB.out (by omega)
        have k2 : W0.cell? ⟨B, 2, none⟩ = some (.int .i64 (p 2)) := blk_num HB.out (by omega)
        have k3 : W0.cell? ⟨B, 3, none⟩ = some (.int .i64 (p 3)) := blk_num HB.out (by omega)
        clear hW hBq hb

        go_upto_region 3 with (first | (go_at_call 65; with_reducible refine (ron_at (p 0) true _ H0).mono ?_; rintro r w1 ⟨rfl, rfl⟩) | (go_at_call 65; with_reducible refine (ron_at (p 1) true _ H1).mono ?_; rintro r w1 ⟨rfl, rfl⟩))
        clear k0 k1 k2 k3 d0 d1 d2 d3 H0 H1
        go_wp2
        go_loopw [3, 4] (fun vi _ wr => ∃ k : Nat, vi = .int .i64 (k : Int) ∧ k ≤ 6 ∧ (∀ i, i < k → pE p i = 0) ∧ Own w wr ∧ Blk wr B (cz 22 p) 63) (fun vi _ _ => 6 - (intOf vi).toNat)
        case atStart => exact ⟨0, rfl, by omega, fun i hi => absurd hi (by omega), g0, HB.out⟩
        case round =>
          clear HB g0
          obtain ⟨k, rfl, hk, hz, g0, hb⟩ := hrel
          have HB := Lib.hid hb
          have HZ := Lib.hid hz
          clear hb hz
          by_cases hlt : k < 6
          · obtain ⟨c, hc⟩ : ∃ x, pE p k = x := ⟨_, rfl⟩
            have HO := Lib.hid hc
            have HOF := Lib.hid (show chk k (p (4 + k * 3)) (p (4 + k * 3 + 1)) (p (4 + k * 3 + 2)) = c from hc)
            clear hc
            have hkn : (k : Int) < 6 := by omega
            by_cases c0 : c = 0
            · subst c0
              go_wp2_with (first | ((with_reducible show wpList _ _ _ (⟨_, .load 34 (.tmp 44), _, _, _, none⟩ :: _) _ _); refine wpList_load_part rfl 34 (.tmp 44) rfl B (4 + k * 3) rfl 3 HB.out (by omega) (#[.int .i64 (p (4 + k * 3)), .int .i64 (p (4 + k * 3 + 1)), .int .i64 (p (4 + k * 3 + 2))]) rfl _ Try.underlying34 rfl infoA ?_) | (go_at_call 38; with_reducible refine (AimW.rcheck_at _ _ _ _ 0 _ HOF).mono ?_; rintro r w2 ⟨rfl, hg⟩; replace g0 := g0.trans hg; replace HB := Lib.hid (HB.out.own hg); clear hg))
              go_roundw
              case rel =>
                refine ⟨k + 1, by go_num, hlt, fun i hi => ?_, g0, HB.out⟩
                by_cases e : i = k
                · rw [e]; exact HO.out
                · exact HZ.out i (by omega)
              case measure => simp [intOf]; omega
            · have kc : (c != 0) = true := bne_iff_ne.2 c0
              have HV := Lib.hid (show c = fe (pE p) by rw [fe_at HZ.out (by rw [HO.out]; exact c0) hlt]; exact HO.out.symm)
              clear HO HZ c0
              go_wp2_with (first | ((with_reducible show wpList _ _ _ (⟨_, .load 34 (.tmp 44), _, _, _, none⟩ :: _) _ _); refine wpList_load_part rfl 34 (.tmp 44) rfl B (4 + k * 3) rfl 3 HB.out (by omega) (#[.int .i64 (p (4 + k * 3)), .int .i64 (p (4 + k * 3 + 1)), .int .i64 (p (4 + k * 3 + 2))]) rfl _ Try.underlying34 rfl infoA ?_) | (go_at_call 38; with_reducible refine (AimW.rcheck_at _ _ _ _ c _ HOF).mono ?_; rintro r w2 ⟨rfl, hg⟩; replace g0 := g0.trans hg; replace HB := Lib.hid (HB.out.own hg); clear hg))
              go_ret
              exact ⟨ret_int HV.out, g0⟩
          · obtain rfl : k = 6 := by omega
            have HV := Lib.hid (show 0 = fe (pE p) from (fe_ok HZ.out).symm)
            clear HZ
            go_wp2
            go_ret
            exact ⟨ret_int HV.out, g0⟩
      · have hn : vaE p = 1 := if_neg (fun x : paR p => hr x.2.2)
        rw [hn]
        clear h0 h1
        by_cases c0 : p 2 < 0
        · have d0 : decide (p 2 < 0) = true := decide_eq_true c0
          clear hn c0
          go_enter Try.func45, Try.ntmps45
          go_upto_region 1 with (fail)
          obtain ⟨W0, B, hW, hBq, hb, g0, -⟩ := blk_new w (cz 22 p) 63
          rw [hW, hBq]
          have HB := Lib.hid hb
          have k0 : W0.cell? ⟨B, 0, none⟩ = some (.int .i64 (p 0)) := blk_num HB.out (by omega)
          have k1 : W0.cell? ⟨B, 1, none⟩ = some (.int .i64 (p 1)) := blk_num HB.out (by omega)
          have k2 : W0.cell? ⟨B, 2, none⟩ = some (.int .i64 (p 2)) := blk_num HB.out (by omega)
          have k3 : W0.cell? ⟨B, 3, none⟩ = some (.int .i64 (p 3)) := blk_num HB.out (by omega)
          clear hW hBq hb
          go_wp2_with (first | (go_at_call 65; with_reducible refine (ron_at (p 0) true _ H0).mono ?_; rintro r w1 ⟨rfl, rfl⟩) | (go_at_call 65; with_reducible refine (ron_at (p 1) true _ H1).mono ?_; rintro r w1 ⟨rfl, rfl⟩))
          go_ret
          exact ⟨rfl, g0⟩
        have d0 : decide (p 2 < 0) = false := decide_eq_false c0
        by_cases c1 : 255 < p 2
        · have d1 : decide (255 < p 2) = true := decide_eq_true c1
          clear hn c0 c1
          go_enter Try.func45, Try.ntmps45
          go_upto_region 1 with (fail)
          obtain ⟨W0, B, hW, hBq, hb, g0, -⟩ := blk_new w (cz 22 p) 63
          rw [hW, hBq]
          have HB := Lib.hid hb
          have k0 : W0.cell? ⟨B, 0, none⟩ = some (.int .i64 (p 0)) := blk_num HB.out (by omega)
          have k1 : W0.cell? ⟨B, 1, none⟩ = some (.int .i64 (p 1)) := blk_num HB.out (by omega)
          have k2 : W0.cell? ⟨B, 2, none⟩ = some (.int .i64 (p 2)) := blk_num HB.out (by omega)
          have k3 : W0.cell? ⟨B, 3, none⟩ = some (.int .i64 (p 3)) := blk_num HB.out (by omega)
          clear hW hBq hb
          go_wp2_with (first | (go_at_call 65; with_reducible refine (ron_at (p 0) true _ H0).mono ?_; rintro r w1 ⟨rfl, rfl⟩) | (go_at_call 65; with_reducible refine (ron_at (p 1) true _ H1).mono ?_; rintro r w1 ⟨rfl, rfl⟩))
          go_ret
          exact ⟨rfl, g0⟩
        have d1 : decide (255 < p 2) = false := decide_eq_false c1
        by_cases c2 : p 3 < -8
        · have d2 : decide (p 3 < -8) = true := decide_eq_true c2
          clear hn c0 c1 c2
          go_enter Try.func45, Try.ntmps45
          go_upto_region 1 with (fail)
          obtain ⟨W0, B, hW, hBq, hb, g0, -⟩ := blk_new w (cz 22 p) 63
          rw [hW, hBq]
          have HB := Lib.hid hb
          have k0 : W0.cell? ⟨B, 0, none⟩ = some (.int .i64 (p 0)) := blk_num HB.out (by omega)
          have k1 : W0.cell? ⟨B, 1, none⟩ = some (.int .i64 (p 1)) := blk_num HB.out (by omega)
          have k2 : W0.cell? ⟨B, 2, none⟩ = some (.int .i64 (p 2)) := blk_num HB.out (by omega)
          have k3 : W0.cell? ⟨B, 3, none⟩ = some (.int .i64 (p 3)) := blk_num HB.out (by omega)
          clear hW hBq hb
          go_wp2_with (first | (go_at_call 65; with_reducible refine (ron_at (p 0) true _ H0).mono ?_; rintro r w1 ⟨rfl, rfl⟩) | (go_at_call 65; with_reducible refine (ron_at (p 1) true _ H1).mono ?_; rintro r w1 ⟨rfl, rfl⟩))
          go_ret
          exact ⟨rfl, g0⟩
        have d2 : decide (p 3 < -8) = false := decide_eq_false c2
        have d3 : decide (8 < p 3) = true := decide_eq_true (by omega)
        clear hn c0 c1 c2
        go_enter Try.func45, Try.ntmps45
        go_upto_region 1 with (fail)
        obtain ⟨W0, B, hW, hBq, hb, g0, -⟩ := blk_new w (cz 22 p) 63
        rw [hW, hBq]
        have HB := Lib.hid hb
        have k0 : W0.cell? ⟨B, 0, none⟩ = some (.int .i64 (p 0)) := blk_num HB.out (by omega)
        have k1 : W0.cell? ⟨B, 1, none⟩ = some (.int .i64 (p 1)) := blk_num HB.out (by omega)
        have k2 : W0.cell? ⟨B, 2, none⟩ = some (.int .i64 (p 2)) := blk_num HB.out (by omega)
        have k3 : W0.cell? ⟨B, 3, none⟩ = some (.int .i64 (p 3)) := blk_num HB.out (by omega)
        clear hW hBq hb
        go_wp2_with (first | (go_at_call 65; with_reducible refine (ron_at (p 0) true _ H0).mono ?_; rintro r w1 ⟨rfl, rfl⟩) | (go_at_call 65; with_reducible refine (ron_at (p 1) true _ H1).mono ?_; rintro r w1 ⟨rfl, rfl⟩))
        go_ret
        exact ⟨rfl, g0⟩
    · have H1 := Lib.hid ((fl_no (p 1)).2 (by omega))
      have hn : vaE p = 1 := if_neg (fun x : paR p => h1 x.2.1)
      rw [hn]
      clear hn h0 h1
      go_enter Try.func45, Try.ntmps45
      go_upto_region 1 with (fail)
      obtain ⟨W0, B, hW, hBq, hb, g0, -⟩ := blk_new w (cz 22 p) 63
      rw [hW, hBq]
      have HB := Lib.hid hb
      have k0 : W0.cell? ⟨B, 0, none⟩ = some (.int .i64 (p 0)) := blk_num HB.out (by omega)
      have k1 : W0.cell? ⟨B, 1, none⟩ = some (.int .i64 (p 1)) := blk_num HB.out (by omega)
      clear hW hBq hb
      go_wp2_with (first | (go_at_call 65; with_reducible refine (ron_at (p 0) true _ H0).mono ?_; rintro r w1 ⟨rfl, rfl⟩) | (go_at_call 65; with_reducible refine (ron_at (p 1) false _ H1).mono ?_; rintro r w1 ⟨rfl, rfl⟩))
      go_ret
      exact ⟨rfl, g0⟩
  · have H0 := Lib.hid ((fl_no (p 0)).2 (by omega))
    have hn : vaE p = 1 := if_neg (fun x : paR p => h0 x.1)
    rw [hn]
    clear hn h0
    go_enter Try.func45, Try.ntmps45
    go_upto_region 1 with (fail)
    obtain ⟨W0, B, hW, hBq, hb, g0, -⟩ := blk_new w (cz 22 p) 63
    rw [hW, hBq]
    have HB := Lib.hid hb
    have k0 : W0.cell? ⟨B, 0, none⟩ = some (.int .i64 (p 0)) := blk_num HB.out (by omega)
    have k1 : W0.cell? ⟨B, 1, none⟩ = some (.int .i64 (p 1)) := blk_num HB.out (by omega)
    clear hW hBq hb
    go_wp2_with (go_at_call 65; with_reducible refine (ron_at (p 0) false _ H0).mono ?_; rintro r w1 ⟨rfl, rfl⟩)
    go_ret
    exact ⟨rfl, g0⟩
theorem rvalid_at (p : Vl) (c : Int) (w : World) (H : Hid (vaE p = c)) :
    Calls Try.prog 45 #[.agg (cz 22 p)] w fun r w' => r = .returned (.int .i64 c) ∧ Own w w' := by
  rw [← H.out]
  exact rvalid_any p w
end Go.Proofs.Ytmjokgddhainlaa.PstW
