/-
  Walks of the program's Hull and Inside: what a call returns for every input. Condition: none.
-/
import Derived.Test.YtnakacflaaelnaaGeomPF
namespace Go.Proofs.Ytnakacflaaelnaa.GeoW
open Go.ChangeShapes Go.WideShapes Go.ChangeAt Go.RowKit
open NumP NumW GeoP

set_option maxRecDepth 100000 in
theorem phull_at (l : List Pt) (sv : Value) (w : World) (H : Hid (Pts w sv l)) :
    Calls Try.prog 20 #[sv] w (HullRet l w) := by
  obtain ⟨f, hf⟩ : ∃ f, hullE l = f := ⟨_, rfl⟩
  have HF := Lib.hid hf
  by_cases hz : f = 0
  · subst hz
    have HL := Lib.hid (And.intro hf (show hullL l = hull l by unfold hullL; rw [if_pos hf]))
    have HB := Lib.hid ((hullE_zero l).1 hf)
    clear hf
    go_enter Try.func20, Try.ntmps20
    go_wp2_with (first | (go_at_call 42; refine (pcheck_at l sv 0 _ H HF).mono ?_; rintro e w1 ⟨rfl, g0⟩) | (go_at_call 43; refine (pcorn_at l sv _ (Lib.hid (H.out.own g0)) (by have := HB.out.1; omega) (Lib.hid HB.out.2)).mono ?_; rintro e w2 ⟨sr, rfl, hp, hg⟩))
    go_ret2
    exact hull_done HL.out hp (g0.trans hg)
  · have HL := Lib.hid (And.intro hf (show hullL l = [] by unfold hullL; rw [if_neg (by rw [hf]; exact hz)]))
    have hne : (f != 0) = true := bne_iff_ne.2 hz
    clear hf hz
    go_enter Try.func20, Try.ntmps20
    go_wp2_with (go_at_call 42; refine (pcheck_at l sv f _ H HF).mono ?_; rintro e w1 ⟨rfl, g0⟩)
    go_ret2
    exact hull_nothing HL.out g0
set_option maxRecDepth 100000 in
set_option maxHeartbeats 4000000 in
theorem pinside_at (p : Pt) (l : List Pt) (sv : Value) (t : Bool) (f : Int) (w : World) (HP : Hid (Pts w sv l)) (H : Hid (insideV p l = t ∧ insideE p l = f)) :
    Calls Try.prog 23 #[.agg #[.int .i64 p.1, .int .i64 p.2], sv] w fun e w' => e = .returned (.tuple #[.bool t, .int .i64 f]) ∧ Own w w' := by
  have HC := Lib.hid (inside_cases p l)
  obtain ⟨he, hhe⟩ : ∃ e, hullE l = e := ⟨_, rfl⟩
  have HE := Lib.hid hhe
  by_cases hz : he = 0
  · subst hz
    have HB := Lib.hid ((hullE_zero l).1 hhe)
    have HC2 := Lib.hid (HC.out HE.out)
    obtain ⟨tv, htv⟩ : ∃ t, okP p = t := ⟨_, rfl⟩
    have HV := Lib.hid htv
    clear HC hhe htv
    cases tv
    · have hr := HC2.out.1 HV.out
      rw [H.out.1, H.out.2] at hr
      obtain ⟨rfl, rfl⟩ := hr
      clear H HC2
      obtain ⟨px, py⟩ := p
      go_enter Try.func23, Try.ntmps23
      go_upto_region 1 with (fail)
      have k0 : (w.alloc (.cells #[.int .i64 px, .int .i64 py] 23)).cell? ⟨w.heap.size, 0, none⟩ = some (.int .i64 px) := by go_simp
      have k1 : (w.alloc (.cells #[.int .i64 px, .int .i64 py] 23)).cell? ⟨w.heap.size, 1, none⟩ = some (.int .i64 py) := by go_simp
      have g0 : Own w (w.alloc (.cells #[.int .i64 px, .int .i64 py] 23)) := ((Own.refl w).alloc _)
      generalize w.alloc (.cells #[.int .i64 px, .int .i64 py] 23) = W0 at *
      go_wp2_with (first | (go_at_call 42; refine (pcheck_at l sv 0 _ (Lib.hid (HP.out.own g0)) HE).mono ?_; rintro e w1 ⟨rfl, hg⟩; replace k0 := hg.cell k0; replace k1 := hg.cell k1; replace g0 := g0.trans hg; clear hg) | (go_at_call 28; refine (pvalid_at (px, py) false _ HV).mono ?_; rintro e w2 ⟨rfl, hg⟩; replace g0 := g0.trans hg; clear hg))
      go_ret2
      exact ⟨rfl, g0⟩
    have hr := HC2.out.2 HV.out
    rw [H.out.1, H.out.2] at hr
    obtain ⟨hr1, rfl⟩ := hr
    have HT := Lib.hid (show decide (hull (l ++ [p]) = hull l) = t by rw [inside_more HB.out.2 HV.out, hr1])
    have HALL := Lib.hid (show (l ++ [p]).length ≤ 17 ∧ ∀ q ∈ l ++ [p], okP q = true from ⟨by have := HB.out.1; simp; omega, fun q hq => by
      rcases List.mem_append.1 hq with g | g
      · exact HB.out.2 q g
      · rw [List.mem_singleton.1 g]; exact HV.out⟩)
    clear H HC2 hr1
    obtain ⟨px, py⟩ := p
    obtain ⟨A, cap, hsv, _, _, _⟩ := HP.out
    subst hsv
    go_enter Try.func23, Try.ntmps23
    go_upto_region 1 with (fail)
    have k0 : (w.alloc (.cells #[.int .i64 px, .int .i64 py] 23)).cell? ⟨w.heap.size, 0, none⟩ = some (.int .i64 px) := by go_simp
    have k1 : (w.alloc (.cells #[.int .i64 px, .int .i64 py] 23)).cell? ⟨w.heap.size, 1, none⟩ = some (.int .i64 py) := by go_simp
    have g0 : Own w (w.alloc (.cells #[.int .i64 px, .int .i64 py] 23)) := ((Own.refl w).alloc _)
    generalize w.alloc (.cells #[.int .i64 px, .int .i64 py] 23) = W0 at *
    go_upto_region 6 with (first | (go_at_call 42; refine (pcheck_at l _ 0 _ (Lib.hid (HP.out.own g0)) HE).mono ?_; rintro e w1 ⟨rfl, hg⟩; replace k0 := hg.cell k0; replace k1 := hg.cell k1; replace g0 := g0.trans hg; clear hg) | (go_at_call 28; refine (pvalid_at (px, py) true _ HV).mono ?_; rintro e w2 ⟨rfl, hg⟩; replace k0 := hg.cell k0; replace k1 := hg.cell k1; replace g0 := g0.trans hg; clear hg))
    go_upto_region 7 with (go_at_call 46; refine (concat_at l px py (.slice A l.length cap) (w2.heap.size + 1) w2.heap.size _ (Lib.hid (HP.out.own ((g0.alloc _).alloc _))) (by go_simp) (by go_simp) (by go_simp) (by go_simp) HB.out.1).mono ?_; rintro e w3 ⟨s3, rfl, hps, hg⟩; replace g0 := ((g0.alloc _).alloc _).trans hg; clear hg)
    go_wp2_with (first | (go_at_call 43; (first | (with_reducible refine (pcorn_at (l ++ [(px, py)]) s3 _ (Lib.hid hps) HALL.out.1 (Lib.hid HALL.out.2)).mono ?_); rintro e w4 ⟨s4, rfl, hp4, hg4⟩ | (with_reducible refine (pcorn_at l (.slice A l.length cap) _ (Lib.hid (HP.out.own (g0.trans hg4))) (by have := HB.out.1; omega) (Lib.hid HB.out.2)).mono ?_); rintro e w5 ⟨s5, rfl, hp5, hg5⟩)) | (go_at_call 47; refine (pequal_at _ _ s4 s5 t _ (Lib.hid (hp4.own hg5)) (Lib.hid hp5) HT).mono ?_; rintro e w6 ⟨rfl, hg6⟩))
    go_ret2
    exact ⟨rfl, g0.trans (hg4.trans (hg5.trans hg6))⟩
  · have hr := inside_err (p := p) (l := l) (by rw [hhe]; exact hz)
    rw [H.out.1, H.out.2, hhe] at hr
    obtain ⟨rfl, rfl⟩ := hr
    have hne : (f != 0) = true := bne_iff_ne.2 hz
    clear hz HC hhe H
    obtain ⟨px, py⟩ := p
    go_enter Try.func23, Try.ntmps23
    go_upto_region 1 with (fail)
    have g0 : Own w (w.alloc (.cells #[.int .i64 px, .int .i64 py] 23)) := ((Own.refl w).alloc _)
    generalize w.alloc (.cells #[.int .i64 px, .int .i64 py] 23) = W0 at *
    go_wp2_with (go_at_call 42; refine (pcheck_at l sv f _ (Lib.hid (HP.out.own g0)) HE).mono ?_; rintro e w1 ⟨rfl, hg⟩; replace g0 := g0.trans hg; clear hg)
    go_ret2
    exact ⟨rfl, g0⟩
end Go.Proofs.Ytnakacflaaelnaa.GeoW
