/-
  For every input, a mean of numbers that are greater by an even number is greater by it, and the chapter's examples hold: NumShift returns true and leaves its arguments as they were. Condition: none.
-/
import Derived.Test.YtajookopcijakaaNumFrame
namespace Go.Proofs.Ytajookopcijakaa.NumW
open Go.ChangeShapes Go.WideShapes Go.ChangeAt Go.RowKit Go.Joins
open NumP

set_option maxRecDepth 100000 in
set_option maxHeartbeats 4000000 in
theorem NumShift_core (a0 a1 a2 a3 a4 : Int) (w : World) :
    Calls Try.prog 5 #[.agg #[.int .i64 a0, .int .i64 a1, .int .i64 a2, .int .i64 a3], .int .i64 a4] w fun e w' => e = .returned (.bool true) ∧ Grown w w' := by
  by_cases h : lerpOk a0 a1 a2 a3 = true
  · obtain ⟨h0, h1, h2, h3⟩ := (lerpOk_iff a0 a1 a2 a3).1 h
    have u0 := (end_iff a0).2 h0
    have u1 := (end_iff a1).2 h1
    have hn := lerp_ok h
    have hbd := lerpV_bd a0 a1 a2 a3
    by_cases hc : endB a4 = true
    · have hc' := (end_iff a4).1 hc
      have ht : -1048576 ≤ a4.tdiv 2 ∧ a4.tdiv 2 ≤ 1048576 := tdiv_bd a4 2 1048576 (by decide) hc'.1 hc'.2
      by_cases e0 : endB (a0 + a4.tdiv 2 * 2) = true
      · by_cases e1 : endB (a1 + a4.tdiv 2 * 2) = true
        · have hk : lerpOk (a0 + a4.tdiv 2 * 2) (a1 + a4.tdiv 2 * 2) a2 a3 = true := (lerpOk_iff _ _ _ _).2 ⟨(end_iff _).1 e0, (end_iff _).1 e1, h2, h3⟩
          have hs := lerpV_shift h hk (by omega)
          have hE := (lerp_ok hk).1
          obtain ⟨v, hv⟩ : ∃ v, lerpV a0 a1 a2 a3 = v := ⟨_, rfl⟩
          rw [hv] at hs hbd
          have H := Lib.hid (show lerpV a0 a1 a2 a3 = v ∧ lerpE a0 a1 a2 a3 = 0 from ⟨hv, hn.1⟩)
          have H1 := Lib.hid (show lerpV (a0 + a4.tdiv 2 * 2) (a1 + a4.tdiv 2 * 2) a2 a3 = v + a4.tdiv 2 * 2 ∧ lerpE (a0 + a4.tdiv 2 * 2) (a1 + a4.tdiv 2 * 2) a2 a3 = 0 from ⟨hs, hE⟩)
          clear hs hE hv hn h hk h2 h3
          go_enter Try.func5, Try.ntmps5
          go_wp2_with (first | (go_at_call 12; refine (lerp_at _ _ _ _ v 0 _ H).mono ?_; rintro e w' ⟨rfl, ⟨n1, rfl⟩⟩) | (go_at_call 15; refine (unit_any _ _).mono ?_; rintro e w' ⟨rfl, rfl⟩) | (go_at_call 16; refine (lerps_yes _ _ _ _ _ _ H1).mono ?_; rintro e w' ⟨rfl, ⟨n1, rfl⟩⟩) | (go_at_call 14; refine (awake_any _).mono ?_; rintro e w' ⟨rfl, ⟨n1, rfl⟩⟩))
          go_ret
          exact ⟨rfl, by repeat (first | exact Grown.refl _ | apply grown_drewN | apply Grown.alloc)⟩
        · have e1 := Bool.of_not_eq_true e1
          have H := Lib.hid (show lerpV a0 a1 a2 a3 = lerpV a0 a1 a2 a3 ∧ lerpE a0 a1 a2 a3 = 0 from ⟨rfl, hn.1⟩)
          clear hn h h2 h3
          go_enter Try.func5, Try.ntmps5
          go_wp2_with (first | (go_at_call 12; refine (lerp_at _ _ _ _ (lerpV a0 a1 a2 a3) 0 _ H).mono ?_; rintro e w' ⟨rfl, ⟨n1, rfl⟩⟩) | (go_at_call 15; refine (unit_any _ _).mono ?_; rintro e w' ⟨rfl, rfl⟩) | (go_at_call 14; refine (awake_any _).mono ?_; rintro e w' ⟨rfl, ⟨n1, rfl⟩⟩))
          go_ret
          exact ⟨rfl, by repeat (first | exact Grown.refl _ | apply grown_drewN | apply Grown.alloc)⟩
      · have e0 := Bool.of_not_eq_true e0
        have H := Lib.hid (show lerpV a0 a1 a2 a3 = lerpV a0 a1 a2 a3 ∧ lerpE a0 a1 a2 a3 = 0 from ⟨rfl, hn.1⟩)
        clear hn h h2 h3
        go_enter Try.func5, Try.ntmps5
        go_wp2_with (first | (go_at_call 12; refine (lerp_at _ _ _ _ (lerpV a0 a1 a2 a3) 0 _ H).mono ?_; rintro e w' ⟨rfl, ⟨n1, rfl⟩⟩) | (go_at_call 15; refine (unit_any _ _).mono ?_; rintro e w' ⟨rfl, rfl⟩) | (go_at_call 14; refine (awake_any _).mono ?_; rintro e w' ⟨rfl, ⟨n1, rfl⟩⟩))
        go_ret
        exact ⟨rfl, by repeat (first | exact Grown.refl _ | apply grown_drewN | apply Grown.alloc)⟩
    · have hc := Bool.of_not_eq_true hc
      have H := Lib.hid (show lerpV a0 a1 a2 a3 = lerpV a0 a1 a2 a3 ∧ lerpE a0 a1 a2 a3 = 0 from ⟨rfl, hn.1⟩)
      clear hn h h2 h3
      go_enter Try.func5, Try.ntmps5
      go_wp2_with (first | (go_at_call 12; refine (lerp_at _ _ _ _ (lerpV a0 a1 a2 a3) 0 _ H).mono ?_; rintro e w' ⟨rfl, ⟨n1, rfl⟩⟩) | (go_at_call 15; refine (unit_any _ _).mono ?_; rintro e w' ⟨rfl, rfl⟩) | (go_at_call 14; refine (awake_any _).mono ?_; rintro e w' ⟨rfl, ⟨n1, rfl⟩⟩))
      go_ret
      exact ⟨rfl, by repeat (first | exact Grown.refl _ | apply grown_drewN | apply Grown.alloc)⟩
  · have hn := lerp_no (Bool.of_not_eq_true h)
    have H := Lib.hid (show lerpV a0 a1 a2 a3 = 0 ∧ lerpE a0 a1 a2 a3 = 1 from ⟨hn.2, hn.1⟩)
    clear hn h
    go_enter Try.func5, Try.ntmps5
    go_wp2_with (first | (go_at_call 12; refine (lerp_at _ _ _ _ 0 1 _ H).mono ?_; rintro e w' ⟨rfl, ⟨n1, rfl⟩⟩) | (go_at_call 14; refine (awake_any _).mono ?_; rintro e w' ⟨rfl, ⟨n1, rfl⟩⟩))
    go_ret
    exact ⟨rfl, by repeat (first | exact Grown.refl _ | apply grown_drewN | apply Grown.alloc)⟩
theorem NumShift_walk (a0 a1 a2 a3 a4 : Int) (_b0 : -9223372036854775808 ≤ a0 ∧ a0 ≤ 9223372036854775807) (_b1 : -9223372036854775808 ≤ a1 ∧ a1 ≤ 9223372036854775807) (_b2 : -9223372036854775808 ≤ a2 ∧ a2 ≤ 9223372036854775807) (_b3 : -9223372036854775808 ≤ a3 ∧ a3 ≤ 9223372036854775807) (_b4 : -9223372036854775808 ≤ a4 ∧ a4 ≤ 9223372036854775807) (w : World) :
    Calls Try.prog 5 #[.agg #[.int .i64 a0, .int .i64 a1, .int .i64 a2, .int .i64 a3], .int .i64 a4] w fun e w' => e = .returned (.bool true) ∧ Grown w w' := NumShift_core a0 a1 a2 a3 a4 w

theorem cells_NumShift : Try.prog.cellsOf 23 = 4 := by kernel_rfl
set_option maxRecDepth 100000 in
theorem NumShift_lifted (os : Os) (started : os.Started) (H : Type) (enc : TypeId × Value → H) :
    ReturnsInHanded {} Try.checked os 5 .any (Rows.numShiftSpec.pre6 enc Try.prog Try.f5 Rows.numShiftRow.domain false) (Rows.numShiftSpec.post enc Try.prog Try.f5 false true false false) := by
  refine returnsInHanded_of_change (C := Try.checked) own started (by kernel_rfl) Try.func5
    (ChangeSpec.witness6 (enc := enc) (C := Try.checked) false ⟨#[], #[.agg #[.int .i64 0, .int .i64 0, .int .i64 0, .int .i64 0], .int .i64 0], []⟩ 8 (by kernel_rfl) (by kernel_rfl) (by kernel_rfl) (by kernel_rfl)) ?_
  intro W base args ds gs before hval0 hW hcnd _
  have hval : ∀ (j : Nat) t v, Try.f5.params[j]? = some t → args[j]? = some v → Value.okWide Try.prog W .any base t v := hval0
  have hW' := hW
  obtain ⟨p, q, hA0, hV, rfl, hfz, hnd⟩ := hW
  have hA : DataW.TrodAll enc Try.prog W 0 (fun _ => true) true Try.f5.params.toList args.toList ds p := hA0
  rw [Try.params5] at hA hval
  obtain ⟨v0, vs0, d0, ds0, p0, q0, hargs, rfl, rfl, h0, r0⟩ := trodAll_cons hA
  obtain ⟨v1, vs1, d1, ds1, p1, q1, rfl, rfl, rfl, h1, r1⟩ := trodAll_cons r0
  obtain ⟨rfl, rfl, rfl⟩ := trodAll_nil r1
  obtain rfl : args = #[v0, v1] := by cases args; simp_all
  obtain ⟨rfl, rfl⟩ := trodVars_none hV
  obtain ⟨c0_0, c0_1, c0_2, c0_3, y0_0, y0_1, y0_2, y0_3, m0, rfl, rfl, rfl, hy0_0, hy0_1, hy0_2, hy0_3⟩ := open_agg4 Try.underlying23 (by kernel_rfl) cells_NumShift (hval 0 23 v0 rfl rfl) h0
  obtain ⟨a0, e0_0, rfl, wa0⟩ := DataW.trod_int Try.underlying3 hy0_0
  obtain ⟨a1, e0_1, rfl, wa1⟩ := DataW.trod_int Try.underlying3 hy0_1
  obtain ⟨a2, e0_2, rfl, wa2⟩ := DataW.trod_int Try.underlying3 hy0_2
  obtain ⟨a3, e0_3, rfl, wa3⟩ := DataW.trod_int Try.underlying3 hy0_3
  simp at e0_0 e0_1 e0_2 e0_3
  subst e0_0 e0_1 e0_2 e0_3
  obtain ⟨a4, rfl, rfl, rfl, wa4⟩ := open_int Try.underlying3 (hval 1 3 v1 rfl rfl) h1
  clear hA0 hval0
  simp only [List.append_nil] at hW'
  have sr0 : ∀ (W' : World) (sp : Nat → Bool), DataW.Trod enc Try.prog W' 0 sp true 23 (.agg #[.int .i64 a0, .int .i64 a1, .int .i64 a2, .int .i64 a3]) (.agg [.lit (.int .i64 a0), .lit (.int .i64 a1), .lit (.int .i64 a2), .lit (.int .i64 a3)]) [] := fun W' sp =>
    shut_agg4 (y0 := (.lit (.int .i64 a0), [])) (y1 := (.lit (.int .i64 a1), [])) (y2 := (.lit (.int .i64 a2), [])) (y3 := (.lit (.int .i64 a3), [])) Try.underlying23 (by kernel_rfl) cells_NumShift ⟨1, by simp [DataW.trod, Try.underlying3, wa0]⟩ ⟨1, by simp [DataW.trod, Try.underlying3, wa1]⟩ ⟨1, by simp [DataW.trod, Try.underlying3, wa2]⟩ ⟨1, by simp [DataW.trod, Try.underlying3, wa3]⟩
  refine (NumShift_walk a0 a1 a2 a3 a4 (wf_bd wa0) (wf_bd wa1) (wf_bd wa2) (wf_bd wa3) (wf_bd wa4) W).mono fun e W' ⟨he, hg⟩ => ?_
  subst he
  exact ⟨_, rfl, post_of_same (pa := []) (pv := []) hW' (fun _ _ _ => (trodAll_cons_mk (shut_bool Try.underlying4 _) trodAll_mk0)) (fun sp _ => (trodAll_cons_mk (sr0 _ sp) (trodAll_cons_mk (shut_int Try.underlying3 wa4) trodAll_mk0))) (fun _ _ => rfl) rfl
    (hg.frame _) hg.2.1 (ok_one (by kernel_rfl) rfl (okWide_bool_mk Try.underlying4 _))⟩
theorem NumShift_holds : Rows.NumShiftSaid :=
  OpenClaim.holds_of_wide 5 Try.f5 rfl rfl rfl rfl rfl rfl rfl ⟨rfl, rfl, rfl, rfl, rfl⟩ rfl rfl rfl rfl rfl (by kernel_rfl) Try.func5 (by kernel_rfl)
    (of_decide_eq_true (by kernel_rfl)) (by unfold Func.isWrapper; first | (rw [if_pos (by decide +kernel)]; kernel_rfl) | (rw [if_neg (by decide +kernel)]; exact ⟨rfl, rfl⟩))
    (fun os started H enc _ => NumShift_lifted os started H enc)
#print axioms NumShift_holds
end Go.Proofs.Ytajookopcijakaa.NumW
