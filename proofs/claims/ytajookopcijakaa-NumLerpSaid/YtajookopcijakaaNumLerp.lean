/-
  For every input, weighted means begin and end with both numbers, are symmetric and odd, lie between both numbers, and are exact to half a unit, halves going to the even integer; other inputs are errors; the chapter's examples hold: NumLerp returns true and leaves its argument as it was. Condition: none.
-/
import Derived.Test.YtajookopcijakaaNumFrame
import Derived.Deep.DeepCutAuto
namespace Go.Proofs.Ytajookopcijakaa.NumW
open Go.ChangeShapes Go.WideShapes Go.ChangeAt Go.RowKit Go.Joins
open NumP

theorem mul_in {x y m k : Int} (hx : -m ≤ x ∧ x ≤ m) (hy : 0 ≤ y ∧ y ≤ k) : -(m * k) ≤ x * y ∧ x * y ≤ m * k := by
  have hm : 0 ≤ m := by omega
  have h1 := Int.mul_le_mul_of_nonneg_right hx.1 hy.1
  have h2 := Int.mul_le_mul_of_nonneg_right hx.2 hy.1
  have h3 := Int.mul_le_mul_of_nonneg_left hy.2 hm
  rw [Int.neg_mul] at h1
  omega
set_option maxRecDepth 100000 in
set_option maxHeartbeats 1600000 in
theorem NumLerp_bad (a0 a1 a2 a3 : Int) (_b0 : -9223372036854775808 ≤ a0 ∧ a0 ≤ 9223372036854775807) (_b1 : -9223372036854775808 ≤ a1 ∧ a1 ≤ 9223372036854775807) (_b2 : -9223372036854775808 ≤ a2 ∧ a2 ≤ 9223372036854775807) (_b3 : -9223372036854775808 ≤ a3 ∧ a3 ≤ 9223372036854775807) (w : World) (h : lerpOk a0 a1 a2 a3 = false) :
    Calls Try.prog 4 #[.agg #[.int .i64 a0, .int .i64 a1, .int .i64 a2, .int .i64 a3]] w fun e w' => e = .returned (.bool true) ∧ Grown w w' := by
  clear _b0 _b1 _b2 _b3
  have hn := lerp_no h
  have H := Lib.hid (show lerpV a0 a1 a2 a3 = 0 ∧ lerpE a0 a1 a2 a3 = 1 from ⟨hn.2, hn.1⟩)
  rw [lerpOk_false] at h
  have h' : endB a0 = false ∨ endB a0 = true ∧ endB a1 = false ∨ endB a0 = true ∧ endB a1 = true ∧ (a3 < 1 ∨ ¬ a3 < 1 ∧ 524288 < a3 ∨ ¬ a3 < 1 ∧ ¬ 524288 < a3 ∧ a2 < 0 ∨ ¬ a3 < 1 ∧ ¬ 524288 < a3 ∧ ¬ a2 < 0 ∧ a3 < a2) := by
    cases e0 : endB a0
    · exact Or.inl rfl
    · cases e1 : endB a1
      · exact Or.inr (Or.inl ⟨rfl, rfl⟩)
      · rw [e0, e1] at h
        refine Or.inr (Or.inr ⟨rfl, rfl, ?_⟩)
        simp only [Bool.true_eq_false, false_or] at h
        omega
  clear h hn
  rcases h' with h | ⟨h, h1⟩ | ⟨h, h1, h2 | ⟨h2, h3⟩ | ⟨h2, h3, h4⟩ | ⟨h2, h3, h4, h5⟩⟩
  all_goals
    go_enter Try.func4, Try.ntmps4
    go_wp2_with (first | (go_at_call 12; refine (lerp_at _ _ _ _ 0 1 _ H).mono ?_; rintro e w' ⟨rfl, ⟨n1, rfl⟩⟩) | (go_at_call 15; refine (unit_any _ _).mono ?_; rintro e w' ⟨rfl, rfl⟩) | (go_at_call 14; refine (awake_any _).mono ?_; rintro e w' ⟨rfl, ⟨n1, rfl⟩⟩))
    go_ret
    exact ⟨rfl, by repeat (first | exact Grown.refl _ | apply grown_drewN | apply Grown.alloc)⟩
theorem lerp_facts {a b k d v : Int} (h : lerpOk a b k d = true) (hv : lerpV a b k d = v) :
    ((2 * (v * d - a * (d - k) - b * k) == d) = true ∧ (v.tmod 2 != 0) = false ∨ (2 * (v * d - a * (d - k) - b * k) == d) = false ∧ (2 * (v * d - a * (d - k) - b * k) == -d) = true ∧ (v.tmod 2 != 0) = false ∨ (2 * (v * d - a * (d - k) - b * k) == d) = false ∧ (2 * (v * d - a * (d - k) - b * k) == -d) = false) ∧
    ((k == 0) = true ∧ (v != a) = false ∧ (k == d) = false ∨ (k == 0) = false ∧ (k == d) = true ∧ (v != b) = false ∨ (k == 0) = false ∧ (k == d) = false) ∧
    ¬ d < 2 * (v * d - a * (d - k) - b * k) ∧ ¬ 2 * (v * d - a * (d - k) - b * k) < -d ∧ ¬ v < min a b ∧ ¬ max a b < v := by
  obtain ⟨n1, n2, n3, n4⟩ := near_spec (a * (d - k) + b * k) d (by have := (lerpOk_iff a b k d).1 h; omega)
  have hb := (lerpOk_iff a b k d).1 h
  have hm := lerpV_min h
  have he := lerpV_ends h
  rw [← (lerp_ok h).2, hv] at n1 n2 n3 n4
  rw [hv] at hm he
  have e2 : v % 2 = 0 → (v.tmod 2 != 0) = false := tmod2_ne v
  refine ⟨?_, ?_, ?_, ?_, by omega, by omega⟩
  · by_cases c1 : 2 * (v * d - a * (d - k) - b * k) = d
    · refine Or.inl ⟨beq_iff_eq.2 c1, e2 (n3 ?_)⟩
      generalize v * d = x at *
      generalize a * (d - k) = y at *
      generalize b * k = z at *
      omega
    · refine Or.inr ?_
      by_cases c2 : 2 * (v * d - a * (d - k) - b * k) = -d
      · refine Or.inl ⟨beq_eq_false_iff_ne.2 c1, beq_iff_eq.2 c2, e2 (n4 ?_)⟩
        generalize v * d = x at *
        generalize a * (d - k) = y at *
        generalize b * k = z at *
        omega
      · exact Or.inr ⟨beq_eq_false_iff_ne.2 c1, beq_eq_false_iff_ne.2 c2⟩
  · by_cases c1 : k = 0
    · exact Or.inl ⟨beq_iff_eq.2 c1, by rw [he.1 c1]; simp, beq_eq_false_iff_ne.2 (by omega)⟩
    · by_cases c2 : k = d
      · exact Or.inr (Or.inl ⟨beq_eq_false_iff_ne.2 c1, beq_iff_eq.2 c2, by rw [he.2 c2]; simp⟩)
      · exact Or.inr (Or.inr ⟨beq_eq_false_iff_ne.2 c1, beq_eq_false_iff_ne.2 c2⟩)
  · generalize v * d = x at *
    generalize a * (d - k) = y at *
    generalize b * k = z at *
    omega
  · generalize v * d = x at *
    generalize a * (d - k) = y at *
    generalize b * k = z at *
    omega
theorem bool_no {p q : Prop} [Decidable p] [Decidable q] (hp : ¬ p) (hq : ¬ q) : Value.bool (decide p || decide q) = Value.bool false := by simp [hp, hq]
set_option maxRecDepth 100000 in
set_option maxHeartbeats 4000000 in
theorem NumLerp_good (a0 a1 a2 a3 : Int) (_b0 : -9223372036854775808 ≤ a0 ∧ a0 ≤ 9223372036854775807) (_b1 : -9223372036854775808 ≤ a1 ∧ a1 ≤ 9223372036854775807) (_b2 : -9223372036854775808 ≤ a2 ∧ a2 ≤ 9223372036854775807) (_b3 : -9223372036854775808 ≤ a3 ∧ a3 ≤ 9223372036854775807) (w : World) (h : lerpOk a0 a1 a2 a3 = true) :
    Calls Try.prog 4 #[.agg #[.int .i64 a0, .int .i64 a1, .int .i64 a2, .int .i64 a3]] w fun e w' => e = .returned (.bool true) ∧ Grown w w' := by
  clear _b0 _b1 _b2 _b3
  obtain ⟨h0, h1, h2, h3⟩ := (lerpOk_iff a0 a1 a2 a3).1 h
  have u0 := (end_iff a0).2 h0
  have u1 := (end_iff a1).2 h1
  obtain ⟨q1, q2, q3⟩ := lerp_bds h
  have hn := lerp_ok h
  have hbd := lerpV_bd a0 a1 a2 a3
  have hsw := lerpV_swap a0 a1 a2 a3
  have hsE := lerpE_swap a0 a1 a2 a3
  have hng := lerpV_neg a0 a1 a2 a3
  have hnE := lerpE_neg a0 a1 a2 a3
  obtain ⟨v, hv⟩ : ∃ v, lerpV a0 a1 a2 a3 = v := ⟨_, rfl⟩
  have H := Lib.hid (show lerpV a0 a1 a2 a3 = v ∧ lerpE a0 a1 a2 a3 = 0 from ⟨hv, hn.1⟩)
  have H1 := Lib.hid (show lerpV a1 a0 (a3 - a2) a3 = v ∧ lerpE a1 a0 (a3 - a2) a3 = 0 from ⟨hsw.trans hv, hsE.trans hn.1⟩)
  have H2 := Lib.hid (show lerpV (-a0) (-a1) a2 a3 = -v ∧ lerpE (-a0) (-a1) a2 a3 = 0 from ⟨hng.trans (by rw [hv]), hnE.trans hn.1⟩)
  obtain ⟨t, z, l1, l2, l3, l4⟩ := lerp_facts h hv
  rw [hv] at hbd
  have q4 := mul_in (m := 1048576) (k := 524288) hbd (show 0 ≤ a3 ∧ a3 ≤ 524288 by omega)
  clear hv hn hsw hsE hng hnE h q3
  go_enter Try.func4, Try.ntmps4
  go_upto_region 4 with (first | (go_at_call 12; refine (lerp_at _ _ _ _ v 0 _ H).mono ?_; rintro e w' ⟨rfl, ⟨n1, rfl⟩⟩) | (go_at_call 15; refine (unit_any _ _).mono ?_; rintro e w' ⟨rfl, rfl⟩))
  go_cut [78] (fun s wx => s = .bool false ∧ ∃ n, wx = (w.alloc (.cells #[.int .i64 a0, .int .i64 a1, .int .i64 a2, .int .i64 a3] 23)).drewN n)
  case first =>
    clear t z l1 l2 q1 q2 q4 H H1 H2
    by_cases c : a0 < a1
    · go_wp2
      all_goals (go_meet; exact ⟨bool_no (by omega) (by omega), _, rfl⟩)
    · go_wp2
      all_goals (go_meet; exact ⟨bool_no (by omega) (by omega), _, rfl⟩)
  case rest =>
    obtain ⟨rfl, n2, rfl⟩ := hcut
    clear l3 l4
    go_upto_region 7 with (fail)
    go_cut [127] (fun s wx => s = .bool false ∧ ∃ n, wx = (w.alloc (.cells #[.int .i64 a0, .int .i64 a1, .int .i64 a2, .int .i64 a3] 23)).drewN n)
    case first =>
      rcases t with ⟨t1, t2⟩ | ⟨t1, t2, t3⟩ | ⟨t1, t2⟩
      all_goals
        go_wp2
        go_meet
        exact ⟨bool_no (by omega) (by omega), _, rfl⟩
    case rest =>
      obtain ⟨rfl, n3, rfl⟩ := hcut
      clear t l1 l2 q1 q2 q4
      go_upto_region 9 with (fail)
      go_cut [149] (fun s wx => s = .bool false ∧ ∃ n, wx = (w.alloc (.cells #[.int .i64 a0, .int .i64 a1, .int .i64 a2, .int .i64 a3] 23)).drewN n)
      case first =>
        rcases z with ⟨z1, z2, z3⟩ | ⟨z1, z2, z3⟩ | ⟨z1, z2⟩
        all_goals
          go_wp2
          go_meet
          exact ⟨rfl, _, rfl⟩
      case rest =>
        obtain ⟨rfl, n4, rfl⟩ := hcut
        clear z
        go_wp2_with (first | (go_at_call 16; (first | (with_reducible refine (lerps_yes _ _ _ _ _ _ H1).mono ?_) | (with_reducible refine (lerps_yes _ _ _ _ _ _ H2).mono ?_)); rintro e w' ⟨rfl, ⟨n1, rfl⟩⟩) | (go_at_call 14; refine (awake_any _).mono ?_; rintro e w' ⟨rfl, ⟨n1, rfl⟩⟩))
        go_ret
        exact ⟨rfl, by repeat (first | exact Grown.refl _ | apply grown_drewN | apply Grown.alloc)⟩
theorem NumLerp_walk (a0 a1 a2 a3 : Int) (b0 : -9223372036854775808 ≤ a0 ∧ a0 ≤ 9223372036854775807) (b1 : -9223372036854775808 ≤ a1 ∧ a1 ≤ 9223372036854775807) (b2 : -9223372036854775808 ≤ a2 ∧ a2 ≤ 9223372036854775807) (b3 : -9223372036854775808 ≤ a3 ∧ a3 ≤ 9223372036854775807) (w : World) :
    Calls Try.prog 4 #[.agg #[.int .i64 a0, .int .i64 a1, .int .i64 a2, .int .i64 a3]] w fun e w' => e = .returned (.bool true) ∧ Grown w w' := by
  by_cases h : lerpOk a0 a1 a2 a3 = true
  · exact NumLerp_good a0 a1 a2 a3 b0 b1 b2 b3 w h
  · exact NumLerp_bad a0 a1 a2 a3 b0 b1 b2 b3 w (Bool.of_not_eq_true h)

theorem cells_NumLerp : Try.prog.cellsOf 23 = 4 := by kernel_rfl
set_option maxRecDepth 100000 in
theorem NumLerp_lifted (os : Os) (started : os.Started) (H : Type) (enc : TypeId × Value → H) :
    ReturnsInHanded {} Try.checked os 4 .any (Rows.numLerpSpec.pre6 enc Try.prog Try.f4 Rows.numLerpRow.domain false) (Rows.numLerpSpec.post enc Try.prog Try.f4 false true false false) := by
  refine returnsInHanded_of_change (C := Try.checked) own started (by kernel_rfl) Try.func4
    (ChangeSpec.witness6 (enc := enc) (C := Try.checked) false ⟨#[], #[.agg #[.int .i64 0, .int .i64 0, .int .i64 0, .int .i64 0]], []⟩ 8 (by kernel_rfl) (by kernel_rfl) (by kernel_rfl) (by kernel_rfl)) ?_
  intro W base args ds gs before hval0 hW hcnd _
  have hval : ∀ (j : Nat) t v, Try.f4.params[j]? = some t → args[j]? = some v → Value.okWide Try.prog W .any base t v := hval0
  have hW' := hW
  obtain ⟨p, q, hA0, hV, rfl, hfz, hnd⟩ := hW
  have hA : DataW.TrodAll enc Try.prog W 0 (fun _ => true) true Try.f4.params.toList args.toList ds p := hA0
  rw [Try.params4] at hA hval
  obtain ⟨v0, vs0, d0, ds0, p0, q0, hargs, rfl, rfl, h0, r0⟩ := trodAll_cons hA
  obtain ⟨rfl, rfl, rfl⟩ := trodAll_nil r0
  obtain rfl : args = #[v0] := by cases args; simp_all
  obtain ⟨rfl, rfl⟩ := trodVars_none hV
  obtain ⟨c0_0, c0_1, c0_2, c0_3, y0_0, y0_1, y0_2, y0_3, m0, rfl, rfl, rfl, hy0_0, hy0_1, hy0_2, hy0_3⟩ := open_agg4 Try.underlying23 (by kernel_rfl) cells_NumLerp (hval 0 23 v0 rfl rfl) h0
  obtain ⟨a0, e0_0, rfl, wa0⟩ := DataW.trod_int Try.underlying3 hy0_0
  obtain ⟨a1, e0_1, rfl, wa1⟩ := DataW.trod_int Try.underlying3 hy0_1
  obtain ⟨a2, e0_2, rfl, wa2⟩ := DataW.trod_int Try.underlying3 hy0_2
  obtain ⟨a3, e0_3, rfl, wa3⟩ := DataW.trod_int Try.underlying3 hy0_3
  simp at e0_0 e0_1 e0_2 e0_3
  subst e0_0 e0_1 e0_2 e0_3
  clear hA0 hval0
  simp only [List.append_nil] at hW'
  have sr0 : ∀ (W' : World) (sp : Nat → Bool), DataW.Trod enc Try.prog W' 0 sp true 23 (.agg #[.int .i64 a0, .int .i64 a1, .int .i64 a2, .int .i64 a3]) (.agg [.lit (.int .i64 a0), .lit (.int .i64 a1), .lit (.int .i64 a2), .lit (.int .i64 a3)]) [] := fun W' sp =>
    shut_agg4 (y0 := (.lit (.int .i64 a0), [])) (y1 := (.lit (.int .i64 a1), [])) (y2 := (.lit (.int .i64 a2), [])) (y3 := (.lit (.int .i64 a3), [])) Try.underlying23 (by kernel_rfl) cells_NumLerp ⟨1, by simp [DataW.trod, Try.underlying3, wa0]⟩ ⟨1, by simp [DataW.trod, Try.underlying3, wa1]⟩ ⟨1, by simp [DataW.trod, Try.underlying3, wa2]⟩ ⟨1, by simp [DataW.trod, Try.underlying3, wa3]⟩
  refine (NumLerp_walk a0 a1 a2 a3 (wf_bd wa0) (wf_bd wa1) (wf_bd wa2) (wf_bd wa3) W).mono fun e W' ⟨he, hg⟩ => ?_
  subst he
  exact ⟨_, rfl, post_of_same (pa := []) (pv := []) hW' (fun _ _ _ => (trodAll_cons_mk (shut_bool Try.underlying4 _) trodAll_mk0)) (fun sp _ => (trodAll_cons_mk (sr0 _ sp) trodAll_mk0)) (fun _ _ => rfl) rfl
    (hg.frame _) hg.2.1 (ok_one (by kernel_rfl) rfl (okWide_bool_mk Try.underlying4 _))⟩
theorem NumLerp_holds : Rows.NumLerpSaid :=
  OpenClaim.holds_of_wide 4 Try.f4 rfl rfl rfl rfl rfl rfl rfl ⟨rfl, rfl, rfl, rfl, rfl⟩ rfl rfl rfl rfl rfl (by kernel_rfl) Try.func4 (by kernel_rfl)
    (of_decide_eq_true (by kernel_rfl)) (by unfold Func.isWrapper; first | (rw [if_pos (by decide +kernel)]; kernel_rfl) | (rw [if_neg (by decide +kernel)]; exact ⟨rfl, rfl⟩))
    (fun os started H enc _ => NumLerp_lifted os started H enc)
#print axioms NumLerp_holds
end Go.Proofs.Ytajookopcijakaa.NumW
