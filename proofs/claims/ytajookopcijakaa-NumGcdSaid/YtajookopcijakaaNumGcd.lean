/-
  For every input, Gcd of package num returns what the specification's Gcd returns, divides both numbers, and every common divisor divides it; the chapter's examples hold: NumGcd returns true and leaves its arguments as they were. Condition: none.
-/
import Derived.Test.YtajookopcijakaaNumFrame
namespace Go.Proofs.Ytajookopcijakaa.NumW
open Go.ChangeShapes Go.WideShapes Go.ChangeAt Go.RowKit Go.Joins
open NumP

theorem gcd_dvd {a b : Int} (ha : smallB a = true) (hb : smallB b = true) :
    (gcdV a b = 0 → a = 0 ∧ b = 0) ∧ a.tmod (gcdV a b) = 0 ∧ b.tmod (gcdV a b) = 0 ∧ ∀ c, a.tmod c = 0 → b.tmod c = 0 → (gcdV a b).tmod c = 0 := by
  rw [(gcd_ok ha hb).1]
  refine ⟨fun h => ?_, Int.tmod_eq_zero_of_dvd (Int.gcd_dvd_left ..), Int.tmod_eq_zero_of_dvd (Int.gcd_dvd_right ..), fun c h1 h2 => ?_⟩
  · have : Int.gcd a b = 0 := by omega
    exact Int.gcd_eq_zero_iff.1 this
  · exact Int.tmod_eq_zero_of_dvd (Int.dvd_coe_gcd (Int.dvd_of_tmod_eq_zero h1) (Int.dvd_of_tmod_eq_zero h2))
theorem ne_no {x : Int} (h : x = 0) : (x != 0) = false := by rw [h]; rfl
theorem ne_yes {x : Int} (h : ¬ x = 0) : (x != 0) = true := bne_iff_ne.2 h
set_option maxRecDepth 100000 in
set_option maxHeartbeats 1600000 in
theorem NumGcd_bad (a0 a1 a2 : Int) (w : World) (h : smallB a0 = false ∨ smallB a1 = false) :
    Calls Try.prog 9 #[.int .i64 a0, .int .i64 a1, .int .i64 a2] w fun e w' => e = .returned (.bool true) ∧ Grown w w' := by
  have hn := gcd_no h
  have H := Lib.hid hn
  have H' := Lib.hid (show gcdV a1 a0 = 0 ∧ gcdE a1 a0 = 1 from ⟨(gcd_comm a0 a1).1.trans hn.1, (gcd_comm a0 a1).2.trans hn.2⟩)
  clear hn h
  go_enter Try.func9, Try.ntmps9
  go_wp2_with (first | (go_at_call 23; (first | (with_reducible refine (gcd_at a0 a1 0 1 _ H).mono ?_) | (with_reducible refine (gcd_at a1 a0 0 1 _ H').mono ?_)); rintro e w' ⟨rfl, ⟨n1, rfl⟩⟩) | (go_at_call 24; refine (rgcd_at _ _ 0 1 _ H).mono ?_; rintro e w' ⟨rfl, ⟨n1, rfl⟩⟩) | (go_at_call 14; refine (awake_any _).mono ?_; rintro e w' ⟨rfl, ⟨n1, rfl⟩⟩))
  go_ret
  exact ⟨rfl, by repeat (first | exact Grown.refl _ | apply grown_drewN | apply Grown.alloc)⟩
set_option maxRecDepth 100000 in
set_option maxHeartbeats 4000000 in
theorem NumGcd_good (a0 a1 a2 : Int) (w : World) (ha : smallB a0 = true) (hb : smallB a1 = true) :
    Calls Try.prog 9 #[.int .i64 a0, .int .i64 a1, .int .i64 a2] w fun e w' => e = .returned (.bool true) ∧ Grown w w' := by
  have hn := gcd_ok ha hb
  obtain ⟨d0, d1, d2, d3⟩ := gcd_dvd ha hb
  obtain ⟨g, hg⟩ : ∃ g, gcdV a0 a1 = g := ⟨_, rfl⟩
  rw [hg] at d0 d1 d2 d3
  have H := Lib.hid (show gcdV a0 a1 = g ∧ gcdE a0 a1 = 0 from ⟨hg, hn.2⟩)
  have H' := Lib.hid (show gcdV a1 a0 = g ∧ gcdE a1 a0 = 0 from ⟨(gcd_comm a0 a1).1.trans hg, (gcd_comm a0 a1).2.trans hn.2⟩)
  clear hn hg ha hb
  by_cases hz : g = 0
  · obtain ⟨rfl, rfl⟩ := d0 hz
    subst hz
    clear d0 d1 d2 d3
    go_enter Try.func9, Try.ntmps9
    go_wp2_with (first | (go_at_call 23; refine (gcd_at 0 0 0 0 _ H).mono ?_; rintro e w' ⟨rfl, ⟨n1, rfl⟩⟩) | (go_at_call 24; refine (rgcd_at _ _ 0 0 _ H).mono ?_; rintro e w' ⟨rfl, ⟨n1, rfl⟩⟩) | (go_at_call 14; refine (awake_any _).mono ?_; rintro e w' ⟨rfl, ⟨n1, rfl⟩⟩))
    go_ret
    exact ⟨rfl, by repeat (first | exact Grown.refl _ | apply grown_drewN | apply Grown.alloc)⟩
  · have z1 : (g == 0) = false := beq_eq_false_iff_ne.2 hz
    have z2 := ne_no d1
    have z3 := ne_no d2
    have t : (a2 == 0) = true ∨ (a2 == 0) = false ∧ ¬ a2 = 0 ∧ (a0.tmod a2 != 0) = true ∨ (a2 == 0) = false ∧ ¬ a2 = 0 ∧ (a0.tmod a2 != 0) = false ∧ (a1.tmod a2 != 0) = true ∨ (a2 == 0) = false ∧ ¬ a2 = 0 ∧ (a0.tmod a2 != 0) = false ∧ (a1.tmod a2 != 0) = false ∧ (g.tmod a2 == 0) = true := by
      by_cases c0 : a2 = 0
      · exact Or.inl (beq_iff_eq.2 c0)
      · by_cases c1 : a0.tmod a2 = 0
        · by_cases c2 : a1.tmod a2 = 0
          · exact Or.inr (Or.inr (Or.inr ⟨beq_eq_false_iff_ne.2 c0, c0, ne_no c1, ne_no c2, beq_iff_eq.2 (d3 a2 c1 c2)⟩))
          · exact Or.inr (Or.inr (Or.inl ⟨beq_eq_false_iff_ne.2 c0, c0, ne_no c1, ne_yes c2⟩))
        · exact Or.inr (Or.inl ⟨beq_eq_false_iff_ne.2 c0, c0, ne_yes c1⟩)
    clear d0 d1 d2 d3
    rcases t with t1 | ⟨t1, t2, t3⟩ | ⟨t1, t2, t3, t4⟩ | ⟨t1, t2, t3, t4, t5⟩
    all_goals
      go_enter Try.func9, Try.ntmps9
      go_wp2_with (first | (go_at_call 23; (first | (with_reducible refine (gcd_at a0 a1 g 0 _ H).mono ?_) | (with_reducible refine (gcd_at a1 a0 g 0 _ H').mono ?_)); rintro e w' ⟨rfl, ⟨n1, rfl⟩⟩) | (go_at_call 24; refine (rgcd_at _ _ g 0 _ H).mono ?_; rintro e w' ⟨rfl, ⟨n1, rfl⟩⟩) | (go_at_call 14; refine (awake_any _).mono ?_; rintro e w' ⟨rfl, ⟨n1, rfl⟩⟩))
      go_ret
      exact ⟨rfl, by repeat (first | exact Grown.refl _ | apply grown_drewN | apply Grown.alloc)⟩
theorem NumGcd_walk (a0 a1 a2 : Int) (_b0 : -9223372036854775808 ≤ a0 ∧ a0 ≤ 9223372036854775807) (_b1 : -9223372036854775808 ≤ a1 ∧ a1 ≤ 9223372036854775807) (_b2 : -9223372036854775808 ≤ a2 ∧ a2 ≤ 9223372036854775807) (w : World) :
    Calls Try.prog 9 #[.int .i64 a0, .int .i64 a1, .int .i64 a2] w fun e w' => e = .returned (.bool true) ∧ Grown w w' := by
  by_cases h : smallB a0 = false ∨ smallB a1 = false
  · exact NumGcd_bad a0 a1 a2 w h
  · exact NumGcd_good a0 a1 a2 w (Bool.of_not_eq_false fun x => h (Or.inl x)) (Bool.of_not_eq_false fun x => h (Or.inr x))

set_option maxRecDepth 100000 in
theorem NumGcd_lifted (os : Os) (started : os.Started) (H : Type) (enc : TypeId × Value → H) :
    ReturnsInHanded {} Try.checked os 9 .any (Rows.numGcdSpec.pre6 enc Try.prog Try.f9 Rows.numGcdRow.domain false) (Rows.numGcdSpec.post enc Try.prog Try.f9 false true false false) := by
  refine returnsInHanded_of_change (C := Try.checked) own started (by kernel_rfl) Try.func9
    (ChangeSpec.witness6 (enc := enc) (C := Try.checked) false ⟨#[], #[.int .i64 0, .int .i64 0, .int .i64 0], []⟩ 8 (by kernel_rfl) (by kernel_rfl) (by kernel_rfl) (by kernel_rfl)) ?_
  intro W base args ds gs before hval0 hW hcnd _
  have hval : ∀ (j : Nat) t v, Try.f9.params[j]? = some t → args[j]? = some v → Value.okWide Try.prog W .any base t v := hval0
  have hW' := hW
  obtain ⟨p, q, hA0, hV, rfl, hfz, hnd⟩ := hW
  have hA : DataW.TrodAll enc Try.prog W 0 (fun _ => true) true Try.f9.params.toList args.toList ds p := hA0
  rw [Try.params9] at hA hval
  obtain ⟨v0, vs0, d0, ds0, p0, q0, hargs, rfl, rfl, h0, r0⟩ := trodAll_cons hA
  obtain ⟨v1, vs1, d1, ds1, p1, q1, rfl, rfl, rfl, h1, r1⟩ := trodAll_cons r0
  obtain ⟨v2, vs2, d2, ds2, p2, q2, rfl, rfl, rfl, h2, r2⟩ := trodAll_cons r1
  obtain ⟨rfl, rfl, rfl⟩ := trodAll_nil r2
  obtain rfl : args = #[v0, v1, v2] := by cases args; simp_all
  obtain ⟨rfl, rfl⟩ := trodVars_none hV
  obtain ⟨a0, rfl, rfl, rfl, wa0⟩ := open_int Try.underlying3 (hval 0 3 v0 rfl rfl) h0
  obtain ⟨a1, rfl, rfl, rfl, wa1⟩ := open_int Try.underlying3 (hval 1 3 v1 rfl rfl) h1
  obtain ⟨a2, rfl, rfl, rfl, wa2⟩ := open_int Try.underlying3 (hval 2 3 v2 rfl rfl) h2
  clear hA0 hval0
  simp only [List.append_nil] at hW'
  refine (NumGcd_walk a0 a1 a2 (wf_bd wa0) (wf_bd wa1) (wf_bd wa2) W).mono fun e W' ⟨he, hg⟩ => ?_
  subst he
  exact ⟨_, rfl, post_of_same (pa := []) (pv := []) hW' (fun _ _ _ => (trodAll_cons_mk (shut_bool Try.underlying4 _) trodAll_mk0)) (fun sp _ => (trodAll_cons_mk (shut_int Try.underlying3 wa0) (trodAll_cons_mk (shut_int Try.underlying3 wa1) (trodAll_cons_mk (shut_int Try.underlying3 wa2) trodAll_mk0)))) (fun _ _ => rfl) rfl
    (hg.frame _) hg.2.1 (ok_one (by kernel_rfl) rfl (okWide_bool_mk Try.underlying4 _))⟩
theorem NumGcd_holds : Rows.NumGcdSaid :=
  OpenClaim.holds_of_wide 9 Try.f9 rfl rfl rfl rfl rfl rfl rfl ⟨rfl, rfl, rfl, rfl, rfl⟩ rfl rfl rfl rfl rfl (by kernel_rfl) Try.func9 (by kernel_rfl)
    (of_decide_eq_true (by kernel_rfl)) (by unfold Func.isWrapper; first | (rw [if_pos (by decide +kernel)]; kernel_rfl) | (rw [if_neg (by decide +kernel)]; exact ⟨rfl, rfl⟩))
    (fun os started H enc _ => NumGcd_lifted os started H enc)
#print axioms NumGcd_holds
end Go.Proofs.Ytajookopcijakaa.NumW
