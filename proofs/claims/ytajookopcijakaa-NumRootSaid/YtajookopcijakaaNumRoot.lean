/-
  For every input, the square of the root is at most the number and the next square is greater, other numbers are errors, and the chapter's examples hold: NumRoot returns true and leaves its argument as it was. Condition: none.
-/
import Derived.Test.YtajookopcijakaaNumFrame
namespace Go.Proofs.Ytajookopcijakaa.NumW
open Go.ChangeShapes Go.WideShapes Go.ChangeAt Go.RowKit Go.Joins
open NumP

set_option maxHeartbeats 800000 in
theorem NumRoot_walk (a0 : Int) (_b0 : -9223372036854775808 ≤ a0 ∧ a0 ≤ 9223372036854775807) (w : World) :
    Calls Try.prog 8 #[.int .i64 a0] w fun e w' => e = .returned (.bool true) ∧ Grown w w' := by
  clear _b0
  by_cases h : a0 < 0 ∨ 1125899906842624 < a0
  · have hn := root_no a0 h
    have H := Lib.hid (show rootV a0 = 0 ∧ rootE a0 = 1 from ⟨hn.2, hn.1⟩)
    clear hn
    by_cases c1 : a0 < 0
    · clear h
      go_enter Try.func8, Try.ntmps8
      go_wp2_with (first | (go_at_call 22; refine (root_at _ 0 1 _ H).mono ?_; rintro e w' ⟨rfl, rfl⟩) | (go_at_call 14; refine (awake_any _).mono ?_; rintro e w' ⟨rfl, ⟨n1, rfl⟩⟩))
      go_ret
      exact ⟨rfl, by repeat (first | exact Grown.refl _ | apply grown_drewN | apply Grown.alloc)⟩
    · have c2 : 1125899906842624 < a0 := by omega
      clear h
      go_enter Try.func8, Try.ntmps8
      go_wp2_with (first | (go_at_call 22; refine (root_at _ 0 1 _ H).mono ?_; rintro e w' ⟨rfl, rfl⟩) | (go_at_call 14; refine (awake_any _).mono ?_; rintro e w' ⟨rfl, ⟨n1, rfl⟩⟩))
      go_ret
      exact ⟨rfl, by repeat (first | exact Grown.refl _ | apply grown_drewN | apply Grown.alloc)⟩
  · have c1 : 0 ≤ a0 := by omega
    have c2 : a0 ≤ 1125899906842624 := by omega
    obtain ⟨s1, s2, s3, s4, s5⟩ := root_spec a0 c1 c2
    obtain ⟨v, hv⟩ : ∃ v, rootV a0 = v := ⟨_, rfl⟩
    rw [hv] at s2 s3 s4 s5
    have H := Lib.hid (show rootV a0 = v ∧ rootE a0 = 0 from ⟨hv, s1⟩)
    have s6 : 0 ≤ v * v := Int.mul_nonneg s2 s2
    have s7 : (v + 1) * (v + 1) ≤ 33554433 * 33554433 := Int.mul_le_mul (by omega) (by omega) (by omega) (by omega)
    have s8 : 0 ≤ (v + 1) * (v + 1) := Int.mul_nonneg (by omega) (by omega)
    clear h hv s1
    go_enter Try.func8, Try.ntmps8
    go_wp2_with (first | (go_at_call 22; refine (root_at _ v 0 _ H).mono ?_; rintro e w' ⟨rfl, rfl⟩) | (go_at_call 14; refine (awake_any _).mono ?_; rintro e w' ⟨rfl, ⟨n1, rfl⟩⟩))
    go_ret
    exact ⟨rfl, by repeat (first | exact Grown.refl _ | apply grown_drewN | apply Grown.alloc)⟩

set_option maxRecDepth 100000 in
theorem NumRoot_lifted (os : Os) (started : os.Started) (H : Type) (enc : TypeId × Value → H) :
    ReturnsInHanded {} Try.checked os 8 .any (Rows.numRootSpec.pre6 enc Try.prog Try.f8 Rows.numRootRow.domain false) (Rows.numRootSpec.post enc Try.prog Try.f8 false true false false) := by
  refine returnsInHanded_of_change (C := Try.checked) own started (by kernel_rfl) Try.func8
    (ChangeSpec.witness6 (enc := enc) (C := Try.checked) false ⟨#[], #[.int .i64 0], []⟩ 8 (by kernel_rfl) (by kernel_rfl) (by kernel_rfl) (by kernel_rfl)) ?_
  intro W base args ds gs before hval0 hW hcnd _
  have hval : ∀ (j : Nat) t v, Try.f8.params[j]? = some t → args[j]? = some v → Value.okWide Try.prog W .any base t v := hval0
  have hW' := hW
  obtain ⟨p, q, hA0, hV, rfl, hfz, hnd⟩ := hW
  have hA : DataW.TrodAll enc Try.prog W 0 (fun _ => true) true Try.f8.params.toList args.toList ds p := hA0
  rw [Try.params8] at hA hval
  obtain ⟨v0, vs0, d0, ds0, p0, q0, hargs, rfl, rfl, h0, r0⟩ := trodAll_cons hA
  obtain ⟨rfl, rfl, rfl⟩ := trodAll_nil r0
  obtain rfl : args = #[v0] := by cases args; simp_all
  obtain ⟨rfl, rfl⟩ := trodVars_none hV
  obtain ⟨a0, rfl, rfl, rfl, wa0⟩ := open_int Try.underlying3 (hval 0 3 v0 rfl rfl) h0
  clear hA0 hval0
  simp only [List.append_nil] at hW'
  refine (NumRoot_walk a0 (wf_bd wa0) W).mono fun e W' ⟨he, hg⟩ => ?_
  subst he
  exact ⟨_, rfl, post_of_same (pa := []) (pv := []) hW' (fun _ _ _ => (trodAll_cons_mk (shut_bool Try.underlying4 _) trodAll_mk0)) (fun sp _ => (trodAll_cons_mk (shut_int Try.underlying3 wa0) trodAll_mk0)) (fun _ _ => rfl) rfl
    (hg.frame _) hg.2.1 (ok_one (by kernel_rfl) rfl (okWide_bool_mk Try.underlying4 _))⟩
theorem NumRoot_holds : Rows.NumRootSaid :=
  OpenClaim.holds_of_wide 8 Try.f8 rfl rfl rfl rfl rfl rfl rfl ⟨rfl, rfl, rfl, rfl, rfl⟩ rfl rfl rfl rfl rfl (by kernel_rfl) Try.func8 (by kernel_rfl)
    (of_decide_eq_true (by kernel_rfl)) (by unfold Func.isWrapper; first | (rw [if_pos (by decide +kernel)]; kernel_rfl) | (rw [if_neg (by decide +kernel)]; exact ⟨rfl, rfl⟩))
    (fun os started H enc _ => NumRoot_lifted os started H enc)
#print axioms NumRoot_holds
end Go.Proofs.Ytajookopcijakaa.NumW
