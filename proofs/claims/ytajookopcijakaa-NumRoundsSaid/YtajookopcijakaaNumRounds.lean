/-
  For every input, Round and Floor of package num return what the specification's Round and Floor return, and the chapter's examples hold: NumRounds returns true and leaves its arguments as they were. Condition: none.
-/
import Derived.Test.YtajookopcijakaaNumFrame
import Derived.Test.YtajookopcijakaaNumE
namespace Go.Proofs.Ytajookopcijakaa.NumW
open Go.ChangeShapes Go.WideShapes Go.ChangeAt Go.RowKit Go.Joins
open NumP

theorem rround_at (a b v f : Int) (w : World) (H : Hid (roundV a b = v ∧ roundE a b = f)) :
    Calls Try.prog 18 #[.int .i64 a, .int .i64 b] w fun e w' => e = .returned (.tuple #[.int .i64 v, .int .i64 f]) ∧ Drew w w' := by
  obtain ⟨rfl, rfl⟩ := H.out
  exact rround_any a b w
theorem rfloor_at (a b q r f : Int) (w : World) (H : Hid (floorQ a b = q ∧ floorR a b = r ∧ floorE a b = f)) :
    Calls Try.prog 20 #[.int .i64 a, .int .i64 b] w fun e w' => e = .returned (.tuple #[.int .i64 q, .int .i64 r, .int .i64 f]) ∧ Drew w w' := by
  obtain ⟨rfl, rfl, rfl⟩ := H.out
  exact rfloor_any a b w
set_option maxHeartbeats 800000 in
theorem NumRounds_walk (a0 a1 : Int) (b0 : -9223372036854775808 ≤ a0 ∧ a0 ≤ 9223372036854775807) (b1 : -9223372036854775808 ≤ a1 ∧ a1 ≤ 9223372036854775807) (w : World) :
    Calls Try.prog 6 #[.int .i64 a0, .int .i64 a1] w fun e w' => e = .returned (.bool true) ∧ Grown w w' := by
  have B0 := Lib.hid b0
  have B1 := Lib.hid b1
  clear b0 b1
  obtain ⟨v, hv⟩ : ∃ v, roundV a0 a1 = v := ⟨_, rfl⟩
  obtain ⟨f, hf⟩ : ∃ f, roundE a0 a1 = f := ⟨_, rfl⟩
  obtain ⟨q, hq⟩ : ∃ q, floorQ a0 a1 = q := ⟨_, rfl⟩
  obtain ⟨r, hr⟩ : ∃ r, floorR a0 a1 = r := ⟨_, rfl⟩
  obtain ⟨g, hg⟩ : ∃ g, floorE a0 a1 = g := ⟨_, rfl⟩
  have H := Lib.hid (show roundV a0 a1 = v ∧ roundE a0 a1 = f from ⟨hv, hf⟩)
  have HF := Lib.hid (show floorQ a0 a1 = q ∧ floorR a0 a1 = r ∧ floorE a0 a1 = g from ⟨hq, hr, hg⟩)
  clear hv hf hq hr hg
  go_enter Try.func6, Try.ntmps6
  go_wp2_with (first | (go_at_call 17; refine (round_at _ _ v f _ H B0.out.1 B0.out.2 B1.out.1 B1.out.2).mono ?_; rintro e w' ⟨rfl, ⟨n1, rfl⟩⟩) | (go_at_call 18; refine (rround_at _ _ v f _ H).mono ?_; rintro e w' ⟨rfl, ⟨n1, rfl⟩⟩) | (go_at_call 19; refine (floor_at _ _ q r g _ HF).mono ?_; rintro e w' ⟨rfl, ⟨n1, rfl⟩⟩) | (go_at_call 20; refine (rfloor_at _ _ q r g _ HF).mono ?_; rintro e w' ⟨rfl, ⟨n1, rfl⟩⟩) | (go_at_call 14; refine (awake_any _).mono ?_; rintro e w' ⟨rfl, ⟨n1, rfl⟩⟩))
  go_ret
  exact ⟨rfl, by repeat (first | exact Grown.refl _ | apply grown_drewN | apply Grown.alloc)⟩

set_option maxRecDepth 100000 in
theorem NumRounds_lifted (os : Os) (started : os.Started) (H : Type) (enc : TypeId × Value → H) :
    ReturnsInHanded {} Try.checked os 6 .any (Rows.numRoundsSpec.pre6 enc Try.prog Try.f6 Rows.numRoundsRow.domain false) (Rows.numRoundsSpec.post enc Try.prog Try.f6 false true false false) := by
  refine returnsInHanded_of_change (C := Try.checked) own started (by kernel_rfl) Try.func6
    (ChangeSpec.witness6 (enc := enc) (C := Try.checked) false ⟨#[], #[.int .i64 0, .int .i64 0], []⟩ 8 (by kernel_rfl) (by kernel_rfl) (by kernel_rfl) (by kernel_rfl)) ?_
  intro W base args ds gs before hval0 hW hcnd _
  have hval : ∀ (j : Nat) t v, Try.f6.params[j]? = some t → args[j]? = some v → Value.okWide Try.prog W .any base t v := hval0
  have hW' := hW
  obtain ⟨p, q, hA0, hV, rfl, hfz, hnd⟩ := hW
  have hA : DataW.TrodAll enc Try.prog W 0 (fun _ => true) true Try.f6.params.toList args.toList ds p := hA0
  rw [Try.params6] at hA hval
  obtain ⟨v0, vs0, d0, ds0, p0, q0, hargs, rfl, rfl, h0, r0⟩ := trodAll_cons hA
  obtain ⟨v1, vs1, d1, ds1, p1, q1, rfl, rfl, rfl, h1, r1⟩ := trodAll_cons r0
  obtain ⟨rfl, rfl, rfl⟩ := trodAll_nil r1
  obtain rfl : args = #[v0, v1] := by cases args; simp_all
  obtain ⟨rfl, rfl⟩ := trodVars_none hV
  obtain ⟨a0, rfl, rfl, rfl, wa0⟩ := open_int Try.underlying3 (hval 0 3 v0 rfl rfl) h0
  obtain ⟨a1, rfl, rfl, rfl, wa1⟩ := open_int Try.underlying3 (hval 1 3 v1 rfl rfl) h1
  clear hA0 hval0
  simp only [List.append_nil] at hW'
  refine (NumRounds_walk a0 a1 (wf_bd wa0) (wf_bd wa1) W).mono fun e W' ⟨he, hg⟩ => ?_
  subst he
  exact ⟨_, rfl, post_of_same (pa := []) (pv := []) hW' (fun _ _ _ => (trodAll_cons_mk (shut_bool Try.underlying4 _) trodAll_mk0)) (fun sp _ => (trodAll_cons_mk (shut_int Try.underlying3 wa0) (trodAll_cons_mk (shut_int Try.underlying3 wa1) trodAll_mk0))) (fun _ _ => rfl) rfl
    (hg.frame _) hg.2.1 (ok_one (by kernel_rfl) rfl (okWide_bool_mk Try.underlying4 _))⟩
theorem NumRounds_holds : Rows.NumRoundsSaid :=
  OpenClaim.holds_of_wide 6 Try.f6 rfl rfl rfl rfl rfl rfl rfl ⟨rfl, rfl, rfl, rfl, rfl⟩ rfl rfl rfl rfl rfl (by kernel_rfl) Try.func6 (by kernel_rfl)
    (of_decide_eq_true (by kernel_rfl)) (by unfold Func.isWrapper; first | (rw [if_pos (by decide +kernel)]; kernel_rfl) | (rw [if_neg (by decide +kernel)]; exact ⟨rfl, rfl⟩))
    (fun os started H enc _ => NumRounds_lifted os started H enc)
#print axioms NumRounds_holds
end Go.Proofs.Ytajookopcijakaa.NumW
