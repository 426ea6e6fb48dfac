/-
  For every input, a common translation changes nothing; the chapter's examples hold: GeomShifts returns true and leaves its arguments as they were. Condition: none.
-/
import Derived.Test.YtnakacflaaelnaaGeomL5
import Derived.Test.YtnakacflaaelnaaGeomFrame
namespace Go.Proofs.Ytnakacflaaelnaa.GeoW
open Go.ChangeShapes Go.WideShapes Go.ChangeAt Go.RowKit Go.Joins
open NumP NumW GeoP

set_option maxRecDepth 100000 in
theorem GeomShifts_lifted (os : Os) (started : os.Started) (H : Type) (enc : TypeId × Value → H) :
    ReturnsInHanded {} Try.checked os 10 .any (Rows.geomShiftsSpec.pre6 enc Try.prog Try.f10 Rows.geomShiftsRow.domain false) (Rows.geomShiftsSpec.post enc Try.prog Try.f10 false true false false) := by
  refine returnsInHanded_of_change (C := Try.checked) own started (by kernel_rfl) Try.func10
    (ChangeSpec.witness6 (enc := enc) (C := Try.checked) false ⟨#[], #[(.agg #[.int .i64 0, .int .i64 0, .int .i64 0, .int .i64 0, .int .i64 0, .int .i64 0, .int .i64 0] : Value), .agg #[.int .i64 0, .int .i64 0], .agg #[.int .i64 0, .int .i64 0]], []⟩ 8 (by kernel_rfl) (by kernel_rfl) (by kernel_rfl) (by kernel_rfl)) ?_
  intro W base args ds gs before hval0 hW hcnd _
  have hval : ∀ (j : Nat) t v, Try.f10.params[j]? = some t → args[j]? = some v → Value.okWide Try.prog W .any base t v := hval0
  have hW' := hW
  obtain ⟨p, q, hA0, hV, rfl, hfz, hnd⟩ := hW'
  have hA : DataW.TrodAll enc Try.prog W 0 (fun _ => true) true Try.f10.params.toList args.toList ds p := hA0
  rw [Try.params10] at hA hval
  obtain ⟨v0, vs0, d0, ds0, p0, q0, hargs, rfl, rfl, h0, r0⟩ := trodAll_cons hA
  obtain ⟨v1, vs1, d1, ds1, p1, q1, rfl, rfl, rfl, h1, r1⟩ := trodAll_cons r0
  obtain ⟨v2, vs2, d2, ds2, p2, q2, rfl, rfl, rfl, h2, r2⟩ := trodAll_cons r1
  obtain ⟨rfl, rfl, rfl⟩ := trodAll_nil r2
  obtain rfl : args = #[v0, v1, v2] := by cases args; simp_all
  obtain ⟨rfl, rfl⟩ := trodVars_none hV
  clear hA0 hval0
  obtain ⟨a0, a1, a2, a3, a4, a5, a6, rfl, ba0, ba1, ba2, ba3, ba4, ba5, ba6⟩ := open_seg (hval 0 31 v0 rfl rfl) h0
  obtain ⟨a7, a8, rfl, ba7, ba8⟩ := open_pt (hval 1 23 v1 rfl rfl) h1
  obtain ⟨a9, a10, rfl, ba9, ba10⟩ := open_pt (hval 2 23 v2 rfl rfl) h2
  refine (GeomShifts_walk a0 a1 a2 a3 a4 a5 a6 a7 a8 a9 a10 ba0 ba1 ba2 ba3 ba4 ba5 ba6 ba7 ba8 ba9 ba10 W).mono fun e W' ⟨he, hO⟩ => ?_
  subst he
  exact ⟨_, rfl, post_true hW rfl rfl (types_ok (by kernel_rfl)) (by kernel_rfl) hO⟩
theorem GeomShifts_holds : Rows.GeomShiftsSaid :=
  OpenClaim.holds_of_wide 10 Try.f10 rfl rfl rfl rfl rfl rfl rfl ⟨rfl, rfl, rfl, rfl, rfl⟩ rfl rfl rfl rfl rfl (by kernel_rfl) Try.func10 (by kernel_rfl)
    (of_decide_eq_true (by kernel_rfl)) (by unfold Func.isWrapper; first | (rw [if_pos (by decide +kernel)]; kernel_rfl) | (rw [if_neg (by decide +kernel)]; exact ⟨rfl, rfl⟩))
    (fun os started H enc _ => GeomShifts_lifted os started H enc)
#print axioms GeomShifts_holds
end Go.Proofs.Ytnakacflaaelnaa.GeoW
