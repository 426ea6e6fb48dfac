/-
  For every input, Hull returns what the specification's Hull returns; the chapter's examples hold: GeomHull returns true and leaves its arguments as they were. Condition: none.
-/
import Derived.Test.YtnakacflaaelnaaGeomL3
import Derived.Test.YtnakacflaaelnaaGeomFrame
namespace Go.Proofs.Ytnakacflaaelnaa.GeoW
open Go.ChangeShapes Go.WideShapes Go.ChangeAt Go.RowKit Go.Joins
open NumP NumW GeoP

set_option maxRecDepth 100000 in
theorem GeomHull_lifted (os : Os) (started : os.Started) (H : Type) (enc : TypeId × Value → H) :
    ReturnsInHanded {} Try.checked os 7 .any (Rows.geomHullSpec.pre6 enc Try.prog Try.f7 Rows.geomHullRow.domain false) (Rows.geomHullSpec.post enc Try.prog Try.f7 false true false false) := by
  refine returnsInHanded_of_change (C := Try.checked) own started (by kernel_rfl) Try.func7
    (ChangeSpec.witness6 (enc := enc) (C := Try.checked) false ⟨#[], #[(.slice none 0 0 : Value)], []⟩ 8 (by kernel_rfl) (by kernel_rfl) (by kernel_rfl) (by kernel_rfl)) ?_
  intro W base args ds gs before hval0 hW hcnd _
  have hval : ∀ (j : Nat) t v, Try.f7.params[j]? = some t → args[j]? = some v → Value.okWide Try.prog W .any base t v := hval0
  have hW' := hW
  obtain ⟨p, q, hA0, hV, rfl, hfz, hnd⟩ := hW'
  have hA : DataW.TrodAll enc Try.prog W 0 (fun _ => true) true Try.f7.params.toList args.toList ds p := hA0
  rw [Try.params7] at hA hval
  obtain ⟨v0, vs0, d0, ds0, p0, q0, hargs, rfl, rfl, h0, r0⟩ := trodAll_cons hA
  obtain ⟨rfl, rfl, rfl⟩ := trodAll_nil r0
  obtain rfl : args = #[v0] := by cases args; simp_all
  obtain ⟨rfl, rfl⟩ := trodVars_none hV
  clear hA0 hval0
  obtain ⟨l0, hl0⟩ := open_pts (hval 0 41 v0 rfl rfl) h0
  refine (GeomHull_walk l0 v0 W (Lib.hid hl0)).mono fun e W' ⟨he, hO⟩ => ?_
  subst he
  exact ⟨_, rfl, post_true hW rfl rfl (types_ok (by kernel_rfl)) (by kernel_rfl) hO⟩
theorem GeomHull_holds : Rows.GeomHullSaid :=
  OpenClaim.holds_of_wide 7 Try.f7 rfl rfl rfl rfl rfl rfl rfl ⟨rfl, rfl, rfl, rfl, rfl⟩ rfl rfl rfl rfl rfl (by kernel_rfl) Try.func7 (by kernel_rfl)
    (of_decide_eq_true (by kernel_rfl)) (by unfold Func.isWrapper; first | (rw [if_pos (by decide +kernel)]; kernel_rfl) | (rw [if_neg (by decide +kernel)]; exact ⟨rfl, rfl⟩))
    (fun os started H enc _ => GeomHull_lifted os started H enc)
#print axioms GeomHull_holds
end Go.Proofs.Ytnakacflaaelnaa.GeoW
