/-
  For all limits, every limb and every aim, mirror images are inverse to themselves and allow the mirror image of an aim exactly if the aim is allowed; the chapter's examples hold: LimitsMirror returns true and leaves its arguments as they were. Condition: none.
-/
import Derived.Test.YtmjokgddhainlaaLimitsL2
import Derived.Test.YtmjokgddhainlaaLimitsQ
namespace Go.Proofs.Ytmjokgddhainlaa.LimL
open Go.ChangeShapes Go.WideShapes Go.ChangeAt Go.RowKit Go.Joins
open LimQ MovQ LimW MovW PairW PrtW FrmW
set_option maxRecDepth 100000 in
theorem LimitsMirror_contract (H : Type) (enc : TypeId × Value → H) (W : World) (base : Nat) (args : Array Value) (ds gs : List (DataW H)) (before : List MemPlace)
    (hval : ∀ (j : Nat) t v, Try.f7.params[j]? = some t → args[j]? = some v → Value.okWide Try.prog W .any base t v)
    (hW : DataW.Whole enc Try.prog Try.f7.params.toList Rows.limitsMirrorSpec.vars false W args.toList ds gs before) :
    Calls Try.prog 7 args W fun e W' => ∃ v, e = .returned v ∧ Rows.limitsMirrorSpec.post enc Try.prog Try.f7 false true false false W args v W' := by
  have hW' := hW
  obtain ⟨p, q, hA0, hV, rfl, hfz, hnd⟩ := hW'
  have hA : DataW.TrodAll enc Try.prog W 0 (fun _ => true) true Try.f7.params.toList args.toList ds p := hA0
  rw [Try.params7] at hA hval
  obtain ⟨v0, vs0, d0, ds0, p0, q0, hargs, rfl, rfl, h0, r0⟩ := trodAll_cons hA
  obtain ⟨v1, vs1, d1, ds1, p1, q1, rfl, rfl, rfl, h1, r1⟩ := trodAll_cons r0
  obtain ⟨v2, vs2, d2, ds2, p2, q2, rfl, rfl, rfl, h2, r2⟩ := trodAll_cons r1
  obtain ⟨rfl, rfl, rfl⟩ := trodAll_nil r2
  obtain rfl : args = #[v0, v1, v2] := by cases args; simp_all
  obtain ⟨rfl, rfl⟩ := trodVars_none hV
  obtain ⟨l0, rfl⟩ := open_lz (hval 0 26 v0 rfl rfl) h0
  obtain ⟨a1, rfl, hb1⟩ := open_i (hval 1 3 v1 rfl rfl) h1
  obtain ⟨z2, e2, u2, rfl⟩ := open_ai (hval 2 34 v2 rfl rfl) h2
  refine (lmirror_at l0 a1 z2 e2 u2 W).mono fun e W' ⟨he, hO⟩ => ?_
  subst he
  exact ⟨_, rfl, post_true hW rfl rfl (types_ok (by kernel_rfl)) (by kernel_rfl) hO⟩
set_option maxRecDepth 100000 in
theorem LimitsMirror_lifted (os : Os) (started : os.Started) (H : Type) (enc : TypeId × Value → H) :
    ReturnsInHanded {} Try.checked os 7 .any (Rows.limitsMirrorSpec.pre6 enc Try.prog Try.f7 Rows.limitsMirrorRow.domain false) (Rows.limitsMirrorSpec.post enc Try.prog Try.f7 false true false false) := by
  refine returnsInHanded_of_change (C := Try.checked) own_knob started (by kernel_rfl) Try.func7
    (ChangeSpec.witness6 (enc := enc) (C := Try.checked) false ⟨#[], #[(.agg #[.int .i64 0, .int .i64 0, .int .i64 0, .int .i64 0, .int .i64 0, .int .i64 0, .int .i64 0, .int .i64 0, .int .i64 0, .int .i64 0, .int .i64 0, .int .i64 0, .int .i64 0, .int .i64 0, .int .i64 0, .int .i64 0, .int .i64 0, .int .i64 0, .int .i64 0, .int .i64 0, .int .i64 0, .int .i64 0, .int .i64 0, .int .i64 0, .int .i64 0, .int .i64 0, .int .i64 0, .int .i64 0, .int .i64 0, .int .i64 0, .int .i64 0, .int .i64 0, .int .i64 0, .int .i64 0, .int .i64 0, .int .i64 0, .bool false, .bool false, .int .i64 0, .int .i64 0] : Value), .int .i64 0, .agg #[.int .i64 0, .int .i64 0, .int .i64 0]], []⟩ 8 (by kernel_rfl) (by kernel_rfl) (by kernel_rfl) (by kernel_rfl)) ?_
  intro W base args ds gs before hval hW _ _
  exact LimitsMirror_contract H enc W base args ds gs before hval hW
theorem LimitsMirror_given : Rows.LimitsMirrorSaid :=
  OpenClaim.holds_of_wide 7 Try.f7 rfl rfl rfl rfl rfl rfl rfl ⟨rfl, rfl, rfl, rfl, rfl⟩ rfl rfl rfl rfl rfl (by kernel_rfl) Try.func7 (by kernel_rfl)
    (of_decide_eq_true (by kernel_rfl)) (by unfold Func.isWrapper; first | (rw [if_pos (by decide +kernel)]; kernel_rfl) | (rw [if_neg (by decide +kernel)]; exact ⟨rfl, rfl⟩))
    (fun os started H enc _ => LimitsMirror_lifted os started H enc)
#print axioms LimitsMirror_given
end Go.Proofs.Ytmjokgddhainlaa.LimL
