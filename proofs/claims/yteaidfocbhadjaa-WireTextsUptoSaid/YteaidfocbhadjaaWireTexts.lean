/-
  For every string, all bytes and every limit, PutText and TakeText return the bytes, the string, the number of bytes and the error that the specification returns; the chapter's examples hold: WireTexts returns true and leaves its arguments as they were. Condition: the arguments together hold at most 1048576 values and letters.
-/
import Derived.Test.YteaidfocbhadjaaWireL1
import Derived.Test.YteaidfocbhadjaaFrame
import Derived.Test.YteaidfocbhadjaaWireZ
namespace Go.Proofs.Yteaidfocbhadjaa.WirW
open Go.ChangeShapes Go.WideShapes Go.ChangeAt Go.RowKit Go.Joins
open PairW CelW WirP FrmW
set_option maxRecDepth 100000 in
theorem WireTexts_contract (H : Type) (enc : TypeId × Value → H) (W : World) (base : Nat) (args : Array Value) (ds gs : List (DataW H)) (before : List MemPlace)
    (hval : ∀ (j : Nat) t v, Try.f4.params[j]? = some t → args[j]? = some v → Value.okWide Try.prog W .any base t v)
    (hW : DataW.Whole enc Try.prog Try.f4.params.toList Rows.wireTextsSpec.vars false W args.toList ds gs before) (hk : Rows.uptoSmall H (ds ++ gs) = true) :
    Calls Try.prog 4 args W fun e W' => ∃ v, e = .returned v ∧ Rows.wireTextsSpec.post enc Try.prog Try.f4 false true false false W args v W' := by
  have hW' := hW
  obtain ⟨p, q, hA0, hV, rfl, hfz, hnd⟩ := hW'
  have hA : DataW.TrodAll enc Try.prog W 0 (fun _ => true) true Try.f4.params.toList args.toList ds p := hA0
  rw [Try.params4] at hA hval
  obtain ⟨v0, vs0, d0, ds0, p0, q0, hargs, rfl, rfl, h0, r0⟩ := trodAll_cons hA
  obtain ⟨v1, vs1, d1, ds1, p1, q1, rfl, rfl, rfl, h1, r1⟩ := trodAll_cons r0
  obtain ⟨v2, vs2, d2, ds2, p2, q2, rfl, rfl, rfl, h2, r2⟩ := trodAll_cons r1
  obtain ⟨rfl, rfl, rfl⟩ := trodAll_nil r2
  obtain rfl : args = #[v0, v1, v2] := by cases args; simp_all
  obtain ⟨rfl, rfl⟩ := trodVars_none hV
  simp only [List.append_nil] at hk
  obtain ⟨s0, rfl, hm0, hd0⟩ := open_s (hval 0 9 v0 rfl rfl) h0
  have hz0 := bulk_in hk (j := 0) rfl (bulk_text hd0)
  obtain ⟨l1, hl1, hd1⟩ := open_b (hval 1 22 v1 rfl rfl) h1
  have hz1 := bulk_in hk (j := 1) rfl hd1.bulk
  obtain ⟨a2, rfl, hb2⟩ := open_i (hval 2 3 v2 rfl rfl) h2
  refine (ltexts_at putC takeC s0 l1 v1 a2 W (Lib.hid hl1) hb2 (by omega)).mono fun e W' ⟨he, hO⟩ => ?_
  subst he
  exact ⟨_, rfl, post_true hW rfl rfl (types_ok (by kernel_rfl)) (by kernel_rfl) hO⟩
set_option maxRecDepth 100000 in
theorem WireTexts_lifted (os : Os) (started : os.Started) (H : Type) (enc : TypeId × Value → H) (F : Stop.Interp) :
    ReturnsInHanded {} Try.checked os 4 .any ((Rows.OpenSpec.upto Rows.wireTextsSpec).pre6 enc Try.prog Try.f4 Rows.wireTextsUptoRow.domain false) (((Rows.OpenSpec.upto Rows.wireTextsSpec).at F).post enc Try.prog Try.f4 false true false false) := by
  refine returnsInHanded_of_cond (C := Try.checked) (s := Rows.OpenSpec.upto Rows.wireTextsSpec) (k := Rows.uptoSmall) rfl own_knob started (by kernel_rfl) Try.func4
    (OpenSpec.witness (enc := enc) (C := Try.checked) (s := Rows.OpenSpec.upto Rows.wireTextsSpec) (k := Rows.uptoSmall) rfl false ⟨#[], #[(.string ⟨#[]⟩ : Value), .slice none 0 0, .int .i64 0], []⟩ 8 (by kernel_rfl) (by kernel_rfl) (by kernel_rfl)
      (x := ([.lit (.string []), .nil, .lit (.int .i64 0)], [], [])) (by kernel_rfl) rfl (by kernel_rfl)) ?_
  intro W base args ds gs before hval hW _ hk _
  exact WireTexts_contract H enc W base args ds gs before hval hW hk
theorem WireTexts_given : Rows.WireTextsUptoSaid :=
  OpenClaim.holds_of_cond 4 Try.f4 rfl rfl rfl rfl rfl rfl rfl ⟨rfl, rfl, rfl, rfl, rfl⟩ rfl rfl rfl rfl rfl (by kernel_rfl) Try.func4 (by kernel_rfl)
    (of_decide_eq_true (by kernel_rfl)) (by unfold Func.isWrapper; first | (rw [if_pos (by decide +kernel)]; kernel_rfl) | (rw [if_neg (by decide +kernel)]; exact ⟨rfl, rfl⟩))
    (fun os started H enc _ F => WireTexts_lifted os started H enc F)
#print axioms WireTexts_given
end Go.Proofs.Yteaidfocbhadjaa.WirW
