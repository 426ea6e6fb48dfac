/-
  For all values and all bytes behind them, an integer, a string and a list that were written one after the other are read back; the chapter's examples hold: WireRoundTrip returns true and leaves its arguments as they were. Condition: the arguments together hold at most 1048576 values and letters.
-/
import Derived.Test.YteaidfocbhadjaaWireL3
import Derived.Test.YteaidfocbhadjaaFrame
import Derived.Test.YteaidfocbhadjaaWireZ
namespace Go.Proofs.Yteaidfocbhadjaa.WirW
open Go.ChangeShapes Go.WideShapes Go.ChangeAt Go.RowKit Go.Joins
open PairW CelW WirP FrmW
set_option maxRecDepth 100000 in
theorem WireRoundTrip_contract (H : Type) (enc : TypeId × Value → H) (W : World) (base : Nat) (args : Array Value) (ds gs : List (DataW H)) (before : List MemPlace)
    (hval : ∀ (j : Nat) t v, Try.f6.params[j]? = some t → args[j]? = some v → Value.okWide Try.prog W .any base t v)
    (hW : DataW.Whole enc Try.prog Try.f6.params.toList Rows.wireRoundTripSpec.vars false W args.toList ds gs before) (hk : Rows.uptoSmall H (ds ++ gs) = true) :
    Calls Try.prog 6 args W fun e W' => ∃ v, e = .returned v ∧ Rows.wireRoundTripSpec.post enc Try.prog Try.f6 false true false false W args v W' := by
  have hW' := hW
  obtain ⟨p, q, hA0, hV, rfl, hfz, hnd⟩ := hW'
  have hA : DataW.TrodAll enc Try.prog W 0 (fun _ => true) true Try.f6.params.toList args.toList ds p := hA0
  rw [Try.params6] at hA hval
  obtain ⟨v0, vs0, d0, ds0, p0, q0, hargs, rfl, rfl, h0, r0⟩ := trodAll_cons hA
  obtain ⟨v1, vs1, d1, ds1, p1, q1, rfl, rfl, rfl, h1, r1⟩ := trodAll_cons r0
  obtain ⟨rfl, rfl, rfl⟩ := trodAll_nil r1
  obtain rfl : args = #[v0, v1] := by cases args; simp_all
  obtain ⟨rfl, rfl⟩ := trodVars_none hV
  simp only [List.append_nil] at hk
  obtain ⟨a0, s0, vl0, l0, rfl, hb0, hl0, hi0, hy0, hn0, ht0⟩ := open_values (hval 0 42 v0 rfl rfl) h0
  have hz0 := bulk_in hk (j := 0) rfl ht0
  obtain ⟨l1, hl1, hd1⟩ := open_b (hval 1 22 v1 rfl rfl) h1
  have hz1 := bulk_in hk (j := 1) rfl hd1.bulk
  refine (lround_at putC takeC a0 s0 l0 vl0 l1 v1 W (Lib.hid hl0) hi0 (Lib.hid hl1) hb0 (by omega) (by omega)).mono fun e W' ⟨he, hO⟩ => ?_
  subst he
  exact ⟨_, rfl, post_true hW rfl rfl (types_ok (by kernel_rfl)) (by kernel_rfl) hO⟩
set_option maxRecDepth 100000 in
theorem WireRoundTrip_lifted (os : Os) (started : os.Started) (H : Type) (enc : TypeId × Value → H) (F : Stop.Interp) :
    ReturnsInHanded {} Try.checked os 6 .any ((Rows.OpenSpec.upto Rows.wireRoundTripSpec).pre6 enc Try.prog Try.f6 Rows.wireRoundTripUptoRow.domain false) (((Rows.OpenSpec.upto Rows.wireRoundTripSpec).at F).post enc Try.prog Try.f6 false true false false) := by
  refine returnsInHanded_of_cond (C := Try.checked) (s := Rows.OpenSpec.upto Rows.wireRoundTripSpec) (k := Rows.uptoSmall) rfl own_knob started (by kernel_rfl) Try.func6
    (OpenSpec.witness (enc := enc) (C := Try.checked) (s := Rows.OpenSpec.upto Rows.wireRoundTripSpec) (k := Rows.uptoSmall) rfl false ⟨#[], #[(.agg #[.int .i64 0, .string ⟨#[]⟩, .slice none 0 0] : Value), .slice none 0 0], []⟩ 8 (by kernel_rfl) (by kernel_rfl) (by kernel_rfl)
      (x := ([.agg [.lit (.int .i64 0), .lit (.string []), .nil], .nil], [], [])) (by kernel_rfl) rfl (by kernel_rfl)) ?_
  intro W base args ds gs before hval hW _ hk _
  exact WireRoundTrip_contract H enc W base args ds gs before hval hW hk
theorem WireRoundTrip_given : Rows.WireRoundTripUptoSaid :=
  OpenClaim.holds_of_cond 6 Try.f6 rfl rfl rfl rfl rfl rfl rfl ⟨rfl, rfl, rfl, rfl, rfl⟩ rfl rfl rfl rfl rfl (by kernel_rfl) Try.func6 (by kernel_rfl)
    (of_decide_eq_true (by kernel_rfl)) (by unfold Func.isWrapper; first | (rw [if_pos (by decide +kernel)]; kernel_rfl) | (rw [if_neg (by decide +kernel)]; exact ⟨rfl, rfl⟩))
    (fun os started H enc _ F => WireRoundTrip_lifted os started H enc F)
#print axioms WireRoundTrip_given
end Go.Proofs.Yteaidfocbhadjaa.WirW
