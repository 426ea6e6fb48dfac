/-
  For every list of fields, Join returns the line and the error that the specification returns: FieldJoins returns true and leaves its arguments as they were. Condition: the library's package-level tables that the row lists start as their text lays them, which the card ties to the text.
-/
import Derived.Test.YtedkpkdfopffiaaDoorFieldL1
import Derived.Test.YtedkpkdfopffiaaDoorFieldDoor
import Derived.Test.YtedkpkdfopffiaaDoorFieldZ
namespace Go.Proofs.YtedkpkdfopffiaaDoor.NamW
open Go.ChangeShapes Go.WideShapes Go.ChangeAt Go.RowKit Go.Joins
open PairW NamP StrW
set_option maxRecDepth 100000 in
theorem FieldJoins_contract (C : FieldC) (H : Type) (enc : TypeId × Value → H) (W : World) (base : Nat) (args : Array Value) (ds gs : List (DataW H)) (before : List MemPlace)
    (hval : ∀ (j : Nat) t v, Tryd.f3.params[j]? = some t → args[j]? = some v → Value.okWide Tryd.prog W .any base t v)
    (hW : DataW.Whole enc Tryd.prog Tryd.f3.params.toList Rows.fieldJoinsSpec.vars false W args.toList ds gs before) (_hL : laidMetH Tryd.prog Rows.fieldJoinsRow.laid W) (M : Hid (Mx W)) :
    Calls Tryd.prog 3 args W fun e W' => ∃ v, e = .returned v ∧ Rows.fieldJoinsSpec.post enc Tryd.prog Tryd.f3 false true false false W args v W' := by
  have hW' := hW
  obtain ⟨p, q, hA0, hV, rfl, hfz, hnd⟩ := hW'
  have hA : DataW.TrodAll enc Tryd.prog W 0 (fun _ => true) true Tryd.f3.params.toList args.toList ds p := hA0
  rw [Tryd.params3] at hA hval
  obtain ⟨v0, vs0, d0, ds0, p0, q0, hargs, rfl, rfl, h0, r0⟩ := trodAll_cons hA
  obtain ⟨rfl, rfl, rfl⟩ := trodAll_nil r0
  obtain rfl : args = #[v0] := by cases args; simp_all
  obtain ⟨rfl, rfl⟩ := trodVars_none hV
  obtain ⟨l0, hp0, hz0⟩ := open_ss (hval 0 22 v0 rfl rfl) h0
  refine (FieldJoins_walk C l0 v0 W (Lib.hid hp0) M).mono fun e W' ⟨he, hO⟩ => ?_
  subst he
  exact ⟨_, rfl, post_true hW rfl rfl (types_ok (by kernel_rfl)) (by kernel_rfl) hO⟩
theorem FieldJoins_reads (os : Os) {H : Type} (enc : TypeId × Value → H) : ∃ places, DataW.whole enc Tryd.prog ((laidWorld os).forCall (fun _ _ => 0) ⟨#[], #[(.slice none 0 0 : Value)], []⟩).memory Tryd.f3.params.toList Rows.fieldJoinsSpec.vars false (#[(.slice none 0 0 : Value)] : Array Value).toList 8 = some ([.nil], [], places) :=
  ⟨[], by kernel_rfl⟩
set_option maxRecDepth 100000 in
theorem FieldJoins_lifted (C : FieldC) (os : Os) (started : os.Started) (H : Type) (enc : TypeId × Value → H) (F : Stop.Interp) :
    ReturnsInHanded {} Tryd.checked os 3 .any ((OpenSpec.ofChange Rows.fieldJoinsSpec).preRow enc Tryd.prog Tryd.f3 Rows.fieldJoinsRow.domain false Rows.fieldJoinsRow.laid) (((OpenSpec.ofChange Rows.fieldJoinsSpec).at F).post enc Tryd.prog Tryd.f3 false true false false) := by
  obtain ⟨places, hx⟩ := FieldJoins_reads os enc
  refine returnsInHanded_of_row (C := Tryd.checked) (s := OpenSpec.ofChange Rows.fieldJoinsSpec) own_knob started (by kernel_rfl) Tryd.func3
    (witness_row_at (enc := enc) (C := Tryd.checked) false (laidWorld os) #[(.slice none 0 0 : Value)] rfl (world_vars os _) (world_rest os _) (by kernel_rfl)
      (OpenSpec.preRow_of_cond 8 hx (by kernel_rfl) (fun k hk => by cases hk) (by kernel_rfl) (laid0 os _))) ?_
  intro W base args ds gs before hval hW _ _ _ hL hsh _
  exact FieldJoins_contract C H enc W base args ds gs before hval hW hL (Lib.hid (mx_shaped hsh))
theorem FieldJoins_said (C : FieldC) : Rows.FieldJoinsSaid :=
  OpenClaim.holds_of_cond 3 Tryd.f3 rfl rfl rfl rfl rfl rfl rfl ⟨rfl, rfl, rfl, rfl, rfl⟩ rfl rfl rfl rfl rfl (by kernel_rfl) Tryd.func3 (by kernel_rfl)
    (of_decide_eq_true (by kernel_rfl)) (by unfold Func.isWrapper; first | (rw [if_pos (by decide +kernel)]; kernel_rfl) | (rw [if_neg (by decide +kernel)]; exact ⟨rfl, rfl⟩))
    (fun os started H enc _ F => by rw [OpenClaim.pre_eq_preRow]; exact FieldJoins_lifted C os started H enc F)
set_option maxRecDepth 100000 in
theorem FieldJoins_plain (f : FuncId) (fn : Func) (hf : Tryd.pinned.checked.prog.funcNamed "dancestudio/dancestudiolaw06.FieldJoins" = some f) (hfn : Tryd.pinned.checked.prog.funcs[f]? = some fn) :
    false = Tryd.pinned.checked.prog.looks [] ∧ ∀ (j : Nat) t, fn.params[j]? = some t → Tryd.pinned.checked.prog.wantsStandIn t = false := by
  obtain rfl : f = 3 := Option.some.inj ((show Tryd.prog.funcNamed "dancestudio/dancestudiolaw06.FieldJoins" = some 3 by kernel_rfl).symm.trans hf) |>.symm
  obtain rfl : fn = Tryd.f3 := (Option.some.inj (Tryd.func3.symm.trans hfn)).symm
  refine ⟨by kernel_rfl, fun j t ht => ?_⟩
  rw [Tryd.params3] at ht
  have hm := Array.mem_of_getElem? ht
  have hc : t = 22 := by simpa using hm
  rcases hc with rfl
  all_goals first | exact (show Tryd.prog.wantsStandIn 22 = false by kernel_rfl)
theorem FieldJoins_card (C : FieldC) : Rows.FieldJoinsCardSaid :=
  Claim7.holds_tied_plain_at .later [] _ _ _ _ (FieldJoins_said C) (fun _ h => by cases h) (by kernel_rfl) (fun _ h => by cases h) fieldJoins_row_tie rfl ⟨rfl, rfl⟩ (by kernel_rfl) rfl FieldJoins_plain (by kernel_rfl)
theorem FieldJoins_given : Rows.FieldJoinsCardSaid := FieldJoins_card fieldC
#print axioms FieldJoins_given
end Go.Proofs.YtedkpkdfopffiaaDoor.NamW
