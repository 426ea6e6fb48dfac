/-
  For every two texts, the lines of both, one after the other, are those of the first one and those of the second one: FieldTexts returns true and leaves its arguments as they were. Condition: the library's package-level tables that the row lists start as their text lays them, which the card ties to the text.
-/
import Derived.Test.YtedkpkdfopffiaaDoorFieldL3
import Derived.Test.YtedkpkdfopffiaaDoorFieldDoor
import Derived.Test.YtedkpkdfopffiaaDoorFieldZ
namespace Go.Proofs.YtedkpkdfopffiaaDoor.NamW
open Go.ChangeShapes Go.WideShapes Go.ChangeAt Go.RowKit Go.Joins
open PairW NamP StrW
set_option maxRecDepth 100000 in
theorem FieldTexts_contract (C : FieldC) (H : Type) (enc : TypeId × Value → H) (W : World) (base : Nat) (args : Array Value) (ds gs : List (DataW H)) (before : List MemPlace)
    (hval : ∀ (j : Nat) t v, Tryd.f7.params[j]? = some t → args[j]? = some v → Value.okWide Tryd.prog W .any base t v)
    (hW : DataW.Whole enc Tryd.prog Tryd.f7.params.toList Rows.fieldTextsSpec.vars false W args.toList ds gs before) (_hL : laidMetH Tryd.prog Rows.fieldTextsRow.laid W) (M : Hid (Mx W)) :
    Calls Tryd.prog 7 args W fun e W' => ∃ v, e = .returned v ∧ Rows.fieldTextsSpec.post enc Tryd.prog Tryd.f7 false true false false W args v W' := by
  have hW' := hW
  obtain ⟨p, q, hA0, hV, rfl, hfz, hnd⟩ := hW'
  have hA : DataW.TrodAll enc Tryd.prog W 0 (fun _ => true) true Tryd.f7.params.toList args.toList ds p := hA0
  rw [Tryd.params7] at hA hval
  obtain ⟨v0, vs0, d0, ds0, p0, q0, hargs, rfl, rfl, h0, r0⟩ := trodAll_cons hA
  obtain ⟨v1, vs1, d1, ds1, p1, q1, rfl, rfl, rfl, h1, r1⟩ := trodAll_cons r0
  obtain ⟨rfl, rfl, rfl⟩ := trodAll_nil r1
  obtain rfl : args = #[v0, v1] := by cases args; simp_all
  obtain ⟨rfl, rfl⟩ := trodVars_none hV
  obtain ⟨s0, rfl, hz0⟩ := open_s (hval 0 9 v0 rfl rfl) h0
  obtain ⟨s1, rfl, hz1⟩ := open_s (hval 1 9 v1 rfl rfl) h1
  refine (FieldTexts_walk C s0 s1 W M).mono fun e W' ⟨he, hO⟩ => ?_
  subst he
  exact ⟨_, rfl, post_true hW rfl rfl (types_ok (by kernel_rfl)) (by kernel_rfl) hO⟩
theorem FieldTexts_reads (os : Os) {H : Type} (enc : TypeId × Value → H) : ∃ places, DataW.whole enc Tryd.prog ((laidWorld os).forCall (fun _ _ => 0) ⟨#[], #[(.string ⟨#[]⟩ : Value), .string ⟨#[]⟩], []⟩).memory Tryd.f7.params.toList Rows.fieldTextsSpec.vars false (#[(.string ⟨#[]⟩ : Value), .string ⟨#[]⟩] : Array Value).toList 8 = some ([.lit (.string []), .lit (.string [])], [], places) :=
  ⟨[], by kernel_rfl⟩
set_option maxRecDepth 100000 in
theorem FieldTexts_lifted (C : FieldC) (os : Os) (started : os.Started) (H : Type) (enc : TypeId × Value → H) (F : Stop.Interp) :
    ReturnsInHanded {} Tryd.checked os 7 .any ((OpenSpec.ofChange Rows.fieldTextsSpec).preRow enc Tryd.prog Tryd.f7 Rows.fieldTextsRow.domain false Rows.fieldTextsRow.laid) (((OpenSpec.ofChange Rows.fieldTextsSpec).at F).post enc Tryd.prog Tryd.f7 false true false false) := by
  obtain ⟨places, hx⟩ := FieldTexts_reads os enc
  refine returnsInHanded_of_row (C := Tryd.checked) (s := OpenSpec.ofChange Rows.fieldTextsSpec) own_knob started (by kernel_rfl) Tryd.func7
    (witness_row_at (enc := enc) (C := Tryd.checked) false (laidWorld os) #[(.string ⟨#[]⟩ : Value), .string ⟨#[]⟩] rfl (world_vars os _) (world_rest os _) (by kernel_rfl)
      (OpenSpec.preRow_of_cond 8 hx (by kernel_rfl) (fun k hk => by cases hk) (by kernel_rfl) (laid0 os _))) ?_
  intro W base args ds gs before hval hW _ _ _ hL hsh _
  exact FieldTexts_contract C H enc W base args ds gs before hval hW hL (Lib.hid (mx_shaped hsh))
theorem FieldTexts_said (C : FieldC) : Rows.FieldTextsSaid :=
  OpenClaim.holds_of_cond 7 Tryd.f7 rfl rfl rfl rfl rfl rfl rfl ⟨rfl, rfl, rfl, rfl, rfl⟩ rfl rfl rfl rfl rfl (by kernel_rfl) Tryd.func7 (by kernel_rfl)
    (of_decide_eq_true (by kernel_rfl)) (by unfold Func.isWrapper; first | (rw [if_pos (by decide +kernel)]; kernel_rfl) | (rw [if_neg (by decide +kernel)]; exact ⟨rfl, rfl⟩))
    (fun os started H enc _ F => by rw [OpenClaim.pre_eq_preRow]; exact FieldTexts_lifted C os started H enc F)
set_option maxRecDepth 100000 in
theorem FieldTexts_plain (f : FuncId) (fn : Func) (hf : Tryd.pinned.checked.prog.funcNamed "dancestudio/dancestudiolaw06.FieldTexts" = some f) (hfn : Tryd.pinned.checked.prog.funcs[f]? = some fn) :
    false = Tryd.pinned.checked.prog.looks [] ∧ ∀ (j : Nat) t, fn.params[j]? = some t → Tryd.pinned.checked.prog.wantsStandIn t = false := by
  obtain rfl : f = 7 := Option.some.inj ((show Tryd.prog.funcNamed "dancestudio/dancestudiolaw06.FieldTexts" = some 7 by kernel_rfl).symm.trans hf) |>.symm
  obtain rfl : fn = Tryd.f7 := (Option.some.inj (Tryd.func7.symm.trans hfn)).symm
  refine ⟨by kernel_rfl, fun j t ht => ?_⟩
  rw [Tryd.params7] at ht
  have hm := Array.mem_of_getElem? ht
  have hc : t = 9 := by simpa using hm
  rcases hc with rfl
  all_goals first | exact (show Tryd.prog.wantsStandIn 9 = false by kernel_rfl)
theorem FieldTexts_card (C : FieldC) : Rows.FieldTextsCardSaid :=
  Claim7.holds_tied_plain_at .later [] _ _ _ _ (FieldTexts_said C) (fun _ h => by cases h) (by kernel_rfl) (fun _ h => by cases h) fieldTexts_row_tie rfl ⟨rfl, rfl⟩ (by kernel_rfl) rfl FieldTexts_plain (by kernel_rfl)
theorem FieldTexts_given : Rows.FieldTextsCardSaid := FieldTexts_card fieldC
#print axioms FieldTexts_given
end Go.Proofs.YtedkpkdfopffiaaDoor.NamW
