/-
  For every input, Sorted returns the names of a table in ascending order, in new memory; the chapter's examples hold: IdentSorted returns true and leaves its arguments as they were. Condition: the library's package-level tables that the row lists start as their text lays them, which the card ties to the text.
-/
import Derived.Test.YtifiljmiehddfaaDoorIdentL4
import Derived.Test.YtifiljmiehddfaaDoorIdentDoor
import Derived.Test.YtifiljmiehddfaaDoorIdentZ
namespace Go.Proofs.YtifiljmiehddfaaDoor.NamW
open Go.ChangeShapes Go.WideShapes Go.ChangeAt Go.RowKit Go.Joins
open PairW NamP StrW
set_option maxRecDepth 100000 in
theorem IdentSorted_contract {T : World → (Nat → Prop) → Nat → Ss → Prop} (C : IdentC T) (H : Type) (enc : TypeId × Value → H) (W : World) (base : Nat) (args : Array Value) (ds gs : List (DataW H)) (before : List MemPlace)
    (hval : ∀ (j : Nat) t v, Tryd.f9.params[j]? = some t → args[j]? = some v → Value.okWide Tryd.prog W .any base t v)
    (hW : DataW.Whole enc Tryd.prog Tryd.f9.params.toList Rows.identSortedSpec.vars false W args.toList ds gs before) (_hL : laidMetH Tryd.prog Rows.identSortedRow.laid W) :
    Calls Tryd.prog 9 args W fun e W' => ∃ v, e = .returned v ∧ Rows.identSortedSpec.post enc Tryd.prog Tryd.f9 false true false false W args v W' := by
  have hW' := hW
  obtain ⟨p, q, hA0, hV, rfl, hfz, hnd⟩ := hW'
  have hA : DataW.TrodAll enc Tryd.prog W 0 (fun _ => true) true Tryd.f9.params.toList args.toList ds p := hA0
  rw [Tryd.params9] at hA hval
  obtain ⟨v0, vs0, d0, ds0, p0, q0, hargs, rfl, rfl, h0, r0⟩ := trodAll_cons hA
  obtain ⟨rfl, rfl, rfl⟩ := trodAll_nil r0
  obtain rfl : args = #[v0] := by cases args; simp_all
  obtain ⟨rfl, rfl⟩ := trodVars_none hV
  clear hA0
  obtain ⟨l0, hp0, hz0⟩ := open_ss (hval 0 25 v0 rfl rfl) h0
  refine (IdentSorted_walk C l0 v0 W (Lib.hid hp0) (Lib.hid hz0)).mono fun e W' ⟨he, hO⟩ => ?_
  subst he
  exact ⟨_, rfl, post_true hW rfl rfl (types_ok (by kernel_rfl)) (by kernel_rfl) hO⟩
theorem IdentSorted_laid (os : Os) : laidMet Tryd.prog Rows.identSortedRow.laid ((laidWorld os).forCall (fun _ _ => 0) ⟨#[], #[(.slice none 0 0 : Value)], []⟩).memory :=
  two_laid os _
theorem IdentSorted_reads (os : Os) {H : Type} (enc : TypeId × Value → H) : ∃ places, DataW.whole enc Tryd.prog ((laidWorld os).forCall (fun _ _ => 0) ⟨#[], #[(.slice none 0 0 : Value)], []⟩).memory Tryd.f9.params.toList Rows.identSortedSpec.vars false (#[(.slice none 0 0 : Value)] : Array Value).toList 8 = some ([.nil], [], places) :=
  ⟨[], by kernel_rfl⟩
set_option maxRecDepth 100000 in
theorem IdentSorted_lifted {T : World → (Nat → Prop) → Nat → Ss → Prop} (C : IdentC T) (os : Os) (started : os.Started) (H : Type) (enc : TypeId × Value → H) (F : Stop.Interp) :
    ReturnsInHanded {} Tryd.checked os 9 .any ((OpenSpec.ofChange Rows.identSortedSpec).preRow enc Tryd.prog Tryd.f9 Rows.identSortedRow.domain false Rows.identSortedRow.laid) (((OpenSpec.ofChange Rows.identSortedSpec).at F).post enc Tryd.prog Tryd.f9 false true false false) := by
  obtain ⟨places, hx⟩ := IdentSorted_reads os enc
  refine returnsInHanded_of_row (C := Tryd.checked) (s := OpenSpec.ofChange Rows.identSortedSpec) own_knob started (by kernel_rfl) Tryd.func9
    (witness_row_at (enc := enc) (C := Tryd.checked) false (laidWorld os) #[(.slice none 0 0 : Value)] rfl (world_vars os _) (world_rest os _) (by kernel_rfl)
      (OpenSpec.preRow_of_cond 8 hx (by kernel_rfl) (fun k hk => by cases hk) (by kernel_rfl) (IdentSorted_laid os))) ?_
  intro W base args ds gs before hval hW _ _ _ hL _ _
  exact IdentSorted_contract C H enc W base args ds gs before hval hW hL
theorem IdentSorted_said {T : World → (Nat → Prop) → Nat → Ss → Prop} (C : IdentC T) : Rows.IdentSortedSaid :=
  OpenClaim.holds_of_cond 9 Tryd.f9 rfl rfl rfl rfl rfl rfl rfl ⟨rfl, rfl, rfl, rfl, rfl⟩ rfl rfl rfl rfl rfl (by kernel_rfl) Tryd.func9 (by kernel_rfl)
    (of_decide_eq_true (by kernel_rfl)) (by unfold Func.isWrapper; first | (rw [if_pos (by decide +kernel)]; kernel_rfl) | (rw [if_neg (by decide +kernel)]; exact ⟨rfl, rfl⟩))
    (fun os started H enc _ F => by rw [OpenClaim.pre_eq_preRow]; exact IdentSorted_lifted C os started H enc F)
set_option maxRecDepth 100000 in
theorem IdentSorted_plain (f : FuncId) (fn : Func) (hf : Tryd.pinned.checked.prog.funcNamed "dancestudio/dancestudiolaw05.IdentSorted" = some f) (hfn : Tryd.pinned.checked.prog.funcs[f]? = some fn) :
    false = Tryd.pinned.checked.prog.looks [] ∧ ∀ (j : Nat) t, fn.params[j]? = some t → Tryd.pinned.checked.prog.wantsStandIn t = false := by
  obtain rfl : f = 9 := Option.some.inj ((show Tryd.prog.funcNamed "dancestudio/dancestudiolaw05.IdentSorted" = some 9 by kernel_rfl).symm.trans hf) |>.symm
  obtain rfl : fn = Tryd.f9 := (Option.some.inj (Tryd.func9.symm.trans hfn)).symm
  refine ⟨by kernel_rfl, fun j t ht => ?_⟩
  rw [Tryd.params9] at ht
  have hm := Array.mem_of_getElem? ht
  have hc : t = 25 := by simpa using hm
  rcases hc with rfl
  all_goals first | exact (show Tryd.prog.wantsStandIn 25 = false by kernel_rfl)
theorem IdentSorted_card {T : World → (Nat → Prop) → Nat → Ss → Prop} (C : IdentC T) : Rows.IdentSortedCardSaid :=
  Claim7.holds_tied_plain_at .later [] _ _ _ _ (IdentSorted_said C) (fun _ h => by cases h) (by kernel_rfl) (fun _ h => by cases h) identSorted_row_tie rfl ⟨rfl, rfl⟩ (by kernel_rfl) rfl IdentSorted_plain (by kernel_rfl)
theorem IdentSorted_given : Rows.IdentSortedCardSaid := IdentSorted_card identC
#print axioms IdentSorted_given
end Go.Proofs.YtifiljmiehddfaaDoor.NamW
