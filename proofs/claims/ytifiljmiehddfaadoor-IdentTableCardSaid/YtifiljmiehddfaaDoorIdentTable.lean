/-
  For every input, New returns the specified table or error, and Index and Name those of the table; the chapter's examples hold: IdentTable returns true and leaves its arguments as they were. Condition: the library's package-level tables that the row lists start as their text lays them, which the card ties to the text.
-/
import Derived.Test.YtifiljmiehddfaaDoorIdentL2
import Derived.Test.YtifiljmiehddfaaDoorIdentF
import Derived.Test.YtifiljmiehddfaaDoorIdentDoor
import Derived.Test.YtifiljmiehddfaaDoorIdentZ
namespace Go.Proofs.YtifiljmiehddfaaDoor.NamW
open Go.ChangeShapes Go.WideShapes Go.ChangeAt Go.RowKit Go.Joins
open PairW NamP StrW
set_option maxRecDepth 100000 in
theorem IdentTable_contract {T : World → (Nat → Prop) → Nat → Ss → Prop} (C : IdentC T) (H : Type) (enc : TypeId × Value → H) (W : World) (base : Nat) (args : Array Value) (ds gs : List (DataW H)) (before : List MemPlace)
    (hval : ∀ (j : Nat) t v, Tryd.f7.params[j]? = some t → args[j]? = some v → Value.okWide Tryd.prog W .any base t v)
    (hW : DataW.Whole enc Tryd.prog Tryd.f7.params.toList Rows.identTableSpec.vars false W args.toList ds gs before) (_hL : laidMetH Tryd.prog Rows.identTableRow.laid W) :
    Calls Tryd.prog 7 args W fun e W' => ∃ v, e = .returned v ∧ Rows.identTableSpec.post enc Tryd.prog Tryd.f7 false true false false W args v W' := by
  have hW' := hW
  obtain ⟨p, q, hA0, hV, rfl, hfz, hnd⟩ := hW'
  have hA : DataW.TrodAll enc Tryd.prog W 0 (fun _ => true) true Tryd.f7.params.toList args.toList ds p := hA0
  rw [Tryd.params7] at hA hval
  obtain ⟨v0, vs0, d0, ds0, p0, q0, hargs, rfl, rfl, h0, r0⟩ := trodAll_cons hA
  obtain ⟨v1, vs1, d1, ds1, p1, q1, rfl, rfl, rfl, h1, r1⟩ := trodAll_cons r0
  obtain ⟨v2, vs2, d2, ds2, p2, q2, rfl, rfl, rfl, h2, r2⟩ := trodAll_cons r1
  obtain ⟨rfl, rfl, rfl⟩ := trodAll_nil r2
  obtain rfl : args = #[v0, v1, v2] := by cases args; simp_all
  obtain ⟨rfl, rfl⟩ := trodVars_none hV
  clear hA0
  obtain ⟨l0, hp0, hz0⟩ := open_ss (hval 0 25 v0 rfl rfl) h0
  obtain ⟨s1, rfl, hz1⟩ := open_s (hval 1 9 v1 rfl rfl) h1
  obtain ⟨a2, rfl⟩ := open_i (hval 2 3 v2 rfl rfl)
  refine (IdentTable_walk C rnew_at l0 v0 s1 a2 W (Lib.hid hp0) (Lib.hid hz0) hz1).mono fun e W' ⟨he, hO⟩ => ?_
  subst he
  exact ⟨_, rfl, post_true hW rfl rfl (types_ok (by kernel_rfl)) (by kernel_rfl) hO⟩
theorem IdentTable_laid (os : Os) : laidMet Tryd.prog Rows.identTableRow.laid ((laidWorld os).forCall (fun _ _ => 0) ⟨#[], #[(.slice none 0 0 : Value), .string ⟨#[]⟩, .int .i64 0], []⟩).memory :=
  two_laid os _
theorem IdentTable_reads (os : Os) {H : Type} (enc : TypeId × Value → H) : ∃ places, DataW.whole enc Tryd.prog ((laidWorld os).forCall (fun _ _ => 0) ⟨#[], #[(.slice none 0 0 : Value), .string ⟨#[]⟩, .int .i64 0], []⟩).memory Tryd.f7.params.toList Rows.identTableSpec.vars false (#[(.slice none 0 0 : Value), .string ⟨#[]⟩, .int .i64 0] : Array Value).toList 8 = some ([.nil, .lit (.string []), .lit (.int .i64 0)], [], places) :=
  ⟨[], by kernel_rfl⟩
set_option maxRecDepth 100000 in
theorem IdentTable_lifted {T : World → (Nat → Prop) → Nat → Ss → Prop} (C : IdentC T) (os : Os) (started : os.Started) (H : Type) (enc : TypeId × Value → H) (F : Stop.Interp) :
    ReturnsInHanded {} Tryd.checked os 7 .any ((OpenSpec.ofChange Rows.identTableSpec).preRow enc Tryd.prog Tryd.f7 Rows.identTableRow.domain false Rows.identTableRow.laid) (((OpenSpec.ofChange Rows.identTableSpec).at F).post enc Tryd.prog Tryd.f7 false true false false) := by
  obtain ⟨places, hx⟩ := IdentTable_reads os enc
  refine returnsInHanded_of_row (C := Tryd.checked) (s := OpenSpec.ofChange Rows.identTableSpec) own_knob started (by kernel_rfl) Tryd.func7
    (witness_row_at (enc := enc) (C := Tryd.checked) false (laidWorld os) #[(.slice none 0 0 : Value), .string ⟨#[]⟩, .int .i64 0] rfl (world_vars os _) (world_rest os _) (by kernel_rfl)
      (OpenSpec.preRow_of_cond 8 hx (by kernel_rfl) (fun k hk => by cases hk) (by kernel_rfl) (IdentTable_laid os))) ?_
  intro W base args ds gs before hval hW _ _ _ hL _ _
  exact IdentTable_contract C H enc W base args ds gs before hval hW hL
theorem IdentTable_said {T : World → (Nat → Prop) → Nat → Ss → Prop} (C : IdentC T) : Rows.IdentTableSaid :=
  OpenClaim.holds_of_cond 7 Tryd.f7 rfl rfl rfl rfl rfl rfl rfl ⟨rfl, rfl, rfl, rfl, rfl⟩ rfl rfl rfl rfl rfl (by kernel_rfl) Tryd.func7 (by kernel_rfl)
    (of_decide_eq_true (by kernel_rfl)) (by unfold Func.isWrapper; first | (rw [if_pos (by decide +kernel)]; kernel_rfl) | (rw [if_neg (by decide +kernel)]; exact ⟨rfl, rfl⟩))
    (fun os started H enc _ F => by rw [OpenClaim.pre_eq_preRow]; exact IdentTable_lifted C os started H enc F)
set_option maxRecDepth 100000 in
theorem IdentTable_plain (f : FuncId) (fn : Func) (hf : Tryd.pinned.checked.prog.funcNamed "dancestudio/dancestudiolaw05.IdentTable" = some f) (hfn : Tryd.pinned.checked.prog.funcs[f]? = some fn) :
    false = Tryd.pinned.checked.prog.looks [] ∧ ∀ (j : Nat) t, fn.params[j]? = some t → Tryd.pinned.checked.prog.wantsStandIn t = false := by
  obtain rfl : f = 7 := Option.some.inj ((show Tryd.prog.funcNamed "dancestudio/dancestudiolaw05.IdentTable" = some 7 by kernel_rfl).symm.trans hf) |>.symm
  obtain rfl : fn = Tryd.f7 := (Option.some.inj (Tryd.func7.symm.trans hfn)).symm
  refine ⟨by kernel_rfl, fun j t ht => ?_⟩
  rw [Tryd.params7] at ht
  have hm := Array.mem_of_getElem? ht
  have hc : t = 25 ∨ t = 9 ∨ t = 3 := by simpa using hm
  rcases hc with rfl | rfl | rfl
  all_goals first | exact (show Tryd.prog.wantsStandIn 25 = false by kernel_rfl) | exact (show Tryd.prog.wantsStandIn 3 = false by kernel_rfl) | exact (show Tryd.prog.wantsStandIn 9 = false by kernel_rfl)
theorem IdentTable_card {T : World → (Nat → Prop) → Nat → Ss → Prop} (C : IdentC T) : Rows.IdentTableCardSaid :=
  Claim7.holds_tied_plain_at .later [] _ _ _ _ (IdentTable_said C) (fun _ h => by cases h) (by kernel_rfl) (fun _ h => by cases h) identTable_row_tie rfl ⟨rfl, rfl⟩ (by kernel_rfl) rfl IdentTable_plain (by kernel_rfl)
theorem IdentTable_given : Rows.IdentTableCardSaid := IdentTable_card identC
#print axioms IdentTable_given
end Go.Proofs.YtifiljmiehddfaaDoor.NamW
