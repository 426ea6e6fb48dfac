/-
  For every input, names that end with numbers are ordered by them, and zeros ahead of a number count only for equal numbers; the chapter's examples hold: IdentNumbers returns true and leaves its arguments as they were. Condition: the library's package-level tables that the row lists start as their text lays them, which the card ties to the text.
-/
import Derived.Test.YtifiljmiehddfaaDoorIdentL6
import Derived.Test.YtifiljmiehddfaaDoorIdentDoorB
import Derived.Test.YtifiljmiehddfaaDoorIdentZ
namespace Go.Proofs.YtifiljmiehddfaaDoor.NamW
open Go.ChangeShapes Go.WideShapes Go.ChangeAt Go.RowKit Go.Joins
open PairW NamP StrW
set_option maxRecDepth 100000 in
theorem IdentNumbers_contract {T : World → (Nat → Prop) → Nat → Ss → Prop} (C : IdentC T) (H : Type) (enc : TypeId × Value → H) (W : World) (base : Nat) (args : Array Value) (ds gs : List (DataW H)) (before : List MemPlace)
    (hval : ∀ (j : Nat) t v, Tryd.f6.params[j]? = some t → args[j]? = some v → Value.okWide Tryd.prog W .any base t v)
    (hW : DataW.Whole enc Tryd.prog Tryd.f6.params.toList Rows.identNumbersSpec.vars false W args.toList ds gs before) (hL : laidMetH Tryd.prog Rows.identNumbersRow.laid W) :
    Calls Tryd.prog 6 args W fun e W' => ∃ v, e = .returned v ∧ Rows.identNumbersSpec.post enc Tryd.prog Tryd.f6 false true false false W args v W' := by
  have hW' := hW
  obtain ⟨p, q, hA0, hV, rfl, hfz, hnd⟩ := hW'
  have hA : DataW.TrodAll enc Tryd.prog W 0 (fun _ => true) true Tryd.f6.params.toList args.toList ds p := hA0
  rw [Tryd.params6] at hA hval
  obtain ⟨v0, vs0, d0, ds0, p0, q0, hargs, rfl, rfl, h0, r0⟩ := trodAll_cons hA
  obtain ⟨v1, vs1, d1, ds1, p1, q1, rfl, rfl, rfl, h1, r1⟩ := trodAll_cons r0
  obtain ⟨v2, vs2, d2, ds2, p2, q2, rfl, rfl, rfl, h2, r2⟩ := trodAll_cons r1
  obtain ⟨rfl, rfl, rfl⟩ := trodAll_nil r2
  obtain rfl : args = #[v0, v1, v2] := by cases args; simp_all
  obtain ⟨rfl, rfl⟩ := trodVars_none hV
  clear hA0
  obtain ⟨a0, rfl, rfl, rfl, wa0⟩ := open_int Tryd.underlying35 (hval 0 35 v0 rfl rfl) h0
  obtain ⟨x0, rfl, hx0⟩ := wf_u32 wa0
  obtain ⟨a1, rfl, rfl, rfl, wa1⟩ := open_int Tryd.underlying35 (hval 1 35 v1 rfl rfl) h1
  obtain ⟨x1, rfl, hx1⟩ := wf_u32 wa1
  obtain ⟨a2, rfl, rfl, rfl, wa2⟩ := open_int Tryd.underlying5 (hval 2 5 v2 rfl rfl) h2
  obtain ⟨x2, rfl⟩ := wf_u8 wa2
  refine (IdentNumbers_walk C x0 x1 x2 W hx0 hx1 (Lib.hid (pow_met hL))).mono fun e W' ⟨he, hO⟩ => ?_
  subst he
  exact ⟨_, rfl, post_true hW rfl rfl (types_ok (by kernel_rfl)) (by kernel_rfl) hO⟩
theorem IdentNumbers_laid (os : Os) : laidMet Tryd.prog Rows.identNumbersRow.laid ((laidWorld os).forCall (fun _ _ => 0) ⟨#[], #[(.int .u32 0 : Value), .int .u32 0, .int .u8 0], []⟩).memory :=
  five_laid os _
theorem IdentNumbers_reads (os : Os) {H : Type} (enc : TypeId × Value → H) : ∃ places, DataW.whole enc Tryd.prog ((laidWorld os).forCall (fun _ _ => 0) ⟨#[], #[(.int .u32 0 : Value), .int .u32 0, .int .u8 0], []⟩).memory Tryd.f6.params.toList Rows.identNumbersSpec.vars false (#[(.int .u32 0 : Value), .int .u32 0, .int .u8 0] : Array Value).toList 8 = some ([.lit (.int .u32 0), .lit (.int .u32 0), .lit (.int .u8 0)], [], places) :=
  ⟨[], by kernel_rfl⟩
set_option maxRecDepth 100000 in
theorem IdentNumbers_lifted {T : World → (Nat → Prop) → Nat → Ss → Prop} (C : IdentC T) (os : Os) (started : os.Started) (H : Type) (enc : TypeId × Value → H) (F : Stop.Interp) :
    ReturnsInHanded {} Tryd.checked os 6 .any ((OpenSpec.ofChange Rows.identNumbersSpec).preRow enc Tryd.prog Tryd.f6 Rows.identNumbersRow.domain false Rows.identNumbersRow.laid) (((OpenSpec.ofChange Rows.identNumbersSpec).at F).post enc Tryd.prog Tryd.f6 false true false false) := by
  obtain ⟨places, hx⟩ := IdentNumbers_reads os enc
  refine returnsInHanded_of_row (C := Tryd.checked) (s := OpenSpec.ofChange Rows.identNumbersSpec) own_knob started (by kernel_rfl) Tryd.func6
    (witness_row_at (enc := enc) (C := Tryd.checked) false (laidWorld os) #[(.int .u32 0 : Value), .int .u32 0, .int .u8 0] rfl (world_vars os _) (world_rest os _) (by kernel_rfl)
      (OpenSpec.preRow_of_cond 8 hx (by kernel_rfl) (fun k hk => by cases hk) (by kernel_rfl) (IdentNumbers_laid os))) ?_
  intro W base args ds gs before hval hW _ _ _ hL _ _
  exact IdentNumbers_contract C H enc W base args ds gs before hval hW hL
theorem IdentNumbers_said {T : World → (Nat → Prop) → Nat → Ss → Prop} (C : IdentC T) : Rows.IdentNumbersSaid :=
  OpenClaim.holds_of_cond 6 Tryd.f6 rfl rfl rfl rfl rfl rfl rfl ⟨rfl, rfl, rfl, rfl, rfl⟩ rfl rfl rfl rfl rfl (by kernel_rfl) Tryd.func6 (by kernel_rfl)
    (of_decide_eq_true (by kernel_rfl)) (by unfold Func.isWrapper; first | (rw [if_pos (by decide +kernel)]; kernel_rfl) | (rw [if_neg (by decide +kernel)]; exact ⟨rfl, rfl⟩))
    (fun os started H enc _ F => by rw [OpenClaim.pre_eq_preRow]; exact IdentNumbers_lifted C os started H enc F)
set_option maxRecDepth 100000 in
theorem IdentNumbers_plain (f : FuncId) (fn : Func) (hf : Tryd.pinned.checked.prog.funcNamed "dancestudio/dancestudiolaw05.IdentNumbers" = some f) (hfn : Tryd.pinned.checked.prog.funcs[f]? = some fn) :
    false = Tryd.pinned.checked.prog.looks [] ∧ ∀ (j : Nat) t, fn.params[j]? = some t → Tryd.pinned.checked.prog.wantsStandIn t = false := by
  obtain rfl : f = 6 := Option.some.inj ((show Tryd.prog.funcNamed "dancestudio/dancestudiolaw05.IdentNumbers" = some 6 by kernel_rfl).symm.trans hf) |>.symm
  obtain rfl : fn = Tryd.f6 := (Option.some.inj (Tryd.func6.symm.trans hfn)).symm
  refine ⟨by kernel_rfl, fun j t ht => ?_⟩
  rw [Tryd.params6] at ht
  have hm := Array.mem_of_getElem? ht
  have hc : t = 35 ∨ t = 5 := by simpa using hm
  rcases hc with rfl | rfl
  all_goals first | exact (show Tryd.prog.wantsStandIn 35 = false by kernel_rfl) | exact (show Tryd.prog.wantsStandIn 5 = false by kernel_rfl)
theorem IdentNumbers_card {T : World → (Nat → Prop) → Nat → Ss → Prop} (C : IdentC T) : Rows.IdentNumbersCardSaid :=
  Claim7.holds_tied_plain_at .later [] _ _ _ _ (IdentNumbers_said C) (fun _ h => by cases h) (by kernel_rfl) (fun _ h => by cases h) identNumbers_row_tie rfl ⟨rfl, rfl⟩ (by kernel_rfl) rfl IdentNumbers_plain (by kernel_rfl)
theorem IdentNumbers_given : Rows.IdentNumbersCardSaid := IdentNumbers_card identC
#print axioms IdentNumbers_given
end Go.Proofs.YtifiljmiehddfaaDoor.NamW
