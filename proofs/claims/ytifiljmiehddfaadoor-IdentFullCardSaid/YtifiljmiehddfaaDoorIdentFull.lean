/-
  For every input, a table has at most MaxRecords names, and a nil table answers with ErrNil and nothing; the chapter's examples hold: IdentFull returns true and leaves its arguments as they were. Condition: the library's package-level tables that the row lists start as their text lays them, which the card ties to the text.
-/
import Derived.Test.YtifiljmiehddfaaDoorIdentL7
import Derived.Test.YtifiljmiehddfaaDoorIdentDoorB
import Derived.Test.YtifiljmiehddfaaDoorIdentZ
import Derived.Test.YtifiljmiehddfaaDoorIdentZN
namespace Go.Proofs.YtifiljmiehddfaaDoor.NamW
open Go.ChangeShapes Go.WideShapes Go.ChangeAt Go.RowKit Go.Joins
open PairW NamP StrW
set_option maxRecDepth 100000 in
theorem IdentFull_contract {T : World → (Nat → Prop) → Nat → Ss → Prop} (C : IdentC T) (D : IdentA T) (E : IdentN) (H : Type) (enc : TypeId × Value → H) (W : World) (base : Nat) (args : Array Value) (ds gs : List (DataW H)) (before : List MemPlace)
    (hval : ∀ (j : Nat) t v, Tryd.f10.params[j]? = some t → args[j]? = some v → Value.okWide Tryd.prog W .any base t v)
    (hW : DataW.Whole enc Tryd.prog Tryd.f10.params.toList Rows.identFullSpec.vars false W args.toList ds gs before) (hL : laidMetH Tryd.prog Rows.identFullRow.laid W) :
    Calls Tryd.prog 10 args W fun e W' => ∃ v, e = .returned v ∧ Rows.identFullSpec.post enc Tryd.prog Tryd.f10 false true false false W args v W' := by
  have hW' := hW
  obtain ⟨p, q, hA0, hV, rfl, hfz, hnd⟩ := hW'
  have hA : DataW.TrodAll enc Tryd.prog W 0 (fun _ => true) true Tryd.f10.params.toList args.toList ds p := hA0
  rw [Tryd.params10] at hA hval
  obtain ⟨v0, vs0, d0, ds0, p0, q0, hargs, rfl, rfl, h0, r0⟩ := trodAll_cons hA
  obtain ⟨v1, vs1, d1, ds1, p1, q1, rfl, rfl, rfl, h1, r1⟩ := trodAll_cons r0
  obtain ⟨rfl, rfl, rfl⟩ := trodAll_nil r1
  obtain rfl : args = #[v0, v1] := by cases args; simp_all
  obtain ⟨rfl, rfl⟩ := trodVars_none hV
  clear hA0
  obtain ⟨a0, rfl, rfl, rfl, wa0⟩ := open_int Tryd.underlying5 (hval 0 5 v0 rfl rfl) h0
  obtain ⟨x0, rfl⟩ := wf_u8 wa0
  obtain ⟨s1, rfl, hz1⟩ := open_s (hval 1 9 v1 rfl rfl) h1
  refine (IdentFull_walk C D E x0 s1 W hz1 (Lib.hid (pow_met hL))).mono fun e W' ⟨he, hO⟩ => ?_
  subst he
  exact ⟨_, rfl, post_true hW rfl rfl (types_ok (by kernel_rfl)) (by kernel_rfl) hO⟩
theorem IdentFull_laid (os : Os) : laidMet Tryd.prog Rows.identFullRow.laid ((laidWorld os).forCall (fun _ _ => 0) ⟨#[], #[(.int .u8 0 : Value), .string ⟨#[]⟩], []⟩).memory :=
  five_laid os _
theorem IdentFull_reads (os : Os) {H : Type} (enc : TypeId × Value → H) : ∃ places, DataW.whole enc Tryd.prog ((laidWorld os).forCall (fun _ _ => 0) ⟨#[], #[(.int .u8 0 : Value), .string ⟨#[]⟩], []⟩).memory Tryd.f10.params.toList Rows.identFullSpec.vars false (#[(.int .u8 0 : Value), .string ⟨#[]⟩] : Array Value).toList 8 = some ([.lit (.int .u8 0), .lit (.string [])], [], places) :=
  ⟨[], by kernel_rfl⟩
set_option maxRecDepth 100000 in
theorem IdentFull_lifted {T : World → (Nat → Prop) → Nat → Ss → Prop} (C : IdentC T) (D : IdentA T) (E : IdentN) (os : Os) (started : os.Started) (H : Type) (enc : TypeId × Value → H) (F : Stop.Interp) :
    ReturnsInHanded {} Tryd.checked os 10 .any ((OpenSpec.ofChange Rows.identFullSpec).preRow enc Tryd.prog Tryd.f10 Rows.identFullRow.domain false Rows.identFullRow.laid) (((OpenSpec.ofChange Rows.identFullSpec).at F).post enc Tryd.prog Tryd.f10 false true false false) := by
  obtain ⟨places, hx⟩ := IdentFull_reads os enc
  refine returnsInHanded_of_row (C := Tryd.checked) (s := OpenSpec.ofChange Rows.identFullSpec) own_knob started (by kernel_rfl) Tryd.func10
    (witness_row_at (enc := enc) (C := Tryd.checked) false (laidWorld os) #[(.int .u8 0 : Value), .string ⟨#[]⟩] rfl (world_vars os _) (world_rest os _) (by kernel_rfl)
      (OpenSpec.preRow_of_cond 8 hx (by kernel_rfl) (fun k hk => by cases hk) (by kernel_rfl) (IdentFull_laid os))) ?_
  intro W base args ds gs before hval hW _ _ _ hL _ _
  exact IdentFull_contract C D E H enc W base args ds gs before hval hW hL
theorem IdentFull_said {T : World → (Nat → Prop) → Nat → Ss → Prop} (C : IdentC T) (D : IdentA T) (E : IdentN) : Rows.IdentFullSaid :=
  OpenClaim.holds_of_cond 10 Tryd.f10 rfl rfl rfl rfl rfl rfl rfl ⟨rfl, rfl, rfl, rfl, rfl⟩ rfl rfl rfl rfl rfl (by kernel_rfl) Tryd.func10 (by kernel_rfl)
    (of_decide_eq_true (by kernel_rfl)) (by unfold Func.isWrapper; first | (rw [if_pos (by decide +kernel)]; kernel_rfl) | (rw [if_neg (by decide +kernel)]; exact ⟨rfl, rfl⟩))
    (fun os started H enc _ F => by rw [OpenClaim.pre_eq_preRow]; exact IdentFull_lifted C D E os started H enc F)
set_option maxRecDepth 100000 in
theorem IdentFull_plain (f : FuncId) (fn : Func) (hf : Tryd.pinned.checked.prog.funcNamed "dancestudio/dancestudiolaw05.IdentFull" = some f) (hfn : Tryd.pinned.checked.prog.funcs[f]? = some fn) :
    false = Tryd.pinned.checked.prog.looks [] ∧ ∀ (j : Nat) t, fn.params[j]? = some t → Tryd.pinned.checked.prog.wantsStandIn t = false := by
  obtain rfl : f = 10 := Option.some.inj ((show Tryd.prog.funcNamed "dancestudio/dancestudiolaw05.IdentFull" = some 10 by kernel_rfl).symm.trans hf) |>.symm
  obtain rfl : fn = Tryd.f10 := (Option.some.inj (Tryd.func10.symm.trans hfn)).symm
  refine ⟨by kernel_rfl, fun j t ht => ?_⟩
  rw [Tryd.params10] at ht
  have hm := Array.mem_of_getElem? ht
  have hc : t = 5 ∨ t = 9 := by simpa using hm
  rcases hc with rfl | rfl
  all_goals first | exact (show Tryd.prog.wantsStandIn 9 = false by kernel_rfl) | exact (show Tryd.prog.wantsStandIn 5 = false by kernel_rfl)
theorem IdentFull_card {T : World → (Nat → Prop) → Nat → Ss → Prop} (C : IdentC T) (D : IdentA T) (E : IdentN) : Rows.IdentFullCardSaid :=
  Claim7.holds_tied_plain_at .later [] _ _ _ _ (IdentFull_said C D E) (fun _ h => by cases h) (by kernel_rfl) (fun _ h => by cases h) identFull_row_tie rfl ⟨rfl, rfl⟩ (by kernel_rfl) rfl IdentFull_plain (by kernel_rfl)
theorem IdentFull_given : Rows.IdentFullCardSaid := IdentFull_card identC identA identN
#print axioms IdentFull_given
end Go.Proofs.YtifiljmiehddfaaDoor.NamW
