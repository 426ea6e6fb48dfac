/-
  A region of determined values (RegDet, RegDuty) inside the body of a range over a function: what holds of it outside of a round holds inside, too. Nothing of the program. Condition: none.
-/
import Derived.Test.YtighpjhipgobiaaDoorRegBase
import Derived.OrdersIn
import Derived.OwnWalkIn
import Derived.RangeFuncCalls
namespace Go.Proofs.YtighpjhipgobiaaDoor.RegD
open Go RegI PairW BlkW
variable {P : Program}
/-- No operation of the region is a defer statement. -/
def noDefer (l : List Oper) : Bool := l.all fun o => match o.op with | .defer _ => false | _ => true
theorem noDefer_spec {l : List Oper} (h : noDefer l = true) {i : Nat} {o : Oper} (ho : l[i]? = some o) : ∀ c, o.op ≠ .defer c := by
  intro c e
  have := List.all_eq_true.1 h o (List.mem_of_getElem? ho)
  rw [e] at this
  cases this
section
variable {l' n : Nat} {Q : Exit → Act → World → Prop}
theorem no_depth {p : Prop} (h : (Fence.wide.inRound l').depth.isSome = true) : p := absurd (show (none : Option Nat).isSome = true from h) (by decide)
theorem rows_in {row : String} {args : Array Value} {w : World} {R : Value → World → Prop} (h : Rows P row args w R) : RowsIn (Fence.wide.inRound l') n P row args w R := by
  intro c cs _
  obtain ⟨v, w2, r, s⟩ := h c cs
  exact ⟨v, w2, r, stepsIn_wide.2 s⟩
theorem oper_in {o : Oper} {a : Act} {w : World} {K : Act → World → Prop} (hd : ∀ c, o.op ≠ .defer c) (h : o.wp P a w K Q) : o.wpIn (Fence.wide.inRound l') n P a w K Q := by
  refine ⟨fun _ _ => trivial, ?_⟩
  rw [Oper.semAt_plain (Fence.wide.inRound l') _ _ hd]
  unfold Oper.wp at h
  generalize (execOp a.eval o).run P w = r at *
  cases r with
  | ok x w' =>
    cases x <;> simp only [Oper.upon, Oper.uponIn] at h ⊢ <;>
      first
        | exact h
        | exact ⟨no_depth, CallsIn.inRound l' (callsIn_wide.2 h)⟩
        | exact ⟨no_depth, rows_in h⟩
  | halt x w' => cases x <;> simp only [Oper.upon, Oper.uponIn] at h ⊢ <;> exact h
theorem wpOp_in {l : List Oper} {i : Nat} {K : Act → World → Prop} {a : Act} {w : World} (hnd : noDefer l = true) (hl : ∀ a w, ¬ Q .outgrown a w) (h : wpOp P l.toArray Q i K a w) : wpOpIn (Fence.wide.inRound l') n P l.toArray Q i K a w := by
  unfold wpOp at h
  unfold wpOpIn
  cases ho : l.toArray[i]? with
  | none => rw [ho] at h; exact h
  | some o =>
    rw [ho] at h
    simp only at h ⊢
    have hd := noDefer_spec hnd (i := i) (o := o) (by simpa using ho)
    by_cases hw : Region.wanted o (yielded l.toArray a.tmps) = true
    · rw [if_pos hw] at h ⊢
      rcases h with h | ⟨_, a2, w2, h⟩
      · exact oper_in hd h
      · exact (hl a2 w2 h).elim
    · rw [if_neg hw] at h ⊢
      exact ⟨fun _ _ => trivial, h⟩
theorem wpAny_in {l : List Oper} (hnd : noDefer l = true) (hl : ∀ a w, ¬ Q .outgrown a w) : ∀ (fuel : Nat) (listed : Array Bool) (a : Act) (w : World), wpAny P .any l.toArray Q fuel listed a w → wpAnyIn (Fence.wide.inRound l') n P .any l.toArray Q fuel listed a w
  | 0, _, _, _, h => h
  | fuel + 1, _, _, _, h => ⟨h.1, fun i hi => wpOpIn_mono (fun a w hk => wpAny_in hnd hl fuel _ a w hk) (wpOp_in hnd hl (h.2 i hi))⟩
end
section
variable {l : List Oper} {A : Act} {D Ps : List Nat} {c : Nat → Value} {T : Ls → (Nat → Value) → World → Prop}
theorem inv_any {Q : Exit → Act → World → Prop} {a : Act} {w : World} (J : Array Bool → Act → World → Prop) (ht : topo l = true)
    (h0 : J (Array.replicate l.length false) a w) (hs : AllSteps (StepOk P l Q J) 0 l)
    (he : ∀ listed a w, J listed a w → (∀ i, i < l.length → listed.getD i false = true) → Q .normal a w) : wpAny P .any l.toArray Q l.toArray.size (Array.replicate l.toArray.size false) a w := by
  have e : l.toArray.size = l.length := by simp
  rw [e]
  refine wpAny_inv J ht hs he _ _ _ _ (by simp) ?_ h0
  unfold left
  refine Nat.le_trans List.countP_le_length ?_
  simp
theorem core_any {Q : Exit → Act → World → Prop} {w : World} (D Ps : List Nat) (c : Nat → Value) (T : Ls → (Nat → Value) → World → Prop) (hk : okReg l D = true) (hb : ∀ d, d ∈ D → d < A.tmps.size)
    (h0 : T (fun _ => false) (fun i => A.tmps.getD i undef) w) (hs : AllSteps (StepC P l A D Ps c T) 0 l)
    (he : ∀ L u w, (∀ i, i < l.length → L i = true) → T L u w → Q .normal (FF A D Ps c u) w) : wpAny P .any l.toArray Q l.toArray.size (Array.replicate l.toArray.size false) A w := by
  unfold okReg at hk
  rw [Bool.and_eq_true, Bool.and_eq_true] at hk
  obtain ⟨ht, hk2, hk3⟩ := hk
  refine inv_any (JD l A D Ps c T) ht ⟨fun i => A.tmps.getD i undef, fun i => A.tmps.getD i undef, (fx_self A D).symm, fun _ _ => rfl, fun j oj d _ _ h3 _ => (rep_false h3).elim, ?_⟩ (all_ok hb 0 l (fun i => by rw [Nat.zero_add]) (fun o ho => List.all_eq_true.1 hk2 o ho) hs) ?_
  · have : (fun k => (Array.replicate l.length false).getD k false) = fun _ : Nat => false := by
      funext k
      cases g : (Array.replicate l.length false).getD k false with
      | false => rfl
      | true => exact (rep_false g).elim
    rw [this]
    exact h0
  · rintro listed b w ⟨x, u, rfl, hP, hc, hT⟩ hall
    have e : FX A D x = FF A D Ps c u := by
      refine act_ext (fun t => ?_) rfl
      unfold FF
      rw [fx_get, fx_get]
      by_cases hd : t ∈ D ∧ t < A.tmps.size
      · rw [if_pos hd, if_pos hd]
        congr 1
        show x t = if t ∈ Ps then u t else c t
        by_cases hp : t ∈ Ps
        · rw [if_pos hp]; exact hP t hp
        · rw [if_neg hp]
          have := List.all_eq_true.1 hk3 t hd.1
          obtain ⟨o, ho, hod⟩ := List.any_eq_true.1 this
          obtain ⟨j, hj, hjo⟩ := List.getElem_of_mem ho
          exact hc j o t (by rw [List.getElem?_eq_getElem hj, hjo]) (eq_of_beq hod) (hall j hj) hp
      · rw [if_neg hd, if_neg hd]
    rw [e]
    exact he _ u w (fun i hi => hall i hi) hT
end
/-- A region without a store, in the body of a range over a function. -/
theorem region_duty_in {id l' n : Nat} {l : List Oper} {Q : Exit → Act → World → Prop} {A : Act} {w : World} (D : List Nat) (c : Nat → Value) (hm : P.follows .mixedOrders = true) (hk : okReg l D = true) (hnd : noDefer l = true) (hl : ∀ a w, ¬ Q .outgrown a w) (hb : ∀ d, d ∈ D → d < A.tmps.size)
    (h : DutyO P l A c w Q (fun u => FF A D [] c u)) : (Code.region id l.toArray true).wpIn (Fence.wide.inRound l') n P Q A w :=
  wpIn_region_any hm (wpAny_in hnd hl _ _ _ _ (core_any D [] c (TO w) hk hb (Own.refl w).drew (allsteps_mono (fun _ _ hs => det_own hs) h.1) fun _ u w' _ hT => h.2 u w' hT))
end Go.Proofs.YtighpjhipgobiaaDoor.RegD
