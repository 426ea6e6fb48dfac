/-
  A region with operations whose values are not determined: each leaves a fact about its slot, which what waits for it knows. Nothing of the program. Condition: none.
-/
import Derived.Test.YtighpjhipgobiaaDoorRegLast
namespace Go.Proofs.YtighpjhipgobiaaDoor.RegD
open Go RegI PairW BlkW
variable {P : Program}
/-- What holds: X, and the fact of each operation that has come up (Fs: operation, slot). -/
def TF (Fs : List (Nat × Nat)) (X : World → Prop) (F : Nat → Value → World → Prop) : Ls → (Nat → Value) → World → Prop := fun L u w => X w ∧ ∀ q, q ∈ Fs → L q.1 = true → F q.2 (u q.2) w
structure StgF (X : World → Prop) (F : Nat → Value → World → Prop) : Prop where
  x : ∀ {w w'}, X w → Own w w' → X w'
  f : ∀ {p v w w'}, F p v w → Own w w' → F p v w'
/-- What an operation knows. -/
def Knows (Fs : List (Nat × Nat)) (X : World → Prop) (F : Nat → Value → World → Prop) (o : Oper) (u : Nat → Value) (w : World) : Prop :=
  X w ∧ ∀ q, q ∈ Fs → (o.after.any fun e => Region.binds .any e && (e.on == q.1)) = true → F q.2 (u q.2) w
/-- What an operation leaves whose value is not determined. -/
def FPost (A : Act) (p : Nat) (F : Nat → Value → World → Prop) (w : World) : Exit → Act → World → Prop := fun e a' w' => e = .normal ∧ a'.defers = A.defers ∧ Own w w' ∧ F p (a'.tmps.getD p undef) w'
def okFs (Fs : List (Nat × Nat)) : Bool := Fs.all fun a => Fs.all fun b => !(a.1 == b.1) || (a.2 == b.2)
section
variable {l : List Oper} {A : Act} {D Ps : List Nat} {Fs : List (Nat × Nat)} {c : Nat → Value} {i p : Nat} {X : World → Prop} {F : Nat → Value → World → Prop} {o : Oper} {G : (Nat → Value) → Act}
def StepF (P : Program) (l : List Oper) (A : Act) (Fs : List (Nat × Nat)) (Ps : List Nat) (c : Nat → Value) (X : World → Prop) (F : Nat → Value → World → Prop) (G : (Nat → Value) → Act) (o : Oper) (i : Nat) : Prop :=
  (∃ p, (i, p) ∈ Fs ∧ p ∈ Ps ∧ o.dst = some p ∧ ∀ u w, Knows Fs X F o u w → wpList P l.toArray (FPost A p F w) [o] (G u) w)
  ∨ ((∀ q, q ∈ Fs → q.1 ≠ i) ∧ (∀ d, o.dst = some d → d ∉ Ps) ∧ ∀ u w, Knows Fs X F o u w → wpList P l.toArray (DPost A o c w) [o] (G u) w)
theorem stepF_fact (p : Nat) (hm : (i, p) ∈ Fs) (hp : p ∈ Ps) (hd : o.dst = some p) (h : ∀ u w, Knows Fs X F o u w → wpList P l.toArray (FPost A p F w) [o] (G u) w) : StepF P l A Fs Ps c X F G o i := .inl ⟨p, hm, hp, hd, h⟩
theorem stepF_det (h1 : ∀ q, q ∈ Fs → q.1 ≠ i) (h2 : ∀ d, o.dst = some d → d ∉ Ps) (h : ∀ u w, Knows Fs X F o u w → wpList P l.toArray (DPost A o c w) [o] (G u) w) : StepF P l A Fs Ps c X F G o i := .inr ⟨h1, h2, h⟩
theorem stepF_c (hS : StgF X F) (hF : okFs Fs = true) (h : StepF P l A Fs Ps c X F (fun u => FF A D Ps c u) o i) : StepC P l A D Ps c (TF Fs X F) o i := by
  rintro L u w ⟨hX, hT⟩ hu hr
  have hK : Knows Fs X F o u w := by
    refine ⟨hX, fun q hq ha => hT q hq ?_⟩
    obtain ⟨e, hem, hee⟩ := Array.any_eq_true'.1 ha
    rw [Bool.and_eq_true] at hee
    have := hr e hem hee.1
    rwa [eq_of_beq hee.2] at this
  rcases h with ⟨p, hm, hp, hd, h⟩ | ⟨h1, h2, h⟩
  · refine wpList_one (fun e a' w' hq => ?_) (h u w hK)
    obtain ⟨q1, q2, q3, q4⟩ := hq
    refine ⟨q1, q2, fun d hdd hpd => ?_, ?_⟩
    · rw [hd] at hdd
      injection hdd with hdd
      exact absurd (hdd ▸ hp) hpd
    · rw [hd]
      simp only [hp, if_true]
      refine ⟨hS.x hX q3, fun q hq hL => ?_⟩
      by_cases e2 : q.2 = p
      · rw [e2, show upd u p (a'.tmps.getD p undef) p = a'.tmps.getD p undef from if_pos rfl]
        exact q4
      · have e1 : q.1 ≠ i := by
          intro e1
          have h1 := List.all_eq_true.1 (List.all_eq_true.1 hF _ hq) _ hm
          rw [Bool.or_eq_true] at h1
          rcases h1 with h1 | h1
          · rw [e1] at h1
            simp at h1
          · exact e2 (eq_of_beq h1)
        rw [setL_ne _ e1] at hL
        rw [show upd u p (a'.tmps.getD p undef) q.2 = u q.2 from if_neg e2]
        exact hS.f (hT q hq hL) q3
  · refine wpList_one (fun e a' w' hq => ?_) (h u w hK)
    obtain ⟨q1, q2, q3, q4⟩ := hq
    refine ⟨q1, q2, fun d hdd hpd => ?_, ?_⟩
    · rw [hdd] at q3; exact q3
    · rw [slots_same (Ps := Ps) h2]
      refine ⟨hS.x hX q4, fun q hq hL => ?_⟩
      rw [setL_ne _ (h1 q hq)] at hL
      exact hS.f (hT q hq hL) q4
end
def DutyF (P : Program) (l : List Oper) (A : Act) (Fs : List (Nat × Nat)) (Ps : List Nat) (c : Nat → Value) (X : World → Prop) (F : Nat → Value → World → Prop) (Q : Exit → Act → World → Prop) (G : (Nat → Value) → Act) : Prop :=
  AllSteps (StepF P l A Fs Ps c X F G) 0 l ∧ ∀ u w', X w' → (∀ q, q ∈ Fs → F q.2 (u q.2) w') → Q .normal (G u) w'
theorem region_dutyF {id : Nat} {l : List Oper} {Q : Exit → Act → World → Prop} {A : Act} {w : World} (D : List Nat) (Fs : List (Nat × Nat)) (Ps : List Nat) (c : Nat → Value) (X : World → Prop) (F : Nat → Value → World → Prop) (hm : P.follows .mixedOrders = true) (hk : okReg l D = true)
    (hi : okFs Fs = true ∧ ∀ q, q ∈ Fs → q.1 < l.length) (hb : ∀ d, d ∈ D → d < A.tmps.size) (hS : StgF X F) (h0 : X w) (h : DutyF P l A Fs Ps c X F Q (fun u => FF A D Ps c u)) : (Code.region id l.toArray true).wp P Q A w := by
  refine region_core D Ps c (TF Fs X F) hm hk hb ⟨hS.x h0 (Own.refl w).drew, fun q _ hL => absurd hL Bool.false_ne_true⟩ (allsteps_mono (fun o i hs => stepF_c hS hi.1 hs) h.1) ?_
  intro L u w' hL hT
  exact h.2 u w' hT.1 fun q hq => hT.2 q hq (hL q.1 (hi.2 q hq))
end Go.Proofs.YtighpjhipgobiaaDoor.RegD
