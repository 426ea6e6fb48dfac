/-
  A range over a function whose iterator draws answers from the tape between two rounds, and whose loop variables lie in boxes: the law for the caller. Nothing of the program. Condition: none.
-/
import Derived.Test.YtlepcahangkmiaaRangeDrew
namespace Go.Proofs.Ytlepcahangkmiaa.RanW
open Go.RowKit PairW
variable {F : Fence} {n : Nat} {P : Program}
/-- As wpIn_rangeFunc_D, where the assignment to the loop's variables makes memory (they lie in boxes): Ax says what the round's variables are. -/
theorem wpIn_rangeFunc_Dx {α : Type} {g : Operand} {ps : Array Tmp} {assign body : Code} {Q : Exit → Act → World → Prop} {a : Act} {w : World}
    (hro : F.round = none) (h1 : 1 ≤ n) {gf : Nat} {lb : Array Value} (hg : a.eval g = .func (.func gf) #[] lb) (hFg : F.fn gf) (eg : ∀ args w, (callFunc gf args).run P w = .ok (.enter gf args) w)
    {encs : α → Array Value} {Kp : World → World → Prop} {S Sp : List α → Prop} {N : Nat} (hseq : SeqD F (n - 1) P gf lb encs Kp S Sp N w)
    (hKt : ∀ {A B C : World}, Kp A B → Kp B C → Kp A C) (hKb : ∀ {A B : World}, Stp w.heap.size A B → Kp A B) (hps : ∀ x, (encs x).size = ps.size)
    (I : List α → World → Prop) (Ix : Code → List α → World → Prop) (hI : ∀ {s A B}, I s A → Stp w.heap.size A B → I s B) (hIx : ∀ {c s A B}, Ix c s A → Stp w.heap.size A B → Ix c s B) (h0 : I [] w) (Ax : α → Act → World → Prop) (hAx : ∀ {x a A B}, Ax x a A → Stp w.heap.size A B → Ax x a B)
    (hassign : ∀ (l : Nat) (x : α) (W : World) (K : Act → World → Prop), (∀ a₁ W₁, PairW.Own W W₁ → Ax x a₁ W₁ → K a₁ W₁) →
      assign.wpIn (F.inRound l) (n - 1 - 1) P (Exit.then K (fun _ _ _ => False)) { tmps := (ps.zip (encs x)).foldl (fun t (p, v) => t.setIfInBounds p v) a.tmps, defers := [] } W)
    (hbody : ∀ (l : Nat) (pre : List α) (x : α) (a₁ : Act) (W : World), I pre W → pre.length < N → Ax x a₁ W → body.wpIn (F.inRound l) (n - 1 - 1) P (ownPostG w.heap.size Kp I Ix (pre ++ [x]) W) a₁ W)
    (hdone : ∀ (D : Nat) (xs : List α) (W : World), w.heap.size ≤ D → S xs → I xs W → W.heap[D]? = some (.deferred (some [])) → Q .normal { a with defers := { target := .collected D, args := #[] } :: a.defers } W)
    (hstop : ∀ (D : Nat) (c : Code) (pre : List α) (W : World), w.heap.size ≤ D → Sp pre → Ix c pre W → W.heap[D]? = some (.deferred (some [])) → c.wpIn F n P Q { a with defers := { target := .collected D, args := #[] } :: a.defers } W) :
    (Code.rangeFunc g ps assign body).wpIn F n P Q a w := by
  refine wpIn_rangeFunc fun fn hfn => ?_
  obtain ⟨W1, he, hL, hO⟩ := lp_start (P := P) (fn := fn) (tmps := a.tmps) (ps := ps) (assign := assign) (body := body) w
  refine ⟨_, _, W1, { target := .fn (.func gf) lb, args := #[.func (.yield (w.heap.size + 1)) #[] #[]] }, W1, gf, #[.func (.yield (w.heap.size + 1)) #[] #[]] ++ lb, W1, by rw [hro]; exact he, ?_, fun f' hf' => ?_, ?_, fun _ => h1, ?_⟩
  · simp only [resolve, hg]
    simp [go_sem]
  · simp [Target.leads] at hf'
    exact hf' ▸ hFg
  · simp [invoke, go_sem, eg]
  refine (hseq (w.heap.size + 1) (fun s W => I s W ∧ Lp fn a.tmps ps assign body w.heap.size .ready none W) (fun s W => ∃ c, Ix c s W ∧ Lp fn a.tmps ps assign body w.heap.size .done (some c) W) W1 hO
    (fun s A B h q => ⟨hI h.1 (.of_own q), h.2.own q⟩) (fun s A B ⟨c, h, k⟩ q => ⟨c, hIx h (.of_own q), k.own q⟩) ?_ ⟨hI h0 (.of_own hO), hL⟩).mono ?_
  · intro pre x W ⟨hi, hl⟩ hlen
    refine ⟨fn, _, assign, body, hl.yields (hps x), roundIn_of_wpIn hfn (hassign _ x W _ fun a1 W1 hO1 hA1 => ?_)⟩
    have hl1 := hl.own hO1
    obtain ⟨hb, sb⟩ := hl1.turn .busy none
    refine ⟨_, hl1.begun, wpIn_mono (hbody _ pre x a1 _ (hI (hI hi (.of_own hO1)) sb) hlen (hAx hA1 sb)) ?_⟩
    have out : ∀ (c : Code) (W3 : World), KeepsFrom w.heap.size _ W3 → Ix c (pre ++ [x]) W3 → ∃ v w', (Instr.endRound (w.heap.size + 1) (some c)).run P W3 = .ok v w' ∧ ((Ending.returned v = .returned (.bool true) ∧ (I (pre ++ [x]) w' ∧ Lp fn a.tmps ps assign body w.heap.size .ready none w') ∧ Kp W w') ∨ (Ending.returned v = .returned (.bool false) ∧ ∃ c, Ix c (pre ++ [x]) w' ∧ Lp fn a.tmps ps assign body w.heap.size .done (some c) w')) := fun c W3 hk hi3 => by
      obtain ⟨ht, st⟩ := (hb.round hk).turn .done (some c)
      exact ⟨_, _, (hb.round hk).ended (some c), .inr ⟨rfl, c, hIx hi3 st, ht⟩⟩
    rintro (_ | _ | _ | _ | _ | _) a3 W3 hp
    · obtain ⟨hk, hkp, hi3⟩ := hp
      obtain ⟨ht, st⟩ := (hb.round hk).turn .ready none
      exact ⟨_, _, (hb.round hk).ended none, .inl ⟨rfl, ⟨hI hi3 st, ht⟩, hKt (hKb (.of_own hO1)) (hKt (hKb sb) (hKt hkp (hKb st)))⟩⟩
    all_goals first | exact out _ _ hp.1 hp.2 | exact hp.elim
  · rintro e W2 ⟨⟨v, rfl⟩, ⟨xs, hS, hi, hl⟩ | ⟨pre, hSp, c, hi, hl⟩⟩
    · obtain ⟨ht, st⟩ := hl.turn .exhausted none
      exact ⟨none, _, hl.over (by decide), hdone _ xs _ (Nat.le_refl _) hS (hI hi st) ht.dfr⟩
    · obtain ⟨ht, st⟩ := hl.turn .exhausted (some c)
      exact ⟨some c, _, hl.over (by decide), hstop _ c pre _ (Nat.le_refl _) hSp (hIx hi st) ht.dfr⟩
end Go.Proofs.Ytlepcahangkmiaa.RanW
