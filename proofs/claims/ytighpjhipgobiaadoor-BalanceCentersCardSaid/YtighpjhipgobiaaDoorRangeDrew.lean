/-
  A range over a function whose iterator draws answers from the tape between two rounds: the law for the caller, over the kit's law of the statement. Nothing of the program. Condition: none.
-/
import Derived.RangeFuncNested
import Derived.RangeFuncWrites
import Derived.RangeFuncBox
import Derived.RangeFuncLeaves
import Derived.Test.YtighpjhipgobiaaDoorPairs
namespace Go.Proofs.YtighpjhipgobiaaDoor.RanW
open Go.RowKit PairW
/-- Whatever is cells, and whatever lies below B, lies as it lay. -/
structure Stp (B : Nat) (w w' : World) : Prop where
  os : w'.os = w.os
  output : w'.output = w.output
  size : w.heap.size ≤ w'.heap.size
  same : ∀ (k : Nat) (o : Obj), w.heap[k]? = some o → o.isCells = true ∨ k < B → w'.heap[k]? = some o
theorem Stp.of_own {B : Nat} {w w' : World} (h : PairW.Own w w') : Stp B w w' := ⟨h.os, h.output, h.size, fun k _ hk _ => (h.block k (Array.getElem?_eq_some_iff.1 hk).1).trans hk⟩
theorem Stp.put {B l : Nat} {w : World} {o : Obj} (o' : Obj) (hB : B ≤ l) (hl : w.heap[l]? = some o) (ho : o.isCells = false) : Stp B w (w.putObj l o') :=
  ⟨rfl, rfl, (grownBy_putObj' w l o').size, fun k o2 hk hc => by
    by_cases e : k = l
    · subst e
      rw [hl] at hk
      injection hk with hk
      subst hk
      rcases hc with hc | hc
      · rw [ho] at hc; cases hc
      · omega
    · exact (World.putObj_heap_other e).trans hk⟩
theorem Stp.own {B : Nat} {w0 w w' : World} (q : PairW.Own w0 w) (h : Stp B w w') (hB : w0.heap.size ≤ B) : PairW.Own w0 w' :=
  ⟨h.os.trans q.os, h.output.trans q.output, Nat.le_trans q.size h.size, fun k hk => by
    have hk2 : k < w.heap.size := Nat.lt_of_lt_of_le hk q.size
    rw [← q.block k hk, h.same k _ (Array.getElem?_eq_getElem hk2) (.inr (by omega)), Array.getElem?_eq_getElem hk2]⟩
/-- What the caller says abides the iterator's own steps. -/
def Ab {β : Type} (J : β → World → Prop) : Prop := ∀ s A B, J s A → PairW.Own A B → J s B
/-- The contract of an iterator's value: the rounds that go on keep Kp. -/
def SeqD {α : Type} (F : Fence) (n : Nat) (P : Program) (g : Nat) (lb : Array Value) (encs : α → Array Value) (Kp : World → World → Prop) (S Sp : List α → Prop) (N : Nat) (w : World) : Prop :=
  ∀ (l : Nat) (J Jx : List α → World → Prop) (W : World), PairW.Own w W → Ab J → Ab Jx →
    (∀ pre x W1, J pre W1 → pre.length < N → YieldAt F (n - 1) P l (encs x) W1 fun e W' =>
      (e = .returned (.bool true) ∧ J (pre ++ [x]) W' ∧ Kp W1 W') ∨ (e = .returned (.bool false) ∧ Jx (pre ++ [x]) W')) →
    J [] W →
    CallsIn F n P g (#[.func (.yield l) #[] #[]] ++ lb) W fun e W' => (∃ v, e = .returned v) ∧ ((∃ xs, S xs ∧ J xs W') ∨ (∃ pre, Sp pre ∧ Jx pre W'))
/-! ### The loop's record -/
section
variable {P : Program} {fn : FuncId} {tmps : Array Value} {ps : Array Tmp} {assign body : Code} {D : Nat} {st : LoopState} {pe : Option Code} {W W' : World}
def recOf (fn : FuncId) (tmps : Array Value) (ps : Array Tmp) (assign body : Code) (D : Nat) (st : LoopState) (pe : Option Code) : Loop :=
  { state := st, pending := pe, fn, tmps, params := ps, assign, body, defers := D }
/-- The record lies at D + 1, in its state; the block for the rounds' deferred calls lies at D, empty. -/
structure Lp (fn : FuncId) (tmps : Array Value) (ps : Array Tmp) (assign body : Code) (D : Nat) (st : LoopState) (pe : Option Code) (W : World) : Prop where
  loop : W.heap[D + 1]? = some (.loop (recOf fn tmps ps assign body D st pe))
  dfr : W.heap[D]? = some (.deferred (some []))
theorem Lp.own (h : Lp fn tmps ps assign body D st pe W) (q : PairW.Own W W') : Lp fn tmps ps assign body D st pe W' :=
  ⟨(q.block _ (Array.getElem?_eq_some_iff.1 h.loop).1).trans h.loop, (q.block _ (Array.getElem?_eq_some_iff.1 h.dfr).1).trans h.dfr⟩
theorem Lp.round (h : Lp fn tmps ps assign body D st pe W) (q : KeepsFrom D W W') : Lp fn tmps ps assign body D st pe W' :=
  ⟨q.same _ _ (Nat.le_succ D) h.loop rfl, q.same _ _ (Nat.le_refl D) h.dfr rfl⟩
/-- The record in another state. -/
theorem Lp.turn (h : Lp fn tmps ps assign body D st pe W) (s2 : LoopState) (p2 : Option Code) :
    Lp fn tmps ps assign body D s2 p2 (W.putObj (D + 1) (.loop (recOf fn tmps ps assign body D s2 p2))) ∧ Stp D W (W.putObj (D + 1) (.loop (recOf fn tmps ps assign body D s2 p2))) :=
  ⟨⟨World.putObj_heap_same (Array.getElem?_eq_some_iff.1 h.loop).1, (World.putObj_heap_other (by omega)).trans h.dfr⟩, Stp.put _ (by omega) h.loop rfl⟩
theorem Lp.begun (h : Lp fn tmps ps assign body D .ready pe W) : (Instr.beginRound (D + 1)).run P W = .ok () (W.putObj (D + 1) (.loop (recOf fn tmps ps assign body D .busy pe))) := run_beginRound h.loop rfl
theorem Lp.ended (h : Lp fn tmps ps assign body D st pe W) (jump : Option Code) :
    (Instr.endRound (D + 1) jump).run P W = .ok (.bool jump.isNone) (W.putObj (D + 1) (.loop (recOf fn tmps ps assign body D (if jump.isNone then .ready else .done) jump))) := run_endRound jump h.loop
theorem Lp.over (h : Lp fn tmps ps assign body D st pe W) (hb : st ≠ .busy) : (Instr.endLoop (D + 1)).run P W = .ok pe (W.putObj (D + 1) (.loop (recOf fn tmps ps assign body D .exhausted pe))) := run_endLoop h.loop hb
theorem Lp.yields (h : Lp fn tmps ps assign body D st pe W) {args : Array Value} (hs : args.size = ps.size) :
    (Instr.yield (D + 1) args).run P W = .ok (.round (D + 1) fn ((ps.zip args).foldl (fun t (p, v) => t.setIfInBounds p v) tmps) assign body) W := run_yield h.loop hs
theorem lp_start (w : World) : ∃ W1, (Instr.enterLoop fn tmps ps assign body none).run P w = .ok (w.heap.size + 1, [{ target := .collected w.heap.size, args := #[] }]) W1 ∧ Lp fn tmps ps assign body w.heap.size .ready none W1 ∧ PairW.Own w W1 := by
  refine ⟨_, run_enterLoop_outer fn tmps ps assign body, ⟨?_, ?_⟩, ((Own.refl w).alloc _).alloc _⟩
  · have := World.alloc_heap_new (w.alloc (.deferred (some []))) (.loop (recOf fn tmps ps assign body w.heap.size .ready none))
    rwa [World.size_alloc] at this
  · exact (((Own.refl (w.alloc (.deferred (some [])))).alloc _).block _ (by rw [World.size_alloc]; omega)).trans (World.alloc_heap_new w _)
end
variable {F : Fence} {n : Nat} {P : Program}
/-- The statement, over a contract of the iterator: I is what the caller's own cells hold between two rounds, Ix what they hold where a round has left by a jump. -/
theorem wpIn_rangeFunc_D {α : Type} {g : Operand} {ps : Array Tmp} {assign body : Code} {Q : Exit → Act → World → Prop} {a : Act} {w : World}
    (hro : F.round = none) (h1 : 1 ≤ n) {gf : Nat} {lb : Array Value} (hg : a.eval g = .func (.func gf) #[] lb) (hFg : F.fn gf) (eg : ∀ args w, (callFunc gf args).run P w = .ok (.enter gf args) w)
    {encs : α → Array Value} {Kp : World → World → Prop} {S Sp : List α → Prop} {N : Nat} (hseq : SeqD F (n - 1) P gf lb encs Kp S Sp N w)
    (hKt : ∀ {A B C : World}, Kp A B → Kp B C → Kp A C) (hKb : ∀ {A B : World}, Stp w.heap.size A B → Kp A B) (hps : ∀ x, (encs x).size = ps.size)
    (I : List α → World → Prop) (Ix : Code → List α → World → Prop) (hI : ∀ {s A B}, I s A → Stp w.heap.size A B → I s B) (hIx : ∀ {c s A B}, Ix c s A → Stp w.heap.size A B → Ix c s B) (h0 : I [] w) (a₁ : α → Act)
    (hassign : ∀ (l : Nat) (x : α) (W : World) (K : Act → World → Prop), K (a₁ x) W →
      assign.wpIn (F.inRound l) (n - 1 - 1) P (Exit.then K (fun _ _ _ => False)) { tmps := (ps.zip (encs x)).foldl (fun t (p, v) => t.setIfInBounds p v) a.tmps, defers := [] } W)
    (hbody : ∀ (l : Nat) (pre : List α) (x : α) (W : World), I pre W → pre.length < N → body.wpIn (F.inRound l) (n - 1 - 1) P (ownPostG w.heap.size Kp I Ix (pre ++ [x]) W) (a₁ x) W)
    (hdone : ∀ (D : Nat) (xs : List α) (W : World), w.heap.size ≤ D → S xs → I xs W → W.heap[D]? = some (.deferred (some [])) → Q .normal { a with defers := { target := .collected D, args := #[] } :: a.defers } W)
    (hstop : ∀ (D : Nat) (c : Code) (pre : List α) (W : World), w.heap.size ≤ D → Sp pre → Ix c pre W → W.heap[D]? = some (.deferred (some [])) → c.wpIn F n P Q { a with defers := { target := .collected D, args := #[] } :: a.defers } W) :
    (Code.rangeFunc g ps assign body).wpIn F n P Q a w := by
  refine wpIn_rangeFunc fun fn hfn => ?_
  obtain ⟨W1, he, hL, hO⟩ := lp_start (P := P) (fn := fn) (tmps := a.tmps) (ps := ps) (assign := assign) (body := body) w
  refine ⟨_, _, W1, { target := .fn (.func gf) lb, args := #[.func (.yield (w.heap.size + 1)) #[] #[]] }, W1, gf, #[.func (.yield (w.heap.size + 1)) #[] #[]] ++ lb, W1, by rw [hro]; exact he, ?_, fun f' hf' => ?_, ?_, fun _ => h1, ?_⟩
  · simp only [resolve, hg]
    simp [go_sem]
  · simp [Target.leads] at hf'
    exact hf' ▸ hFg
  · simp [invoke, go_sem, eg]
  refine (hseq (w.heap.size + 1) (fun s W => I s W ∧ Lp fn a.tmps ps assign body w.heap.size .ready none W) (fun s W => ∃ c, Ix c s W ∧ Lp fn a.tmps ps assign body w.heap.size .done (some c) W) W1 hO
    (fun s A B h q => ⟨hI h.1 (.of_own q), h.2.own q⟩) (fun s A B ⟨c, h, k⟩ q => ⟨c, hIx h (.of_own q), k.own q⟩) ?_ ⟨hI h0 (.of_own hO), hL⟩).mono ?_
  · intro pre x W ⟨hi, hl⟩ hlen
    obtain ⟨hb, sb⟩ := hl.turn .busy none
    refine ⟨fn, _, assign, body, hl.yields (hps x), roundIn_of_wpIn hfn (hassign _ x W _ ⟨_, hl.begun, wpIn_mono (hbody _ pre x _ (hI hi sb) hlen) ?_⟩)⟩
    have out : ∀ (c : Code) (W3 : World), KeepsFrom w.heap.size _ W3 → Ix c (pre ++ [x]) W3 → ∃ v w', (Instr.endRound (w.heap.size + 1) (some c)).run P W3 = .ok v w' ∧ ((Ending.returned v = .returned (.bool true) ∧ (I (pre ++ [x]) w' ∧ Lp fn a.tmps ps assign body w.heap.size .ready none w') ∧ Kp W w') ∨ (Ending.returned v = .returned (.bool false) ∧ ∃ c, Ix c (pre ++ [x]) w' ∧ Lp fn a.tmps ps assign body w.heap.size .done (some c) w')) := fun c W3 hk hi3 => by
      obtain ⟨ht, st⟩ := (hb.round hk).turn .done (some c)
      exact ⟨_, _, (hb.round hk).ended (some c), .inr ⟨rfl, c, hIx hi3 st, ht⟩⟩
    rintro (_ | _ | _ | _ | _ | _) a3 W3 hp
    · obtain ⟨hk, hkp, hi3⟩ := hp
      obtain ⟨ht, st⟩ := (hb.round hk).turn .ready none
      exact ⟨_, _, (hb.round hk).ended none, .inl ⟨rfl, ⟨hI hi3 st, ht⟩, hKt (hKb sb) (hKt hkp (hKb st))⟩⟩
    all_goals first | exact out _ _ hp.1 hp.2 | exact hp.elim
  · rintro e W2 ⟨⟨v, rfl⟩, ⟨xs, hS, hi, hl⟩ | ⟨pre, hSp, c, hi, hl⟩⟩
    · obtain ⟨ht, st⟩ := hl.turn .exhausted none
      exact ⟨none, _, hl.over (by decide), hdone _ xs _ (Nat.le_refl _) hS (hI hi st) ht.dfr⟩
    · obtain ⟨ht, st⟩ := hl.turn .exhausted (some c)
      exact ⟨some c, _, hl.over (by decide), hstop _ c pre _ (Nat.le_refl _) hSp (hIx hi st) ht.dfr⟩
end Go.Proofs.YtighpjhipgobiaaDoor.RanW
