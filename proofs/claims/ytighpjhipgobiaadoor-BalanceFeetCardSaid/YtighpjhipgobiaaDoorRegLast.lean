/-
  Regions of determined values whose last operation waits for all others (it may store into a slot that others read: 'x = append(x, ..)', 'x = x + ..'); and regions with one or two operations that turn memory one after the other. Nothing of the program. Condition: none.
-/
import Derived.Test.YtighpjhipgobiaaDoorRegBase
namespace Go.Proofs.YtighpjhipgobiaaDoor.RegD
open Go RegI PairW BlkW
variable {P : Program}
/-! ### The last operation waits for all others -/
def lastAll (l : List Oper) : Bool := (l.drop (l.length - 1)).all fun o => (List.range (l.length - 1)).all fun i => o.after.any fun e => Region.binds .any e && (e.on == i)
def okRegL (l : List Oper) (D : List Nat) : Bool := decide (1 ≤ l.length) && (topo l && (l.dropLast.all (okOper l D) && ((D.all fun d => l.dropLast.any fun o => o.dst == some d) && lastAll l)))
section
variable {l : List Oper} {A : Act} {D Ps : List Nat} {c : Nat → Value} {T : Ls → (Nat → Value) → World → Prop}
/-- What holds: the last one has not come up, or all have. -/
def JL (l : List Oper) (A : Act) (D Ps : List Nat) (c : Nat → Value) (T : Ls → (Nat → Value) → World → Prop) (Q : Exit → Act → World → Prop) (listed : Array Bool) (b : Act) (w : World) : Prop :=
  (listed.getD (l.length - 1) false = false ∧ JD l A D Ps c T listed b w) ∨ ((∀ i, i < l.length → listed.getD i false = true) ∧ Q .normal b w)
theorem wpOp_mono' {ls : Array Oper} {Q : Exit → Act → World → Prop} {i : Nat} {K K' : Act → World → Prop} {a : Act} {w : World} (h : ∀ a w, K a w → K' a w) (hh : wpOp P ls Q i K a w) : wpOp P ls Q i K' a w := wpOp_mono h hh
theorem wpOp_last {ls : Array Oper} {Q : Exit → Act → World → Prop} {i : Nat} {o : Oper} {K : Act → World → Prop} {a : Act} {w : World} (ho : ls[i]? = some o) (hK : ∀ a' w', Q .normal a' w' → K a' w') (h : wpList P ls Q [o] a w) : wpOp P ls Q i K a w := by
  refine wpOp_mono hK ?_
  unfold wpOp
  simp only [ho]
  unfold wpList at h
  exact h
theorem steps_drop {f : Oper → Nat → Prop} : ∀ {k : Nat} {l : List Oper}, AllSteps f k l.dropLast → ∀ i o, i + 1 < l.length → l[i]? = some o → f o (k + i) := by
  intro k l h i o hi ho
  refine h.get i o ?_
  rw [List.getElem?_dropLast, if_pos (by omega)]
  exact ho
theorem all_of_steps {f : Oper → Nat → Prop} : ∀ (k : Nat) (m l : List Oper), (∀ i, m[i]? = l[k + i]?) → (∀ i o, l[i]? = some o → f o i) → AllSteps f k m
  | _, [], _, _, _ => trivial
  | k, o :: m, l, hm, h => by
    refine ⟨h k o ?_, all_of_steps (k + 1) m l (fun i => ?_) h⟩
    · have := hm 0
      simpa using this.symm
    · have := hm (i + 1)
      rw [show k + 1 + i = k + (i + 1) by omega]
      simpa using this
theorem region_coreL {id : Nat} {Q : Exit → Act → World → Prop} {w : World} (D Ps : List Nat) (c : Nat → Value) (T : Ls → (Nat → Value) → World → Prop) (hm : P.follows .mixedOrders = true) (hk : okRegL l D = true) (hb : ∀ d, d ∈ D → d < A.tmps.size)
    (h0 : T (fun _ => false) (fun i => A.tmps.getD i undef) w.drew) (hs : AllSteps (StepC P l A D Ps c T) 0 l.dropLast)
    (he : ∀ L u w, (∀ i, i + 1 < l.length → L i = true) → T L u w → wpList P l.toArray Q (l.drop (l.length - 1)) (FF A D Ps c u) w) : (Code.region id l.toArray true).wp P Q A w := by
  unfold okRegL at hk
  rw [Bool.and_eq_true, Bool.and_eq_true, Bool.and_eq_true, Bool.and_eq_true, decide_eq_true_eq] at hk
  obtain ⟨hl, ht, hk2, hk3, hk4⟩ := hk
  obtain ⟨o, ho⟩ : ∃ o, l[l.length - 1]? = some o := ⟨l[l.length - 1]'(by omega), List.getElem?_eq_getElem (by omega)⟩
  have hdrop : l.drop (l.length - 1) = [o] := by
    have h1 : l.length - 1 < l.length := by omega
    rw [List.drop_eq_getElem_cons h1, List.drop_eq_nil_of_le (by omega)]
    rw [List.getElem?_eq_getElem h1] at ho
    rw [Option.some.inj ho]
  rw [hdrop] at he
  have hwait : ∀ i, i + 1 < l.length → ∃ e ∈ o.after, Region.binds .any e = true ∧ e.on = i := by
    intro i hi
    unfold lastAll at hk4
    rw [hdrop] at hk4
    have h1 := List.all_eq_true.1 hk4 o (List.mem_singleton.2 rfl)
    have h2 := List.all_eq_true.1 h1 i (List.mem_range.2 (by omega))
    obtain ⟨e, hem, hee⟩ := Array.any_eq_true'.1 h2
    rw [Bool.and_eq_true] at hee
    exact ⟨e, hem, hee.1, eq_of_beq hee.2⟩
  refine region_inv (JL l A D Ps c T Q) hm ht (.inl ⟨?_, fun i => A.tmps.getD i undef, fun i => A.tmps.getD i undef, (fx_self A D).symm, fun _ _ => rfl, fun j oj d _ _ h3 _ => (rep_false h3).elim, ?_⟩) (all_of_steps 0 l l (fun i => by rw [Nat.zero_add]) fun i oi hoi => ?_) ?_
  · cases g : (Array.replicate l.length false).getD (l.length - 1) false with
    | false => rfl
    | true => exact (rep_false g).elim
  · have : (fun k => (Array.replicate l.length false).getD k false) = fun _ : Nat => false := by
      funext k
      cases g : (Array.replicate l.length false).getD k false with
      | false => rfl
      | true => exact (rep_false g).elim
    rw [this]
    exact h0
  · have hil : i < l.length := (List.getElem?_eq_some_iff.1 hoi).1
    by_cases hlast : i + 1 < l.length
    · have hst := steps_drop hs i oi hlast hoi
      rw [Nat.zero_add] at hst
      have hok : okOper l D oi = true := List.all_eq_true.1 hk2 oi (by
        have : l.dropLast[i]? = some oi := by rw [List.getElem?_dropLast, if_pos (by omega)]; exact hoi
        exact List.mem_of_getElem? this)
      have hso := step_ok (Q := Q) hb hoi hok hst
      rintro listed b w1 hsz (⟨hn, hj⟩ | ⟨hall, -⟩) hu hr
      · refine wpOp_mono (fun a' w' hj' => .inl ⟨?_, hj'⟩) (hso listed b w1 hsz hj hu hr)
        rw [Array.getD_eq_getD_getElem?, Array.getElem?_setIfInBounds_ne (by omega), ← Array.getD_eq_getD_getElem?]
        exact hn
      · exact (gd_no hu (hall i hil)).elim
    · have hi : i = l.length - 1 := by omega
      subst hi
      rw [ho] at hoi
      obtain rfl := Option.some.inj hoi
      rintro listed b w1 hsz (⟨hn, hj⟩ | ⟨hall, -⟩) hu hr
      · have hothers : ∀ j, j + 1 < l.length → listed.getD j false = true := fun j hj => by
          obtain ⟨e, hem, hb1, rfl⟩ := hwait j hj
          exact hr e hem hb1
        obtain ⟨x, u, rfl, hP, hc, hT⟩ := hj
        have e : FX A D x = FF A D Ps c u := by
          refine act_ext (fun t => ?_) rfl
          unfold FF
          rw [fx_get, fx_get]
          by_cases hd : t ∈ D ∧ t < A.tmps.size
          · rw [if_pos hd, if_pos hd]
            congr 1
            show x t = if t ∈ Ps then u t else c t
            by_cases hp : t ∈ Ps
            · rw [if_pos hp]; exact hP t hp
            · rw [if_neg hp]
              have := List.all_eq_true.1 hk3 t hd.1
              obtain ⟨o1, ho1, hod⟩ := List.any_eq_true.1 this
              obtain ⟨j, hj, hjo⟩ := List.getElem_of_mem ho1
              have hj1 : j + 1 < l.length := by rw [List.length_dropLast] at hj; omega
              have hoj : l[j]? = some o1 := by
                have : l.dropLast[j]? = some o1 := by rw [List.getElem?_eq_getElem hj, hjo]
                rw [List.getElem?_dropLast, if_pos (by omega)] at this
                exact this
              exact hc j o1 t hoj (eq_of_beq hod) (hothers j hj1) hp
          · rw [if_neg hd, if_neg hd]
        rw [e]
        have hw := he _ u w1 (fun j hj => hothers j hj) hT
        refine wpOp_last (by simpa using ho) (fun a' w' hq => .inr ⟨fun j hj => ?_, hq⟩) hw
        by_cases ej : j = l.length - 1
        · rw [ej, Array.getD_eq_getD_getElem?]
          simp [show l.length - 1 < listed.size by omega]
        · rw [Array.getD_eq_getD_getElem?, Array.getElem?_setIfInBounds_ne (by omega), ← Array.getD_eq_getD_getElem?]
          exact hothers j (by omega)
      · exact (gd_no hu (hall _ hil)).elim
  · rintro listed b w1 (⟨hn, -⟩ | ⟨-, hq⟩) hall
    · rw [hall (l.length - 1) (by omega)] at hn
      cases hn
    · exact hq
end
/-! ### Memory is turned by two operations, one after the other -/
/-- Before the first, behind it, behind both; whatever keeps memory keeps each. -/
structure Stg (X : World → Prop) (R0 : World → Prop) (R1 R2 : Value → World → Prop) : Prop where
  o0 : ∀ {w}, R0 w → X w
  o1 : ∀ {v w}, R1 v w → X w
  o2 : ∀ {v w}, R2 v w → X w
  k0 : ∀ {w w'}, R0 w → Own w w' → R0 w'
  k1 : ∀ {v w w'}, R1 v w → Own w w' → R1 v w'
  k2 : ∀ {v w w'}, R2 v w → Own w w' → R2 v w'
def TS (i1 i2 p1 p2 : Nat) (R0 : World → Prop) (R1 R2 : Value → World → Prop) : Ls → (Nat → Value) → World → Prop := fun L u w =>
  (L i2 = true → L i1 = true) ∧ (L i2 = true → R2 (u p2) w) ∧ (L i2 = false → L i1 = true → R1 (u p1) w) ∧ (L i1 = false → R0 w)
section
variable {l : List Oper} {A : Act} {D : List Nat} {c : Nat → Value} {i1 i2 p1 p2 i : Nat} {X : World → Prop} {R0 : World → Prop} {R1 R2 : Value → World → Prop} {o : Oper}
/-- What an operation leaves that turns memory. -/
def VPost (A : Act) (p : Nat) (R : Value → World → Prop) : Exit → Act → World → Prop := fun e a' w' => e = .normal ∧ a'.defers = A.defers ∧ R (a'.tmps.getD p undef) w'
theorem ts_own (hS : Stg X R0 R1 R2) {L : Ls} {u : Nat → Value} {w : World} (h : TS i1 i2 p1 p2 R0 R1 R2 L u w) : X w := by
  obtain ⟨h1, h2, h3, h4⟩ := h
  cases e1 : L i1 with
  | false => exact hS.o0 (h4 e1)
  | true =>
    cases e2 : L i2 with
    | false => exact hS.o1 (h3 e2 e1)
    | true => exact hS.o2 (h2 e2)
theorem ts_keep (hS : Stg X R0 R1 R2) {L : Ls} {u : Nat → Value} {w w' : World} (h : TS i1 i2 p1 p2 R0 R1 R2 L u w) (hO : Own w w') : TS i1 i2 p1 p2 R0 R1 R2 L u w' :=
  ⟨h.1, fun e => hS.k2 (h.2.1 e) hO, fun e e' => hS.k1 (h.2.2.1 e e') hO, fun e => hS.k0 (h.2.2.2 e) hO⟩
theorem ts_start {u : Nat → Value} {w : World} (h : R0 w) : TS i1 i2 p1 p2 R0 R1 R2 (fun _ => false) u w := ⟨fun e => absurd e Bool.false_ne_true, fun e => absurd e Bool.false_ne_true, fun _ e => absurd e Bool.false_ne_true, fun _ => h⟩
/-- One operation's duty. -/
def StepS (P : Program) (l : List Oper) (A : Act) (i1 i2 p1 p2 : Nat) (c : Nat → Value) (X : World → Prop) (R0 : World → Prop) (R1 R2 : Value → World → Prop) (G : (Nat → Value) → Act) (o : Oper) (i : Nat) : Prop :=
  if i = i1 then o.dst = some p1 ∧ ∀ u w, R0 w → wpList P l.toArray (VPost A p1 R1) [o] (G u) w
    else if i = i2 then o.dst = some p2 ∧ (o.after.any fun e => Region.binds .any e && (e.on == i1)) = true ∧ ∀ u w, R1 (u p1) w → wpList P l.toArray (VPost A p2 R2) [o] (G u) w
    else (o.dst ≠ some p1 ∧ o.dst ≠ some p2) ∧ ∀ u w, X w → wpList P l.toArray (DPost A o c w) [o] (G u) w
theorem stepS_c (hS : Stg X R0 R1 R2) (hne : i1 ≠ i2) (h : StepS P l A i1 i2 p1 p2 c X R0 R1 R2 (fun u => FF A D [p1, p2] c u) o i) : StepC P l A D [p1, p2] c (TS i1 i2 p1 p2 R0 R1 R2) o i := by
  unfold StepS at h
  rintro L u w hT hu hr
  by_cases h1 : i = i1
  · subst h1
    rw [if_pos rfl] at h
    obtain ⟨hd, h⟩ := h
    have hn : L i2 = false := by
      cases e : L i2 with
      | false => rfl
      | true => rw [hT.1 e] at hu; cases hu
    refine wpList_one (fun e a' w' hq => ?_) (h u w (hT.2.2.2 hu))
    obtain ⟨q1, q2, q3⟩ := hq
    refine ⟨q1, q2, fun d hdd hpd => ?_, ?_⟩
    · rw [hd] at hdd
      injection hdd with hdd
      exact absurd (hdd ▸ List.mem_cons_self ..) hpd
    · rw [hd]
      simp only [List.mem_cons, true_or, if_true]
      refine ⟨fun e => ?_, fun e => ?_, fun _ _ => ?_, fun e => ?_⟩
      · rw [setL_self]
      · rw [setL_ne _ (Ne.symm hne), hn] at e; cases e
      · rw [show upd u p1 (a'.tmps.getD p1 undef) p1 = a'.tmps.getD p1 undef from if_pos rfl]
        exact q3
      · rw [setL_self] at e; cases e
  · rw [if_neg h1] at h
    by_cases h2 : i = i2
    · subst h2
      rw [if_pos rfl] at h
      obtain ⟨hd, ha, h⟩ := h
      obtain ⟨e, hem, hee⟩ := Array.any_eq_true'.1 ha
      rw [Bool.and_eq_true] at hee
      have hy : L i1 = true := by
        have := hr e hem hee.1
        rwa [eq_of_beq hee.2] at this
      refine wpList_one (fun e a' w' hq => ?_) (h u w (hT.2.2.1 hu hy))
      obtain ⟨q1, q2, q3⟩ := hq
      refine ⟨q1, q2, fun d hdd hpd => ?_, ?_⟩
      · rw [hd] at hdd
        injection hdd with hdd
        exact absurd (hdd ▸ List.mem_cons_of_mem _ (List.mem_cons_self ..)) hpd
      · rw [hd]
        simp only [List.mem_cons, true_or, or_true, if_true]
        refine ⟨fun _ => ?_, fun _ => ?_, fun e => ?_, fun e => ?_⟩
        · rw [setL_ne _ hne]; exact hy
        · rw [show upd u p2 (a'.tmps.getD p2 undef) p2 = a'.tmps.getD p2 undef from if_pos rfl]
          exact q3
        · rw [setL_self] at e; cases e
        · rw [setL_ne _ hne, hy] at e; cases e
    · rw [if_neg h2] at h
      obtain ⟨⟨n1, n2⟩, h⟩ := h
      refine wpList_one (fun e a' w' hq => ?_) (h u w (ts_own hS hT))
      obtain ⟨q1, q2, q3, q4⟩ := hq
      have hT' := ts_keep hS hT q4
      refine ⟨q1, q2, fun d hdd hpd => ?_, ?_⟩
      · rw [hdd] at q3; exact q3
      · rw [slots_same (Ps := [p1, p2]) fun d hdd => by
          intro hm
          rcases List.mem_cons.1 hm with e | hm
          · exact n1 (e ▸ hdd)
          · exact n2 (List.mem_singleton.1 hm ▸ hdd)]
        refine ⟨?_, ?_, ?_, ?_⟩
        · rw [setL_ne _ (Ne.symm h2), setL_ne _ (Ne.symm h1)]; exact hT'.1
        · rw [setL_ne _ (Ne.symm h2)]; exact hT'.2.1
        · rw [setL_ne _ (Ne.symm h2), setL_ne _ (Ne.symm h1)]; exact hT'.2.2.1
        · rw [setL_ne _ (Ne.symm h1)]; exact hT'.2.2.2
end
theorem stepS_1 {l : List Oper} {A : Act} {i1 i2 p1 p2 : Nat} {c : Nat → Value} {X : World → Prop} {R0 : World → Prop} {R1 R2 : Value → World → Prop} {G : (Nat → Value) → Act} {o : Oper} (hd : o.dst = some p1) (h : ∀ u w, R0 w → wpList P l.toArray (VPost A p1 R1) [o] (G u) w) : StepS P l A i1 i2 p1 p2 c X R0 R1 R2 G o i1 := by
  unfold StepS; rw [if_pos rfl]; exact ⟨hd, h⟩
theorem stepS_2 {l : List Oper} {A : Act} {i1 i2 p1 p2 : Nat} {c : Nat → Value} {X : World → Prop} {R0 : World → Prop} {R1 R2 : Value → World → Prop} {G : (Nat → Value) → Act} {o : Oper} (hne : i2 ≠ i1) (hd : o.dst = some p2) (ha : (o.after.any fun e => Region.binds .any e && (e.on == i1)) = true) (h : ∀ u w, R1 (u p1) w → wpList P l.toArray (VPost A p2 R2) [o] (G u) w) : StepS P l A i1 i2 p1 p2 c X R0 R1 R2 G o i2 := by
  unfold StepS; rw [if_neg hne, if_pos rfl]; exact ⟨hd, ha, h⟩
theorem stepS_det {l : List Oper} {A : Act} {i i1 i2 p1 p2 : Nat} {c : Nat → Value} {X : World → Prop} {R0 : World → Prop} {R1 R2 : Value → World → Prop} {G : (Nat → Value) → Act} {o : Oper} (h1 : i ≠ i1) (h2 : i ≠ i2) (hd : o.dst ≠ some p1 ∧ o.dst ≠ some p2) (h : ∀ u w, X w → wpList P l.toArray (DPost A o c w) [o] (G u) w) : StepS P l A i1 i2 p1 p2 c X R0 R1 R2 G o i := by
  unfold StepS; rw [if_neg h1, if_neg h2]; exact ⟨hd, h⟩
/-- What each operation owes, and what the last one leaves, at the frames G. -/
def DutyL (P : Program) (l : List Oper) (A : Act) (i1 i2 p1 p2 : Nat) (c : Nat → Value) (X : World → Prop) (R0 : World → Prop) (R1 R2 : Value → World → Prop) (Q : Exit → Act → World → Prop) (G : (Nat → Value) → Act) : Prop :=
  AllSteps (StepS P l A i1 i2 p1 p2 c X R0 R1 R2 G) 0 l.dropLast ∧ ∀ u w', R2 (u p2) w' → wpList P l.toArray Q (l.drop (l.length - 1)) (G u) w'
/-- Two operations turn memory, the last one waits for all. -/
theorem region_dutyL {id : Nat} {l : List Oper} {Q : Exit → Act → World → Prop} {A : Act} {w : World} (D : List Nat) (i1 i2 p1 p2 : Nat) (c : Nat → Value) (X R0 : World → Prop) (R1 R2 : Value → World → Prop) (hm : P.follows .mixedOrders = true) (hk : okRegL l D = true)
    (hi : i1 < i2 ∧ i2 + 1 < l.length) (hb : ∀ d, d ∈ D → d < A.tmps.size) (hS : Stg X R0 R1 R2) (h0 : R0 w.drew) (h : DutyL P l A i1 i2 p1 p2 c X R0 R1 R2 Q (fun u => FF A D [p1, p2] c u)) : (Code.region id l.toArray true).wp P Q A w := by
  refine region_coreL D [p1, p2] c (TS i1 i2 p1 p2 R0 R1 R2) hm hk hb (ts_start h0) (allsteps_mono (fun o i hs => stepS_c hS (by omega) hs) h.1) ?_
  intro L u w' hL hT
  exact h.2 u w' (hT.2.1 (hL i2 hi.2))
/-- Two operations turn memory; no last one. -/
def DutyS (P : Program) (l : List Oper) (A : Act) (i1 i2 p1 p2 : Nat) (c : Nat → Value) (X : World → Prop) (R0 : World → Prop) (R1 R2 : Value → World → Prop) (Q : Exit → Act → World → Prop) (G : (Nat → Value) → Act) : Prop :=
  AllSteps (StepS P l A i1 i2 p1 p2 c X R0 R1 R2 G) 0 l ∧ ∀ u w', R2 (u p2) w' → Q .normal (G u) w'
theorem region_dutyS {id : Nat} {l : List Oper} {Q : Exit → Act → World → Prop} {A : Act} {w : World} (D : List Nat) (i1 i2 p1 p2 : Nat) (c : Nat → Value) (X R0 : World → Prop) (R1 R2 : Value → World → Prop) (hm : P.follows .mixedOrders = true) (hk : okReg l D = true)
    (hi : i1 < i2 ∧ i2 < l.length) (hb : ∀ d, d ∈ D → d < A.tmps.size) (hS : Stg X R0 R1 R2) (h0 : R0 w.drew) (h : DutyS P l A i1 i2 p1 p2 c X R0 R1 R2 Q (fun u => FF A D [p1, p2] c u)) : (Code.region id l.toArray true).wp P Q A w := by
  refine region_core D [p1, p2] c (TS i1 i2 p1 p2 R0 R1 R2) hm hk hb (ts_start h0) (allsteps_mono (fun o i hs => stepS_c hS (by omega) hs) h.1) ?_
  intro L u w' hL hT
  exact h.2 u w' (hT.2.1 (hL i2 hi.2))
/-- No operation turns memory, the last one waits for all. -/
def DutyLO (P : Program) (l : List Oper) (A : Act) (c : Nat → Value) (wb : World) (Q : Exit → Act → World → Prop) (G : (Nat → Value) → Act) : Prop :=
  AllSteps (fun o _ => ∀ u w, Own wb w → wpList P l.toArray (DPost A o c w) [o] (G u) w) 0 l.dropLast ∧ ∀ u w', Own wb w' → wpList P l.toArray Q (l.drop (l.length - 1)) (G u) w'
theorem region_dutyLO {id : Nat} {l : List Oper} {Q : Exit → Act → World → Prop} {A : Act} {w : World} (D : List Nat) (c : Nat → Value) (hm : P.follows .mixedOrders = true) (hk : okRegL l D = true) (hb : ∀ d, d ∈ D → d < A.tmps.size)
    (h : DutyLO P l A c w Q (fun u => FF A D [] c u)) : (Code.region id l.toArray true).wp P Q A w :=
  region_coreL D [] c (TO w) hm hk hb ((Own.refl w).drew) (allsteps_mono (fun _ _ hs => det_own hs) h.1) fun _ u w' _ hT => h.2 u w' hT
/-! ### One operation turns memory; what waits for it knows what it left -/
structure Stg1 (X : World → Prop) (R0 : World → Prop) (R1 : Value → World → Prop) : Prop where
  o0 : ∀ {w}, R0 w → X w
  o1 : ∀ {v w}, R1 v w → X w
  k0 : ∀ {w w'}, R0 w → Own w w' → R0 w'
  k1 : ∀ {v w w'}, R1 v w → Own w w' → R1 v w'
def TV (i1 p1 : Nat) (R0 : World → Prop) (R1 : Value → World → Prop) : Ls → (Nat → Value) → World → Prop := fun L u w => (L i1 = true → R1 (u p1) w) ∧ (L i1 = false → R0 w)
section
variable {l : List Oper} {A : Act} {D : List Nat} {c : Nat → Value} {i1 p1 i : Nat} {X R0 : World → Prop} {R1 : Value → World → Prop} {o : Oper} {G : (Nat → Value) → Act}
def StepV (P : Program) (l : List Oper) (A : Act) (i1 p1 : Nat) (c : Nat → Value) (X R0 : World → Prop) (R1 : Value → World → Prop) (G : (Nat → Value) → Act) (o : Oper) (i : Nat) : Prop :=
  if i = i1 then o.dst = some p1 ∧ ∀ u w, R0 w → wpList P l.toArray (VPost A p1 R1) [o] (G u) w
    else o.dst ≠ some p1 ∧ ((∀ u w, X w → wpList P l.toArray (DPost A o c w) [o] (G u) w) ∨
      ((o.after.any fun e => Region.binds .any e && (e.on == i1)) = true ∧ ∀ u w, R1 (u p1) w → wpList P l.toArray (DPost A o c w) [o] (G u) w))
theorem stepV_1 (hd : o.dst = some p1) (h : ∀ u w, R0 w → wpList P l.toArray (VPost A p1 R1) [o] (G u) w) : StepV P l A i1 p1 c X R0 R1 G o i1 := by
  unfold StepV; rw [if_pos rfl]; exact ⟨hd, h⟩
theorem stepV_det (h1 : i ≠ i1) (hd : o.dst ≠ some p1) (h : ∀ u w, X w → wpList P l.toArray (DPost A o c w) [o] (G u) w) : StepV P l A i1 p1 c X R0 R1 G o i := by
  unfold StepV; rw [if_neg h1]; exact ⟨hd, .inl h⟩
theorem stepV_after (h1 : i ≠ i1) (hd : o.dst ≠ some p1) (ha : (o.after.any fun e => Region.binds .any e && (e.on == i1)) = true) (h : ∀ u w, R1 (u p1) w → wpList P l.toArray (DPost A o c w) [o] (G u) w) : StepV P l A i1 p1 c X R0 R1 G o i := by
  unfold StepV; rw [if_neg h1]; exact ⟨hd, .inr ⟨ha, h⟩⟩
theorem stepV_c (hS : Stg1 X R0 R1) (h : StepV P l A i1 p1 c X R0 R1 (fun u => FF A D [p1] c u) o i) : StepC P l A D [p1] c (TV i1 p1 R0 R1) o i := by
  unfold StepV at h
  rintro L u w hT hu hr
  by_cases h1 : i = i1
  · subst h1
    rw [if_pos rfl] at h
    obtain ⟨hd, h⟩ := h
    refine wpList_one (fun e a' w' hq => ?_) (h u w (hT.2 hu))
    obtain ⟨q1, q2, q3⟩ := hq
    refine ⟨q1, q2, fun d hdd hpd => ?_, ?_⟩
    · rw [hd] at hdd
      injection hdd with hdd
      exact absurd (hdd ▸ List.mem_cons_self ..) hpd
    · rw [hd]
      simp only [List.mem_cons, true_or, if_true]
      refine ⟨fun _ => ?_, fun e => ?_⟩
      · rw [show upd u p1 (a'.tmps.getD p1 undef) p1 = a'.tmps.getD p1 undef from if_pos rfl]
        exact q3
      · rw [setL_self] at e; cases e
  · rw [if_neg h1] at h
    obtain ⟨hd, h⟩ := h
    have hw : wpList P l.toArray (DPost A o c w) [o] (FF A D [p1] c u) w := by
      rcases h with h | ⟨ha, h⟩
      · refine h u w ?_
        cases e1 : L i1 with
        | false => exact hS.o0 (hT.2 e1)
        | true => exact hS.o1 (hT.1 e1)
      · obtain ⟨e, hem, hee⟩ := Array.any_eq_true'.1 ha
        rw [Bool.and_eq_true] at hee
        have hy : L i1 = true := by
          have := hr e hem hee.1
          rwa [eq_of_beq hee.2] at this
        exact h u w (hT.1 hy)
    refine wpList_one (fun e a' w' hq => ?_) hw
    obtain ⟨q1, q2, q3, q4⟩ := hq
    refine ⟨q1, q2, fun d hdd hpd => ?_, ?_⟩
    · rw [hdd] at q3; exact q3
    · rw [slots_same (Ps := [p1]) fun d hdd => by
        intro hm
        exact hd (List.mem_singleton.1 hm ▸ hdd)]
      refine ⟨fun e => ?_, fun e => ?_⟩
      · rw [setL_ne _ (Ne.symm h1)] at e; exact hS.k1 (hT.1 e) q4
      · rw [setL_ne _ (Ne.symm h1)] at e; exact hS.k0 (hT.2 e) q4
end
def DutyV (P : Program) (l : List Oper) (A : Act) (i1 p1 : Nat) (c : Nat → Value) (X R0 : World → Prop) (R1 : Value → World → Prop) (Q : Exit → Act → World → Prop) (G : (Nat → Value) → Act) : Prop :=
  AllSteps (StepV P l A i1 p1 c X R0 R1 G) 0 l ∧ ∀ u w', R1 (u p1) w' → Q .normal (G u) w'
theorem region_dutyV {id : Nat} {l : List Oper} {Q : Exit → Act → World → Prop} {A : Act} {w : World} (D : List Nat) (i1 p1 : Nat) (c : Nat → Value) (X R0 : World → Prop) (R1 : Value → World → Prop) (hm : P.follows .mixedOrders = true) (hk : okReg l D = true)
    (hi : i1 < l.length) (hb : ∀ d, d ∈ D → d < A.tmps.size) (hS : Stg1 X R0 R1) (h0 : R0 w.drew) (h : DutyV P l A i1 p1 c X R0 R1 Q (fun u => FF A D [p1] c u)) : (Code.region id l.toArray true).wp P Q A w := by
  refine region_core D [p1] c (TV i1 p1 R0 R1) hm hk hb ⟨fun e => absurd e Bool.false_ne_true, fun _ => h0⟩ (allsteps_mono (fun o i hs => stepV_c hS hs) h.1) ?_
  intro L u w' hL hT
  exact h.2 u w' (hT.1 (hL i1 hi))
/-! ### Two given blocks are stored into, whole -/
structure Stg2 (X : World → Prop) (B C : Nat) (cs ds : Array Value) : Prop where
  ne : B ≠ C
  k : ∀ {w w'}, X w → Own w w' → X w'
  k1 : ∀ {w}, X w → X (w.setRow B cs)
  k2 : ∀ {w}, X w → X (w.setRow C ds)
def TR (s1 s2 : Nat) (X : World → Prop) (B C : Nat) (zs cs ys ds : Array Value) (T1 T2 : TypeId) : Ls → (Nat → Value) → World → Prop := fun L _ w =>
  X w ∧ Blk w B (if L s1 = true then cs else zs) T1 ∧ Blk w C (if L s2 = true then ds else ys) T2
section
variable {l : List Oper} {A : Act} {D : List Nat} {c : Nat → Value} {s1 s2 i B C : Nat} {X : World → Prop} {zs cs ys ds : Array Value} {T1 T2 : TypeId} {o : Oper} {G : (Nat → Value) → Act}
def StepR (P : Program) (l : List Oper) (A : Act) (s1 s2 : Nat) (c : Nat → Value) (X : World → Prop) (B C : Nat) (zs cs ys ds : Array Value) (T1 T2 : TypeId) (G : (Nat → Value) → Act) (o : Oper) (i : Nat) : Prop :=
  if i = s1 then o.dst = none ∧ ∀ u w, X w → Blk w B zs T1 → wpList P l.toArray (SPost A w B cs) [o] (G u) w
    else if i = s2 then o.dst = none ∧ ∀ u w, X w → Blk w C ys T2 → wpList P l.toArray (SPost A w C ds) [o] (G u) w
    else ∀ u w, X w → wpList P l.toArray (DPost A o c w) [o] (G u) w
theorem stepR_1 (hd : o.dst = none) (h : ∀ u w, X w → Blk w B zs T1 → wpList P l.toArray (SPost A w B cs) [o] (G u) w) : StepR P l A s1 s2 c X B C zs cs ys ds T1 T2 G o s1 := by
  unfold StepR; rw [if_pos rfl]; exact ⟨hd, h⟩
theorem stepR_2 (hne : s2 ≠ s1) (hd : o.dst = none) (h : ∀ u w, X w → Blk w C ys T2 → wpList P l.toArray (SPost A w C ds) [o] (G u) w) : StepR P l A s1 s2 c X B C zs cs ys ds T1 T2 G o s2 := by
  unfold StepR; rw [if_neg hne, if_pos rfl]; exact ⟨hd, h⟩
theorem stepR_det (h1 : i ≠ s1) (h2 : i ≠ s2) (h : ∀ u w, X w → wpList P l.toArray (DPost A o c w) [o] (G u) w) : StepR P l A s1 s2 c X B C zs cs ys ds T1 T2 G o i := by
  unfold StepR; rw [if_neg h1, if_neg h2]; exact h
theorem stepR_c (hS : Stg2 X B C cs ds) (hne : s1 ≠ s2) (h : StepR P l A s1 s2 c X B C zs cs ys ds T1 T2 (fun u => FF A D [] c u) o i) : StepC P l A D [] c (TR s1 s2 X B C zs cs ys ds T1 T2) o i := by
  unfold StepR at h
  rintro L u w ⟨hX, hB, hC⟩ hu _
  by_cases h1 : i = s1
  · subst h1
    rw [if_pos rfl] at h
    rw [hu, if_neg Bool.false_ne_true] at hB
    refine wpList_one (fun e a' w' hq => ?_) (h.2 u w hX hB)
    obtain ⟨q1, q2, rfl⟩ := hq
    refine ⟨q1, q2, fun d hdd _ => ?_, ?_⟩
    · rw [h.1] at hdd; cases hdd
    · rw [h.1]
      refine ⟨hS.k1 hX, ?_, ?_⟩
      · rw [setL_self, if_pos rfl]; exact hB.row cs
      · rw [setL_ne _ (Ne.symm hne)]; exact hC.rowfar (Ne.symm hS.ne) cs
  · rw [if_neg h1] at h
    by_cases h2 : i = s2
    · subst h2
      rw [if_pos rfl] at h
      rw [hu, if_neg Bool.false_ne_true] at hC
      refine wpList_one (fun e a' w' hq => ?_) (h.2 u w hX hC)
      obtain ⟨q1, q2, rfl⟩ := hq
      refine ⟨q1, q2, fun d hdd _ => ?_, ?_⟩
      · rw [h.1] at hdd; cases hdd
      · rw [h.1]
        refine ⟨hS.k2 hX, ?_, ?_⟩
        · rw [setL_ne _ hne]; exact hB.rowfar hS.ne ds
        · rw [setL_self, if_pos rfl]; exact hC.row ds
    · rw [if_neg h2] at h
      refine wpList_one (fun e a' w' hq => ?_) (h u w hX)
      obtain ⟨q1, q2, q3, q4⟩ := hq
      refine ⟨q1, q2, fun d hdd _ => ?_, ?_⟩
      · rw [hdd] at q3; exact q3
      · rw [slots_same (Ps := []) fun d _ => List.not_mem_nil]
        refine ⟨hS.k hX q4, ?_, ?_⟩
        · rw [setL_ne _ (Ne.symm h1)]; exact hB.own q4
        · rw [setL_ne _ (Ne.symm h2)]; exact hC.own q4
end
def DutyR (P : Program) (l : List Oper) (A : Act) (s1 s2 : Nat) (c : Nat → Value) (X : World → Prop) (B C : Nat) (zs cs ys ds : Array Value) (T1 T2 : TypeId) (Q : Exit → Act → World → Prop) (G : (Nat → Value) → Act) : Prop :=
  AllSteps (StepR P l A s1 s2 c X B C zs cs ys ds T1 T2 G) 0 l ∧ ∀ u w', X w' → Blk w' B cs T1 → Blk w' C ds T2 → Q .normal (G u) w'
theorem region_dutyR {id : Nat} {l : List Oper} {Q : Exit → Act → World → Prop} {A : Act} {w : World} (D : List Nat) (s1 s2 : Nat) (c : Nat → Value) (X : World → Prop) (B C : Nat) (zs cs ys ds : Array Value) (T1 T2 : TypeId) (hm : P.follows .mixedOrders = true) (hk : okReg l D = true)
    (hi : s1 < l.length ∧ s2 < l.length ∧ s1 ≠ s2) (hb : ∀ d, d ∈ D → d < A.tmps.size) (hS : Stg2 X B C cs ds) (hX : X w) (hB : Blk w B zs T1) (hC : Blk w C ys T2) (h : DutyR P l A s1 s2 c X B C zs cs ys ds T1 T2 Q (fun u => FF A D [] c u)) : (Code.region id l.toArray true).wp P Q A w := by
  refine region_core D [] c (TR s1 s2 X B C zs cs ys ds T1 T2) hm hk hb ⟨hS.k hX (Own.refl w).drew, hB.drew, hC.drew⟩ (allsteps_mono (fun o i hs => stepR_c hS hi.2.2 hs) h.1) ?_
  rintro L u w' hL ⟨h1, h2, h3⟩
  rw [hL s1 hi.1, if_pos rfl] at h2
  rw [hL s2 hi.2.1, if_pos rfl] at h3
  exact h.2 u w' h1 h2 h3
end Go.Proofs.YtighpjhipgobiaaDoor.RegD
