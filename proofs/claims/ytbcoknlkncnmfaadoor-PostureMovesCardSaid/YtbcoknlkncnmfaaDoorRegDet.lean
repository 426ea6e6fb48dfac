/-
  A region that draws its order and whose operations have determined values: whatever the order, each slot holds its value in the end; of memory is said what the operations keep (Own), and what one new or one given block holds. Nothing of the program. Condition: none.
-/
import Derived.Test.YtbcoknlkncnmfaaDoorRegInv
import Derived.Test.YtbcoknlkncnmfaaDoorBlk
import Derived.Orders
namespace Go.Proofs.YtbcoknlkncnmfaaDoor.RegD
open Go RegI PairW BlkW
variable {P : Program}
/-- Which operations have come up. -/
abbrev Ls := Nat → Bool
def setL (L : Ls) (i : Nat) : Ls := fun k => if k = i then true else L k
theorem setL_self (L : Ls) (i : Nat) : setL L i i = true := if_pos rfl
theorem setL_ne (L : Ls) {i k : Nat} (h : k ≠ i) : setL L i k = L k := if_neg h
/-- The frame A with its slots D filled: those of Ps with what u says, the others with what c says. -/
def FF (A : Act) (D Ps : List Nat) (c u : Nat → Value) : Act := FX A D (fun d => if d ∈ Ps then u d else c d)
theorem fx_size (A : Act) (D : List Nat) (x : Nat → Value) : (FX A D x).tmps.size = A.tmps.size := by
  unfold FX
  simp only
  generalize A.tmps = t
  induction D generalizing t with
  | nil => rfl
  | cons d D ih => rw [List.foldl_cons, ih, Array.size_setIfInBounds]
theorem fx_defers (A : Act) (D : List Nat) (x : Nat → Value) : (FX A D x).defers = A.defers := rfl
/-- What one operation leaves. -/
def Post (A : Act) (o : Oper) (Ps : List Nat) (c : Nat → Value) (T' : (Nat → Value) → World → Prop) (u : Nat → Value) : Exit → Act → World → Prop := fun e a' w' =>
  e = .normal ∧ a'.defers = A.defers ∧ (∀ d, o.dst = some d → d ∉ Ps → a'.tmps.getD d undef = c d) ∧
    T' (match o.dst with | some d => if d ∈ Ps then upd u d (a'.tmps.getD d undef) else u | none => u) w'
def noSel (o : Oper) : Bool := match o.op with | .select _ _ => false | _ => true
theorem noSel_spec {o : Oper} (h : noSel o = true) : ∀ cs b, o.op ≠ .select cs b := by
  intro cs b e
  unfold noSel at h
  rw [e] at h
  cases h
/-- What an operation looks at, of the region's slots, it waits for. -/
def okOper (l : List Oper) (D : List Nat) (o : Oper) : Bool :=
  noSel o && ((match o.dst with | some d => D.contains d | none => true) &&
    (o.looksAt l.toArray).all fun t => !D.contains t || o.after.any fun e => Region.binds .any e && ((l[e.on]?).bind (·.dst) == some t))
def okReg (l : List Oper) (D : List Nat) : Bool := topo l && (l.all (okOper l D) && D.all fun d => l.any fun o => o.dst == some d)
theorem wp_shift {o : Oper} {F b : Act} {w : World} {K K' : Act → World → Prop} {Q Q' : Exit → Act → World → Prop} (he : execOp b.eval o = execOp F.eval o)
    (hK : ∀ v w', K' (F.put o.dst v) w' → K (b.put o.dst v) w') (hd : ∀ d w', ¬ K' ({ F with defers := d :: F.defers }.put o.dst undef) w') (hQ : ∀ e a w', Q' e a w' → e = .normal)
    (h : o.wp P F w K' Q') : o.wp P b w K Q := by
  unfold Oper.wp at *
  rw [he]
  generalize (execOp F.eval o).run P w = r at *
  cases r with
  | ok n w' =>
    cases n <;> simp only [Oper.upon] at h ⊢ <;>
      first
        | exact hK _ _ h
        | exact (hd _ _ h).elim
        | exact h
        | exact Rows.mono h (fun _ _ hh => hK _ _ hh)
        | (refine Calls.mono h (fun e w'' hh => ?_)
           cases e with
           | returned v => exact hK _ _ hh
           | panicked ch => exact absurd (hQ _ _ _ hh) (by simp)
           | outgrown =>
             obtain ⟨a, w3, h3⟩ := hh
             exact absurd (hQ _ _ _ h3) (by simp))
  | halt x w' =>
    cases x <;> simp only [Oper.upon] at h ⊢ <;>
      first
        | exact absurd (hQ _ _ _ h) (by simp)
        | exact h
section
variable {l : List Oper} {A : Act} {D Ps : List Nat} {c : Nat → Value} {T : Ls → (Nat → Value) → World → Prop} {o : Oper} {i : Nat}
/-- One operation's duty: at the frame that is full. -/
def StepC (P : Program) (l : List Oper) (A : Act) (D Ps : List Nat) (c : Nat → Value) (T : Ls → (Nat → Value) → World → Prop) (o : Oper) (i : Nat) : Prop :=
  ∀ (L : Ls) (u : Nat → Value) (w : World), T L u w → L i = false → (∀ e ∈ o.after, Region.binds .any e = true → L e.on = true) →
    wpList P l.toArray (Post A o Ps c (T (setL L i)) u) [o] (FF A D Ps c u) w
def JD (l : List Oper) (A : Act) (D Ps : List Nat) (c : Nat → Value) (T : Ls → (Nat → Value) → World → Prop) (listed : Array Bool) (b : Act) (w : World) : Prop :=
  ∃ x u, b = FX A D x ∧ (∀ d, d ∈ Ps → x d = u d) ∧ (∀ j oj d, l[j]? = some oj → oj.dst = some d → listed.getD j false = true → d ∉ Ps → x d = c d) ∧ T (fun k => listed.getD k false) u w
theorem listed_set {listed : Array Bool} (hi : i < listed.size) : (fun k => (listed.setIfInBounds i true).getD k false) = setL (fun k => listed.getD k false) i := by
  funext k
  unfold setL
  simp only [Array.getD_eq_getD_getElem?, Array.getElem?_setIfInBounds]
  by_cases e : i = k
  · subst e; simp [hi]
  · rw [if_neg e, if_neg (fun x => e x.symm)]
theorem jd_next {listed : Array Bool} {x u : Nat → Value} {v : Value} {w' : World} (hb : ∀ d, d ∈ D → d < A.tmps.size) (hD : ∀ d, o.dst = some d → d ∈ D) (ho : l[i]? = some o) (hi : i < listed.size)
    (hP : ∀ d, d ∈ Ps → x d = u d) (hc : ∀ j oj d, l[j]? = some oj → oj.dst = some d → listed.getD j false = true → d ∉ Ps → x d = c d)
    (h : Post A o Ps c (T (setL (fun k => listed.getD k false) i)) u .normal ((FF A D Ps c u).put o.dst v) w') : JD l A D Ps c T (listed.setIfInBounds i true) ((FX A D x).put o.dst v) w' := by
  obtain ⟨_, _, hv, ht⟩ := h
  cases hd : o.dst with
  | none =>
    rw [hd] at ht
    refine ⟨x, u, rfl, hP, fun j oj d h1 h2 h3 h4 => ?_, ?_⟩
    · by_cases e : i = j
      · subst e
        rw [ho] at h1
        injection h1 with h1
        subst h1
        rw [hd] at h2
        cases h2
      · exact hc j oj d h1 h2 (gd_ne e h3) h4
    · rw [listed_set hi]; exact ht
  | some d =>
    have hDd := hD d hd
    rw [hd] at ht hv
    have hsl : ((FF A D Ps c u).put (some d) v).tmps.getD d undef = v := by
      show ((FF A D Ps c u).tmps.setIfInBounds d v).getD d undef = v
      have hs : d < (FF A D Ps c u).tmps.size := by unfold FF; rw [fx_size]; exact hb d hDd
      rw [Array.getD_eq_getD_getElem?]
      simp [hs]
    have hv := hv d rfl
    rw [hsl] at hv
    simp only [hsl] at ht
    by_cases hp : d ∈ Ps
    · simp only [hp, if_true] at ht
      refine ⟨upd x d v, upd u d v, fx_put hDd v, fun d' h' => ?_, fun j oj d' h1 h2 h3 h4 => ?_, ?_⟩
      · unfold upd
        by_cases e : d' = d
        · rw [if_pos e, if_pos e]
        · rw [if_neg e, if_neg e]; exact hP d' h'
      · have e : d' ≠ d := fun e => h4 (e ▸ hp)
        have ej : i ≠ j := by
          intro ej
          subst ej
          rw [ho] at h1
          injection h1 with h1
          subst h1
          rw [hd] at h2
          injection h2 with h2
          exact e h2.symm
        have : upd x d v d' = x d' := if_neg e
        rw [this]
        exact hc j oj d' h1 h2 (gd_ne ej h3) h4
      · rw [listed_set hi]; exact ht
    · simp only [hp, if_false] at ht
      have hv := hv hp
      refine ⟨upd x d v, u, fx_put hDd v, fun d' h' => ?_, fun j oj d' h1 h2 h3 h4 => ?_, ?_⟩
      · have e : d' ≠ d := fun e => hp (e ▸ h')
        have : upd x d v d' = x d' := if_neg e
        rw [this]
        exact hP d' h'
      · by_cases e : d' = d
        · subst e
          have : upd x d' v d' = v := if_pos rfl
          rw [this, hv]
        · have ej : i ≠ j := by
            intro ej
            subst ej
            rw [ho] at h1
            injection h1 with h1
            subst h1
            rw [hd] at h2
            injection h2 with h2
            exact e h2.symm
          have : upd x d v d' = x d' := if_neg e
          rw [this]
          exact hc j oj d' h1 h2 (gd_ne ej h3) h4
      · rw [listed_set hi]; exact ht
theorem step_ok {Q : Exit → Act → World → Prop} (hb : ∀ d, d ∈ D → d < A.tmps.size) (ho : l[i]? = some o) (hk : okOper l D o = true) (h : StepC P l A D Ps c T o i) : StepOk P l Q (JD l A D Ps c T) o i := by
  rintro listed b w hsz ⟨x, u, rfl, hP, hc, hT⟩ hu hr
  have hst := h (fun k => listed.getD k false) u w hT (gd_un hu) hr
  have hi : i < listed.size := by rw [hsz]; exact (List.getElem?_eq_some_iff.1 ho).1
  unfold okOper at hk
  rw [Bool.and_eq_true, Bool.and_eq_true] at hk
  obtain ⟨hk1, hk2, hk3⟩ := hk
  have hsel := noSel_spec hk1
  have hD : ∀ d, o.dst = some d → d ∈ D := fun d hd => by
    rw [hd] at hk2
    simpa using hk2
  have hlook : ∀ t, t ∈ o.looksAt l.toArray → (FX A D x).tmps[t]? = (FF A D Ps c u).tmps[t]? := by
    intro t ht
    unfold FF
    rw [fx_get, fx_get]
    by_cases hd : t ∈ D ∧ t < A.tmps.size
    · rw [if_pos hd, if_pos hd]
      congr 1
      show x t = if t ∈ Ps then u t else c t
      by_cases hp : t ∈ Ps
      · rw [if_pos hp]; exact hP t hp
      · rw [if_neg hp]
        have := List.all_eq_true.1 hk3 t ht
        rw [Bool.or_eq_true] at this
        rcases this with this | this
        · have hd1 := hd.1
          simp [hd1] at this
        · obtain ⟨e, he, hee⟩ := Array.any_eq_true'.1 this
          rw [Bool.and_eq_true] at hee
          obtain ⟨hbi, hds⟩ := hee
          have hds := eq_of_beq hds
          cases hoj : l[e.on]? with
          | none => rw [hoj] at hds; cases hds
          | some oj =>
            rw [hoj] at hds
            exact hc e.on oj t hoj hds (hr e he hbi) hp
    · rw [if_neg hd, if_neg hd]
  have hex : execOp (FX A D x).eval o = execOp (FF A D Ps c u).eval o := execOp_congr o hsel fun y hy => by
    cases y with
    | tmp t =>
      have := hlook t (List.mem_append_left _ (List.mem_filterMap.2 ⟨.tmp t, by simpa using hy, rfl⟩))
      show (FX A D x).tmps.getD t undef = (FF A D Ps c u).tmps.getD t undef
      rw [Array.getD_eq_getD_getElem?, Array.getD_eq_getD_getElem?, this]
    | _ => rfl
  have hwa : Region.wanted o (yielded l.toArray (FX A D x).tmps) = Region.wanted o (yielded l.toArray (FF A D Ps c u).tmps) := by
    unfold Region.wanted
    cases hg : o.guard with
    | none => rfl
    | some gw =>
      obtain ⟨g, want⟩ := gw
      have hy : yielded l.toArray (FX A D x).tmps g = yielded l.toArray (FF A D Ps c u).tmps g := by
        unfold yielded
        cases ht : ((l.toArray[g]?).bind (·.dst)) with
        | none => rfl
        | some t =>
          have := hlook t (by
            unfold Oper.looksAt
            refine List.mem_append_right _ ?_
            rw [hg]
            simp only
            rw [ht]
            simp)
          simp only [Option.bind_some, this]
      simp only [hy]
  unfold wpOp
  have e : l.toArray[i]? = some o := by simpa using ho
  simp only [e]
  rw [hwa]
  unfold wpList at hst
  by_cases hw : Region.wanted o (yielded l.toArray (FF A D Ps c u).tmps) = true
  · rw [if_pos hw] at hst ⊢
    rcases hst with hst | ⟨_, a, w3, hlo⟩
    · refine .inl (wp_shift hex (fun v w' hk => jd_next hb hD ho hi hP hc hk) (fun d w' hk => ?_) (fun e a w' hq => hq.1) hst)
      have h2 := hk.2.1
      cases hdst : o.dst <;> rw [hdst] at h2 <;> exact absurd h2 (List.cons_ne_self d A.defers)
    · exact absurd hlo.1 (by simp)
  · rw [if_neg hw] at hst ⊢
    exact jd_next hb hD ho hi hP hc hst
theorem all_ok {Q : Exit → Act → World → Prop} (hb : ∀ d, d ∈ D → d < A.tmps.size) : ∀ (k : Nat) (m : List Oper), (∀ i, m[i]? = l[k + i]?) → (∀ o, o ∈ m → okOper l D o = true) → AllSteps (StepC P l A D Ps c T) k m → AllSteps (StepOk P l Q (JD l A D Ps c T)) k m
  | _, [], _, _, _ => trivial
  | k, o :: m, hm, hk, hs => by
    refine ⟨step_ok hb ?_ (hk o (List.mem_cons_self ..)) hs.1, all_ok hb (k + 1) m (fun i => ?_) (fun o' h' => hk o' (List.mem_cons_of_mem _ h')) hs.2⟩
    · have := hm 0
      simpa using this.symm
    · have := hm (i + 1)
      rw [show k + 1 + i = k + (i + 1) by omega]
      simpa using this
/-- A region of determined values: whatever order. -/
theorem region_core {id : Nat} {Q : Exit → Act → World → Prop} {w : World} (D Ps : List Nat) (c : Nat → Value) (T : Ls → (Nat → Value) → World → Prop) (hm : P.follows .mixedOrders = true) (hk : okReg l D = true) (hb : ∀ d, d ∈ D → d < A.tmps.size)
    (h0 : T (fun _ => false) (fun i => A.tmps.getD i undef) w.drew) (hs : AllSteps (StepC P l A D Ps c T) 0 l)
    (he : ∀ L u w, (∀ i, i < l.length → L i = true) → T L u w → Q .normal (FF A D Ps c u) w) : (Code.region id l.toArray true).wp P Q A w := by
  unfold okReg at hk
  rw [Bool.and_eq_true, Bool.and_eq_true] at hk
  obtain ⟨ht, hk2, hk3⟩ := hk
  refine region_inv (JD l A D Ps c T) hm ht ⟨fun i => A.tmps.getD i undef, fun i => A.tmps.getD i undef, (fx_self A D).symm, fun _ _ => rfl, fun j oj d _ _ h3 _ => (rep_false h3).elim, ?_⟩ (all_ok hb 0 l (fun i => by rw [Nat.zero_add]) (fun o ho => List.all_eq_true.1 hk2 o ho) hs) ?_
  · have : (fun k => (Array.replicate l.length false).getD k false) = fun _ : Nat => false := by
      funext k
      cases g : (Array.replicate l.length false).getD k false with
      | false => rfl
      | true => exact (rep_false g).elim
    rw [this]
    exact h0
  · rintro listed b w ⟨x, u, rfl, hP, hc, hT⟩ hall
    have e : FX A D x = FF A D Ps c u := by
      refine act_ext (fun t => ?_) rfl
      unfold FF
      rw [fx_get, fx_get]
      by_cases hd : t ∈ D ∧ t < A.tmps.size
      · rw [if_pos hd, if_pos hd]
        congr 1
        show x t = if t ∈ Ps then u t else c t
        by_cases hp : t ∈ Ps
        · rw [if_pos hp]; exact hP t hp
        · rw [if_neg hp]
          have := List.all_eq_true.1 hk3 t hd.1
          obtain ⟨o, ho, hod⟩ := List.any_eq_true.1 this
          obtain ⟨j, hj, hjo⟩ := List.getElem_of_mem ho
          exact hc j o t (by rw [List.getElem?_eq_getElem hj, hjo]) (eq_of_beq hod) (hall j hj) hp
      · rw [if_neg hd, if_neg hd]
    rw [e]
    exact he _ u w (fun i hi => hall i hi) hT
end
/-! ### One block, new or given, that is stored into; everything else only reads -/
/-- What an operation leaves that only reads, reckons, or calls what keeps memory. -/
def DPost (A : Act) (o : Oper) (c : Nat → Value) (w : World) : Exit → Act → World → Prop := fun e a' w' =>
  e = .normal ∧ a'.defers = A.defers ∧ (match o.dst with | some d => a'.tmps.getD d undef = c d | none => True) ∧ Own w w'
/-- What the operation that makes a block leaves, and the one that stores into it. -/
def APost (A : Act) (p : Nat) (w : World) (zs : Array Value) (Ty : TypeId) : Exit → Act → World → Prop := fun e a' w' =>
  e = .normal ∧ a'.defers = A.defers ∧ a'.tmps.getD p undef = .pointer (some ⟨w.heap.size, 0, none⟩) ∧ w' = w.alloc (.cells zs Ty)
def SPost (A : Act) (w : World) (B : Nat) (cs : Array Value) : Exit → Act → World → Prop := fun e a' w' => e = .normal ∧ a'.defers = A.defers ∧ w' = w.setRow B cs
theorem wpList_one {l : Array Oper} {Q Q' : Exit → Act → World → Prop} {o : Oper} {a : Act} {w : World} (hQ : ∀ e a' w', Q e a' w' → Q' e a' w') (h : wpList P l Q [o] a w) : wpList P l Q' [o] a w := by
  unfold wpList at h ⊢
  split
  · rename_i hw
    rw [if_pos hw] at h
    rcases h with h | ⟨h1, a2, w2, h2⟩
    · refine .inl ?_
      unfold Oper.wp at h ⊢
      generalize (execOp a.eval o).run P w = r at *
      cases r with
      | ok n w' =>
        cases n <;> simp only [Oper.upon] at h ⊢ <;>
          first
            | exact hQ _ _ _ h
            | exact h
            | exact Rows.mono h (fun _ _ hh => hQ _ _ _ hh)
            | (refine Calls.mono h (fun e w'' hh => ?_)
               cases e with
               | returned v => exact hQ _ _ _ hh
               | panicked ch => exact hQ _ _ _ hh
               | outgrown =>
                 obtain ⟨a3, w3, h3⟩ := hh
                 exact ⟨a3, w3, hQ _ _ _ h3⟩)
      | halt x w' => cases x <;> simp only [Oper.upon] at h ⊢ <;> first | exact hQ _ _ _ h | exact h
    · exact .inr ⟨h1, a2, w2, hQ _ _ _ h2⟩
  · rename_i hw
    rw [if_neg hw] at h
    exact hQ _ _ _ h
/-- Memory beside: what is kept since wb, and the block B. -/
def TN (p ia is : Nat) (wb : World) (zs cs : Array Value) (Ty : TypeId) : Ls → (Nat → Value) → World → Prop := fun L u w =>
  Own wb w ∧ (L is = true → L ia = true) ∧ (L ia = true → ∃ B, u p = .pointer (some ⟨B, 0, none⟩) ∧ wb.heap.size ≤ B ∧ Blk w B (if L is = true then cs else zs) Ty)
def TP (is : Nat) (wb : World) (B : Nat) (zs cs : Array Value) (Ty : TypeId) : Ls → (Nat → Value) → World → Prop := fun L _ w =>
  Own wb w ∧ Blk w B (if L is = true then cs else zs) Ty
def TO (wb : World) : Ls → (Nat → Value) → World → Prop := fun _ _ w => Own wb w
section
variable {l : List Oper} {A : Act} {D : List Nat} {c : Nat → Value} {o : Oper} {i p ia is : Nat} {wb : World} {zs cs : Array Value} {Ty : TypeId} {B : Nat}
theorem slots_same {u : Nat → Value} {Ps : List Nat} {a' : Act} (h : ∀ d, o.dst = some d → d ∉ Ps) : (match o.dst with | some d => if d ∈ Ps then upd u d (a'.tmps.getD d undef) else u | none => u) = u := by
  cases hd : o.dst with
  | none => rfl
  | some d =>
    have := h d hd
    simp only [this, if_false]
/-- An operation that only reads (a new block in the region). -/
theorem det_new (h1 : i ≠ ia) (h2 : i ≠ is) (hp : o.dst ≠ some p) (h : ∀ u w, Own wb w → wpList P l.toArray (DPost A o c w) [o] (FF A D [p] c u) w) : StepC P l A D [p] c (TN p ia is wb zs cs Ty) o i := by
  rintro L u w ⟨hO, hlt, hB⟩ _ _
  refine wpList_one (fun e a' w' hq => ?_) (h u w hO)
  obtain ⟨q1, q2, q3, q4⟩ := hq
  refine ⟨q1, q2, fun d hd _ => (by rw [hd] at q3; exact q3), ?_⟩
  rw [slots_same (fun d hd e => hp (by rw [hd]; simpa using e))]
  refine ⟨hO.trans q4, fun hl => ?_, fun hl => ?_⟩
  · rw [setL_ne L (Ne.symm h2)] at hl
    rw [setL_ne L (Ne.symm h1)]
    exact hlt hl
  · rw [setL_ne L (Ne.symm h1)] at hl
    obtain ⟨B, b1, b2, b3⟩ := hB hl
    refine ⟨B, b1, b2, ?_⟩
    rw [setL_ne L (Ne.symm h2)]
    exact b3.own q4
/-- The operation that makes the block. -/
theorem alloc_new (h2 : ia ≠ is) (hd : o.dst = some p)
    (h : ∀ u w, Own wb w → wpList P l.toArray (APost A p w zs Ty) [o] (FF A D [p] c u) w) :
    StepC P l A D [p] c (TN p ia is wb zs cs Ty) o ia := by
  rintro L u w ⟨hO, hlt, _⟩ hu _
  refine wpList_one (fun e a' w' hq => ?_) (h u w hO)
  obtain ⟨q1, q2, q3, rfl⟩ := hq
  have hps : p ∈ [p] := by simp
  refine ⟨q1, q2, fun d hd' hn => absurd (by rw [hd] at hd'; injection hd' with hd'; subst hd'; exact hps) hn, ?_⟩
  rw [hd]
  simp only [hps, if_true]
  have his : L is = false := by
    cases g : L is with
    | false => rfl
    | true => rw [hlt g] at hu; cases hu
  refine ⟨hO.alloc _, fun _ => setL_self L ia, fun _ => ⟨w.heap.size, ?_, hO.size, ?_⟩⟩
  · have : upd u p (a'.tmps.getD p undef) p = a'.tmps.getD p undef := if_pos rfl
    rw [this]
    exact q3
  · rw [setL_ne L (Ne.symm h2), if_neg (by rw [his]; simp)]
    exact Blk.new w zs Ty
/-- The operation that stores into it. -/
theorem store_new (h2 : ia ≠ is) (hd : o.dst = none) (ha : (o.after.any fun e => Region.binds .any e && (e.on == ia)) = true)
    (h : ∀ u w B, Own wb w → u p = .pointer (some ⟨B, 0, none⟩) → Blk w B zs Ty → wpList P l.toArray (SPost A w B cs) [o] (FF A D [p] c u) w) :
    StepC P l A D [p] c (TN p ia is wb zs cs Ty) o is := by
  rintro L u w ⟨hO, _, hB⟩ hu hr
  obtain ⟨e, he, hee⟩ := Array.any_eq_true'.1 ha
  rw [Bool.and_eq_true] at hee
  have hla : L ia = true := by
    have := hr e he hee.1
    rwa [eq_of_beq hee.2] at this
  obtain ⟨B, b1, b2, b3⟩ := hB hla
  rw [if_neg (by rw [hu]; simp)] at b3
  refine wpList_one (fun e a' w' hq => ?_) (h u w B hO b1 b3)
  obtain ⟨q1, q2, rfl⟩ := hq
  refine ⟨q1, q2, fun d hd' _ => (by rw [hd] at hd'; cases hd'), ?_⟩
  rw [hd]
  refine ⟨own_setRow hO b2 _, fun _ => ?_, fun _ => ⟨B, b1, b2, ?_⟩⟩
  · rw [setL_ne L h2]; exact hla
  · rw [if_pos (setL_self L is)]
    exact b3.row cs
/-- A region of determined values with one new block. -/
theorem region_new {id : Nat} {Q : Exit → Act → World → Prop} {w : World} (D : List Nat) (p ia is : Nat) (c : Nat → Value) (zs cs : Array Value) (Ty : TypeId) (hm : P.follows .mixedOrders = true) (hk : okReg l D = true) (hi : ia < l.length ∧ is < l.length) (hb : ∀ d, d ∈ D → d < A.tmps.size)
    (hs : AllSteps (StepC P l A D [p] c (TN p ia is w zs cs Ty)) 0 l)
    (he : ∀ u w' B, Own w w' → u p = .pointer (some ⟨B, 0, none⟩) → w.heap.size ≤ B → Blk w' B cs Ty → Q .normal (FF A D [p] c u) w') : (Code.region id l.toArray true).wp P Q A w := by
  refine region_core D [p] c (TN p ia is w zs cs Ty) hm hk hb ⟨(Own.refl w).drew, (fun h => nomatch h), (fun h => nomatch h)⟩ hs ?_
  rintro L u w' hall ⟨hO, _, hB⟩
  obtain ⟨B, b1, b2, b3⟩ := hB (hall ia hi.1)
  rw [if_pos (hall is hi.2)] at b3
  exact he u w' B hO b1 b2 b3
/-- An operation that only reads (a given block is stored into). -/
theorem det_put (h2 : i ≠ is) (h : ∀ u w, Own wb w → wpList P l.toArray (DPost A o c w) [o] (FF A D [] c u) w) : StepC P l A D [] c (TP is wb B zs cs Ty) o i := by
  rintro L u w ⟨hO, hB⟩ _ _
  refine wpList_one (fun e a' w' hq => ?_) (h u w hO)
  obtain ⟨q1, q2, q3, q4⟩ := hq
  refine ⟨q1, q2, fun d hd _ => (by rw [hd] at q3; exact q3), ?_⟩
  rw [slots_same (fun d hd e => by cases e)]
  refine ⟨hO.trans q4, ?_⟩
  rw [setL_ne L (Ne.symm h2)]
  exact hB.own q4
theorem store_put (hd : o.dst = none) (hw : wb.heap.size ≤ B)
    (h : ∀ u w, Own wb w → Blk w B zs Ty → wpList P l.toArray (SPost A w B cs) [o] (FF A D [] c u) w) :
    StepC P l A D [] c (TP is wb B zs cs Ty) o is := by
  rintro L u w ⟨hO, hB⟩ hu _
  rw [if_neg (by rw [hu]; simp)] at hB
  refine wpList_one (fun e a' w' hq => ?_) (h u w hO hB)
  obtain ⟨q1, q2, rfl⟩ := hq
  refine ⟨q1, q2, fun d hd' _ => (by rw [hd] at hd'; cases hd'), ?_⟩
  rw [hd]
  refine ⟨own_setRow hO hw _, ?_⟩
  rw [if_pos (setL_self L is)]
  exact hB.row cs
/-- A region of determined values that stores into a given block. -/
theorem region_put {id : Nat} {Q : Exit → Act → World → Prop} {w : World} (D : List Nat) (is : Nat) (c : Nat → Value) (wb : World) (B : Nat) (zs cs : Array Value) (Ty : TypeId) (hm : P.follows .mixedOrders = true) (hk : okReg l D = true) (hi : is < l.length) (hb : ∀ d, d ∈ D → d < A.tmps.size)
    (hO : Own wb w) (hB : Blk w B zs Ty) (hs : AllSteps (StepC P l A D [] c (TP is wb B zs cs Ty)) 0 l)
    (he : ∀ u w', Own wb w' → Blk w' B cs Ty → Q .normal (FF A D [] c u) w') : (Code.region id l.toArray true).wp P Q A w := by
  refine region_core D [] c (TP is wb B zs cs Ty) hm hk hb ⟨hO.drew, by rw [if_neg (by simp)]; exact hB.drew⟩ hs ?_
  rintro L u w' hall ⟨hO, hB⟩
  rw [if_pos (hall is hi)] at hB
  exact he u w' hO hB
/-- An operation that only reads (nothing is stored). -/
theorem det_own (h : ∀ u w, Own wb w → wpList P l.toArray (DPost A o c w) [o] (FF A D [] c u) w) : StepC P l A D [] c (TO wb) o i := by
  intro L u w hO _ _
  refine wpList_one (fun e a' w' hq => ?_) (h u w hO)
  obtain ⟨q1, q2, q3, q4⟩ := hq
  refine ⟨q1, q2, fun d hd _ => (by rw [hd] at q3; exact q3), ?_⟩
  rw [slots_same (fun d hd e => by cases e)]
  exact Own.trans hO q4
/-- A region of determined values without a store. -/
theorem region_own {id : Nat} {Q : Exit → Act → World → Prop} {w : World} (D : List Nat) (c : Nat → Value) (hm : P.follows .mixedOrders = true) (hk : okReg l D = true) (hb : ∀ d, d ∈ D → d < A.tmps.size)
    (hs : AllSteps (StepC P l A D [] c (TO w)) 0 l)
    (he : ∀ u w', Own w w' → Q .normal (FF A D [] c u) w') : (Code.region id l.toArray true).wp P Q A w := by
  refine region_core D [] c (TO w) hm hk hb (Own.refl w).drew hs ?_
  intro L u w' _ hO
  exact he u w' hO
end
end Go.Proofs.YtbcoknlkncnmfaaDoor.RegD
