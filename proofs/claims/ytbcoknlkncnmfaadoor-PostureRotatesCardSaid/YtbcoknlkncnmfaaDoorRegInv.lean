/-
  A region that draws its order, by what holds of each set of operations that have come up: an invariant, and one step for each operation. Nothing of the program. Condition: none.
-/
import Derived.Orders
import Derived.RowKit3
namespace Go.Proofs.YtbcoknlkncnmfaaDoor.RegI
open Go

/-- One obligation for each operation of a list. -/
def AllSteps (f : Oper → Nat → Prop) : Nat → List Oper → Prop
  | _, [] => True
  | i, o :: l => f o i ∧ AllSteps f (i + 1) l
theorem AllSteps.get {f : Oper → Nat → Prop} : ∀ {k : Nat} {l : List Oper}, AllSteps f k l → ∀ i o, l[i]? = some o → f o (k + i)
  | _, [], _, i, o, h => by simp at h
  | k, x :: l, hs, 0, o, h => by
    have e : x = o := by simpa using h
    rw [← e]
    exact hs.1
  | k, x :: l, hs, i + 1, o, h => by
    have := hs.2.get i o (by simpa using h)
    rw [show k + (i + 1) = k + 1 + i by omega]
    exact this
/-- Each operation waits only for ones that stand before it in the text. -/
def topo (l : List Oper) : Bool := (List.range l.length).all fun i => ((l[i]?).map fun o => o.after.all fun e => !Region.binds .any e || decide (e.on < i)).getD true
theorem topo_spec {l : List Oper} (h : topo l = true) {i : Nat} {o : Oper} (ho : l[i]? = some o) {e : Edge} (he : e ∈ o.after) (hb : Region.binds .any e = true) : e.on < i := by
  have hi : i < l.length := (List.getElem?_eq_some_iff.1 ho).1
  have := List.all_eq_true.1 h i (List.mem_range.2 hi)
  rw [ho, Option.map_some, Option.getD_some, Array.all_eq_true_iff_forall_mem] at this
  have := this e he
  rw [hb] at this
  simpa using this
variable {P : Program}
/-- One operation's step: it may come up, then what holds goes on holding. -/
def StepOk (P : Program) (l : List Oper) (Q : Exit → Act → World → Prop) (J : Array Bool → Act → World → Prop) (o : Oper) (i : Nat) : Prop :=
  ∀ (listed : Array Bool) (a : Act) (w : World), listed.size = l.length → J listed a w → listed.getD i true = false → (∀ e ∈ o.after, Region.binds .any e = true → listed.getD e.on false = true) →
    wpOp P l.toArray Q i (fun a' w' => J (listed.setIfInBounds i true) a' w') a w
/-- How many have not come up. -/
def left (listed : Array Bool) (n : Nat) : Nat := (List.range n).countP fun i => !listed.getD i true
theorem left_set {listed : Array Bool} {n i : Nat} (hs : listed.size = n) (hi : listed.getD i true = false) : left (listed.setIfInBounds i true) n + 1 = left listed n := by
  have hin : i < n := by
    rcases Nat.lt_or_ge i n with h | h
    · exact h
    · rw [Array.getD_eq_getD_getElem?, Array.getElem?_eq_none (by omega)] at hi; cases hi
  unfold left
  have hsplit : List.range n = List.range i ++ i :: (List.range (n - i - 1)).map (· + (i + 1)) := by
    refine List.ext_getElem? fun k => ?_
    rcases Nat.lt_trichotomy k i with h | h | h
    · rw [List.getElem?_append_left (by simpa using h)]
      simp [h, show k < n by omega]
    · subst h
      rw [List.getElem?_append_right (by simp)]
      simp [hin]
    · rw [List.getElem?_append_right (by simp; omega), List.length_range, show k - i = (k - i - 1) + 1 by omega, List.getElem?_cons_succ, List.getElem?_map]
      by_cases g : k < n
      · rw [List.getElem?_range g, List.getElem?_range (by omega)]
        simp
        omega
      · rw [List.getElem?_eq_none (by simp; omega), List.getElem?_eq_none (by simp; omega)]
        rfl
  have key : ∀ j, j ≠ i → (listed.setIfInBounds i true).getD j true = listed.getD j true := fun j hj => by
    rw [Array.getD_eq_getD_getElem?, Array.getD_eq_getD_getElem?, Array.getElem?_setIfInBounds_ne (Ne.symm hj)]
  have ki : (listed.setIfInBounds i true).getD i true = true := by
    rw [Array.getD_eq_getD_getElem?]
    simp [show i < listed.size by omega]
  rw [hsplit, List.countP_append, List.countP_append, List.countP_cons, List.countP_cons, ki, hi]
  have e1 : (List.range i).countP (fun j => !(listed.setIfInBounds i true).getD j true) = (List.range i).countP (fun j => !listed.getD j true) :=
    List.countP_congr fun j hj => by rw [key j (by have := List.mem_range.1 hj; omega)]
  have e2 : ((List.range (n - i - 1)).map (· + (i + 1))).countP (fun j => !(listed.setIfInBounds i true).getD j true) = ((List.range (n - i - 1)).map (· + (i + 1))).countP (fun j => !listed.getD j true) :=
    List.countP_congr fun j hj => by
      obtain ⟨m, _, e⟩ := List.mem_map.1 hj
      rw [key j (by omega)]
  rw [e1, e2]
  simp
  omega
theorem left_none {listed : Array Bool} {n : Nat} (h : left listed n = 0) : ∀ i, i < n → listed.getD i true = true := by
  intro i hi
  have := List.countP_eq_zero.1 h i (List.mem_range.2 hi)
  simpa using this
theorem wpAny_inv {l : List Oper} {Q : Exit → Act → World → Prop} (J : Array Bool → Act → World → Prop) (ht : topo l = true) (hs : AllSteps (StepOk P l Q J) 0 l)
    (he : ∀ listed a w, J listed a w → (∀ i, i < l.length → listed.getD i false = true) → Q .normal a w) :
    ∀ (fuel : Nat) (listed : Array Bool) (a : Act) (w : World), listed.size = l.length → left listed l.length ≤ fuel → J listed a w → wpAny P .any l.toArray Q fuel listed a w := by
  have all_of : ∀ (listed : Array Bool), listed.size = l.length → Region.ready .any l.toArray listed = [] → ∀ i, i < l.length → listed.getD i true = true := by
    intro listed hz hr i
    induction i using Nat.strongRecOn with
    | ind i ih =>
      intro hi
      by_cases g : listed.getD i true = true
      · exact g
      · exfalso
        have hm : i ∈ Region.ready .any l.toArray listed := by
          rw [mem_ready]
          refine ⟨by simpa using g, l[i], by simp [hi], fun e hem hb => ?_⟩
          have hlt := topo_spec ht (List.getElem?_eq_getElem hi) hem hb
          have := ih e.on hlt (by omega)
          have hsz : e.on < listed.size := by omega
          rw [Array.getD_eq_getD_getElem?, Array.getElem?_eq_getElem hsz] at this ⊢
          simpa using this
        rw [hr] at hm
        cases hm
  have fin : ∀ (listed : Array Bool), listed.size = l.length → (∀ i, i < l.length → listed.getD i true = true) → ∀ i, i < l.length → listed.getD i false = true := by
    intro listed hz h i hi
    have := h i hi
    have hsz : i < listed.size := by omega
    rw [Array.getD_eq_getD_getElem?, Array.getElem?_eq_getElem hsz] at this ⊢
    simpa using this
  intro fuel
  induction fuel with
  | zero =>
    intro listed a w hz hl hj
    have h0 := left_none (show left listed l.length = 0 by omega)
    refine ⟨?_, he listed a w hj (fin listed hz h0)⟩
    cases hr : Region.ready .any l.toArray listed with
    | nil => rfl
    | cons x xs =>
      exfalso
      have hm : x ∈ Region.ready .any l.toArray listed := by rw [hr]; exact List.mem_cons_self ..
      obtain ⟨h1, o, ho, _⟩ := mem_ready.1 hm
      have hx : x < l.length := by
        have := (Array.getElem?_eq_some_iff.1 ho).1
        simpa using this
      rw [h0 x hx] at h1
      cases h1
  | succ fuel ih =>
    intro listed a w hz hl hj
    refine ⟨fun hr => he listed a w hj (fin listed hz (all_of listed hz hr)), fun i hi => ?_⟩
    obtain ⟨h1, o, ho, h2⟩ := mem_ready.1 hi
    have ho2 : l[i]? = some o := by simpa using ho
    have hst := hs.get i o ho2
    rw [Nat.zero_add] at hst
    refine wpOp_mono (fun a' w' hj' => ih _ a' w' (by rw [Array.size_setIfInBounds]; exact hz) ?_ hj') (hst listed a w hz hj h1 h2)
    have := left_set hz h1
    omega
/-- A region that draws its order: whatever order, by an invariant. -/
theorem region_inv {id : Nat} {l : List Oper} {Q : Exit → Act → World → Prop} {a : Act} {w : World} (J : Array Bool → Act → World → Prop) (hm : P.follows .mixedOrders = true) (ht : topo l = true)
    (h0 : J (Array.replicate l.length false) a w.drew) (hs : AllSteps (StepOk P l Q J) 0 l)
    (he : ∀ listed a w, J listed a w → (∀ i, i < l.length → listed.getD i false = true) → Q .normal a w) : (Code.region id l.toArray true).wp P Q a w := by
  refine wp_region_any hm ?_
  have e : l.toArray.size = l.length := by simp
  rw [e]
  refine wpAny_inv J ht hs he _ _ _ _ (by simp) ?_ h0
  unfold left
  refine Nat.le_trans List.countP_le_length ?_
  simp
/-! ### Frames: some slots are open -/
/-- The frame a, but that its slots D hold what x says. -/
def FX (a : Act) (D : List Nat) (x : Nat → Value) : Act := { a with tmps := D.foldl (fun t d => t.setIfInBounds d (x d)) a.tmps }
def upd (x : Nat → Value) (d : Nat) (v : Value) : Nat → Value := fun i => if i = d then v else x i
theorem foldl_get (x : Nat → Value) : ∀ (D : List Nat) (t : Array Value) (i : Nat), (D.foldl (fun t d => t.setIfInBounds d (x d)) t)[i]? = if i ∈ D ∧ i < t.size then some (x i) else t[i]?
  | [], t, i => by simp
  | d :: D, t, i => by
    rw [List.foldl_cons, foldl_get x D, Array.size_setIfInBounds, Array.getElem?_setIfInBounds]
    by_cases h : i ∈ D ∧ i < t.size
    · rw [if_pos h, if_pos ⟨List.mem_cons_of_mem _ h.1, h.2⟩]
    · rw [if_neg h]
      by_cases e : d = i
      · subst e
        by_cases g : d < t.size
        · simp [g]
        · simp [g]
      · rw [if_neg e]
        by_cases g : i ∈ d :: D ∧ i < t.size
        · exfalso
          rcases List.mem_cons.1 g.1 with k | k
          · exact e k.symm
          · exact h ⟨k, g.2⟩
        · rw [if_neg g]
theorem fx_get (a : Act) (D : List Nat) (x : Nat → Value) (i : Nat) : (FX a D x).tmps[i]? = if i ∈ D ∧ i < a.tmps.size then some (x i) else a.tmps[i]? := foldl_get x D a.tmps i
theorem act_ext {a b : Act} (h : ∀ i : Nat, a.tmps[i]? = b.tmps[i]?) (hd : a.defers = b.defers) : a = b := by
  cases a; cases b
  simp only at h hd
  subst hd
  congr 1
  exact Array.ext_getElem? h
theorem fx_put {a : Act} {D : List Nat} {x : Nat → Value} {d : Nat} (hd : d ∈ D) (v : Value) : (FX a D x).put (some d) v = FX a D (upd x d v) := by
  refine act_ext (fun i => ?_) rfl
  show ((FX a D x).tmps.setIfInBounds d v)[i]? = _
  have hsz : (FX a D x).tmps.size = a.tmps.size := by
    unfold FX
    simp only
    generalize a.tmps = t
    clear hd
    induction D generalizing t with
    | nil => rfl
    | cons d D ih => rw [List.foldl_cons, ih, Array.size_setIfInBounds]
  rw [Array.getElem?_setIfInBounds, fx_get, fx_get, hsz]
  by_cases e : d = i
  · subst e
    by_cases g : d < a.tmps.size
    · simp [g, hd, upd]
    · simp [g]
  · have : upd x d v i = x i := if_neg (Ne.symm e)
    rw [if_neg e, this]
theorem fx_self (a : Act) (D : List Nat) : FX a D (fun i => a.tmps.getD i undef) = a := by
  refine act_ext (fun i => ?_) rfl
  rw [fx_get]
  by_cases h : i ∈ D ∧ i < a.tmps.size
  · rw [if_pos h, Array.getD_eq_getD_getElem?, Array.getElem?_eq_getElem h.2]; rfl
  · rw [if_neg h]
theorem fx_in {a : Act} {D : List Nat} {x : Nat → Value} {t : Nat} (h : t ∈ D) (hb : t < a.tmps.size) : (FX a D x).eval (.tmp t) = x t := by
  show (FX a D x).tmps.getD t undef = _
  rw [Array.getD_eq_getD_getElem?, fx_get, if_pos ⟨h, hb⟩]
  rfl
theorem fx_out {a : Act} {D : List Nat} {x : Nat → Value} {t : Nat} (h : t ∉ D) : (FX a D x).eval (.tmp t) = a.eval (.tmp t) := by
  show (FX a D x).tmps.getD t undef = a.tmps.getD t undef
  rw [Array.getD_eq_getD_getElem?, Array.getD_eq_getD_getElem?, fx_get, if_neg (fun g => h g.1)]
/-- The same, as the walk's simp writes a slot's value. -/
theorem fx_inG {a : Act} {D : List Nat} {x : Nat → Value} {t : Nat} (h : t ∈ D) (hb : t < a.tmps.size) : ((FX a D x).tmps[t]?).getD undef = x t := by
  rw [fx_get, if_pos ⟨h, hb⟩]
  rfl
theorem fx_outG {a : Act} {D : List Nat} {x : Nat → Value} {t : Nat} (h : t ∉ D) : ((FX a D x).tmps[t]?).getD undef = (a.tmps[t]?).getD undef := by
  rw [fx_get, if_neg (fun g => h g.1)]
theorem wp_gen {c : Code} {Q : Exit → Act → World → Prop} {a : Act} {w : World} (h : ∀ A, A = a → c.wp P Q A w) : c.wp P Q a w := h a rfl
theorem gd_ne {listed : Array Bool} {i k : Nat} (h : i ≠ k) (hl : (listed.setIfInBounds i true).getD k false = true) : listed.getD k false = true := by
  rw [Array.getD_eq_getD_getElem?, Array.getElem?_setIfInBounds_ne h] at hl
  rw [Array.getD_eq_getD_getElem?]
  exact hl
theorem gd_keep {listed : Array Bool} {i k : Nat} (hl : listed.getD k false = true) : (listed.setIfInBounds i true).getD k false = true := by
  rw [Array.getD_eq_getD_getElem?] at hl ⊢
  by_cases e : i = k
  · subst e
    by_cases g : i < listed.size
    · simp [g]
    · rw [Array.getElem?_eq_none (by omega)] at hl; cases hl
  · rw [Array.getElem?_setIfInBounds_ne e]; exact hl
theorem gd_no {listed : Array Bool} {i : Nat} (h : listed.getD i true = false) (hl : listed.getD i false = true) : False := by
  rw [Array.getD_eq_getD_getElem?] at h hl
  by_cases g : i < listed.size
  · rw [Array.getElem?_eq_getElem g] at h hl
    simp only [Option.getD_some] at h hl
    rw [h] at hl
    cases hl
  · rw [Array.getElem?_eq_none (by omega)] at h; cases h
/-- What holds, of the open slots. -/
def JX (a : Act) (D : List Nat) (I : Array Bool → (Nat → Value) → World → Prop) (listed : Array Bool) (b : Act) (w : World) : Prop := ∃ x, b = FX a D x ∧ I listed x w
/-- The operations that one waits for have come up. -/
def Ready (o : Oper) (listed : Array Bool) : Prop := ∀ e ∈ o.after, Region.binds .any e = true → listed.getD e.on false = true
section
variable {l : List Oper} {Q : Exit → Act → World → Prop} {a : Act} {D : List Nat} {I : Array Bool → (Nat → Value) → World → Prop} {o : Oper} {i : Nat}
theorem wpOp_of (ho : l[i]? = some o) (hg : o.guard = none) {K : Act → World → Prop} {b : Act} {w : World} (h : o.wp P b w K Q) : wpOp P l.toArray Q i K b w := by
  unfold wpOp
  have e : l.toArray[i]? = some o := by simpa using ho
  simp only [e]
  rw [if_pos (by simp [Region.wanted, hg])]
  exact .inl h
theorem step_value {d : Nat} (ho : l[i]? = some o) (hg : o.guard = none) (hd : o.dst = some d) (hD : d ∈ D)
    (h : ∀ listed x w, I listed x w → Ready o listed → listed.getD i true = false → ∃ v w', (execOp (FX a D x).eval o).run P w = .ok (.value v) w' ∧ I (listed.setIfInBounds i true) (upd x d v) w') : StepOk P l Q (JX a D I) o i := by
  rintro listed b w _ ⟨x, rfl, hI⟩ hu hr
  obtain ⟨v, w', hrun, hI'⟩ := h listed x w hI hr hu
  refine wpOp_of ho hg ?_
  unfold Oper.wp
  rw [hrun]
  show _
  rw [Oper.upon_value, hd, fx_put hD]
  exact ⟨_, rfl, hI'⟩
theorem step_skip (ho : l[i]? = some o) (hg : o.guard = none) (hd : o.dst = none)
    (h : ∀ listed x w, I listed x w → Ready o listed → listed.getD i true = false → ∃ w', (execOp (FX a D x).eval o).run P w = .ok .skip w' ∧ I (listed.setIfInBounds i true) x w') : StepOk P l Q (JX a D I) o i := by
  rintro listed b w _ ⟨x, rfl, hI⟩ hu hr
  obtain ⟨w', hrun, hI'⟩ := h listed x w hI hr hu
  refine wpOp_of ho hg ?_
  unfold Oper.wp
  rw [hrun, Oper.upon_skip, hd]
  exact ⟨_, rfl, hI'⟩
theorem step_call {d : Nat} (ho : l[i]? = some o) (hg : o.guard = none) (hd : o.dst = some d) (hD : d ∈ D)
    (h : ∀ listed x w, I listed x w → Ready o listed → listed.getD i true = false → ∃ f args, (execOp (FX a D x).eval o).run P w = .ok (.enter f args) w ∧ Calls P f args w fun e w' => ∃ v, e = .returned v ∧ I (listed.setIfInBounds i true) (upd x d v) w') : StepOk P l Q (JX a D I) o i := by
  rintro listed b w _ ⟨x, rfl, hI⟩ hu hr
  obtain ⟨f, args, hrun, hc⟩ := h listed x w hI hr hu
  refine wpOp_of ho hg ?_
  unfold Oper.wp
  rw [hrun, Oper.upon_enter]
  refine hc.mono ?_
  rintro e w' ⟨v, rfl, hI'⟩
  show JX a D I _ ((FX a D x).put o.dst v) w'
  rw [hd, fx_put hD]
  exact ⟨_, rfl, hI'⟩
end
/-- A region that draws its order, by an invariant of its slots. -/
theorem region_slots {id : Nat} {l : List Oper} {Q : Exit → Act → World → Prop} {a : Act} {w : World} (D : List Nat) (I : Array Bool → (Nat → Value) → World → Prop) (hm : P.follows .mixedOrders = true) (ht : topo l = true)
    (h0 : I (Array.replicate l.length false) (fun i => a.tmps.getD i undef) w.drew) (hs : AllSteps (StepOk P l Q (JX a D I)) 0 l)
    (he : ∀ listed x w, I listed x w → (∀ i, i < l.length → listed.getD i false = true) → Q .normal (FX a D x) w) : (Code.region id l.toArray true).wp P Q a w :=
  region_inv (JX a D I) hm ht ⟨_, (fx_self a D).symm, h0⟩ hs (fun listed b w ⟨x, hb, hI⟩ hall => by rw [hb]; exact he listed x w hI hall)
theorem gd_yes {listed : Array Bool} {i : Nat} (hu : listed.getD i true = false) (h : (listed.setIfInBounds i true).getD i false = false) : False := by
  have hs : i < listed.size := by
    rcases Nat.lt_or_ge i listed.size with g | g
    · exact g
    · rw [Array.getD_eq_getD_getElem?, Array.getElem?_eq_none (by omega)] at hu; cases hu
  rw [Array.getD_eq_getD_getElem?] at h
  simp [hs] at h
theorem gd_un {listed : Array Bool} {i : Nat} (hu : listed.getD i true = false) : listed.getD i false = false := by
  cases g : listed.getD i false with
  | false => rfl
  | true => exact (gd_no hu g).elim
theorem gd_clash {listed : Array Bool} {i : Nat} (h : listed.getD i false = true) (h2 : listed.getD i false = false) : False := by rw [h] at h2; cases h2
theorem gd_off {listed : Array Bool} {i k : Nat} (h : (listed.setIfInBounds i true).getD k false = false) : listed.getD k false = false := by
  cases g : listed.getD k false with
  | false => rfl
  | true => rw [gd_keep g] at h; cases h
theorem rep_false {n k : Nat} (h : (Array.replicate n false).getD k false = true) : False := by
  rw [Array.getD_eq_getD_getElem?, Array.getElem?_replicate] at h
  split at h <;> cases h
end Go.Proofs.YtbcoknlkncnmfaaDoor.RegI
