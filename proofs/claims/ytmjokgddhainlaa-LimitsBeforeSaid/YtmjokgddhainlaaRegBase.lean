/-
  Several texts in one file: RegInv, RegDet, RegDuty. Condition: those of each.
-/
import Derived.Orders
import Derived.RowKit3
import Derived.Test.YtmjokgddhainlaaBlk
/-
  A region that draws its order, by what holds of each set of operations that have come up: an invariant, and one step for each operation. Nothing of the program. Condition: none.
-/
namespace Go.Proofs.Ytmjokgddhainlaa.RegI
open Go

/-- One obligation for each operation of a list. -/
def AllSteps (f : Oper → Nat → Prop) : Nat → List Oper → Prop
  | _, [] => True
  | i, o :: l => f o i ∧ AllSteps f (i + 1) l
theorem AllSteps.get {f : Oper → Nat → Prop} : ∀ {k : Nat} {l : List Oper}, AllSteps f k l → ∀ i o, l[i]? = some o → f o (k + i)
  | _, [], _, i, o, h => by simp at h
  | k, x :: l, hs, 0, o, h => by
    have e : x = o := by simpa using h
    rw [← e]
    exact hs.1
  | k, x :: l, hs, i + 1, o, h => by
    have := hs.2.get i o (by simpa using h)
    rw [show k + (i + 1) = k + 1 + i by omega]
    exact this
/-- Each operation waits only for ones that stand before it in the text. -/
def topo (l : List Oper) : Bool := (List.range l.length).all fun i => ((l[i]?).map fun o => o.after.all fun e => !Region.binds .any e || decide (e.on < i)).getD true
theorem topo_spec {l : List Oper} (h : topo l = true) {i : Nat} {o : Oper} (ho : l[i]? = some o) {e : Edge} (he : e ∈ o.after) (hb : Region.binds .any e = true) : e.on < i := by
  have hi : i < l.length := (List.getElem?_eq_some_iff.1 ho).1
  have := List.all_eq_true.1 h i (List.mem_range.2 hi)
  rw [ho, Option.map_some, Option.getD_some, Array.all_eq_true_iff_forall_mem] at this
  have := this e he
  rw [hb] at this
  simpa using this
variable {P : Program}
/-- One operation's step: it may come up, then what holds goes on holding. -/
def StepOk (P : Program) (l : List Oper) (Q : Exit → Act → World → Prop) (J : Array Bool → Act → World → Prop) (o : Oper) (i : Nat) : Prop :=
  ∀ (listed : Array Bool) (a : Act) (w : World), listed.size = l.length → J listed a w → listed.getD i true = false → (∀ e ∈ o.after, Region.binds .any e = true → listed.getD e.on false = true) →
    wpOp P l.toArray Q i (fun a' w' => J (listed.setIfInBounds i true) a' w') a w
/-- How many have not come up. -/
def left (listed : Array Bool) (n : Nat) : Nat := (List.range n).countP fun i => !listed.getD i true
theorem left_set {listed : Array Bool} {n i : Nat} (hs : listed.size = n) (hi : listed.getD i true = false) : left (listed.setIfInBounds i true) n + 1 = left listed n := by
  have hin : i < n := by
    rcases Nat.lt_or_ge i n with h | h
    · exact h
    · rw [Array.getD_eq_getD_getElem?, Array.getElem?_eq_none (by omega)] at hi; cases hi
  unfold left
  have hsplit : List.range n = List.range i ++ i :: (List.range (n - i - 1)).map (· + (i + 1)) := by
    refine List.ext_getElem? fun k => ?_
    rcases Nat.lt_trichotomy k i with h | h | h
    · rw [List.getElem?_append_left (by simpa using h)]
      simp [h, show k < n by omega]
    · subst h
      rw [List.getElem?_append_right (by simp)]
      simp [hin]
    · rw [List.getElem?_append_right (by simp; omega), List.length_range, show k - i = (k - i - 1) + 1 by omega, List.getElem?_cons_succ, List.getElem?_map]
      by_cases g : k < n
      · rw [List.getElem?_range g, List.getElem?_range (by omega)]
        simp
        omega
      · rw [List.getElem?_eq_none (by simp; omega), List.getElem?_eq_none (by simp; omega)]
        rfl
  have key : ∀ j, j ≠ i → (listed.setIfInBounds i true).getD j true = listed.getD j true := fun j hj => by
    rw [Array.getD_eq_getD_getElem?, Array.getD_eq_getD_getElem?, Array.getElem?_setIfInBounds_ne (Ne.symm hj)]
  have ki : (listed.setIfInBounds i true).getD i true = true := by
    rw [Array.getD_eq_getD_getElem?]
    simp [show i < listed.size by omega]
  rw [hsplit, List.countP_append, List.countP_append, List.countP_cons, List.countP_cons, ki, hi]
  have e1 : (List.range i).countP (fun j => !(listed.setIfInBounds i true).getD j true) = (List.range i).countP (fun j => !listed.getD j true) :=
    List.countP_congr fun j hj => by rw [key j (by have := List.mem_range.1 hj; omega)]
  have e2 : ((List.range (n - i - 1)).map (· + (i + 1))).countP (fun j => !(listed.setIfInBounds i true).getD j true) = ((List.range (n - i - 1)).map (· + (i + 1))).countP (fun j => !listed.getD j true) :=
    List.countP_congr fun j hj => by
      obtain ⟨m, _, e⟩ := List.mem_map.1 hj
      rw [key j (by omega)]
  rw [e1, e2]
  simp
  omega
theorem left_none {listed : Array Bool} {n : Nat} (h : left listed n = 0) : ∀ i, i < n → listed.getD i true = true := by
  intro i hi
  have := List.countP_eq_zero.1 h i (List.mem_range.2 hi)
  simpa using this
theorem wpAny_inv {l : List Oper} {Q : Exit → Act → World → Prop} (J : Array Bool → Act → World → Prop) (ht : topo l = true) (hs : AllSteps (StepOk P l Q J) 0 l)
    (he : ∀ listed a w, J listed a w → (∀ i, i < l.length → listed.getD i false = true) → Q .normal a w) :
    ∀ (fuel : Nat) (listed : Array Bool) (a : Act) (w : World), listed.size = l.length → left listed l.length ≤ fuel → J listed a w → wpAny P .any l.toArray Q fuel listed a w := by
  have all_of : ∀ (listed : Array Bool), listed.size = l.length → Region.ready .any l.toArray listed = [] → ∀ i, i < l.length → listed.getD i true = true := by
    intro listed hz hr i
    induction i using Nat.strongRecOn with
    | ind i ih =>
      intro hi
      by_cases g : listed.getD i true = true
      · exact g
      · exfalso
        have hm : i ∈ Region.ready .any l.toArray listed := by
          rw [mem_ready]
          refine ⟨by simpa using g, l[i], by simp [hi], fun e hem hb => ?_⟩
          have hlt := topo_spec ht (List.getElem?_eq_getElem hi) hem hb
          have := ih e.on hlt (by omega)
          have hsz : e.on < listed.size := by omega
          rw [Array.getD_eq_getD_getElem?, Array.getElem?_eq_getElem hsz] at this ⊢
          simpa using this
        rw [hr] at hm
        cases hm
  have fin : ∀ (listed : Array Bool), listed.size = l.length → (∀ i, i < l.length → listed.getD i true = true) → ∀ i, i < l.length → listed.getD i false = true := by
    intro listed hz h i hi
    have := h i hi
    have hsz : i < listed.size := by omega
    rw [Array.getD_eq_getD_getElem?, Array.getElem?_eq_getElem hsz] at this ⊢
    simpa using this
  intro fuel
  induction fuel with
  | zero =>
    intro listed a w hz hl hj
    have h0 := left_none (show left listed l.length = 0 by omega)
    refine ⟨?_, he listed a w hj (fin listed hz h0)⟩
    cases hr : Region.ready .any l.toArray listed with
    | nil => rfl
    | cons x xs =>
      exfalso
      have hm : x ∈ Region.ready .any l.toArray listed := by rw [hr]; exact List.mem_cons_self ..
      obtain ⟨h1, o, ho, _⟩ := mem_ready.1 hm
      have hx : x < l.length := by
        have := (Array.getElem?_eq_some_iff.1 ho).1
        simpa using this
      rw [h0 x hx] at h1
      cases h1
  | succ fuel ih =>
    intro listed a w hz hl hj
    refine ⟨fun hr => he listed a w hj (fin listed hz (all_of listed hz hr)), fun i hi => ?_⟩
    obtain ⟨h1, o, ho, h2⟩ := mem_ready.1 hi
    have ho2 : l[i]? = some o := by simpa using ho
    have hst := hs.get i o ho2
    rw [Nat.zero_add] at hst
    refine wpOp_mono (fun a' w' hj' => ih _ a' w' (by rw [Array.size_setIfInBounds]; exact hz) ?_ hj') (hst listed a w hz hj h1 h2)
    have := left_set hz h1
    omega
/-- A region that draws its order: whatever order, by an invariant. -/
theorem region_inv {id : Nat} {l : List Oper} {Q : Exit → Act → World → Prop} {a : Act} {w : World} (J : Array Bool → Act → World → Prop) (hm : P.follows .mixedOrders = true) (ht : topo l = true)
    (h0 : J (Array.replicate l.length false) a w.drew) (hs : AllSteps (StepOk P l Q J) 0 l)
    (he : ∀ listed a w, J listed a w → (∀ i, i < l.length → listed.getD i false = true) → Q .normal a w) : (Code.region id l.toArray true).wp P Q a w := by
  refine wp_region_any hm ?_
  have e : l.toArray.size = l.length := by simp
  rw [e]
  refine wpAny_inv J ht hs he _ _ _ _ (by simp) ?_ h0
  unfold left
  refine Nat.le_trans List.countP_le_length ?_
  simp
/-! ### Frames: some slots are open -/
/-- The frame a, but that its slots D hold what x says. -/
def FX (a : Act) (D : List Nat) (x : Nat → Value) : Act := { a with tmps := D.foldl (fun t d => t.setIfInBounds d (x d)) a.tmps }
def upd (x : Nat → Value) (d : Nat) (v : Value) : Nat → Value := fun i => if i = d then v else x i
theorem foldl_get (x : Nat → Value) : ∀ (D : List Nat) (t : Array Value) (i : Nat), (D.foldl (fun t d => t.setIfInBounds d (x d)) t)[i]? = if i ∈ D ∧ i < t.size then some (x i) else t[i]?
  | [], t, i => by simp
  | d :: D, t, i => by
    rw [List.foldl_cons, foldl_get x D, Array.size_setIfInBounds, Array.getElem?_setIfInBounds]
    by_cases h : i ∈ D ∧ i < t.size
    · rw [if_pos h, if_pos ⟨List.mem_cons_of_mem _ h.1, h.2⟩]
    · rw [if_neg h]
      by_cases e : d = i
      · subst e
        by_cases g : d < t.size
        · simp [g]
        · simp [g]
      · rw [if_neg e]
        by_cases g : i ∈ d :: D ∧ i < t.size
        · exfalso
          rcases List.mem_cons.1 g.1 with k | k
          · exact e k.symm
          · exact h ⟨k, g.2⟩
        · rw [if_neg g]
theorem fx_get (a : Act) (D : List Nat) (x : Nat → Value) (i : Nat) : (FX a D x).tmps[i]? = if i ∈ D ∧ i < a.tmps.size then some (x i) else a.tmps[i]? := foldl_get x D a.tmps i
theorem act_ext {a b : Act} (h : ∀ i : Nat, a.tmps[i]? = b.tmps[i]?) (hd : a.defers = b.defers) : a = b := by
  cases a; cases b
  simp only at h hd
  subst hd
  congr 1
  exact Array.ext_getElem? h
theorem fx_put {a : Act} {D : List Nat} {x : Nat → Value} {d : Nat} (hd : d ∈ D) (v : Value) : (FX a D x).put (some d) v = FX a D (upd x d v) := by
  refine act_ext (fun i => ?_) rfl
  show ((FX a D x).tmps.setIfInBounds d v)[i]? = _
  have hsz : (FX a D x).tmps.size = a.tmps.size := by
    unfold FX
    simp only
    generalize a.tmps = t
    clear hd
    induction D generalizing t with
    | nil => rfl
    | cons d D ih => rw [List.foldl_cons, ih, Array.size_setIfInBounds]
  rw [Array.getElem?_setIfInBounds, fx_get, fx_get, hsz]
  by_cases e : d = i
  · subst e
    by_cases g : d < a.tmps.size
    · simp [g, hd, upd]
    · simp [g]
  · have : upd x d v i = x i := if_neg (Ne.symm e)
    rw [if_neg e, this]
theorem fx_self (a : Act) (D : List Nat) : FX a D (fun i => a.tmps.getD i undef) = a := by
  refine act_ext (fun i => ?_) rfl
  rw [fx_get]
  by_cases h : i ∈ D ∧ i < a.tmps.size
  · rw [if_pos h, Array.getD_eq_getD_getElem?, Array.getElem?_eq_getElem h.2]; rfl
  · rw [if_neg h]
theorem fx_in {a : Act} {D : List Nat} {x : Nat → Value} {t : Nat} (h : t ∈ D) (hb : t < a.tmps.size) : (FX a D x).eval (.tmp t) = x t := by
  show (FX a D x).tmps.getD t undef = _
  rw [Array.getD_eq_getD_getElem?, fx_get, if_pos ⟨h, hb⟩]
  rfl
theorem fx_out {a : Act} {D : List Nat} {x : Nat → Value} {t : Nat} (h : t ∉ D) : (FX a D x).eval (.tmp t) = a.eval (.tmp t) := by
  show (FX a D x).tmps.getD t undef = a.tmps.getD t undef
  rw [Array.getD_eq_getD_getElem?, Array.getD_eq_getD_getElem?, fx_get, if_neg (fun g => h g.1)]
/-- The same, as the walk's simp writes a slot's value. -/
theorem fx_inG {a : Act} {D : List Nat} {x : Nat → Value} {t : Nat} (h : t ∈ D) (hb : t < a.tmps.size) : ((FX a D x).tmps[t]?).getD undef = x t := by
  rw [fx_get, if_pos ⟨h, hb⟩]
  rfl
theorem fx_outG {a : Act} {D : List Nat} {x : Nat → Value} {t : Nat} (h : t ∉ D) : ((FX a D x).tmps[t]?).getD undef = (a.tmps[t]?).getD undef := by
  rw [fx_get, if_neg (fun g => h g.1)]
theorem wp_gen {c : Code} {Q : Exit → Act → World → Prop} {a : Act} {w : World} (h : ∀ A, A = a → c.wp P Q A w) : c.wp P Q a w := h a rfl
theorem gd_ne {listed : Array Bool} {i k : Nat} (h : i ≠ k) (hl : (listed.setIfInBounds i true).getD k false = true) : listed.getD k false = true := by
  rw [Array.getD_eq_getD_getElem?, Array.getElem?_setIfInBounds_ne h] at hl
  rw [Array.getD_eq_getD_getElem?]
  exact hl
theorem gd_keep {listed : Array Bool} {i k : Nat} (hl : listed.getD k false = true) : (listed.setIfInBounds i true).getD k false = true := by
  rw [Array.getD_eq_getD_getElem?] at hl ⊢
  by_cases e : i = k
  · subst e
    by_cases g : i < listed.size
    · simp [g]
    · rw [Array.getElem?_eq_none (by omega)] at hl; cases hl
  · rw [Array.getElem?_setIfInBounds_ne e]; exact hl
theorem gd_no {listed : Array Bool} {i : Nat} (h : listed.getD i true = false) (hl : listed.getD i false = true) : False := by
  rw [Array.getD_eq_getD_getElem?] at h hl
  by_cases g : i < listed.size
  · rw [Array.getElem?_eq_getElem g] at h hl
    simp only [Option.getD_some] at h hl
    rw [h] at hl
    cases hl
  · rw [Array.getElem?_eq_none (by omega)] at h; cases h
/-- What holds, of the open slots. -/
def JX (a : Act) (D : List Nat) (I : Array Bool → (Nat → Value) → World → Prop) (listed : Array Bool) (b : Act) (w : World) : Prop := ∃ x, b = FX a D x ∧ I listed x w
/-- The operations that one waits for have come up. -/
def Ready (o : Oper) (listed : Array Bool) : Prop := ∀ e ∈ o.after, Region.binds .any e = true → listed.getD e.on false = true
section
variable {l : List Oper} {Q : Exit → Act → World → Prop} {a : Act} {D : List Nat} {I : Array Bool → (Nat → Value) → World → Prop} {o : Oper} {i : Nat}
theorem wpOp_of (ho : l[i]? = some o) (hg : o.guard = none) {K : Act → World → Prop} {b : Act} {w : World} (h : o.wp P b w K Q) : wpOp P l.toArray Q i K b w := by
  unfold wpOp
  have e : l.toArray[i]? = some o := by simpa using ho
  simp only [e]
  rw [if_pos (by simp [Region.wanted, hg])]
  exact .inl h
theorem step_value {d : Nat} (ho : l[i]? = some o) (hg : o.guard = none) (hd : o.dst = some d) (hD : d ∈ D)
    (h : ∀ listed x w, I listed x w → Ready o listed → listed.getD i true = false → ∃ v w', (execOp (FX a D x).eval o).run P w = .ok (.value v) w' ∧ I (listed.setIfInBounds i true) (upd x d v) w') : StepOk P l Q (JX a D I) o i := by
  rintro listed b w _ ⟨x, rfl, hI⟩ hu hr
  obtain ⟨v, w', hrun, hI'⟩ := h listed x w hI hr hu
  refine wpOp_of ho hg ?_
  unfold Oper.wp
  rw [hrun]
  show _
  rw [Oper.upon_value, hd, fx_put hD]
  exact ⟨_, rfl, hI'⟩
theorem step_skip (ho : l[i]? = some o) (hg : o.guard = none) (hd : o.dst = none)
    (h : ∀ listed x w, I listed x w → Ready o listed → listed.getD i true = false → ∃ w', (execOp (FX a D x).eval o).run P w = .ok .skip w' ∧ I (listed.setIfInBounds i true) x w') : StepOk P l Q (JX a D I) o i := by
  rintro listed b w _ ⟨x, rfl, hI⟩ hu hr
  obtain ⟨w', hrun, hI'⟩ := h listed x w hI hr hu
  refine wpOp_of ho hg ?_
  unfold Oper.wp
  rw [hrun, Oper.upon_skip, hd]
  exact ⟨_, rfl, hI'⟩
theorem step_call {d : Nat} (ho : l[i]? = some o) (hg : o.guard = none) (hd : o.dst = some d) (hD : d ∈ D)
    (h : ∀ listed x w, I listed x w → Ready o listed → listed.getD i true = false → ∃ f args, (execOp (FX a D x).eval o).run P w = .ok (.enter f args) w ∧ Calls P f args w fun e w' => ∃ v, e = .returned v ∧ I (listed.setIfInBounds i true) (upd x d v) w') : StepOk P l Q (JX a D I) o i := by
  rintro listed b w _ ⟨x, rfl, hI⟩ hu hr
  obtain ⟨f, args, hrun, hc⟩ := h listed x w hI hr hu
  refine wpOp_of ho hg ?_
  unfold Oper.wp
  rw [hrun, Oper.upon_enter]
  refine hc.mono ?_
  rintro e w' ⟨v, rfl, hI'⟩
  show JX a D I _ ((FX a D x).put o.dst v) w'
  rw [hd, fx_put hD]
  exact ⟨_, rfl, hI'⟩
end
/-- A region that draws its order, by an invariant of its slots. -/
theorem region_slots {id : Nat} {l : List Oper} {Q : Exit → Act → World → Prop} {a : Act} {w : World} (D : List Nat) (I : Array Bool → (Nat → Value) → World → Prop) (hm : P.follows .mixedOrders = true) (ht : topo l = true)
    (h0 : I (Array.replicate l.length false) (fun i => a.tmps.getD i undef) w.drew) (hs : AllSteps (StepOk P l Q (JX a D I)) 0 l)
    (he : ∀ listed x w, I listed x w → (∀ i, i < l.length → listed.getD i false = true) → Q .normal (FX a D x) w) : (Code.region id l.toArray true).wp P Q a w :=
  region_inv (JX a D I) hm ht ⟨_, (fx_self a D).symm, h0⟩ hs (fun listed b w ⟨x, hb, hI⟩ hall => by rw [hb]; exact he listed x w hI hall)
theorem gd_yes {listed : Array Bool} {i : Nat} (hu : listed.getD i true = false) (h : (listed.setIfInBounds i true).getD i false = false) : False := by
  have hs : i < listed.size := by
    rcases Nat.lt_or_ge i listed.size with g | g
    · exact g
    · rw [Array.getD_eq_getD_getElem?, Array.getElem?_eq_none (by omega)] at hu; cases hu
  rw [Array.getD_eq_getD_getElem?] at h
  simp [hs] at h
theorem gd_un {listed : Array Bool} {i : Nat} (hu : listed.getD i true = false) : listed.getD i false = false := by
  cases g : listed.getD i false with
  | false => rfl
  | true => exact (gd_no hu g).elim
theorem gd_clash {listed : Array Bool} {i : Nat} (h : listed.getD i false = true) (h2 : listed.getD i false = false) : False := by rw [h] at h2; cases h2
theorem gd_off {listed : Array Bool} {i k : Nat} (h : (listed.setIfInBounds i true).getD k false = false) : listed.getD k false = false := by
  cases g : listed.getD k false with
  | false => rfl
  | true => rw [gd_keep g] at h; cases h
theorem rep_false {n k : Nat} (h : (Array.replicate n false).getD k false = true) : False := by
  rw [Array.getD_eq_getD_getElem?, Array.getElem?_replicate] at h
  split at h <;> cases h
end Go.Proofs.Ytmjokgddhainlaa.RegI

/-
  A region that draws its order and whose operations have determined values: whatever the order, each slot holds its value in the end; of memory is said what the operations keep (Own), and what one new or one given block holds. Nothing of the program. Condition: none.
-/
namespace Go.Proofs.Ytmjokgddhainlaa.RegD
open Go RegI PairW BlkW
variable {P : Program}
/-- Which operations have come up. -/
abbrev Ls := Nat → Bool
def setL (L : Ls) (i : Nat) : Ls := fun k => if k = i then true else L k
theorem setL_self (L : Ls) (i : Nat) : setL L i i = true := if_pos rfl
theorem setL_ne (L : Ls) {i k : Nat} (h : k ≠ i) : setL L i k = L k := if_neg h
/-- The frame A with its slots D filled: those of Ps with what u says, the others with what c says. -/
def FF (A : Act) (D Ps : List Nat) (c u : Nat → Value) : Act := FX A D (fun d => if d ∈ Ps then u d else c d)
theorem fx_size (A : Act) (D : List Nat) (x : Nat → Value) : (FX A D x).tmps.size = A.tmps.size := by
  unfold FX
  simp only
  generalize A.tmps = t
  induction D generalizing t with
  | nil => rfl
  | cons d D ih => rw [List.foldl_cons, ih, Array.size_setIfInBounds]
theorem fx_defers (A : Act) (D : List Nat) (x : Nat → Value) : (FX A D x).defers = A.defers := rfl
/-- What one operation leaves. -/
def Post (A : Act) (o : Oper) (Ps : List Nat) (c : Nat → Value) (T' : (Nat → Value) → World → Prop) (u : Nat → Value) : Exit → Act → World → Prop := fun e a' w' =>
  e = .normal ∧ a'.defers = A.defers ∧ (∀ d, o.dst = some d → d ∉ Ps → a'.tmps.getD d undef = c d) ∧
    T' (match o.dst with | some d => if d ∈ Ps then upd u d (a'.tmps.getD d undef) else u | none => u) w'
def noSel (o : Oper) : Bool := match o.op with | .select _ _ => false | _ => true
theorem noSel_spec {o : Oper} (h : noSel o = true) : ∀ cs b, o.op ≠ .select cs b := by
  intro cs b e
  unfold noSel at h
  rw [e] at h
  cases h
/-- What an operation looks at, of the region's slots, it waits for. -/
def okOper (l : List Oper) (D : List Nat) (o : Oper) : Bool :=
  noSel o && ((match o.dst with | some d => D.contains d | none => true) &&
    (o.looksAt l.toArray).all fun t => !D.contains t || o.after.any fun e => Region.binds .any e && ((l[e.on]?).bind (·.dst) == some t))
def okReg (l : List Oper) (D : List Nat) : Bool := topo l && (l.all (okOper l D) && D.all fun d => l.any fun o => o.dst == some d)
theorem wp_shift {o : Oper} {F b : Act} {w : World} {K K' : Act → World → Prop} {Q Q' : Exit → Act → World → Prop} (he : execOp b.eval o = execOp F.eval o)
    (hK : ∀ v w', K' (F.put o.dst v) w' → K (b.put o.dst v) w') (hd : ∀ d w', ¬ K' ({ F with defers := d :: F.defers }.put o.dst undef) w') (hQ : ∀ e a w', Q' e a w' → e = .normal)
    (h : o.wp P F w K' Q') : o.wp P b w K Q := by
  unfold Oper.wp at *
  rw [he]
  generalize (execOp F.eval o).run P w = r at *
  cases r with
  | ok n w' =>
    cases n <;> simp only [Oper.upon] at h ⊢ <;>
      first
        | exact hK _ _ h
        | exact (hd _ _ h).elim
        | exact h
        | exact Rows.mono h (fun _ _ hh => hK _ _ hh)
        | (refine Calls.mono h (fun e w'' hh => ?_)
           cases e with
           | returned v => exact hK _ _ hh
           | panicked ch => exact absurd (hQ _ _ _ hh) (by simp)
           | outgrown =>
             obtain ⟨a, w3, h3⟩ := hh
             exact absurd (hQ _ _ _ h3) (by simp))
  | halt x w' =>
    cases x <;> simp only [Oper.upon] at h ⊢ <;>
      first
        | exact absurd (hQ _ _ _ h) (by simp)
        | exact h
section
variable {l : List Oper} {A : Act} {D Ps : List Nat} {c : Nat → Value} {T : Ls → (Nat → Value) → World → Prop} {o : Oper} {i : Nat}
/-- One operation's duty: at the frame that is full. -/
def StepC (P : Program) (l : List Oper) (A : Act) (D Ps : List Nat) (c : Nat → Value) (T : Ls → (Nat → Value) → World → Prop) (o : Oper) (i : Nat) : Prop :=
  ∀ (L : Ls) (u : Nat → Value) (w : World), T L u w → L i = false → (∀ e ∈ o.after, Region.binds .any e = true → L e.on = true) →
    wpList P l.toArray (Post A o Ps c (T (setL L i)) u) [o] (FF A D Ps c u) w
def JD (l : List Oper) (A : Act) (D Ps : List Nat) (c : Nat → Value) (T : Ls → (Nat → Value) → World → Prop) (listed : Array Bool) (b : Act) (w : World) : Prop :=
  ∃ x u, b = FX A D x ∧ (∀ d, d ∈ Ps → x d = u d) ∧ (∀ j oj d, l[j]? = some oj → oj.dst = some d → listed.getD j false = true → d ∉ Ps → x d = c d) ∧ T (fun k => listed.getD k false) u w
theorem listed_set {listed : Array Bool} (hi : i < listed.size) : (fun k => (listed.setIfInBounds i true).getD k false) = setL (fun k => listed.getD k false) i := by
  funext k
  unfold setL
  simp only [Array.getD_eq_getD_getElem?, Array.getElem?_setIfInBounds]
  by_cases e : i = k
  · subst e; simp [hi]
  · rw [if_neg e, if_neg (fun x => e x.symm)]
theorem jd_next {listed : Array Bool} {x u : Nat → Value} {v : Value} {w' : World} (hb : ∀ d, d ∈ D → d < A.tmps.size) (hD : ∀ d, o.dst = some d → d ∈ D) (ho : l[i]? = some o) (hi : i < listed.size)
    (hP : ∀ d, d ∈ Ps → x d = u d) (hc : ∀ j oj d, l[j]? = some oj → oj.dst = some d → listed.getD j false = true → d ∉ Ps → x d = c d)
    (h : Post A o Ps c (T (setL (fun k => listed.getD k false) i)) u .normal ((FF A D Ps c u).put o.dst v) w') : JD l A D Ps c T (listed.setIfInBounds i true) ((FX A D x).put o.dst v) w' := by
  obtain ⟨_, _, hv, ht⟩ := h
  cases hd : o.dst with
  | none =>
    rw [hd] at ht
    refine ⟨x, u, rfl, hP, fun j oj d h1 h2 h3 h4 => ?_, ?_⟩
    · by_cases e : i = j
      · subst e
        rw [ho] at h1
        injection h1 with h1
        subst h1
        rw [hd] at h2
        cases h2
      · exact hc j oj d h1 h2 (gd_ne e h3) h4
    · rw [listed_set hi]; exact ht
  | some d =>
    have hDd := hD d hd
    rw [hd] at ht hv
    have hsl : ((FF A D Ps c u).put (some d) v).tmps.getD d undef = v := by
      show ((FF A D Ps c u).tmps.setIfInBounds d v).getD d undef = v
      have hs : d < (FF A D Ps c u).tmps.size := by unfold FF; rw [fx_size]; exact hb d hDd
      rw [Array.getD_eq_getD_getElem?]
      simp [hs]
    have hv := hv d rfl
    rw [hsl] at hv
    simp only [hsl] at ht
    by_cases hp : d ∈ Ps
    · simp only [hp, if_true] at ht
      refine ⟨upd x d v, upd u d v, fx_put hDd v, fun d' h' => ?_, fun j oj d' h1 h2 h3 h4 => ?_, ?_⟩
      · unfold upd
        by_cases e : d' = d
        · rw [if_pos e, if_pos e]
        · rw [if_neg e, if_neg e]; exact hP d' h'
      · have e : d' ≠ d := fun e => h4 (e ▸ hp)
        have ej : i ≠ j := by
          intro ej
          subst ej
          rw [ho] at h1
          injection h1 with h1
          subst h1
          rw [hd] at h2
          injection h2 with h2
          exact e h2.symm
        have : upd x d v d' = x d' := if_neg e
        rw [this]
        exact hc j oj d' h1 h2 (gd_ne ej h3) h4
      · rw [listed_set hi]; exact ht
    · simp only [hp, if_false] at ht
      have hv := hv hp
      refine ⟨upd x d v, u, fx_put hDd v, fun d' h' => ?_, fun j oj d' h1 h2 h3 h4 => ?_, ?_⟩
      · have e : d' ≠ d := fun e => hp (e ▸ h')
        have : upd x d v d' = x d' := if_neg e
        rw [this]
        exact hP d' h'
      · by_cases e : d' = d
        · subst e
          have : upd x d' v d' = v := if_pos rfl
          rw [this, hv]
        · have ej : i ≠ j := by
            intro ej
            subst ej
            rw [ho] at h1
            injection h1 with h1
            subst h1
            rw [hd] at h2
            injection h2 with h2
            exact e h2.symm
          have : upd x d v d' = x d' := if_neg e
          rw [this]
          exact hc j oj d' h1 h2 (gd_ne ej h3) h4
      · rw [listed_set hi]; exact ht
theorem step_ok {Q : Exit → Act → World → Prop} (hb : ∀ d, d ∈ D → d < A.tmps.size) (ho : l[i]? = some o) (hk : okOper l D o = true) (h : StepC P l A D Ps c T o i) : StepOk P l Q (JD l A D Ps c T) o i := by
  rintro listed b w hsz ⟨x, u, rfl, hP, hc, hT⟩ hu hr
  have hst := h (fun k => listed.getD k false) u w hT (gd_un hu) hr
  have hi : i < listed.size := by rw [hsz]; exact (List.getElem?_eq_some_iff.1 ho).1
  unfold okOper at hk
  rw [Bool.and_eq_true, Bool.and_eq_true] at hk
  obtain ⟨hk1, hk2, hk3⟩ := hk
  have hsel := noSel_spec hk1
  have hD : ∀ d, o.dst = some d → d ∈ D := fun d hd => by
    rw [hd] at hk2
    simpa using hk2
  have hlook : ∀ t, t ∈ o.looksAt l.toArray → (FX A D x).tmps[t]? = (FF A D Ps c u).tmps[t]? := by
    intro t ht
    unfold FF
    rw [fx_get, fx_get]
    by_cases hd : t ∈ D ∧ t < A.tmps.size
    · rw [if_pos hd, if_pos hd]
      congr 1
      show x t = if t ∈ Ps then u t else c t
      by_cases hp : t ∈ Ps
      · rw [if_pos hp]; exact hP t hp
      · rw [if_neg hp]
        have := List.all_eq_true.1 hk3 t ht
        rw [Bool.or_eq_true] at this
        rcases this with this | this
        · have hd1 := hd.1
          simp [hd1] at this
        · obtain ⟨e, he, hee⟩ := Array.any_eq_true'.1 this
          rw [Bool.and_eq_true] at hee
          obtain ⟨hbi, hds⟩ := hee
          have hds := eq_of_beq hds
          cases hoj : l[e.on]? with
          | none => rw [hoj] at hds; cases hds
          | some oj =>
            rw [hoj] at hds
            exact hc e.on oj t hoj hds (hr e he hbi) hp
    · rw [if_neg hd, if_neg hd]
  have hex : execOp (FX A D x).eval o = execOp (FF A D Ps c u).eval o := execOp_congr o hsel fun y hy => by
    cases y with
    | tmp t =>
      have := hlook t (List.mem_append_left _ (List.mem_filterMap.2 ⟨.tmp t, by simpa using hy, rfl⟩))
      show (FX A D x).tmps.getD t undef = (FF A D Ps c u).tmps.getD t undef
      rw [Array.getD_eq_getD_getElem?, Array.getD_eq_getD_getElem?, this]
    | _ => rfl
  have hwa : Region.wanted o (yielded l.toArray (FX A D x).tmps) = Region.wanted o (yielded l.toArray (FF A D Ps c u).tmps) := by
    unfold Region.wanted
    cases hg : o.guard with
    | none => rfl
    | some gw =>
      obtain ⟨g, want⟩ := gw
      have hy : yielded l.toArray (FX A D x).tmps g = yielded l.toArray (FF A D Ps c u).tmps g := by
        unfold yielded
        cases ht : ((l.toArray[g]?).bind (·.dst)) with
        | none => rfl
        | some t =>
          have := hlook t (by
            unfold Oper.looksAt
            refine List.mem_append_right _ ?_
            rw [hg]
            simp only
            rw [ht]
            simp)
          simp only [Option.bind_some, this]
      simp only [hy]
  unfold wpOp
  have e : l.toArray[i]? = some o := by simpa using ho
  simp only [e]
  rw [hwa]
  unfold wpList at hst
  by_cases hw : Region.wanted o (yielded l.toArray (FF A D Ps c u).tmps) = true
  · rw [if_pos hw] at hst ⊢
    rcases hst with hst | ⟨_, a, w3, hlo⟩
    · refine .inl (wp_shift hex (fun v w' hk => jd_next hb hD ho hi hP hc hk) (fun d w' hk => ?_) (fun e a w' hq => hq.1) hst)
      have h2 := hk.2.1
      cases hdst : o.dst <;> rw [hdst] at h2 <;> exact absurd h2 (List.cons_ne_self d A.defers)
    · exact absurd hlo.1 (by simp)
  · rw [if_neg hw] at hst ⊢
    exact jd_next hb hD ho hi hP hc hst
theorem all_ok {Q : Exit → Act → World → Prop} (hb : ∀ d, d ∈ D → d < A.tmps.size) : ∀ (k : Nat) (m : List Oper), (∀ i, m[i]? = l[k + i]?) → (∀ o, o ∈ m → okOper l D o = true) → AllSteps (StepC P l A D Ps c T) k m → AllSteps (StepOk P l Q (JD l A D Ps c T)) k m
  | _, [], _, _, _ => trivial
  | k, o :: m, hm, hk, hs => by
    refine ⟨step_ok hb ?_ (hk o (List.mem_cons_self ..)) hs.1, all_ok hb (k + 1) m (fun i => ?_) (fun o' h' => hk o' (List.mem_cons_of_mem _ h')) hs.2⟩
    · have := hm 0
      simpa using this.symm
    · have := hm (i + 1)
      rw [show k + 1 + i = k + (i + 1) by omega]
      simpa using this
/-- A region of determined values: whatever order. -/
theorem region_core {id : Nat} {Q : Exit → Act → World → Prop} {w : World} (D Ps : List Nat) (c : Nat → Value) (T : Ls → (Nat → Value) → World → Prop) (hm : P.follows .mixedOrders = true) (hk : okReg l D = true) (hb : ∀ d, d ∈ D → d < A.tmps.size)
    (h0 : T (fun _ => false) (fun i => A.tmps.getD i undef) w.drew) (hs : AllSteps (StepC P l A D Ps c T) 0 l)
    (he : ∀ L u w, (∀ i, i < l.length → L i = true) → T L u w → Q .normal (FF A D Ps c u) w) : (Code.region id l.toArray true).wp P Q A w := by
  unfold okReg at hk
  rw [Bool.and_eq_true, Bool.and_eq_true] at hk
  obtain ⟨ht, hk2, hk3⟩ := hk
  refine region_inv (JD l A D Ps c T) hm ht ⟨fun i => A.tmps.getD i undef, fun i => A.tmps.getD i undef, (fx_self A D).symm, fun _ _ => rfl, fun j oj d _ _ h3 _ => (rep_false h3).elim, ?_⟩ (all_ok hb 0 l (fun i => by rw [Nat.zero_add]) (fun o ho => List.all_eq_true.1 hk2 o ho) hs) ?_
  · have : (fun k => (Array.replicate l.length false).getD k false) = fun _ : Nat => false := by
      funext k
      cases g : (Array.replicate l.length false).getD k false with
      | false => rfl
      | true => exact (rep_false g).elim
    rw [this]
    exact h0
  · rintro listed b w ⟨x, u, rfl, hP, hc, hT⟩ hall
    have e : FX A D x = FF A D Ps c u := by
      refine act_ext (fun t => ?_) rfl
      unfold FF
      rw [fx_get, fx_get]
      by_cases hd : t ∈ D ∧ t < A.tmps.size
      · rw [if_pos hd, if_pos hd]
        congr 1
        show x t = if t ∈ Ps then u t else c t
        by_cases hp : t ∈ Ps
        · rw [if_pos hp]; exact hP t hp
        · rw [if_neg hp]
          have := List.all_eq_true.1 hk3 t hd.1
          obtain ⟨o, ho, hod⟩ := List.any_eq_true.1 this
          obtain ⟨j, hj, hjo⟩ := List.getElem_of_mem ho
          exact hc j o t (by rw [List.getElem?_eq_getElem hj, hjo]) (eq_of_beq hod) (hall j hj) hp
      · rw [if_neg hd, if_neg hd]
    rw [e]
    exact he _ u w (fun i hi => hall i hi) hT
end
/-! ### One block, new or given, that is stored into; everything else only reads -/
/-- What an operation leaves that only reads, reckons, or calls what keeps memory. -/
def DPost (A : Act) (o : Oper) (c : Nat → Value) (w : World) : Exit → Act → World → Prop := fun e a' w' =>
  e = .normal ∧ a'.defers = A.defers ∧ (match o.dst with | some d => a'.tmps.getD d undef = c d | none => True) ∧ Own w w'
/-- What the operation that makes a block leaves, and the one that stores into it. -/
def APost (A : Act) (p : Nat) (w : World) (zs : Array Value) (Ty : TypeId) : Exit → Act → World → Prop := fun e a' w' =>
  e = .normal ∧ a'.defers = A.defers ∧ a'.tmps.getD p undef = .pointer (some ⟨w.heap.size, 0, none⟩) ∧ w' = w.alloc (.cells zs Ty)
def SPost (A : Act) (w : World) (B : Nat) (cs : Array Value) : Exit → Act → World → Prop := fun e a' w' => e = .normal ∧ a'.defers = A.defers ∧ w' = w.setRow B cs
theorem wpList_one {l : Array Oper} {Q Q' : Exit → Act → World → Prop} {o : Oper} {a : Act} {w : World} (hQ : ∀ e a' w', Q e a' w' → Q' e a' w') (h : wpList P l Q [o] a w) : wpList P l Q' [o] a w := by
  unfold wpList at h ⊢
  split
  · rename_i hw
    rw [if_pos hw] at h
    rcases h with h | ⟨h1, a2, w2, h2⟩
    · refine .inl ?_
      unfold Oper.wp at h ⊢
      generalize (execOp a.eval o).run P w = r at *
      cases r with
      | ok n w' =>
        cases n <;> simp only [Oper.upon] at h ⊢ <;>
          first
            | exact hQ _ _ _ h
            | exact h
            | exact Rows.mono h (fun _ _ hh => hQ _ _ _ hh)
            | (refine Calls.mono h (fun e w'' hh => ?_)
               cases e with
               | returned v => exact hQ _ _ _ hh
               | panicked ch => exact hQ _ _ _ hh
               | outgrown =>
                 obtain ⟨a3, w3, h3⟩ := hh
                 exact ⟨a3, w3, hQ _ _ _ h3⟩)
      | halt x w' => cases x <;> simp only [Oper.upon] at h ⊢ <;> first | exact hQ _ _ _ h | exact h
    · exact .inr ⟨h1, a2, w2, hQ _ _ _ h2⟩
  · rename_i hw
    rw [if_neg hw] at h
    exact hQ _ _ _ h
/-- Memory beside: what is kept since wb, and the block B. -/
def TN (p ia is : Nat) (wb : World) (zs cs : Array Value) (Ty : TypeId) : Ls → (Nat → Value) → World → Prop := fun L u w =>
  Own wb w ∧ (L is = true → L ia = true) ∧ (L ia = true → ∃ B, u p = .pointer (some ⟨B, 0, none⟩) ∧ wb.heap.size ≤ B ∧ Blk w B (if L is = true then cs else zs) Ty)
def TP (is : Nat) (wb : World) (B : Nat) (zs cs : Array Value) (Ty : TypeId) : Ls → (Nat → Value) → World → Prop := fun L _ w =>
  Own wb w ∧ Blk w B (if L is = true then cs else zs) Ty
def TO (wb : World) : Ls → (Nat → Value) → World → Prop := fun _ _ w => Own wb w
section
variable {l : List Oper} {A : Act} {D : List Nat} {c : Nat → Value} {o : Oper} {i p ia is : Nat} {wb : World} {zs cs : Array Value} {Ty : TypeId} {B : Nat}
theorem slots_same {u : Nat → Value} {Ps : List Nat} {a' : Act} (h : ∀ d, o.dst = some d → d ∉ Ps) : (match o.dst with | some d => if d ∈ Ps then upd u d (a'.tmps.getD d undef) else u | none => u) = u := by
  cases hd : o.dst with
  | none => rfl
  | some d =>
    have := h d hd
    simp only [this, if_false]
/-- An operation that only reads (a new block in the region). -/
theorem det_new (h1 : i ≠ ia) (h2 : i ≠ is) (hp : o.dst ≠ some p) (h : ∀ u w, Own wb w → wpList P l.toArray (DPost A o c w) [o] (FF A D [p] c u) w) : StepC P l A D [p] c (TN p ia is wb zs cs Ty) o i := by
  rintro L u w ⟨hO, hlt, hB⟩ _ _
  refine wpList_one (fun e a' w' hq => ?_) (h u w hO)
  obtain ⟨q1, q2, q3, q4⟩ := hq
  refine ⟨q1, q2, fun d hd _ => (by rw [hd] at q3; exact q3), ?_⟩
  rw [slots_same (fun d hd e => hp (by rw [hd]; simpa using e))]
  refine ⟨hO.trans q4, fun hl => ?_, fun hl => ?_⟩
  · rw [setL_ne L (Ne.symm h2)] at hl
    rw [setL_ne L (Ne.symm h1)]
    exact hlt hl
  · rw [setL_ne L (Ne.symm h1)] at hl
    obtain ⟨B, b1, b2, b3⟩ := hB hl
    refine ⟨B, b1, b2, ?_⟩
    rw [setL_ne L (Ne.symm h2)]
    exact b3.own q4
/-- The operation that makes the block. -/
theorem alloc_new (h2 : ia ≠ is) (hd : o.dst = some p)
    (h : ∀ u w, Own wb w → wpList P l.toArray (APost A p w zs Ty) [o] (FF A D [p] c u) w) :
    StepC P l A D [p] c (TN p ia is wb zs cs Ty) o ia := by
  rintro L u w ⟨hO, hlt, _⟩ hu _
  refine wpList_one (fun e a' w' hq => ?_) (h u w hO)
  obtain ⟨q1, q2, q3, rfl⟩ := hq
  have hps : p ∈ [p] := by simp
  refine ⟨q1, q2, fun d hd' hn => absurd (by rw [hd] at hd'; injection hd' with hd'; subst hd'; exact hps) hn, ?_⟩
  rw [hd]
  simp only [hps, if_true]
  have his : L is = false := by
    cases g : L is with
    | false => rfl
    | true => rw [hlt g] at hu; cases hu
  refine ⟨hO.alloc _, fun _ => setL_self L ia, fun _ => ⟨w.heap.size, ?_, hO.size, ?_⟩⟩
  · have : upd u p (a'.tmps.getD p undef) p = a'.tmps.getD p undef := if_pos rfl
    rw [this]
    exact q3
  · rw [setL_ne L (Ne.symm h2), if_neg (by rw [his]; simp)]
    exact Blk.new w zs Ty
/-- The operation that stores into it. -/
theorem store_new (h2 : ia ≠ is) (hd : o.dst = none) (ha : (o.after.any fun e => Region.binds .any e && (e.on == ia)) = true)
    (h : ∀ u w B, Own wb w → u p = .pointer (some ⟨B, 0, none⟩) → Blk w B zs Ty → wpList P l.toArray (SPost A w B cs) [o] (FF A D [p] c u) w) :
    StepC P l A D [p] c (TN p ia is wb zs cs Ty) o is := by
  rintro L u w ⟨hO, _, hB⟩ hu hr
  obtain ⟨e, he, hee⟩ := Array.any_eq_true'.1 ha
  rw [Bool.and_eq_true] at hee
  have hla : L ia = true := by
    have := hr e he hee.1
    rwa [eq_of_beq hee.2] at this
  obtain ⟨B, b1, b2, b3⟩ := hB hla
  rw [if_neg (by rw [hu]; simp)] at b3
  refine wpList_one (fun e a' w' hq => ?_) (h u w B hO b1 b3)
  obtain ⟨q1, q2, rfl⟩ := hq
  refine ⟨q1, q2, fun d hd' _ => (by rw [hd] at hd'; cases hd'), ?_⟩
  rw [hd]
  refine ⟨own_setRow hO b2 _, fun _ => ?_, fun _ => ⟨B, b1, b2, ?_⟩⟩
  · rw [setL_ne L h2]; exact hla
  · rw [if_pos (setL_self L is)]
    exact b3.row cs
/-- A region of determined values with one new block. -/
theorem region_new {id : Nat} {Q : Exit → Act → World → Prop} {w : World} (D : List Nat) (p ia is : Nat) (c : Nat → Value) (zs cs : Array Value) (Ty : TypeId) (hm : P.follows .mixedOrders = true) (hk : okReg l D = true) (hi : ia < l.length ∧ is < l.length) (hb : ∀ d, d ∈ D → d < A.tmps.size)
    (hs : AllSteps (StepC P l A D [p] c (TN p ia is w zs cs Ty)) 0 l)
    (he : ∀ u w' B, Own w w' → u p = .pointer (some ⟨B, 0, none⟩) → w.heap.size ≤ B → Blk w' B cs Ty → Q .normal (FF A D [p] c u) w') : (Code.region id l.toArray true).wp P Q A w := by
  refine region_core D [p] c (TN p ia is w zs cs Ty) hm hk hb ⟨(Own.refl w).drew, (fun h => absurd h Bool.false_ne_true), (fun h => absurd h Bool.false_ne_true)⟩ hs ?_
  rintro L u w' hall ⟨hO, _, hB⟩
  obtain ⟨B, b1, b2, b3⟩ := hB (hall ia hi.1)
  rw [if_pos (hall is hi.2)] at b3
  exact he u w' B hO b1 b2 b3
/-- An operation that only reads (a given block is stored into). -/
theorem det_put (h2 : i ≠ is) (h : ∀ u w, Own wb w → wpList P l.toArray (DPost A o c w) [o] (FF A D [] c u) w) : StepC P l A D [] c (TP is wb B zs cs Ty) o i := by
  rintro L u w ⟨hO, hB⟩ _ _
  refine wpList_one (fun e a' w' hq => ?_) (h u w hO)
  obtain ⟨q1, q2, q3, q4⟩ := hq
  refine ⟨q1, q2, fun d hd _ => (by rw [hd] at q3; exact q3), ?_⟩
  rw [slots_same (fun d hd e => by cases e)]
  refine ⟨hO.trans q4, ?_⟩
  rw [setL_ne L (Ne.symm h2)]
  exact hB.own q4
theorem store_put (hd : o.dst = none) (hw : wb.heap.size ≤ B)
    (h : ∀ u w, Own wb w → Blk w B zs Ty → wpList P l.toArray (SPost A w B cs) [o] (FF A D [] c u) w) :
    StepC P l A D [] c (TP is wb B zs cs Ty) o is := by
  rintro L u w ⟨hO, hB⟩ hu _
  rw [if_neg (by rw [hu]; simp)] at hB
  refine wpList_one (fun e a' w' hq => ?_) (h u w hO hB)
  obtain ⟨q1, q2, rfl⟩ := hq
  refine ⟨q1, q2, fun d hd' _ => (by rw [hd] at hd'; cases hd'), ?_⟩
  rw [hd]
  refine ⟨own_setRow hO hw _, ?_⟩
  rw [if_pos (setL_self L is)]
  exact hB.row cs
/-- A region of determined values that stores into a given block. -/
theorem region_put {id : Nat} {Q : Exit → Act → World → Prop} {w : World} (D : List Nat) (is : Nat) (c : Nat → Value) (wb : World) (B : Nat) (zs cs : Array Value) (Ty : TypeId) (hm : P.follows .mixedOrders = true) (hk : okReg l D = true) (hi : is < l.length) (hb : ∀ d, d ∈ D → d < A.tmps.size)
    (hO : Own wb w) (hB : Blk w B zs Ty) (hs : AllSteps (StepC P l A D [] c (TP is wb B zs cs Ty)) 0 l)
    (he : ∀ u w', Own wb w' → Blk w' B cs Ty → Q .normal (FF A D [] c u) w') : (Code.region id l.toArray true).wp P Q A w := by
  refine region_core D [] c (TP is wb B zs cs Ty) hm hk hb ⟨hO.drew, by rw [if_neg (by simp)]; exact hB.drew⟩ hs ?_
  rintro L u w' hall ⟨hO, hB⟩
  rw [if_pos (hall is hi)] at hB
  exact he u w' hO hB
/-- An operation that only reads (nothing is stored). -/
theorem det_own (h : ∀ u w, Own wb w → wpList P l.toArray (DPost A o c w) [o] (FF A D [] c u) w) : StepC P l A D [] c (TO wb) o i := by
  intro L u w hO _ _
  refine wpList_one (fun e a' w' hq => ?_) (h u w hO)
  obtain ⟨q1, q2, q3, q4⟩ := hq
  refine ⟨q1, q2, fun d hd _ => (by rw [hd] at q3; exact q3), ?_⟩
  rw [slots_same (fun d hd e => by cases e)]
  exact Own.trans hO q4
/-- A region of determined values without a store. -/
theorem region_own {id : Nat} {Q : Exit → Act → World → Prop} {w : World} (D : List Nat) (c : Nat → Value) (hm : P.follows .mixedOrders = true) (hk : okReg l D = true) (hb : ∀ d, d ∈ D → d < A.tmps.size)
    (hs : AllSteps (StepC P l A D [] c (TO w)) 0 l)
    (he : ∀ u w', Own w w' → Q .normal (FF A D [] c u) w') : (Code.region id l.toArray true).wp P Q A w := by
  refine region_core D [] c (TO w) hm hk hb (Own.refl w).drew hs ?_
  intro L u w' _ hO
  exact he u w' hO
end
end Go.Proofs.Ytmjokgddhainlaa.RegD

/-
  A region of determined values: all duties over one frame, which is written out once (no store; one new block; one given block). Nothing of the program. Condition: none.
-/
namespace Go.Proofs.Ytmjokgddhainlaa.RegD
open Go RegI PairW BlkW
theorem allsteps_mono {f g : Oper → Nat → Prop} (h : ∀ o i, f o i → g o i) : ∀ {k : Nat} {l : List Oper}, AllSteps f k l → AllSteps g k l
  | _, [], _ => trivial
  | _, _ :: _, hs => ⟨h _ _ hs.1, allsteps_mono h hs.2⟩
/-- What each operation owes, and what comes behind, at the frames G. -/
def DutyO (P : Program) (l : List Oper) (A : Act) (c : Nat → Value) (wb : World) (Q : Exit → Act → World → Prop) (G : (Nat → Value) → Act) : Prop :=
  AllSteps (fun o _ => ∀ u w, Own wb w → wpList P l.toArray (DPost A o c w) [o] (G u) w) 0 l ∧ ∀ u w', Own wb w' → Q .normal (G u) w'
theorem region_duty {P : Program} {id : Nat} {l : List Oper} {Q : Exit → Act → World → Prop} {A : Act} {w : World} (D : List Nat) (c : Nat → Value) (hm : P.follows .mixedOrders = true) (hk : okReg l D = true) (hb : ∀ d, d ∈ D → d < A.tmps.size)
    (h : DutyO P l A c w Q (fun u => FF A D [] c u)) : (Code.region id l.toArray true).wp P Q A w :=
  region_own D c hm hk hb (allsteps_mono (fun _ _ hs => det_own hs) h.1) h.2
/-- The same with one new block: made by operation ia (slot p), stored into by operation is. -/
def StepN (P : Program) (l : List Oper) (A : Act) (p ia is : Nat) (c : Nat → Value) (wb : World) (zs cs : Array Value) (Ty : TypeId) (G : (Nat → Value) → Act) (o : Oper) (i : Nat) : Prop :=
  if i = ia then o.dst = some p ∧ ∀ u w, Own wb w → wpList P l.toArray (APost A p w zs Ty) [o] (G u) w
    else if i = is then o.dst = none ∧ (o.after.any fun e => Region.binds .any e && (e.on == ia)) = true ∧ ∀ u w B, Own wb w → u p = .pointer (some ⟨B, 0, none⟩) → Blk w B zs Ty → wpList P l.toArray (SPost A w B cs) [o] (G u) w
    else o.dst ≠ some p ∧ ∀ u w, Own wb w → wpList P l.toArray (DPost A o c w) [o] (G u) w
section
variable {P : Program} {l : List Oper} {A : Act} {p ia is i : Nat} {c : Nat → Value} {wb : World} {zs cs : Array Value} {Ty : TypeId} {G : (Nat → Value) → Act} {o : Oper} {B : Nat}
theorem stepN_alloc (hd : o.dst = some p) (h : ∀ u w, Own wb w → wpList P l.toArray (APost A p w zs Ty) [o] (G u) w) : StepN P l A p ia is c wb zs cs Ty G o ia := by
  unfold StepN; rw [if_pos rfl]; exact ⟨hd, h⟩
theorem stepN_store (hne : is ≠ ia) (hd : o.dst = none) (ha : (o.after.any fun e => Region.binds .any e && (e.on == ia)) = true) (h : ∀ u w B, Own wb w → u p = .pointer (some ⟨B, 0, none⟩) → Blk w B zs Ty → wpList P l.toArray (SPost A w B cs) [o] (G u) w) : StepN P l A p ia is c wb zs cs Ty G o is := by
  unfold StepN; rw [if_neg hne, if_pos rfl]; exact ⟨hd, ha, h⟩
theorem stepN_det (h1 : i ≠ ia) (h2 : i ≠ is) (hd : o.dst ≠ some p) (h : ∀ u w, Own wb w → wpList P l.toArray (DPost A o c w) [o] (G u) w) : StepN P l A p ia is c wb zs cs Ty G o i := by
  unfold StepN; rw [if_neg h1, if_neg h2]; exact ⟨hd, h⟩
def StepP (P : Program) (l : List Oper) (A : Act) (is : Nat) (c : Nat → Value) (wb : World) (B : Nat) (zs cs : Array Value) (Ty : TypeId) (G : (Nat → Value) → Act) (o : Oper) (i : Nat) : Prop :=
  if i = is then o.dst = none ∧ ∀ u w, Own wb w → Blk w B zs Ty → wpList P l.toArray (SPost A w B cs) [o] (G u) w
    else ∀ u w, Own wb w → wpList P l.toArray (DPost A o c w) [o] (G u) w
theorem stepP_store (hd : o.dst = none) (h : ∀ u w, Own wb w → Blk w B zs Ty → wpList P l.toArray (SPost A w B cs) [o] (G u) w) : StepP P l A is c wb B zs cs Ty G o is := by
  unfold StepP; rw [if_pos rfl]; exact ⟨hd, h⟩
theorem stepP_det (h2 : i ≠ is) (h : ∀ u w, Own wb w → wpList P l.toArray (DPost A o c w) [o] (G u) w) : StepP P l A is c wb B zs cs Ty G o i := by
  unfold StepP; rw [if_neg h2]; exact h
end
def DutyN (P : Program) (l : List Oper) (A : Act) (p ia is : Nat) (c : Nat → Value) (wb : World) (zs cs : Array Value) (Ty : TypeId) (Q : Exit → Act → World → Prop) (G : (Nat → Value) → Act) : Prop :=
  AllSteps (StepN P l A p ia is c wb zs cs Ty G) 0 l ∧
  ∀ u w' B, Own wb w' → u p = .pointer (some ⟨B, 0, none⟩) → wb.heap.size ≤ B → Blk w' B cs Ty → Q .normal (G u) w'
theorem region_dutyN {P : Program} {id : Nat} {l : List Oper} {Q : Exit → Act → World → Prop} {A : Act} {w : World} (D : List Nat) (p ia is : Nat) (c : Nat → Value) (zs cs : Array Value) (Ty : TypeId) (hm : P.follows .mixedOrders = true) (hk : okReg l D = true) (hi : ia < l.length ∧ is < l.length ∧ ia ≠ is) (hb : ∀ d, d ∈ D → d < A.tmps.size)
    (h : DutyN P l A p ia is c w zs cs Ty Q (fun u => FF A D [p] c u)) : (Code.region id l.toArray true).wp P Q A w := by
  refine region_new D p ia is c zs cs Ty hm hk ⟨hi.1, hi.2.1⟩ hb (allsteps_mono (fun o i hs => ?_) h.1) h.2
  unfold StepN at hs
  by_cases h1 : i = ia
  · subst h1
    rw [if_pos rfl] at hs
    exact alloc_new hi.2.2 hs.1 hs.2
  · rw [if_neg h1] at hs
    by_cases h2 : i = is
    · subst h2
      rw [if_pos rfl] at hs
      exact store_new hi.2.2 hs.1 hs.2.1 hs.2.2
    · rw [if_neg h2] at hs
      exact det_new h1 h2 hs.1 hs.2
/-- The same with one given block. -/
def DutyP (P : Program) (l : List Oper) (A : Act) (is : Nat) (c : Nat → Value) (wb : World) (B : Nat) (zs cs : Array Value) (Ty : TypeId) (Q : Exit → Act → World → Prop) (G : (Nat → Value) → Act) : Prop :=
  AllSteps (StepP P l A is c wb B zs cs Ty G) 0 l ∧
  ∀ u w', Own wb w' → Blk w' B cs Ty → Q .normal (G u) w'
theorem region_dutyP {P : Program} {id : Nat} {l : List Oper} {Q : Exit → Act → World → Prop} {A : Act} {w : World} (D : List Nat) (is : Nat) (c : Nat → Value) (wb : World) (B : Nat) (zs cs : Array Value) (Ty : TypeId) (hm : P.follows .mixedOrders = true) (hk : okReg l D = true) (hi : is < l.length) (hb : ∀ d, d ∈ D → d < A.tmps.size)
    (hw : wb.heap.size ≤ B) (hO : Own wb w) (hB : Blk w B zs Ty) (h : DutyP P l A is c wb B zs cs Ty Q (fun u => FF A D [] c u)) : (Code.region id l.toArray true).wp P Q A w := by
  refine region_put D is c wb B zs cs Ty hm hk hi hb hO hB (allsteps_mono (fun o i hs => ?_) h.1) h.2
  unfold StepP at hs
  by_cases h2 : i = is
  · subst h2
    rw [if_pos rfl] at hs
    exact store_put hs.1 hw hs.2
  · rw [if_neg h2] at hs
    exact det_put h2 hs
end Go.Proofs.Ytmjokgddhainlaa.RegD
