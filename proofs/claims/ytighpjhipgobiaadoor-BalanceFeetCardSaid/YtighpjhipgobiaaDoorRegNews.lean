/-
  A region of determined values that makes some blocks and stores into each whole. Nothing of the program. Condition: none.
-/
import Derived.Test.YtighpjhipgobiaaDoorRegTwo
namespace Go.Proofs.YtighpjhipgobiaaDoor.RegD
open Go RegI PairW BlkW
variable {P : Program}
/-- A block that the region makes: its slot, the operations that make it and that store into it, what it holds before and behind, its type. -/
structure NewB where
  p : Nat
  ia : Nat
  is : Nat
  zs : Array Value
  cs : Array Value
  T : TypeId
def TB (Bs : List NewB) (wb : World) : Ls → (Nat → Value) → World → Prop := fun L u w =>
  Own wb w ∧ ∀ q, q ∈ Bs → (L q.is = true → L q.ia = true) ∧ (L q.ia = true → ∃ B, u q.p = .pointer (some ⟨B, 0, none⟩) ∧ wb.heap.size ≤ B ∧ Blk w B (if L q.is = true then q.cs else q.zs) q.T ∧ ∀ r, r ∈ Bs → r.p ≠ q.p → L r.ia = true → u r.p ≠ .pointer (some ⟨B, 0, none⟩))
/-- The list is in order: no two the same, all operations apart. -/
structure OkB (Bs : List NewB) (Ps : List Nat) (n : Nat) : Prop where
  ps : ∀ k, k ∈ Ps ↔ ∃ q, q ∈ Bs ∧ q.p = k
  one : ∀ q, q ∈ Bs → ∀ r, r ∈ Bs → q.p = r.p → q = r
  ap : ∀ q, q ∈ Bs → ∀ r, r ∈ Bs → q.ia ≠ r.is ∧ (q.p ≠ r.p → q.ia ≠ r.ia ∧ q.is ≠ r.is)
  lt : ∀ q, q ∈ Bs → q.ia < n ∧ q.is < n
section
variable {l : List Oper} {A : Act} {D Ps : List Nat} {Bs : List NewB} {c : Nat → Value} {i n : Nat} {wb : World} {o : Oper} {G : (Nat → Value) → Act}
def StepB (P : Program) (l : List Oper) (A : Act) (Bs : List NewB) (c : Nat → Value) (wb : World) (G : (Nat → Value) → Act) (o : Oper) (i : Nat) : Prop :=
  (∃ q, q ∈ Bs ∧ i = q.ia ∧ o.dst = some q.p ∧ ∀ u w, Own wb w → wpList P l.toArray (APost A q.p w q.zs q.T) [o] (G u) w) ∨
  (∃ q, q ∈ Bs ∧ i = q.is ∧ o.dst = none ∧ (o.after.any fun e => Region.binds .any e && (e.on == q.ia)) = true ∧ ∀ u w B, Own wb w → u q.p = .pointer (some ⟨B, 0, none⟩) → Blk w B q.zs q.T → wpList P l.toArray (SPost A w B q.cs) [o] (G u) w) ∨
  ((∀ q, q ∈ Bs → i ≠ q.ia ∧ i ≠ q.is ∧ o.dst ≠ some q.p) ∧ ∀ u w, Own wb w → wpList P l.toArray (DPost A o c w) [o] (G u) w)
theorem stepB_new (q : NewB) (hq : q ∈ Bs) (hi : i = q.ia) (hd : o.dst = some q.p) (h : ∀ u w, Own wb w → wpList P l.toArray (APost A q.p w q.zs q.T) [o] (G u) w) : StepB P l A Bs c wb G o i := .inl ⟨q, hq, hi, hd, h⟩
theorem stepB_store (q : NewB) (hq : q ∈ Bs) (hi : i = q.is) (hd : o.dst = none) (ha : (o.after.any fun e => Region.binds .any e && (e.on == q.ia)) = true) (h : ∀ u w B, Own wb w → u q.p = .pointer (some ⟨B, 0, none⟩) → Blk w B q.zs q.T → wpList P l.toArray (SPost A w B q.cs) [o] (G u) w) : StepB P l A Bs c wb G o i := .inr (.inl ⟨q, hq, hi, hd, ha, h⟩)
theorem stepB_det (h1 : ∀ q, q ∈ Bs → i ≠ q.ia ∧ i ≠ q.is ∧ o.dst ≠ some q.p) (h : ∀ u w, Own wb w → wpList P l.toArray (DPost A o c w) [o] (G u) w) : StepB P l A Bs c wb G o i := .inr (.inr ⟨h1, h⟩)
theorem stepB_c (hB : OkB Bs Ps n) (h : StepB P l A Bs c wb (fun u => FF A D Ps c u) o i) : StepC P l A D Ps c (TB Bs wb) o i := by
  rcases h with ⟨q, hq, rfl, hd, h⟩ | ⟨q, hq, rfl, hd, ha, h⟩ | ⟨h1, h⟩
  · rintro L u w1 ⟨hO, hT⟩ hu _
    have hp : q.p ∈ Ps := (hB.ps _).2 ⟨q, hq, rfl⟩
    refine wpList_one (fun e a' w' hh => ?_) (h u w1 hO)
    obtain ⟨q1, q2, q3, rfl⟩ := hh
    refine ⟨q1, q2, fun d hd' hn => absurd (by rw [hd] at hd'; injection hd' with hd'; exact hd' ▸ hp) hn, ?_⟩
    rw [hd]
    simp only [hp, if_true]
    have us : upd u q.p (a'.tmps.getD q.p undef) q.p = .pointer (some ⟨w1.heap.size, 0, none⟩) := (if_pos rfl).trans q3
    have uo : ∀ k, k ≠ q.p → upd u q.p (a'.tmps.getD q.p undef) k = u k := fun k hk => if_neg hk
    have his : L q.is = false := by
      cases g : L q.is with
      | false => rfl
      | true => rw [(hT q hq).1 g] at hu; cases hu
    have hlt : ∀ r, r ∈ Bs → L r.ia = true → u r.p ≠ .pointer (some ⟨w1.heap.size, 0, none⟩) := fun r hr hl e => by
      obtain ⟨B, k1, -, k2, -⟩ := (hT r hr).2 hl
      rw [k1] at e
      injection e with e
      injection e with e
      injection e with e
      have := k2.lt
      omega
    refine ⟨hO.alloc _, fun r hr => ?_⟩
    by_cases e : r.p = q.p
    · obtain rfl := hB.one r hr q hq e
      refine ⟨fun _ => setL_self L r.ia, fun _ => ⟨w1.heap.size, us, hO.size, ?_, fun s hs hne hl => ?_⟩⟩
      · rw [setL_ne L (Ne.symm (hB.ap r hr r hr).1), if_neg (by rw [his]; simp)]
        exact Blk.new w1 _ _
      · rw [setL_ne L ((hB.ap s hs r hr).2 hne).1] at hl
        rw [uo _ hne]
        exact hlt s hs hl
    · have e1 : setL L q.ia r.ia = L r.ia := setL_ne L ((hB.ap r hr q hq).2 e).1
      have e2 : setL L q.ia r.is = L r.is := setL_ne L (Ne.symm (hB.ap q hq r hr).1)
      rw [e1, e2]
      refine ⟨(hT r hr).1, fun hl => ?_⟩
      obtain ⟨B, k1, k2, k3, k4⟩ := (hT r hr).2 hl
      refine ⟨B, by rw [uo _ e]; exact k1, k2, k3.own ((Own.refl _).alloc _), fun s hs hne hl' => ?_⟩
      by_cases e3 : s.p = q.p
      · rw [e3, us]
        intro e4
        injection e4 with e4
        injection e4 with e4
        injection e4 with e4
        have := k3.lt
        omega
      · rw [setL_ne L ((hB.ap s hs q hq).2 e3).1] at hl'
        rw [uo _ e3]
        exact k4 s hs hne hl'
  · rintro L u w1 ⟨hO, hT⟩ hu hr
    have hla := bound_of L ha hr
    obtain ⟨B, k1, k2, k3, k4⟩ := (hT q hq).2 hla
    rw [if_neg (by rw [hu]; simp)] at k3
    refine wpList_one (fun e a' w' hh => ?_) (h u w1 B hO k1 k3)
    obtain ⟨q1, q2, rfl⟩ := hh
    refine ⟨q1, q2, fun d hd' _ => (by rw [hd] at hd'; cases hd'), ?_⟩
    rw [hd]
    refine ⟨own_setRow hO k2 _, fun r hr => ?_⟩
    have e1 : ∀ s, s ∈ Bs → setL L q.is s.ia = L s.ia := fun s hs => setL_ne L (hB.ap s hs q hq).1
    by_cases e : r.p = q.p
    · obtain rfl := hB.one r hr q hq e
      refine ⟨fun _ => by rw [e1 r hr]; exact hla, fun _ => ⟨B, k1, k2, ?_, fun s hs hne hl => k4 s hs hne (by rw [e1 s hs] at hl; exact hl)⟩⟩
      rw [if_pos (setL_self L r.is)]
      exact k3.row _
    · rw [e1 r hr, setL_ne L ((hB.ap r hr q hq).2 e).2]
      refine ⟨(hT r hr).1, fun hl => ?_⟩
      obtain ⟨C, j1, j2, j3, j4⟩ := (hT r hr).2 hl
      refine ⟨C, j1, j2, j3.rowfar (fun e5 => k4 r hr e hl (by rw [j1, e5])) _, fun s hs hne hl' => j4 s hs hne (by rw [e1 s hs] at hl'; exact hl')⟩
  · rintro L u w1 ⟨hO, hT⟩ hu _
    refine wpList_one (fun e a' w' hh => ?_) (h u w1 hO)
    obtain ⟨q1, q2, q3, q4⟩ := hh
    refine ⟨q1, q2, fun d hd _ => (by rw [hd] at q3; exact q3), ?_⟩
    rw [slots_same (Ps := Ps) (fun d hd e => by
      obtain ⟨r, hr, rfl⟩ := (hB.ps _).1 e
      exact (h1 r hr).2.2 hd)]
    have e1 : ∀ s, s ∈ Bs → setL L i s.ia = L s.ia := fun s hs => setL_ne L (Ne.symm (h1 s hs).1)
    refine ⟨hO.trans q4, fun r hr => ?_⟩
    rw [e1 r hr, setL_ne L (Ne.symm (h1 r hr).2.1)]
    refine ⟨(hT r hr).1, fun hl => ?_⟩
    obtain ⟨C, j1, j2, j3, j4⟩ := (hT r hr).2 hl
    exact ⟨C, j1, j2, j3.own q4, fun s hs hne hl' => j4 s hs hne (by rw [e1 s hs] at hl'; exact hl')⟩
end
def DutyB (P : Program) (l : List Oper) (A : Act) (Bs : List NewB) (c : Nat → Value) (wb : World) (Q : Exit → Act → World → Prop) (G : (Nat → Value) → Act) : Prop :=
  AllSteps (StepB P l A Bs c wb G) 0 l ∧
  ∀ u w', Own wb w' → (∀ q, q ∈ Bs → ∃ B, u q.p = .pointer (some ⟨B, 0, none⟩) ∧ wb.heap.size ≤ B ∧ Blk w' B q.cs q.T ∧ ∀ r, r ∈ Bs → r.p ≠ q.p → u r.p ≠ .pointer (some ⟨B, 0, none⟩)) → Q .normal (G u) w'
theorem startB {A : Act} (Bs : List NewB) (w : World) : TB Bs w (fun _ => false) (fun i => A.tmps.getD i undef) w.drew := by
  refine ⟨(Own.refl w).drew, fun q _ => ⟨fun h => ?_, fun h => ?_⟩⟩
  · cases h
  · cases h
theorem region_dutyB {id : Nat} {l : List Oper} {Q : Exit → Act → World → Prop} {A : Act} {w : World} (D : List Nat) (Bs : List NewB) (Ps : List Nat) (c : Nat → Value) (hm : P.follows .mixedOrders = true) (hk : okReg l D = true)
    (hB : OkB Bs Ps l.length) (hb : ∀ d, d ∈ D → d < A.tmps.size) (h : DutyB P l A Bs c w Q (fun u => FF A D Ps c u)) : (Code.region id l.toArray true).wp P Q A w := by
  refine region_core D Ps c (TB Bs w) hm hk hb (startB Bs w) (allsteps_mono (fun o i hs => stepB_c hB hs) h.1) ?_
  rintro L u w' hall ⟨hO, hT⟩
  refine h.2 u w' hO fun q hq => ?_
  obtain ⟨B, k1, k2, k3, k4⟩ := (hT q hq).2 (hall q.ia (hB.lt q hq).1)
  rw [if_pos (hall q.is (hB.lt q hq).2)] at k3
  exact ⟨B, k1, k2, k3, fun r hr hne => k4 r hr hne (hall r.ia (hB.lt r hr).1)⟩
end Go.Proofs.YtighpjhipgobiaaDoor.RegD
