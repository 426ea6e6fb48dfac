/-
  A region of determined values that stores a part into one block of integers while others are read, whatever the age of that block. Nothing of the program. Condition: none.
-/
import Derived.Test.YtighpjhipgobiaaDoorRegBase
import Derived.Test.YtighpjhipgobiaaDoorPart
namespace Go.Proofs.YtighpjhipgobiaaDoor.RegD
open Go RegI PairW BlkW PrtW
open Go.ChangeShapes Go.WideShapes Go.ChangeAt Go.RowKit
/-- What is kept but for the block B. -/
structure OwnX (B : Nat) (a w : World) : Prop where
  os : w.os = a.os
  output : w.output = a.output
  size : a.heap.size ≤ w.heap.size
  block : ∀ k, k < a.heap.size → k ≠ B → w.heap[k]? = a.heap[k]?
section
variable {a w w' : World} {B : Nat}
theorem OwnX.refl (B : Nat) (w : World) : OwnX B w w := ⟨rfl, rfl, Nat.le_refl _, fun _ _ _ => rfl⟩
theorem OwnX.own (h : OwnX B a w) (q : Own w w') : OwnX B a w' := ⟨q.os.trans h.os, q.output.trans h.output, Nat.le_trans h.size q.size, fun k hk hn => (q.block k (Nat.lt_of_lt_of_le hk h.size)).trans (h.block k hk hn)⟩
theorem OwnX.trans (h : OwnX B a w) (q : OwnX B w w') : OwnX B a w' := ⟨q.os.trans h.os, q.output.trans h.output, Nat.le_trans h.size q.size, fun k hk hn => (q.block k (Nat.lt_of_lt_of_le hk h.size) hn).trans (h.block k hk hn)⟩
theorem OwnX.row (h : OwnX B a w) (cs : Array Value) : OwnX B a (w.setRow B cs) := by
  refine ⟨h.os, h.output, by simpa [World.setRow] using h.size, fun k hk hn => ?_⟩
  rw [← h.block k hk hn]
  unfold World.setRow
  simp only [Array.getElem?_modify]
  rw [if_neg (fun e => hn e.symm)]
theorem own_x {b : World} (h : Own b a) (hB : b.heap.size ≤ B) (q : OwnX B a w) : Own b w := ⟨q.os.trans h.os, q.output.trans h.output, Nat.le_trans h.size q.size, fun k hk => (q.block k (Nat.lt_of_lt_of_le hk h.size) (by omega)).trans (h.block k hk)⟩
end
end Go.Proofs.YtighpjhipgobiaaDoor.RegD
namespace Go.Proofs.YtighpjhipgobiaaDoor.BlkW
open PairW
/-- A block that is not B stays. -/
theorem Blk.ownx {a w : World} {B C : Nat} {cs : Array Value} {T : TypeId} (h : Blk a C cs T) (q : RegD.OwnX B a w) (hn : C ≠ B) : Blk w C cs T := (q.block C h.lt hn).trans h
end Go.Proofs.YtighpjhipgobiaaDoor.BlkW
namespace Go.Proofs.YtighpjhipgobiaaDoor.RegD
open Go RegI PairW BlkW PrtW
open Go.ChangeShapes Go.WideShapes Go.ChangeAt Go.RowKit
section
variable {P : Program} {l : List Oper} {A : Act} {D : List Nat} {c : Nat → Value} {o : Oper} {i is n off m : Nat} {f g : Nat → Int} {wb : World} {Ty : TypeId} {G : (Nat → Value) → Act} {B : Nat}
/-- The part that is stored. -/
def Apart (n off m : Nat) (f h : Nat → Int) : Prop := ∀ i, i < n → (i < off ∨ off + m ≤ i) → h i = f i
def TJ (is n off m : Nat) (f g : Nat → Int) (wb : World) (B : Nat) (Ty : TypeId) : Ls → (Nat → Value) → World → Prop := fun L _ w =>
  OwnX B wb w ∧ ∃ h, Blk w B (cz n h) Ty ∧ Apart n off m f h ∧ (L is = true → cz n h = cz n (put f off m g))
def StepJ (P : Program) (l : List Oper) (A : Act) (is n off m : Nat) (f g : Nat → Int) (c : Nat → Value) (wb : World) (B : Nat) (Ty : TypeId) (G : (Nat → Value) → Act) (o : Oper) (i : Nat) : Prop :=
  if i = is then o.dst = none ∧ ∀ u w h, OwnX B wb w → Blk w B (cz n h) Ty → wpList P l.toArray (SPost A w B (cz n (put h off m g))) [o] (G u) w
    else ∀ u w h, OwnX B wb w → Blk w B (cz n h) Ty → Apart n off m f h → wpList P l.toArray (DPost A o c w) [o] (G u) w
theorem stepJ_store (hd : o.dst = none) (h : ∀ u w h, OwnX B wb w → Blk w B (cz n h) Ty → wpList P l.toArray (SPost A w B (cz n (put h off m g))) [o] (G u) w) : StepJ P l A is n off m f g c wb B Ty G o is := by
  unfold StepJ; rw [if_pos rfl]; exact ⟨hd, h⟩
theorem stepJ_det (h2 : i ≠ is) (h : ∀ u w h, OwnX B wb w → Blk w B (cz n h) Ty → Apart n off m f h → wpList P l.toArray (DPost A o c w) [o] (G u) w) : StepJ P l A is n off m f g c wb B Ty G o i := by
  unfold StepJ; rw [if_neg h2]; exact h
theorem put_put {f h : Nat → Int} (ha : Apart n off m f h) : cz n (put h off m g) = cz n (put f off m g) := cz_congr fun i hi => by
  unfold put
  by_cases c : off ≤ i ∧ i < off + m
  · rw [if_pos c, if_pos c]
  · rw [if_neg c, if_neg c]; exact ha i hi (by omega)
theorem apart_put (f g : Nat → Int) : Apart n off m f (put f off m g) := fun _ _ h => put_out f g h
/-- What a part outside of the stored one holds. -/
theorem apart_part {f h : Nat → Int} (ha : Apart n off m f h) {k j : Nat} (hk : k + j ≤ n) (ho : k + j ≤ off ∨ off + m ≤ k) : cz j (fun i => h (k + i)) = cz j (fun i => f (k + i)) := cz_congr fun i hi => ha (k + i) (by omega) (by omega)
theorem put_whole (h g : Nat → Int) (n : Nat) : cz n (put h 0 n g) = cz n g := cz_congr fun i hi => by
  have := put_in h (k := 0) g hi
  rwa [Nat.zero_add] at this
def DutyJ (P : Program) (l : List Oper) (A : Act) (is n off m : Nat) (f g : Nat → Int) (c : Nat → Value) (wb : World) (B : Nat) (Ty : TypeId) (Q : Exit → Act → World → Prop) (G : (Nat → Value) → Act) : Prop :=
  AllSteps (StepJ P l A is n off m f g c wb B Ty G) 0 l ∧
  ∀ u w', OwnX B wb w' → Blk w' B (cz n (put f off m g)) Ty → Q .normal (G u) w'
theorem region_dutyJ {id : Nat} {Q : Exit → Act → World → Prop} {w : World} (D : List Nat) (is n off m : Nat) (f g : Nat → Int) (c : Nat → Value) (B : Nat) (Ty : TypeId) (hm : P.follows .mixedOrders = true) (hk : okReg l D = true) (hi : is < l.length) (hb : ∀ d, d ∈ D → d < A.tmps.size)
    (hB : Blk w B (cz n f) Ty) (h : DutyJ P l A is n off m f g c w B Ty Q (fun u => FF A D [] c u)) : (Code.region id l.toArray true).wp P Q A w := by
  refine region_core D [] c (TJ is n off m f g w B Ty) hm hk hb ⟨(OwnX.refl B w).own (Own.refl w).drew, f, hB.drew, fun _ _ _ => rfl, fun h => absurd h Bool.false_ne_true⟩ (allsteps_mono (fun o i hs => ?_) h.1) ?_
  · unfold StepJ at hs
    by_cases h2 : i = is
    · subst h2
      rw [if_pos rfl] at hs
      rintro L u w1 ⟨hO, h0, h1, ha, _⟩ hu _
      refine wpList_one (fun e a' w' hq => ?_) (hs.2 u w1 h0 hO h1)
      obtain ⟨q1, q2, rfl⟩ := hq
      refine ⟨q1, q2, fun d hd' _ => (by rw [hs.1] at hd'; cases hd'), ?_⟩
      rw [hs.1]
      exact ⟨hO.row _, put h0 off m g, h1.row _, fun i hi ho => (put_out h0 g ho).trans (ha i hi ho), fun _ => put_put ha⟩
    · rw [if_neg h2] at hs
      rintro L u w1 ⟨hO, h0, h1, ha, hl⟩ _ _
      refine wpList_one (fun e a' w' hq => ?_) (hs u w1 h0 hO h1 ha)
      obtain ⟨q1, q2, q3, q4⟩ := hq
      refine ⟨q1, q2, fun d hd _ => (by rw [hd] at q3; exact q3), ?_⟩
      rw [slots_same (fun d hd e => by cases e)]
      refine ⟨hO.own q4, h0, h1.own q4, ha, fun hx => hl ?_⟩
      rw [setL_ne L (Ne.symm h2)] at hx
      exact hx
  · rintro L u w' hall ⟨hO, h0, h1, _, hl⟩
    refine h.2 u w' hO ?_
    rw [← hl (hall is hi)]
    exact h1
end
/-! ### Two parts stored into one block -/
section
variable {P : Program} {l : List Oper} {A : Act} {D : List Nat} {c : Nat → Value} {o : Oper} {i i1 i2 n m o1 o2 : Nat} {f g1 g2 : Nat → Int} {wb : World} {Ty : TypeId} {G : (Nat → Value) → Act} {B : Nat}
def TK (i1 i2 n m o1 o2 : Nat) (f g1 g2 : Nat → Int) (wb : World) (B : Nat) (Ty : TypeId) : Ls → (Nat → Value) → World → Prop := fun L _ w =>
  OwnX B wb w ∧ ∃ h, Blk w B (cz n h) Ty ∧ (∀ i, i < n → (i < o1 ∨ o1 + m ≤ i) → (i < o2 ∨ o2 + m ≤ i) → h i = f i) ∧ (L i1 = true → ∀ j, j < m → h (o1 + j) = g1 j) ∧ (L i2 = true → ∀ j, j < m → h (o2 + j) = g2 j)
def StepK (P : Program) (l : List Oper) (A : Act) (i1 i2 n m o1 o2 : Nat) (g1 g2 : Nat → Int) (c : Nat → Value) (wb : World) (B : Nat) (Ty : TypeId) (G : (Nat → Value) → Act) (o : Oper) (i : Nat) : Prop :=
  if i = i1 then o.dst = none ∧ ∀ u w h, OwnX B wb w → Blk w B (cz n h) Ty → wpList P l.toArray (SPost A w B (cz n (put h o1 m g1))) [o] (G u) w
    else if i = i2 then o.dst = none ∧ ∀ u w h, OwnX B wb w → Blk w B (cz n h) Ty → wpList P l.toArray (SPost A w B (cz n (put h o2 m g2))) [o] (G u) w
    else ∀ u w, OwnX B wb w → wpList P l.toArray (DPost A o c w) [o] (G u) w
theorem stepK_one (hd : o.dst = none) (h : ∀ u w h, OwnX B wb w → Blk w B (cz n h) Ty → wpList P l.toArray (SPost A w B (cz n (put h o1 m g1))) [o] (G u) w) : StepK P l A i1 i2 n m o1 o2 g1 g2 c wb B Ty G o i1 := by
  unfold StepK; rw [if_pos rfl]; exact ⟨hd, h⟩
theorem stepK_two (hne : i2 ≠ i1) (hd : o.dst = none) (h : ∀ u w h, OwnX B wb w → Blk w B (cz n h) Ty → wpList P l.toArray (SPost A w B (cz n (put h o2 m g2))) [o] (G u) w) : StepK P l A i1 i2 n m o1 o2 g1 g2 c wb B Ty G o i2 := by
  unfold StepK; rw [if_neg hne, if_pos rfl]; exact ⟨hd, h⟩
theorem stepK_det (h1 : i ≠ i1) (h2 : i ≠ i2) (h : ∀ u w, OwnX B wb w → wpList P l.toArray (DPost A o c w) [o] (G u) w) : StepK P l A i1 i2 n m o1 o2 g1 g2 c wb B Ty G o i := by
  unfold StepK; rw [if_neg h1, if_neg h2]; exact h
def DutyK (P : Program) (l : List Oper) (A : Act) (i1 i2 n m o1 o2 : Nat) (f g1 g2 : Nat → Int) (c : Nat → Value) (wb : World) (B : Nat) (Ty : TypeId) (Q : Exit → Act → World → Prop) (G : (Nat → Value) → Act) : Prop :=
  AllSteps (StepK P l A i1 i2 n m o1 o2 g1 g2 c wb B Ty G) 0 l ∧
  ∀ u w', OwnX B wb w' → Blk w' B (cz n (put (put f o1 m g1) o2 m g2)) Ty → Q .normal (G u) w'
theorem region_dutyK {id : Nat} {Q : Exit → Act → World → Prop} {w : World} (D : List Nat) (i1 i2 n m o1 o2 : Nat) (f g1 g2 : Nat → Int) (c : Nat → Value) (B : Nat) (Ty : TypeId) (hm : P.follows .mixedOrders = true) (hk : okReg l D = true) (hi : i1 < l.length ∧ i2 < l.length ∧ i1 ≠ i2) (hb : ∀ d, d ∈ D → d < A.tmps.size)
    (ho : o1 + m ≤ o2 ∨ o2 + m ≤ o1) (hB : Blk w B (cz n f) Ty) (h : DutyK P l A i1 i2 n m o1 o2 f g1 g2 c w B Ty Q (fun u => FF A D [] c u)) : (Code.region id l.toArray true).wp P Q A w := by
  refine region_core D [] c (TK i1 i2 n m o1 o2 f g1 g2 w B Ty) hm hk hb ⟨(OwnX.refl B w).own (Own.refl w).drew, f, hB.drew, fun _ _ _ _ => rfl, (fun h => absurd h Bool.false_ne_true), (fun h => absurd h Bool.false_ne_true)⟩ (allsteps_mono (fun o i hs => ?_) h.1) ?_
  · unfold StepK at hs
    by_cases e1 : i = i1
    · subst e1
      rw [if_pos rfl] at hs
      rintro L u w1 ⟨hO, h0, b1, ha, _, l2⟩ _ _
      refine wpList_one (fun e a' w' hq => ?_) (hs.2 u w1 h0 hO b1)
      obtain ⟨q1, q2, rfl⟩ := hq
      refine ⟨q1, q2, fun d hd' _ => (by rw [hs.1] at hd'; cases hd'), ?_⟩
      rw [hs.1]
      refine ⟨hO.row _, _, b1.row _, fun k hk k1 k2 => (put_out h0 g1 k1).trans (ha k hk k1 k2), fun _ j hj => put_in h0 g1 hj, fun hl j hj => ?_⟩
      rw [setL_ne L (Ne.symm hi.2.2)] at hl
      rw [put_out h0 g1 (by omega)]
      exact l2 hl j hj
    · rw [if_neg e1] at hs
      by_cases e2 : i = i2
      · subst e2
        rw [if_pos rfl] at hs
        rintro L u w1 ⟨hO, h0, b1, ha, l1, _⟩ _ _
        refine wpList_one (fun e a' w' hq => ?_) (hs.2 u w1 h0 hO b1)
        obtain ⟨q1, q2, rfl⟩ := hq
        refine ⟨q1, q2, fun d hd' _ => (by rw [hs.1] at hd'; cases hd'), ?_⟩
        rw [hs.1]
        refine ⟨hO.row _, _, b1.row _, fun k hk k1 k2 => (put_out h0 g2 k2).trans (ha k hk k1 k2), fun hl j hj => ?_, fun _ j hj => put_in h0 g2 hj⟩
        rw [setL_ne L hi.2.2] at hl
        rw [put_out h0 g2 (by omega)]
        exact l1 hl j hj
      · rw [if_neg e2] at hs
        rintro L u w1 ⟨hO, h0, b1, ha, l1, l2⟩ _ _
        refine wpList_one (fun e a' w' hq => ?_) (hs u w1 hO)
        obtain ⟨q1, q2, q3, q4⟩ := hq
        refine ⟨q1, q2, fun d hd _ => (by rw [hd] at q3; exact q3), ?_⟩
        rw [slots_same (fun d hd e => by cases e)]
        refine ⟨hO.own q4, h0, b1.own q4, ha, fun hx => l1 ?_, fun hx => l2 ?_⟩
        · rwa [setL_ne L (Ne.symm e1)] at hx
        · rwa [setL_ne L (Ne.symm e2)] at hx
  · rintro L u w' hall ⟨hO, h0, b1, ha, l1, l2⟩
    refine h.2 u w' hO ?_
    have e : cz n h0 = cz n (put (put f o1 m g1) o2 m g2) := cz_congr fun k hk => by
      by_cases c2 : o2 ≤ k ∧ k < o2 + m
      · obtain ⟨j, rfl⟩ : ∃ j, k = o2 + j := ⟨k - o2, by omega⟩
        rw [put_in _ _ (by omega)]
        exact l2 (hall i2 hi.2.1) j (by omega)
      · rw [put_out _ _ (by omega)]
        by_cases c1 : o1 ≤ k ∧ k < o1 + m
        · obtain ⟨j, rfl⟩ : ∃ j, k = o1 + j := ⟨k - o1, by omega⟩
          rw [put_in _ _ (by omega)]
          exact l1 (hall i1 hi.1) j (by omega)
        · rw [put_out _ _ (by omega)]
          exact ha k hk (by omega) (by omega)
    rw [← e]
    exact b1
end
end Go.Proofs.YtighpjhipgobiaaDoor.RegD
