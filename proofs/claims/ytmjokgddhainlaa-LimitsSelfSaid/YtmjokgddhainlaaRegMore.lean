/-
  Several texts in one file: RegPart, RegTwo, RegLast, RegFact. Condition: those of each.
-/
import Derived.Test.YtmjokgddhainlaaRegBase
import Derived.Test.YtmjokgddhainlaaPart
/-
  A region of determined values that stores a part into one block of integers while others are read, whatever the age of that block. Nothing of the program. Condition: none.
-/
namespace Go.Proofs.Ytmjokgddhainlaa.RegD
open Go RegI PairW BlkW PrtW
open Go.ChangeShapes Go.WideShapes Go.ChangeAt Go.RowKit
/-- What is kept but for the block B. -/
structure OwnX (B : Nat) (a w : World) : Prop where
  os : w.os = a.os
  output : w.output = a.output
  size : a.heap.size ≤ w.heap.size
  block : ∀ k, k < a.heap.size → k ≠ B → w.heap[k]? = a.heap[k]?
section
variable {a w w' : World} {B : Nat}
theorem OwnX.refl (B : Nat) (w : World) : OwnX B w w := ⟨rfl, rfl, Nat.le_refl _, fun _ _ _ => rfl⟩
theorem OwnX.own (h : OwnX B a w) (q : Own w w') : OwnX B a w' := ⟨q.os.trans h.os, q.output.trans h.output, Nat.le_trans h.size q.size, fun k hk hn => (q.block k (Nat.lt_of_lt_of_le hk h.size)).trans (h.block k hk hn)⟩
theorem OwnX.trans (h : OwnX B a w) (q : OwnX B w w') : OwnX B a w' := ⟨q.os.trans h.os, q.output.trans h.output, Nat.le_trans h.size q.size, fun k hk hn => (q.block k (Nat.lt_of_lt_of_le hk h.size) hn).trans (h.block k hk hn)⟩
theorem OwnX.row (h : OwnX B a w) (cs : Array Value) : OwnX B a (w.setRow B cs) := by
  refine ⟨h.os, h.output, by simpa [World.setRow] using h.size, fun k hk hn => ?_⟩
  rw [← h.block k hk hn]
  unfold World.setRow
  simp only [Array.getElem?_modify]
  rw [if_neg (fun e => hn e.symm)]
theorem own_x {b : World} (h : Own b a) (hB : b.heap.size ≤ B) (q : OwnX B a w) : Own b w := ⟨q.os.trans h.os, q.output.trans h.output, Nat.le_trans h.size q.size, fun k hk => (q.block k (Nat.lt_of_lt_of_le hk h.size) (by omega)).trans (h.block k hk)⟩
end
end Go.Proofs.Ytmjokgddhainlaa.RegD
namespace Go.Proofs.Ytmjokgddhainlaa.BlkW
open PairW
/-- A block that is not B stays. -/
theorem Blk.ownx {a w : World} {B C : Nat} {cs : Array Value} {T : TypeId} (h : Blk a C cs T) (q : RegD.OwnX B a w) (hn : C ≠ B) : Blk w C cs T := (q.block C h.lt hn).trans h
end Go.Proofs.Ytmjokgddhainlaa.BlkW
namespace Go.Proofs.Ytmjokgddhainlaa.RegD
open Go RegI PairW BlkW PrtW
open Go.ChangeShapes Go.WideShapes Go.ChangeAt Go.RowKit
section
variable {P : Program} {l : List Oper} {A : Act} {D : List Nat} {c : Nat → Value} {o : Oper} {i is n off m : Nat} {f g : Nat → Int} {wb : World} {Ty : TypeId} {G : (Nat → Value) → Act} {B : Nat}
/-- The part that is stored. -/
def Apart (n off m : Nat) (f h : Nat → Int) : Prop := ∀ i, i < n → (i < off ∨ off + m ≤ i) → h i = f i
def TJ (is n off m : Nat) (f g : Nat → Int) (wb : World) (B : Nat) (Ty : TypeId) : Ls → (Nat → Value) → World → Prop := fun L _ w =>
  OwnX B wb w ∧ ∃ h, Blk w B (cz n h) Ty ∧ Apart n off m f h ∧ (L is = true → cz n h = cz n (put f off m g))
def StepJ (P : Program) (l : List Oper) (A : Act) (is n off m : Nat) (f g : Nat → Int) (c : Nat → Value) (wb : World) (B : Nat) (Ty : TypeId) (G : (Nat → Value) → Act) (o : Oper) (i : Nat) : Prop :=
  if i = is then o.dst = none ∧ ∀ u w h, OwnX B wb w → Blk w B (cz n h) Ty → wpList P l.toArray (SPost A w B (cz n (put h off m g))) [o] (G u) w
    else ∀ u w h, OwnX B wb w → Blk w B (cz n h) Ty → Apart n off m f h → wpList P l.toArray (DPost A o c w) [o] (G u) w
theorem stepJ_store (hd : o.dst = none) (h : ∀ u w h, OwnX B wb w → Blk w B (cz n h) Ty → wpList P l.toArray (SPost A w B (cz n (put h off m g))) [o] (G u) w) : StepJ P l A is n off m f g c wb B Ty G o is := by
  unfold StepJ; rw [if_pos rfl]; exact ⟨hd, h⟩
theorem stepJ_det (h2 : i ≠ is) (h : ∀ u w h, OwnX B wb w → Blk w B (cz n h) Ty → Apart n off m f h → wpList P l.toArray (DPost A o c w) [o] (G u) w) : StepJ P l A is n off m f g c wb B Ty G o i := by
  unfold StepJ; rw [if_neg h2]; exact h
theorem put_put {f h : Nat → Int} (ha : Apart n off m f h) : cz n (put h off m g) = cz n (put f off m g) := cz_congr fun i hi => by
  unfold put
  by_cases c : off ≤ i ∧ i < off + m
  · rw [if_pos c, if_pos c]
  · rw [if_neg c, if_neg c]; exact ha i hi (by omega)
theorem apart_put (f g : Nat → Int) : Apart n off m f (put f off m g) := fun _ _ h => put_out f g h
/-- What a part outside of the stored one holds. -/
theorem apart_part {f h : Nat → Int} (ha : Apart n off m f h) {k j : Nat} (hk : k + j ≤ n) (ho : k + j ≤ off ∨ off + m ≤ k) : cz j (fun i => h (k + i)) = cz j (fun i => f (k + i)) := cz_congr fun i hi => ha (k + i) (by omega) (by omega)
theorem put_whole (h g : Nat → Int) (n : Nat) : cz n (put h 0 n g) = cz n g := cz_congr fun i hi => by
  have := put_in h (k := 0) g hi
  rwa [Nat.zero_add] at this
def DutyJ (P : Program) (l : List Oper) (A : Act) (is n off m : Nat) (f g : Nat → Int) (c : Nat → Value) (wb : World) (B : Nat) (Ty : TypeId) (Q : Exit → Act → World → Prop) (G : (Nat → Value) → Act) : Prop :=
  AllSteps (StepJ P l A is n off m f g c wb B Ty G) 0 l ∧
  ∀ u w', OwnX B wb w' → Blk w' B (cz n (put f off m g)) Ty → Q .normal (G u) w'
theorem region_dutyJ {id : Nat} {Q : Exit → Act → World → Prop} {w : World} (D : List Nat) (is n off m : Nat) (f g : Nat → Int) (c : Nat → Value) (B : Nat) (Ty : TypeId) (hm : P.follows .mixedOrders = true) (hk : okReg l D = true) (hi : is < l.length) (hb : ∀ d, d ∈ D → d < A.tmps.size)
    (hB : Blk w B (cz n f) Ty) (h : DutyJ P l A is n off m f g c w B Ty Q (fun u => FF A D [] c u)) : (Code.region id l.toArray true).wp P Q A w := by
  refine region_core D [] c (TJ is n off m f g w B Ty) hm hk hb ⟨(OwnX.refl B w).own (Own.refl w).drew, f, hB.drew, fun _ _ _ => rfl, fun h => absurd h Bool.false_ne_true⟩ (allsteps_mono (fun o i hs => ?_) h.1) ?_
  · unfold StepJ at hs
    by_cases h2 : i = is
    · subst h2
      rw [if_pos rfl] at hs
      rintro L u w1 ⟨hO, h0, h1, ha, _⟩ hu _
      refine wpList_one (fun e a' w' hq => ?_) (hs.2 u w1 h0 hO h1)
      obtain ⟨q1, q2, rfl⟩ := hq
      refine ⟨q1, q2, fun d hd' _ => (by rw [hs.1] at hd'; cases hd'), ?_⟩
      rw [hs.1]
      exact ⟨hO.row _, put h0 off m g, h1.row _, fun i hi ho => (put_out h0 g ho).trans (ha i hi ho), fun _ => put_put ha⟩
    · rw [if_neg h2] at hs
      rintro L u w1 ⟨hO, h0, h1, ha, hl⟩ _ _
      refine wpList_one (fun e a' w' hq => ?_) (hs u w1 h0 hO h1 ha)
      obtain ⟨q1, q2, q3, q4⟩ := hq
      refine ⟨q1, q2, fun d hd _ => (by rw [hd] at q3; exact q3), ?_⟩
      rw [slots_same (fun d hd e => by cases e)]
      refine ⟨hO.own q4, h0, h1.own q4, ha, fun hx => hl ?_⟩
      rw [setL_ne L (Ne.symm h2)] at hx
      exact hx
  · rintro L u w' hall ⟨hO, h0, h1, _, hl⟩
    refine h.2 u w' hO ?_
    rw [← hl (hall is hi)]
    exact h1
end
/-! ### Two parts stored into one block -/
section
variable {P : Program} {l : List Oper} {A : Act} {D : List Nat} {c : Nat → Value} {o : Oper} {i i1 i2 n m o1 o2 : Nat} {f g1 g2 : Nat → Int} {wb : World} {Ty : TypeId} {G : (Nat → Value) → Act} {B : Nat}
def TK (i1 i2 n m o1 o2 : Nat) (f g1 g2 : Nat → Int) (wb : World) (B : Nat) (Ty : TypeId) : Ls → (Nat → Value) → World → Prop := fun L _ w =>
  OwnX B wb w ∧ ∃ h, Blk w B (cz n h) Ty ∧ (∀ i, i < n → (i < o1 ∨ o1 + m ≤ i) → (i < o2 ∨ o2 + m ≤ i) → h i = f i) ∧ (L i1 = true → ∀ j, j < m → h (o1 + j) = g1 j) ∧ (L i2 = true → ∀ j, j < m → h (o2 + j) = g2 j)
def StepK (P : Program) (l : List Oper) (A : Act) (i1 i2 n m o1 o2 : Nat) (g1 g2 : Nat → Int) (c : Nat → Value) (wb : World) (B : Nat) (Ty : TypeId) (G : (Nat → Value) → Act) (o : Oper) (i : Nat) : Prop :=
  if i = i1 then o.dst = none ∧ ∀ u w h, OwnX B wb w → Blk w B (cz n h) Ty → wpList P l.toArray (SPost A w B (cz n (put h o1 m g1))) [o] (G u) w
    else if i = i2 then o.dst = none ∧ ∀ u w h, OwnX B wb w → Blk w B (cz n h) Ty → wpList P l.toArray (SPost A w B (cz n (put h o2 m g2))) [o] (G u) w
    else ∀ u w, OwnX B wb w → wpList P l.toArray (DPost A o c w) [o] (G u) w
theorem stepK_one (hd : o.dst = none) (h : ∀ u w h, OwnX B wb w → Blk w B (cz n h) Ty → wpList P l.toArray (SPost A w B (cz n (put h o1 m g1))) [o] (G u) w) : StepK P l A i1 i2 n m o1 o2 g1 g2 c wb B Ty G o i1 := by
  unfold StepK; rw [if_pos rfl]; exact ⟨hd, h⟩
theorem stepK_two (hne : i2 ≠ i1) (hd : o.dst = none) (h : ∀ u w h, OwnX B wb w → Blk w B (cz n h) Ty → wpList P l.toArray (SPost A w B (cz n (put h o2 m g2))) [o] (G u) w) : StepK P l A i1 i2 n m o1 o2 g1 g2 c wb B Ty G o i2 := by
  unfold StepK; rw [if_neg hne, if_pos rfl]; exact ⟨hd, h⟩
theorem stepK_det (h1 : i ≠ i1) (h2 : i ≠ i2) (h : ∀ u w, OwnX B wb w → wpList P l.toArray (DPost A o c w) [o] (G u) w) : StepK P l A i1 i2 n m o1 o2 g1 g2 c wb B Ty G o i := by
  unfold StepK; rw [if_neg h1, if_neg h2]; exact h
def DutyK (P : Program) (l : List Oper) (A : Act) (i1 i2 n m o1 o2 : Nat) (f g1 g2 : Nat → Int) (c : Nat → Value) (wb : World) (B : Nat) (Ty : TypeId) (Q : Exit → Act → World → Prop) (G : (Nat → Value) → Act) : Prop :=
  AllSteps (StepK P l A i1 i2 n m o1 o2 g1 g2 c wb B Ty G) 0 l ∧
  ∀ u w', OwnX B wb w' → Blk w' B (cz n (put (put f o1 m g1) o2 m g2)) Ty → Q .normal (G u) w'
theorem region_dutyK {id : Nat} {Q : Exit → Act → World → Prop} {w : World} (D : List Nat) (i1 i2 n m o1 o2 : Nat) (f g1 g2 : Nat → Int) (c : Nat → Value) (B : Nat) (Ty : TypeId) (hm : P.follows .mixedOrders = true) (hk : okReg l D = true) (hi : i1 < l.length ∧ i2 < l.length ∧ i1 ≠ i2) (hb : ∀ d, d ∈ D → d < A.tmps.size)
    (ho : o1 + m ≤ o2 ∨ o2 + m ≤ o1) (hB : Blk w B (cz n f) Ty) (h : DutyK P l A i1 i2 n m o1 o2 f g1 g2 c w B Ty Q (fun u => FF A D [] c u)) : (Code.region id l.toArray true).wp P Q A w := by
  refine region_core D [] c (TK i1 i2 n m o1 o2 f g1 g2 w B Ty) hm hk hb ⟨(OwnX.refl B w).own (Own.refl w).drew, f, hB.drew, fun _ _ _ _ => rfl, (fun h => absurd h Bool.false_ne_true), (fun h => absurd h Bool.false_ne_true)⟩ (allsteps_mono (fun o i hs => ?_) h.1) ?_
  · unfold StepK at hs
    by_cases e1 : i = i1
    · subst e1
      rw [if_pos rfl] at hs
      rintro L u w1 ⟨hO, h0, b1, ha, _, l2⟩ _ _
      refine wpList_one (fun e a' w' hq => ?_) (hs.2 u w1 h0 hO b1)
      obtain ⟨q1, q2, rfl⟩ := hq
      refine ⟨q1, q2, fun d hd' _ => (by rw [hs.1] at hd'; cases hd'), ?_⟩
      rw [hs.1]
      refine ⟨hO.row _, _, b1.row _, fun k hk k1 k2 => (put_out h0 g1 k1).trans (ha k hk k1 k2), fun _ j hj => put_in h0 g1 hj, fun hl j hj => ?_⟩
      rw [setL_ne L (Ne.symm hi.2.2)] at hl
      rw [put_out h0 g1 (by omega)]
      exact l2 hl j hj
    · rw [if_neg e1] at hs
      by_cases e2 : i = i2
      · subst e2
        rw [if_pos rfl] at hs
        rintro L u w1 ⟨hO, h0, b1, ha, l1, _⟩ _ _
        refine wpList_one (fun e a' w' hq => ?_) (hs.2 u w1 h0 hO b1)
        obtain ⟨q1, q2, rfl⟩ := hq
        refine ⟨q1, q2, fun d hd' _ => (by rw [hs.1] at hd'; cases hd'), ?_⟩
        rw [hs.1]
        refine ⟨hO.row _, _, b1.row _, fun k hk k1 k2 => (put_out h0 g2 k2).trans (ha k hk k1 k2), fun hl j hj => ?_, fun _ j hj => put_in h0 g2 hj⟩
        rw [setL_ne L hi.2.2] at hl
        rw [put_out h0 g2 (by omega)]
        exact l1 hl j hj
      · rw [if_neg e2] at hs
        rintro L u w1 ⟨hO, h0, b1, ha, l1, l2⟩ _ _
        refine wpList_one (fun e a' w' hq => ?_) (hs u w1 hO)
        obtain ⟨q1, q2, q3, q4⟩ := hq
        refine ⟨q1, q2, fun d hd _ => (by rw [hd] at q3; exact q3), ?_⟩
        rw [slots_same (fun d hd e => by cases e)]
        refine ⟨hO.own q4, h0, b1.own q4, ha, fun hx => l1 ?_, fun hx => l2 ?_⟩
        · rwa [setL_ne L (Ne.symm e1)] at hx
        · rwa [setL_ne L (Ne.symm e2)] at hx
  · rintro L u w' hall ⟨hO, h0, b1, ha, l1, l2⟩
    refine h.2 u w' hO ?_
    have e : cz n h0 = cz n (put (put f o1 m g1) o2 m g2) := cz_congr fun k hk => by
      by_cases c2 : o2 ≤ k ∧ k < o2 + m
      · obtain ⟨j, rfl⟩ : ∃ j, k = o2 + j := ⟨k - o2, by omega⟩
        rw [put_in _ _ (by omega)]
        exact l2 (hall i2 hi.2.1) j (by omega)
      · rw [put_out _ _ (by omega)]
        by_cases c1 : o1 ≤ k ∧ k < o1 + m
        · obtain ⟨j, rfl⟩ : ∃ j, k = o1 + j := ⟨k - o1, by omega⟩
          rw [put_in _ _ (by omega)]
          exact l1 (hall i1 hi.1) j (by omega)
        · rw [put_out _ _ (by omega)]
          exact ha k hk (by omega) (by omega)
    rw [← e]
    exact b1
end
end Go.Proofs.Ytmjokgddhainlaa.RegD

/-
  A region of determined values that makes two blocks and stores into each whole. Nothing of the program. Condition: none.
-/
namespace Go.Proofs.Ytmjokgddhainlaa.RegD
open Go RegI PairW BlkW
section
variable {P : Program} {l : List Oper} {A : Act} {D : List Nat} {c : Nat → Value} {o : Oper} {i p1 a1 s1 p2 a2 s2 : Nat} {wb : World} {z1 c1 z2 c2 : Array Value} {T1 T2 : TypeId} {G : (Nat → Value) → Act}
def TN2 (p1 a1 s1 p2 a2 s2 : Nat) (wb : World) (z1 c1 : Array Value) (T1 : TypeId) (z2 c2 : Array Value) (T2 : TypeId) : Ls → (Nat → Value) → World → Prop := fun L u w =>
  Own wb w ∧ ((L s1 = true → L a1 = true) ∧ (L s2 = true → L a2 = true)) ∧ ∃ B C, B ≠ C ∧ (wb.heap.size ≤ B ∧ wb.heap.size ≤ C) ∧
    (L a1 = true → u p1 = .pointer (some ⟨B, 0, none⟩) ∧ Blk w B (if L s1 = true then c1 else z1) T1) ∧ (L a2 = true → u p2 = .pointer (some ⟨C, 0, none⟩) ∧ Blk w C (if L s2 = true then c2 else z2) T2)
def Step2 (P : Program) (l : List Oper) (A : Act) (p1 a1 s1 p2 a2 s2 : Nat) (c : Nat → Value) (wb : World) (z1 c1 : Array Value) (T1 : TypeId) (z2 c2 : Array Value) (T2 : TypeId) (G : (Nat → Value) → Act) (o : Oper) (i : Nat) : Prop :=
  if i = a1 then o.dst = some p1 ∧ ∀ u w, Own wb w → wpList P l.toArray (APost A p1 w z1 T1) [o] (G u) w
    else if i = a2 then o.dst = some p2 ∧ ∀ u w, Own wb w → wpList P l.toArray (APost A p2 w z2 T2) [o] (G u) w
    else if i = s1 then o.dst = none ∧ (o.after.any fun e => Region.binds .any e && (e.on == a1)) = true ∧ ∀ u w B, Own wb w → u p1 = .pointer (some ⟨B, 0, none⟩) → Blk w B z1 T1 → wpList P l.toArray (SPost A w B c1) [o] (G u) w
    else if i = s2 then o.dst = none ∧ (o.after.any fun e => Region.binds .any e && (e.on == a2)) = true ∧ ∀ u w B, Own wb w → u p2 = .pointer (some ⟨B, 0, none⟩) → Blk w B z2 T2 → wpList P l.toArray (SPost A w B c2) [o] (G u) w
    else (o.dst ≠ some p1 ∧ o.dst ≠ some p2) ∧ ∀ u w, Own wb w → wpList P l.toArray (DPost A o c w) [o] (G u) w
theorem step2_a1 (hd : o.dst = some p1) (h : ∀ u w, Own wb w → wpList P l.toArray (APost A p1 w z1 T1) [o] (G u) w) : Step2 P l A p1 a1 s1 p2 a2 s2 c wb z1 c1 T1 z2 c2 T2 G o a1 := by
  unfold Step2; rw [if_pos rfl]; exact ⟨hd, h⟩
theorem step2_a2 (hn : a2 ≠ a1) (hd : o.dst = some p2) (h : ∀ u w, Own wb w → wpList P l.toArray (APost A p2 w z2 T2) [o] (G u) w) : Step2 P l A p1 a1 s1 p2 a2 s2 c wb z1 c1 T1 z2 c2 T2 G o a2 := by
  unfold Step2; rw [if_neg hn, if_pos rfl]; exact ⟨hd, h⟩
theorem step2_s1 (hn : s1 ≠ a1 ∧ s1 ≠ a2) (hd : o.dst = none) (ha : (o.after.any fun e => Region.binds .any e && (e.on == a1)) = true) (h : ∀ u w B, Own wb w → u p1 = .pointer (some ⟨B, 0, none⟩) → Blk w B z1 T1 → wpList P l.toArray (SPost A w B c1) [o] (G u) w) : Step2 P l A p1 a1 s1 p2 a2 s2 c wb z1 c1 T1 z2 c2 T2 G o s1 := by
  unfold Step2; rw [if_neg hn.1, if_neg hn.2, if_pos rfl]; exact ⟨hd, ha, h⟩
theorem step2_s2 (hn : s2 ≠ a1 ∧ s2 ≠ a2 ∧ s2 ≠ s1) (hd : o.dst = none) (ha : (o.after.any fun e => Region.binds .any e && (e.on == a2)) = true) (h : ∀ u w B, Own wb w → u p2 = .pointer (some ⟨B, 0, none⟩) → Blk w B z2 T2 → wpList P l.toArray (SPost A w B c2) [o] (G u) w) : Step2 P l A p1 a1 s1 p2 a2 s2 c wb z1 c1 T1 z2 c2 T2 G o s2 := by
  unfold Step2; rw [if_neg hn.1, if_neg hn.2.1, if_neg hn.2.2, if_pos rfl]; exact ⟨hd, ha, h⟩
theorem step2_det (hn : i ≠ a1 ∧ i ≠ a2 ∧ i ≠ s1 ∧ i ≠ s2) (hd : o.dst ≠ some p1 ∧ o.dst ≠ some p2) (h : ∀ u w, Own wb w → wpList P l.toArray (DPost A o c w) [o] (G u) w) : Step2 P l A p1 a1 s1 p2 a2 s2 c wb z1 c1 T1 z2 c2 T2 G o i := by
  unfold Step2; rw [if_neg hn.1, if_neg hn.2.1, if_neg hn.2.2.1, if_neg hn.2.2.2]; exact ⟨hd, h⟩
def Duty2 (P : Program) (l : List Oper) (A : Act) (p1 a1 s1 p2 a2 s2 : Nat) (c : Nat → Value) (wb : World) (z1 c1 : Array Value) (T1 : TypeId) (z2 c2 : Array Value) (T2 : TypeId) (Q : Exit → Act → World → Prop) (G : (Nat → Value) → Act) : Prop :=
  AllSteps (Step2 P l A p1 a1 s1 p2 a2 s2 c wb z1 c1 T1 z2 c2 T2 G) 0 l ∧
  ∀ u w' B C, Own wb w' → u p1 = .pointer (some ⟨B, 0, none⟩) → u p2 = .pointer (some ⟨C, 0, none⟩) → B ≠ C → (wb.heap.size ≤ B ∧ wb.heap.size ≤ C) → Blk w' B c1 T1 → Blk w' C c2 T2 → Q .normal (G u) w'
theorem bound_of (L : Ls) {k : Nat} (ha : (o.after.any fun e => Region.binds .any e && (e.on == k)) = true) (hr : ∀ e ∈ o.after, Region.binds .any e = true → L e.on = true) : L k = true := by
  obtain ⟨e, he, hee⟩ := Array.any_eq_true'.1 ha
  rw [Bool.and_eq_true] at hee
  have := hr e he hee.1
  rwa [eq_of_beq hee.2] at this
theorem region_duty2 {id : Nat} {Q : Exit → Act → World → Prop} {w : World} (D : List Nat) (p1 a1 s1 p2 a2 s2 : Nat) (c : Nat → Value) (z1 c1 : Array Value) (T1 : TypeId) (z2 c2 : Array Value) (T2 : TypeId) (hm : P.follows .mixedOrders = true) (hk : okReg l D = true)
    (hi : (a1 < l.length ∧ a2 < l.length ∧ s1 < l.length ∧ s2 < l.length) ∧ (a1 ≠ a2 ∧ a1 ≠ s1 ∧ a1 ≠ s2 ∧ a2 ≠ s1 ∧ a2 ≠ s2 ∧ s1 ≠ s2) ∧ p1 ≠ p2) (hb : ∀ d, d ∈ D → d < A.tmps.size)
    (h : Duty2 P l A p1 a1 s1 p2 a2 s2 c w z1 c1 T1 z2 c2 T2 Q (fun u => FF A D [p1, p2] c u)) : (Code.region id l.toArray true).wp P Q A w := by
  obtain ⟨hlen, ⟨n1, n2, n3, n4, n5, n6⟩, hp⟩ := hi
  refine region_core D [p1, p2] c (TN2 p1 a1 s1 p2 a2 s2 w z1 c1 T1 z2 c2 T2) hm hk hb ⟨(Own.refl w).drew, ⟨(fun h => absurd h Bool.false_ne_true), (fun h => absurd h Bool.false_ne_true)⟩, w.heap.size, w.heap.size + 1, by omega, ⟨by omega, by omega⟩, (fun h => absurd h Bool.false_ne_true), (fun h => absurd h Bool.false_ne_true)⟩ (allsteps_mono (fun o i hs => ?_) h.1) ?_
  · have m1 : p1 ∈ [p1, p2] := by simp
    have m2 : p2 ∈ [p1, p2] := by simp
    unfold Step2 at hs
    by_cases e1 : i = a1
    · subst e1
      rw [if_pos rfl] at hs
      rintro L u w1 ⟨hO, ⟨g1, g2⟩, B, C, hne, ⟨hB, hC⟩, h1, h2⟩ hu _
      refine wpList_one (fun e a' w' hq => ?_) (hs.2 u w1 hO)
      obtain ⟨q1, q2, q3, rfl⟩ := hq
      refine ⟨q1, q2, fun d hd' hn => absurd (by rw [hs.1] at hd'; injection hd' with hd'; subst hd'; exact m1) hn, ?_⟩
      rw [hs.1]
      simp only [m1, if_true]
      have his : L s1 = false := by
        cases g : L s1 with
        | false => rfl
        | true => rw [g1 g] at hu; cases hu
      have us : upd u p1 (a'.tmps.getD p1 undef) p1 = a'.tmps.getD p1 undef := if_pos rfl
      have uo : upd u p1 (a'.tmps.getD p1 undef) p2 = u p2 := if_neg (fun e => hp e.symm)
      refine ⟨hO.alloc _, ⟨fun _ => setL_self L i, fun hl => ?_⟩, ?_⟩
      · rw [setL_ne L (Ne.symm n3)] at hl
        rw [setL_ne L (Ne.symm n1)]
        exact g2 hl
      · cases g : L a2 with
        | true =>
          obtain ⟨k1, k2⟩ := h2 g
          refine ⟨w1.heap.size, C, fun e => ?_, ⟨hO.size, hC⟩, fun _ => ⟨by rw [us]; exact q3, ?_⟩, fun _ => ⟨by rw [uo]; exact k1, ?_⟩⟩
          · have := k2.lt
            omega
          · rw [setL_ne L (Ne.symm n2), if_neg (by rw [his]; simp)]
            exact Blk.new w1 z1 T1
          · rw [setL_ne L (Ne.symm n3)]
            exact k2.own ((Own.refl _).alloc _)
        | false =>
          refine ⟨w1.heap.size, w1.heap.size + 1, by omega, ⟨hO.size, Nat.le_succ_of_le hO.size⟩, fun _ => ⟨by rw [us]; exact q3, ?_⟩, fun hl => ?_⟩
          · rw [setL_ne L (Ne.symm n2), if_neg (by rw [his]; simp)]
            exact Blk.new w1 z1 T1
          · rw [setL_ne L (Ne.symm n1), g] at hl
            cases hl
    · rw [if_neg e1] at hs
      by_cases e2 : i = a2
      · subst e2
        rw [if_pos rfl] at hs
        rintro L u w1 ⟨hO, ⟨g1, g2⟩, B, C, hne, ⟨hB, hC⟩, h1, h2⟩ hu _
        refine wpList_one (fun e a' w' hq => ?_) (hs.2 u w1 hO)
        obtain ⟨q1, q2, q3, rfl⟩ := hq
        refine ⟨q1, q2, fun d hd' hn => absurd (by rw [hs.1] at hd'; injection hd' with hd'; subst hd'; exact m2) hn, ?_⟩
        rw [hs.1]
        simp only [m2, if_true]
        have his : L s2 = false := by
          cases g : L s2 with
          | false => rfl
          | true => rw [g2 g] at hu; cases hu
        have us : upd u p2 (a'.tmps.getD p2 undef) p2 = a'.tmps.getD p2 undef := if_pos rfl
        have uo : upd u p2 (a'.tmps.getD p2 undef) p1 = u p1 := if_neg hp
        refine ⟨hO.alloc _, ⟨fun hl => ?_, fun _ => setL_self L i⟩, ?_⟩
        · rw [setL_ne L (Ne.symm n4)] at hl
          rw [setL_ne L n1]
          exact g1 hl
        · cases g : L a1 with
          | true =>
            obtain ⟨k1, k2⟩ := h1 g
            refine ⟨B, w1.heap.size, fun e => ?_, ⟨hB, hO.size⟩, fun _ => ⟨by rw [uo]; exact k1, ?_⟩, fun _ => ⟨by rw [us]; exact q3, ?_⟩⟩
            · have := k2.lt
              omega
            · rw [setL_ne L (Ne.symm n4)]
              exact k2.own ((Own.refl _).alloc _)
            · rw [setL_ne L (Ne.symm n5), if_neg (by rw [his]; simp)]
              exact Blk.new w1 z2 T2
          | false =>
            refine ⟨w1.heap.size + 1, w1.heap.size, by omega, ⟨Nat.le_succ_of_le hO.size, hO.size⟩, fun hl => ?_, fun _ => ⟨by rw [us]; exact q3, ?_⟩⟩
            · rw [setL_ne L n1, g] at hl
              cases hl
            · rw [setL_ne L (Ne.symm n5), if_neg (by rw [his]; simp)]
              exact Blk.new w1 z2 T2
      · rw [if_neg e2] at hs
        by_cases e3 : i = s1
        · subst e3
          rw [if_pos rfl] at hs
          rintro L u w1 ⟨hO, ⟨g1, g2⟩, B, C, hne, ⟨hB, hC⟩, h1, h2⟩ hu hr
          have hla := bound_of L hs.2.1 hr
          obtain ⟨k1, k2⟩ := h1 hla
          rw [if_neg (by rw [hu]; simp)] at k2
          refine wpList_one (fun e a' w' hq => ?_) (hs.2.2 u w1 B hO k1 k2)
          obtain ⟨q1, q2, rfl⟩ := hq
          refine ⟨q1, q2, fun d hd' _ => (by rw [hs.1] at hd'; cases hd'), ?_⟩
          rw [hs.1]
          refine ⟨own_setRow hO hB _, ⟨fun _ => by rw [setL_ne L n2]; exact hla, fun hl => ?_⟩, B, C, hne, ⟨hB, hC⟩, fun _ => ⟨k1, by rw [if_pos (setL_self L i)]; exact k2.row c1⟩, fun hl => ?_⟩
          · rw [setL_ne L (Ne.symm n6)] at hl
            rw [setL_ne L n4]
            exact g2 hl
          · rw [setL_ne L n4] at hl
            obtain ⟨j1, j2⟩ := h2 hl
            rw [setL_ne L (Ne.symm n6)]
            exact ⟨j1, j2.rowfar (Ne.symm hne) c1⟩
        · rw [if_neg e3] at hs
          by_cases e4 : i = s2
          · subst e4
            rw [if_pos rfl] at hs
            rintro L u w1 ⟨hO, ⟨g1, g2⟩, B, C, hne, ⟨hB, hC⟩, h1, h2⟩ hu hr
            have hla := bound_of L hs.2.1 hr
            obtain ⟨k1, k2⟩ := h2 hla
            rw [if_neg (by rw [hu]; simp)] at k2
            refine wpList_one (fun e a' w' hq => ?_) (hs.2.2 u w1 C hO k1 k2)
            obtain ⟨q1, q2, rfl⟩ := hq
            refine ⟨q1, q2, fun d hd' _ => (by rw [hs.1] at hd'; cases hd'), ?_⟩
            rw [hs.1]
            refine ⟨own_setRow hO hC _, ⟨fun hl => ?_, fun _ => by rw [setL_ne L n5]; exact hla⟩, B, C, hne, ⟨hB, hC⟩, fun hl => ?_, fun _ => ⟨k1, by rw [if_pos (setL_self L i)]; exact k2.row c2⟩⟩
            · rw [setL_ne L n6] at hl
              rw [setL_ne L n3]
              exact g1 hl
            · rw [setL_ne L n3] at hl
              obtain ⟨j1, j2⟩ := h1 hl
              rw [setL_ne L n6]
              exact ⟨j1, j2.rowfar hne c2⟩
          · rw [if_neg e4] at hs
            rintro L u w1 ⟨hO, ⟨g1, g2⟩, B, C, hne, ⟨hB, hC⟩, h1, h2⟩ hu _
            refine wpList_one (fun e a' w' hq => ?_) (hs.2 u w1 hO)
            obtain ⟨q1, q2, q3, q4⟩ := hq
            refine ⟨q1, q2, fun d hd _ => (by rw [hd] at q3; exact q3), ?_⟩
            rw [slots_same (fun d hd e => by
              simp at e
              rcases e with rfl | rfl
              · exact hs.1.1 hd
              · exact hs.1.2 hd)]
            refine ⟨hO.trans q4, ⟨fun hl => ?_, fun hl => ?_⟩, B, C, hne, ⟨hB, hC⟩, fun hl => ?_, fun hl => ?_⟩
            · rw [setL_ne L (Ne.symm e3)] at hl
              rw [setL_ne L (Ne.symm e1)]
              exact g1 hl
            · rw [setL_ne L (Ne.symm e4)] at hl
              rw [setL_ne L (Ne.symm e2)]
              exact g2 hl
            · rw [setL_ne L (Ne.symm e1)] at hl
              rw [setL_ne L (Ne.symm e3)]
              exact ⟨(h1 hl).1, (h1 hl).2.own q4⟩
            · rw [setL_ne L (Ne.symm e2)] at hl
              rw [setL_ne L (Ne.symm e4)]
              exact ⟨(h2 hl).1, (h2 hl).2.own q4⟩
  · rintro L u w' hall ⟨hO, _, B, C, hne, hBC, h1, h2⟩
    obtain ⟨k1, k2⟩ := h1 (hall a1 hlen.1)
    obtain ⟨j1, j2⟩ := h2 (hall a2 hlen.2.1)
    rw [if_pos (hall s1 hlen.2.2.1)] at k2
    rw [if_pos (hall s2 hlen.2.2.2)] at j2
    exact h.2 u w' B C hO k1 j1 hne hBC k2 j2
end
end Go.Proofs.Ytmjokgddhainlaa.RegD

/-
  Regions of determined values whose last operation waits for all others (it may store into a slot that others read: 'x = append(x, ..)', 'x = x + ..'); and regions with one or two operations that turn memory one after the other. Nothing of the program. Condition: none.
-/
namespace Go.Proofs.Ytmjokgddhainlaa.RegD
open Go RegI PairW BlkW
variable {P : Program}
/-! ### The last operation waits for all others -/
def lastAll (l : List Oper) : Bool := (l.drop (l.length - 1)).all fun o => (List.range (l.length - 1)).all fun i => o.after.any fun e => Region.binds .any e && (e.on == i)
def okRegL (l : List Oper) (D : List Nat) : Bool := decide (1 ≤ l.length) && (topo l && (l.dropLast.all (okOper l D) && ((D.all fun d => l.dropLast.any fun o => o.dst == some d) && lastAll l)))
section
variable {l : List Oper} {A : Act} {D Ps : List Nat} {c : Nat → Value} {T : Ls → (Nat → Value) → World → Prop}
/-- What holds: the last one has not come up, or all have. -/
def JL (l : List Oper) (A : Act) (D Ps : List Nat) (c : Nat → Value) (T : Ls → (Nat → Value) → World → Prop) (Q : Exit → Act → World → Prop) (listed : Array Bool) (b : Act) (w : World) : Prop :=
  (listed.getD (l.length - 1) false = false ∧ JD l A D Ps c T listed b w) ∨ ((∀ i, i < l.length → listed.getD i false = true) ∧ Q .normal b w)
theorem wpOp_mono' {ls : Array Oper} {Q : Exit → Act → World → Prop} {i : Nat} {K K' : Act → World → Prop} {a : Act} {w : World} (h : ∀ a w, K a w → K' a w) (hh : wpOp P ls Q i K a w) : wpOp P ls Q i K' a w := wpOp_mono h hh
theorem wpOp_last {ls : Array Oper} {Q : Exit → Act → World → Prop} {i : Nat} {o : Oper} {K : Act → World → Prop} {a : Act} {w : World} (ho : ls[i]? = some o) (hK : ∀ a' w', Q .normal a' w' → K a' w') (h : wpList P ls Q [o] a w) : wpOp P ls Q i K a w := by
  refine wpOp_mono hK ?_
  unfold wpOp
  simp only [ho]
  unfold wpList at h
  exact h
theorem steps_drop {f : Oper → Nat → Prop} : ∀ {k : Nat} {l : List Oper}, AllSteps f k l.dropLast → ∀ i o, i + 1 < l.length → l[i]? = some o → f o (k + i) := by
  intro k l h i o hi ho
  refine h.get i o ?_
  rw [List.getElem?_dropLast, if_pos (by omega)]
  exact ho
theorem all_of_steps {f : Oper → Nat → Prop} : ∀ (k : Nat) (m l : List Oper), (∀ i, m[i]? = l[k + i]?) → (∀ i o, l[i]? = some o → f o i) → AllSteps f k m
  | _, [], _, _, _ => trivial
  | k, o :: m, l, hm, h => by
    refine ⟨h k o ?_, all_of_steps (k + 1) m l (fun i => ?_) h⟩
    · have := hm 0
      simpa using this.symm
    · have := hm (i + 1)
      rw [show k + 1 + i = k + (i + 1) by omega]
      simpa using this
theorem region_coreL {id : Nat} {Q : Exit → Act → World → Prop} {w : World} (D Ps : List Nat) (c : Nat → Value) (T : Ls → (Nat → Value) → World → Prop) (hm : P.follows .mixedOrders = true) (hk : okRegL l D = true) (hb : ∀ d, d ∈ D → d < A.tmps.size)
    (h0 : T (fun _ => false) (fun i => A.tmps.getD i undef) w.drew) (hs : AllSteps (StepC P l A D Ps c T) 0 l.dropLast)
    (he : ∀ L u w, (∀ i, i + 1 < l.length → L i = true) → T L u w → wpList P l.toArray Q (l.drop (l.length - 1)) (FF A D Ps c u) w) : (Code.region id l.toArray true).wp P Q A w := by
  unfold okRegL at hk
  rw [Bool.and_eq_true, Bool.and_eq_true, Bool.and_eq_true, Bool.and_eq_true, decide_eq_true_eq] at hk
  obtain ⟨hl, ht, hk2, hk3, hk4⟩ := hk
  obtain ⟨o, ho⟩ : ∃ o, l[l.length - 1]? = some o := ⟨l[l.length - 1]'(by omega), List.getElem?_eq_getElem (by omega)⟩
  have hdrop : l.drop (l.length - 1) = [o] := by
    have h1 : l.length - 1 < l.length := by omega
    rw [List.drop_eq_getElem_cons h1, List.drop_eq_nil_of_le (by omega)]
    rw [List.getElem?_eq_getElem h1] at ho
    rw [Option.some.inj ho]
  rw [hdrop] at he
  have hwait : ∀ i, i + 1 < l.length → ∃ e ∈ o.after, Region.binds .any e = true ∧ e.on = i := by
    intro i hi
    unfold lastAll at hk4
    rw [hdrop] at hk4
    have h1 := List.all_eq_true.1 hk4 o (List.mem_singleton.2 rfl)
    have h2 := List.all_eq_true.1 h1 i (List.mem_range.2 (by omega))
    obtain ⟨e, hem, hee⟩ := Array.any_eq_true'.1 h2
    rw [Bool.and_eq_true] at hee
    exact ⟨e, hem, hee.1, eq_of_beq hee.2⟩
  refine region_inv (JL l A D Ps c T Q) hm ht (.inl ⟨?_, fun i => A.tmps.getD i undef, fun i => A.tmps.getD i undef, (fx_self A D).symm, fun _ _ => rfl, fun j oj d _ _ h3 _ => (rep_false h3).elim, ?_⟩) (all_of_steps 0 l l (fun i => by rw [Nat.zero_add]) fun i oi hoi => ?_) ?_
  · cases g : (Array.replicate l.length false).getD (l.length - 1) false with
    | false => rfl
    | true => exact (rep_false g).elim
  · have : (fun k => (Array.replicate l.length false).getD k false) = fun _ : Nat => false := by
      funext k
      cases g : (Array.replicate l.length false).getD k false with
      | false => rfl
      | true => exact (rep_false g).elim
    rw [this]
    exact h0
  · have hil : i < l.length := (List.getElem?_eq_some_iff.1 hoi).1
    by_cases hlast : i + 1 < l.length
    · have hst := steps_drop hs i oi hlast hoi
      rw [Nat.zero_add] at hst
      have hok : okOper l D oi = true := List.all_eq_true.1 hk2 oi (by
        have : l.dropLast[i]? = some oi := by rw [List.getElem?_dropLast, if_pos (by omega)]; exact hoi
        exact List.mem_of_getElem? this)
      have hso := step_ok (Q := Q) hb hoi hok hst
      rintro listed b w1 hsz (⟨hn, hj⟩ | ⟨hall, -⟩) hu hr
      · refine wpOp_mono (fun a' w' hj' => .inl ⟨?_, hj'⟩) (hso listed b w1 hsz hj hu hr)
        rw [Array.getD_eq_getD_getElem?, Array.getElem?_setIfInBounds_ne (by omega), ← Array.getD_eq_getD_getElem?]
        exact hn
      · exact (gd_no hu (hall i hil)).elim
    · have hi : i = l.length - 1 := by omega
      subst hi
      rw [ho] at hoi
      obtain rfl := Option.some.inj hoi
      rintro listed b w1 hsz (⟨hn, hj⟩ | ⟨hall, -⟩) hu hr
      · have hothers : ∀ j, j + 1 < l.length → listed.getD j false = true := fun j hj => by
          obtain ⟨e, hem, hb1, rfl⟩ := hwait j hj
          exact hr e hem hb1
        obtain ⟨x, u, rfl, hP, hc, hT⟩ := hj
        have e : FX A D x = FF A D Ps c u := by
          refine act_ext (fun t => ?_) rfl
          unfold FF
          rw [fx_get, fx_get]
          by_cases hd : t ∈ D ∧ t < A.tmps.size
          · rw [if_pos hd, if_pos hd]
            congr 1
            show x t = if t ∈ Ps then u t else c t
            by_cases hp : t ∈ Ps
            · rw [if_pos hp]; exact hP t hp
            · rw [if_neg hp]
              have := List.all_eq_true.1 hk3 t hd.1
              obtain ⟨o1, ho1, hod⟩ := List.any_eq_true.1 this
              obtain ⟨j, hj, hjo⟩ := List.getElem_of_mem ho1
              have hj1 : j + 1 < l.length := by rw [List.length_dropLast] at hj; omega
              have hoj : l[j]? = some o1 := by
                have : l.dropLast[j]? = some o1 := by rw [List.getElem?_eq_getElem hj, hjo]
                rw [List.getElem?_dropLast, if_pos (by omega)] at this
                exact this
              exact hc j o1 t hoj (eq_of_beq hod) (hothers j hj1) hp
          · rw [if_neg hd, if_neg hd]
        rw [e]
        have hw := he _ u w1 (fun j hj => hothers j hj) hT
        refine wpOp_last (by simpa using ho) (fun a' w' hq => .inr ⟨fun j hj => ?_, hq⟩) hw
        by_cases ej : j = l.length - 1
        · rw [ej, Array.getD_eq_getD_getElem?]
          simp [show l.length - 1 < listed.size by omega]
        · rw [Array.getD_eq_getD_getElem?, Array.getElem?_setIfInBounds_ne (by omega), ← Array.getD_eq_getD_getElem?]
          exact hothers j (by omega)
      · exact (gd_no hu (hall _ hil)).elim
  · rintro listed b w1 (⟨hn, -⟩ | ⟨-, hq⟩) hall
    · rw [hall (l.length - 1) (by omega)] at hn
      cases hn
    · exact hq
end
/-! ### Memory is turned by two operations, one after the other -/
/-- Before the first, behind it, behind both; whatever keeps memory keeps each. -/
structure Stg (X : World → Prop) (R0 : World → Prop) (R1 R2 : Value → World → Prop) : Prop where
  o0 : ∀ {w}, R0 w → X w
  o1 : ∀ {v w}, R1 v w → X w
  o2 : ∀ {v w}, R2 v w → X w
  k0 : ∀ {w w'}, R0 w → Own w w' → R0 w'
  k1 : ∀ {v w w'}, R1 v w → Own w w' → R1 v w'
  k2 : ∀ {v w w'}, R2 v w → Own w w' → R2 v w'
def TS (i1 i2 p1 p2 : Nat) (R0 : World → Prop) (R1 R2 : Value → World → Prop) : Ls → (Nat → Value) → World → Prop := fun L u w =>
  (L i2 = true → L i1 = true) ∧ (L i2 = true → R2 (u p2) w) ∧ (L i2 = false → L i1 = true → R1 (u p1) w) ∧ (L i1 = false → R0 w)
section
variable {l : List Oper} {A : Act} {D : List Nat} {c : Nat → Value} {i1 i2 p1 p2 i : Nat} {X : World → Prop} {R0 : World → Prop} {R1 R2 : Value → World → Prop} {o : Oper}
/-- What an operation leaves that turns memory. -/
def VPost (A : Act) (p : Nat) (R : Value → World → Prop) : Exit → Act → World → Prop := fun e a' w' => e = .normal ∧ a'.defers = A.defers ∧ R (a'.tmps.getD p undef) w'
theorem ts_own (hS : Stg X R0 R1 R2) {L : Ls} {u : Nat → Value} {w : World} (h : TS i1 i2 p1 p2 R0 R1 R2 L u w) : X w := by
  obtain ⟨h1, h2, h3, h4⟩ := h
  cases e1 : L i1 with
  | false => exact hS.o0 (h4 e1)
  | true =>
    cases e2 : L i2 with
    | false => exact hS.o1 (h3 e2 e1)
    | true => exact hS.o2 (h2 e2)
theorem ts_keep (hS : Stg X R0 R1 R2) {L : Ls} {u : Nat → Value} {w w' : World} (h : TS i1 i2 p1 p2 R0 R1 R2 L u w) (hO : Own w w') : TS i1 i2 p1 p2 R0 R1 R2 L u w' :=
  ⟨h.1, fun e => hS.k2 (h.2.1 e) hO, fun e e' => hS.k1 (h.2.2.1 e e') hO, fun e => hS.k0 (h.2.2.2 e) hO⟩
theorem ts_start {u : Nat → Value} {w : World} (h : R0 w) : TS i1 i2 p1 p2 R0 R1 R2 (fun _ => false) u w := ⟨fun e => absurd e Bool.false_ne_true, fun e => absurd e Bool.false_ne_true, fun _ e => absurd e Bool.false_ne_true, fun _ => h⟩
/-- One operation's duty. -/
def StepS (P : Program) (l : List Oper) (A : Act) (i1 i2 p1 p2 : Nat) (c : Nat → Value) (X : World → Prop) (R0 : World → Prop) (R1 R2 : Value → World → Prop) (G : (Nat → Value) → Act) (o : Oper) (i : Nat) : Prop :=
  if i = i1 then o.dst = some p1 ∧ ∀ u w, R0 w → wpList P l.toArray (VPost A p1 R1) [o] (G u) w
    else if i = i2 then o.dst = some p2 ∧ (o.after.any fun e => Region.binds .any e && (e.on == i1)) = true ∧ ∀ u w, R1 (u p1) w → wpList P l.toArray (VPost A p2 R2) [o] (G u) w
    else (o.dst ≠ some p1 ∧ o.dst ≠ some p2) ∧ ∀ u w, X w → wpList P l.toArray (DPost A o c w) [o] (G u) w
theorem stepS_c (hS : Stg X R0 R1 R2) (hne : i1 ≠ i2) (h : StepS P l A i1 i2 p1 p2 c X R0 R1 R2 (fun u => FF A D [p1, p2] c u) o i) : StepC P l A D [p1, p2] c (TS i1 i2 p1 p2 R0 R1 R2) o i := by
  unfold StepS at h
  rintro L u w hT hu hr
  by_cases h1 : i = i1
  · subst h1
    rw [if_pos rfl] at h
    obtain ⟨hd, h⟩ := h
    have hn : L i2 = false := by
      cases e : L i2 with
      | false => rfl
      | true => rw [hT.1 e] at hu; cases hu
    refine wpList_one (fun e a' w' hq => ?_) (h u w (hT.2.2.2 hu))
    obtain ⟨q1, q2, q3⟩ := hq
    refine ⟨q1, q2, fun d hdd hpd => ?_, ?_⟩
    · rw [hd] at hdd
      injection hdd with hdd
      exact absurd (hdd ▸ List.mem_cons_self ..) hpd
    · rw [hd]
      simp only [List.mem_cons, true_or, if_true]
      refine ⟨fun e => ?_, fun e => ?_, fun _ _ => ?_, fun e => ?_⟩
      · rw [setL_self]
      · rw [setL_ne _ (Ne.symm hne), hn] at e; cases e
      · rw [show upd u p1 (a'.tmps.getD p1 undef) p1 = a'.tmps.getD p1 undef from if_pos rfl]
        exact q3
      · rw [setL_self] at e; cases e
  · rw [if_neg h1] at h
    by_cases h2 : i = i2
    · subst h2
      rw [if_pos rfl] at h
      obtain ⟨hd, ha, h⟩ := h
      obtain ⟨e, hem, hee⟩ := Array.any_eq_true'.1 ha
      rw [Bool.and_eq_true] at hee
      have hy : L i1 = true := by
        have := hr e hem hee.1
        rwa [eq_of_beq hee.2] at this
      refine wpList_one (fun e a' w' hq => ?_) (h u w (hT.2.2.1 hu hy))
      obtain ⟨q1, q2, q3⟩ := hq
      refine ⟨q1, q2, fun d hdd hpd => ?_, ?_⟩
      · rw [hd] at hdd
        injection hdd with hdd
        exact absurd (hdd ▸ List.mem_cons_of_mem _ (List.mem_cons_self ..)) hpd
      · rw [hd]
        simp only [List.mem_cons, true_or, or_true, if_true]
        refine ⟨fun _ => ?_, fun _ => ?_, fun e => ?_, fun e => ?_⟩
        · rw [setL_ne _ hne]; exact hy
        · rw [show upd u p2 (a'.tmps.getD p2 undef) p2 = a'.tmps.getD p2 undef from if_pos rfl]
          exact q3
        · rw [setL_self] at e; cases e
        · rw [setL_ne _ hne, hy] at e; cases e
    · rw [if_neg h2] at h
      obtain ⟨⟨n1, n2⟩, h⟩ := h
      refine wpList_one (fun e a' w' hq => ?_) (h u w (ts_own hS hT))
      obtain ⟨q1, q2, q3, q4⟩ := hq
      have hT' := ts_keep hS hT q4
      refine ⟨q1, q2, fun d hdd hpd => ?_, ?_⟩
      · rw [hdd] at q3; exact q3
      · rw [slots_same (Ps := [p1, p2]) fun d hdd => by
          intro hm
          rcases List.mem_cons.1 hm with e | hm
          · exact n1 (e ▸ hdd)
          · exact n2 (List.mem_singleton.1 hm ▸ hdd)]
        refine ⟨?_, ?_, ?_, ?_⟩
        · rw [setL_ne _ (Ne.symm h2), setL_ne _ (Ne.symm h1)]; exact hT'.1
        · rw [setL_ne _ (Ne.symm h2)]; exact hT'.2.1
        · rw [setL_ne _ (Ne.symm h2), setL_ne _ (Ne.symm h1)]; exact hT'.2.2.1
        · rw [setL_ne _ (Ne.symm h1)]; exact hT'.2.2.2
end
theorem stepS_1 {l : List Oper} {A : Act} {i1 i2 p1 p2 : Nat} {c : Nat → Value} {X : World → Prop} {R0 : World → Prop} {R1 R2 : Value → World → Prop} {G : (Nat → Value) → Act} {o : Oper} (hd : o.dst = some p1) (h : ∀ u w, R0 w → wpList P l.toArray (VPost A p1 R1) [o] (G u) w) : StepS P l A i1 i2 p1 p2 c X R0 R1 R2 G o i1 := by
  unfold StepS; rw [if_pos rfl]; exact ⟨hd, h⟩
theorem stepS_2 {l : List Oper} {A : Act} {i1 i2 p1 p2 : Nat} {c : Nat → Value} {X : World → Prop} {R0 : World → Prop} {R1 R2 : Value → World → Prop} {G : (Nat → Value) → Act} {o : Oper} (hne : i2 ≠ i1) (hd : o.dst = some p2) (ha : (o.after.any fun e => Region.binds .any e && (e.on == i1)) = true) (h : ∀ u w, R1 (u p1) w → wpList P l.toArray (VPost A p2 R2) [o] (G u) w) : StepS P l A i1 i2 p1 p2 c X R0 R1 R2 G o i2 := by
  unfold StepS; rw [if_neg hne, if_pos rfl]; exact ⟨hd, ha, h⟩
theorem stepS_det {l : List Oper} {A : Act} {i i1 i2 p1 p2 : Nat} {c : Nat → Value} {X : World → Prop} {R0 : World → Prop} {R1 R2 : Value → World → Prop} {G : (Nat → Value) → Act} {o : Oper} (h1 : i ≠ i1) (h2 : i ≠ i2) (hd : o.dst ≠ some p1 ∧ o.dst ≠ some p2) (h : ∀ u w, X w → wpList P l.toArray (DPost A o c w) [o] (G u) w) : StepS P l A i1 i2 p1 p2 c X R0 R1 R2 G o i := by
  unfold StepS; rw [if_neg h1, if_neg h2]; exact ⟨hd, h⟩
/-- What each operation owes, and what the last one leaves, at the frames G. -/
def DutyL (P : Program) (l : List Oper) (A : Act) (i1 i2 p1 p2 : Nat) (c : Nat → Value) (X : World → Prop) (R0 : World → Prop) (R1 R2 : Value → World → Prop) (Q : Exit → Act → World → Prop) (G : (Nat → Value) → Act) : Prop :=
  AllSteps (StepS P l A i1 i2 p1 p2 c X R0 R1 R2 G) 0 l.dropLast ∧ ∀ u w', R2 (u p2) w' → wpList P l.toArray Q (l.drop (l.length - 1)) (G u) w'
/-- Two operations turn memory, the last one waits for all. -/
theorem region_dutyL {id : Nat} {l : List Oper} {Q : Exit → Act → World → Prop} {A : Act} {w : World} (D : List Nat) (i1 i2 p1 p2 : Nat) (c : Nat → Value) (X R0 : World → Prop) (R1 R2 : Value → World → Prop) (hm : P.follows .mixedOrders = true) (hk : okRegL l D = true)
    (hi : i1 < i2 ∧ i2 + 1 < l.length) (hb : ∀ d, d ∈ D → d < A.tmps.size) (hS : Stg X R0 R1 R2) (h0 : R0 w.drew) (h : DutyL P l A i1 i2 p1 p2 c X R0 R1 R2 Q (fun u => FF A D [p1, p2] c u)) : (Code.region id l.toArray true).wp P Q A w := by
  refine region_coreL D [p1, p2] c (TS i1 i2 p1 p2 R0 R1 R2) hm hk hb (ts_start h0) (allsteps_mono (fun o i hs => stepS_c hS (by omega) hs) h.1) ?_
  intro L u w' hL hT
  exact h.2 u w' (hT.2.1 (hL i2 hi.2))
/-- Two operations turn memory; no last one. -/
def DutyS (P : Program) (l : List Oper) (A : Act) (i1 i2 p1 p2 : Nat) (c : Nat → Value) (X : World → Prop) (R0 : World → Prop) (R1 R2 : Value → World → Prop) (Q : Exit → Act → World → Prop) (G : (Nat → Value) → Act) : Prop :=
  AllSteps (StepS P l A i1 i2 p1 p2 c X R0 R1 R2 G) 0 l ∧ ∀ u w', R2 (u p2) w' → Q .normal (G u) w'
theorem region_dutyS {id : Nat} {l : List Oper} {Q : Exit → Act → World → Prop} {A : Act} {w : World} (D : List Nat) (i1 i2 p1 p2 : Nat) (c : Nat → Value) (X R0 : World → Prop) (R1 R2 : Value → World → Prop) (hm : P.follows .mixedOrders = true) (hk : okReg l D = true)
    (hi : i1 < i2 ∧ i2 < l.length) (hb : ∀ d, d ∈ D → d < A.tmps.size) (hS : Stg X R0 R1 R2) (h0 : R0 w.drew) (h : DutyS P l A i1 i2 p1 p2 c X R0 R1 R2 Q (fun u => FF A D [p1, p2] c u)) : (Code.region id l.toArray true).wp P Q A w := by
  refine region_core D [p1, p2] c (TS i1 i2 p1 p2 R0 R1 R2) hm hk hb (ts_start h0) (allsteps_mono (fun o i hs => stepS_c hS (by omega) hs) h.1) ?_
  intro L u w' hL hT
  exact h.2 u w' (hT.2.1 (hL i2 hi.2))
/-- No operation turns memory, the last one waits for all. -/
def DutyLO (P : Program) (l : List Oper) (A : Act) (c : Nat → Value) (wb : World) (Q : Exit → Act → World → Prop) (G : (Nat → Value) → Act) : Prop :=
  AllSteps (fun o _ => ∀ u w, Own wb w → wpList P l.toArray (DPost A o c w) [o] (G u) w) 0 l.dropLast ∧ ∀ u w', Own wb w' → wpList P l.toArray Q (l.drop (l.length - 1)) (G u) w'
theorem region_dutyLO {id : Nat} {l : List Oper} {Q : Exit → Act → World → Prop} {A : Act} {w : World} (D : List Nat) (c : Nat → Value) (hm : P.follows .mixedOrders = true) (hk : okRegL l D = true) (hb : ∀ d, d ∈ D → d < A.tmps.size)
    (h : DutyLO P l A c w Q (fun u => FF A D [] c u)) : (Code.region id l.toArray true).wp P Q A w :=
  region_coreL D [] c (TO w) hm hk hb ((Own.refl w).drew) (allsteps_mono (fun _ _ hs => det_own hs) h.1) fun _ u w' _ hT => h.2 u w' hT
/-! ### One operation turns memory; what waits for it knows what it left -/
structure Stg1 (X : World → Prop) (R0 : World → Prop) (R1 : Value → World → Prop) : Prop where
  o0 : ∀ {w}, R0 w → X w
  o1 : ∀ {v w}, R1 v w → X w
  k0 : ∀ {w w'}, R0 w → Own w w' → R0 w'
  k1 : ∀ {v w w'}, R1 v w → Own w w' → R1 v w'
def TV (i1 p1 : Nat) (R0 : World → Prop) (R1 : Value → World → Prop) : Ls → (Nat → Value) → World → Prop := fun L u w => (L i1 = true → R1 (u p1) w) ∧ (L i1 = false → R0 w)
section
variable {l : List Oper} {A : Act} {D : List Nat} {c : Nat → Value} {i1 p1 i : Nat} {X R0 : World → Prop} {R1 : Value → World → Prop} {o : Oper} {G : (Nat → Value) → Act}
def StepV (P : Program) (l : List Oper) (A : Act) (i1 p1 : Nat) (c : Nat → Value) (X R0 : World → Prop) (R1 : Value → World → Prop) (G : (Nat → Value) → Act) (o : Oper) (i : Nat) : Prop :=
  if i = i1 then o.dst = some p1 ∧ ∀ u w, R0 w → wpList P l.toArray (VPost A p1 R1) [o] (G u) w
    else o.dst ≠ some p1 ∧ ((∀ u w, X w → wpList P l.toArray (DPost A o c w) [o] (G u) w) ∨
      ((o.after.any fun e => Region.binds .any e && (e.on == i1)) = true ∧ ∀ u w, R1 (u p1) w → wpList P l.toArray (DPost A o c w) [o] (G u) w))
theorem stepV_1 (hd : o.dst = some p1) (h : ∀ u w, R0 w → wpList P l.toArray (VPost A p1 R1) [o] (G u) w) : StepV P l A i1 p1 c X R0 R1 G o i1 := by
  unfold StepV; rw [if_pos rfl]; exact ⟨hd, h⟩
theorem stepV_det (h1 : i ≠ i1) (hd : o.dst ≠ some p1) (h : ∀ u w, X w → wpList P l.toArray (DPost A o c w) [o] (G u) w) : StepV P l A i1 p1 c X R0 R1 G o i := by
  unfold StepV; rw [if_neg h1]; exact ⟨hd, .inl h⟩
theorem stepV_after (h1 : i ≠ i1) (hd : o.dst ≠ some p1) (ha : (o.after.any fun e => Region.binds .any e && (e.on == i1)) = true) (h : ∀ u w, R1 (u p1) w → wpList P l.toArray (DPost A o c w) [o] (G u) w) : StepV P l A i1 p1 c X R0 R1 G o i := by
  unfold StepV; rw [if_neg h1]; exact ⟨hd, .inr ⟨ha, h⟩⟩
theorem stepV_c (hS : Stg1 X R0 R1) (h : StepV P l A i1 p1 c X R0 R1 (fun u => FF A D [p1] c u) o i) : StepC P l A D [p1] c (TV i1 p1 R0 R1) o i := by
  unfold StepV at h
  rintro L u w hT hu hr
  by_cases h1 : i = i1
  · subst h1
    rw [if_pos rfl] at h
    obtain ⟨hd, h⟩ := h
    refine wpList_one (fun e a' w' hq => ?_) (h u w (hT.2 hu))
    obtain ⟨q1, q2, q3⟩ := hq
    refine ⟨q1, q2, fun d hdd hpd => ?_, ?_⟩
    · rw [hd] at hdd
      injection hdd with hdd
      exact absurd (hdd ▸ List.mem_cons_self ..) hpd
    · rw [hd]
      simp only [List.mem_cons, true_or, if_true]
      refine ⟨fun _ => ?_, fun e => ?_⟩
      · rw [show upd u p1 (a'.tmps.getD p1 undef) p1 = a'.tmps.getD p1 undef from if_pos rfl]
        exact q3
      · rw [setL_self] at e; cases e
  · rw [if_neg h1] at h
    obtain ⟨hd, h⟩ := h
    have hw : wpList P l.toArray (DPost A o c w) [o] (FF A D [p1] c u) w := by
      rcases h with h | ⟨ha, h⟩
      · refine h u w ?_
        cases e1 : L i1 with
        | false => exact hS.o0 (hT.2 e1)
        | true => exact hS.o1 (hT.1 e1)
      · obtain ⟨e, hem, hee⟩ := Array.any_eq_true'.1 ha
        rw [Bool.and_eq_true] at hee
        have hy : L i1 = true := by
          have := hr e hem hee.1
          rwa [eq_of_beq hee.2] at this
        exact h u w (hT.1 hy)
    refine wpList_one (fun e a' w' hq => ?_) hw
    obtain ⟨q1, q2, q3, q4⟩ := hq
    refine ⟨q1, q2, fun d hdd hpd => ?_, ?_⟩
    · rw [hdd] at q3; exact q3
    · rw [slots_same (Ps := [p1]) fun d hdd => by
        intro hm
        exact hd (List.mem_singleton.1 hm ▸ hdd)]
      refine ⟨fun e => ?_, fun e => ?_⟩
      · rw [setL_ne _ (Ne.symm h1)] at e; exact hS.k1 (hT.1 e) q4
      · rw [setL_ne _ (Ne.symm h1)] at e; exact hS.k0 (hT.2 e) q4
end
def DutyV (P : Program) (l : List Oper) (A : Act) (i1 p1 : Nat) (c : Nat → Value) (X R0 : World → Prop) (R1 : Value → World → Prop) (Q : Exit → Act → World → Prop) (G : (Nat → Value) → Act) : Prop :=
  AllSteps (StepV P l A i1 p1 c X R0 R1 G) 0 l ∧ ∀ u w', R1 (u p1) w' → Q .normal (G u) w'
theorem region_dutyV {id : Nat} {l : List Oper} {Q : Exit → Act → World → Prop} {A : Act} {w : World} (D : List Nat) (i1 p1 : Nat) (c : Nat → Value) (X R0 : World → Prop) (R1 : Value → World → Prop) (hm : P.follows .mixedOrders = true) (hk : okReg l D = true)
    (hi : i1 < l.length) (hb : ∀ d, d ∈ D → d < A.tmps.size) (hS : Stg1 X R0 R1) (h0 : R0 w.drew) (h : DutyV P l A i1 p1 c X R0 R1 Q (fun u => FF A D [p1] c u)) : (Code.region id l.toArray true).wp P Q A w := by
  refine region_core D [p1] c (TV i1 p1 R0 R1) hm hk hb ⟨fun e => absurd e Bool.false_ne_true, fun _ => h0⟩ (allsteps_mono (fun o i hs => stepV_c hS hs) h.1) ?_
  intro L u w' hL hT
  exact h.2 u w' (hT.1 (hL i1 hi))
/-! ### Two given blocks are stored into, whole -/
structure Stg2 (X : World → Prop) (B C : Nat) (cs ds : Array Value) : Prop where
  ne : B ≠ C
  k : ∀ {w w'}, X w → Own w w' → X w'
  k1 : ∀ {w}, X w → X (w.setRow B cs)
  k2 : ∀ {w}, X w → X (w.setRow C ds)
def TR (s1 s2 : Nat) (X : World → Prop) (B C : Nat) (zs cs ys ds : Array Value) (T1 T2 : TypeId) : Ls → (Nat → Value) → World → Prop := fun L _ w =>
  X w ∧ Blk w B (if L s1 = true then cs else zs) T1 ∧ Blk w C (if L s2 = true then ds else ys) T2
section
variable {l : List Oper} {A : Act} {D : List Nat} {c : Nat → Value} {s1 s2 i B C : Nat} {X : World → Prop} {zs cs ys ds : Array Value} {T1 T2 : TypeId} {o : Oper} {G : (Nat → Value) → Act}
def StepR (P : Program) (l : List Oper) (A : Act) (s1 s2 : Nat) (c : Nat → Value) (X : World → Prop) (B C : Nat) (zs cs ys ds : Array Value) (T1 T2 : TypeId) (G : (Nat → Value) → Act) (o : Oper) (i : Nat) : Prop :=
  if i = s1 then o.dst = none ∧ ∀ u w, X w → Blk w B zs T1 → wpList P l.toArray (SPost A w B cs) [o] (G u) w
    else if i = s2 then o.dst = none ∧ ∀ u w, X w → Blk w C ys T2 → wpList P l.toArray (SPost A w C ds) [o] (G u) w
    else ∀ u w, X w → wpList P l.toArray (DPost A o c w) [o] (G u) w
theorem stepR_1 (hd : o.dst = none) (h : ∀ u w, X w → Blk w B zs T1 → wpList P l.toArray (SPost A w B cs) [o] (G u) w) : StepR P l A s1 s2 c X B C zs cs ys ds T1 T2 G o s1 := by
  unfold StepR; rw [if_pos rfl]; exact ⟨hd, h⟩
theorem stepR_2 (hne : s2 ≠ s1) (hd : o.dst = none) (h : ∀ u w, X w → Blk w C ys T2 → wpList P l.toArray (SPost A w C ds) [o] (G u) w) : StepR P l A s1 s2 c X B C zs cs ys ds T1 T2 G o s2 := by
  unfold StepR; rw [if_neg hne, if_pos rfl]; exact ⟨hd, h⟩
theorem stepR_det (h1 : i ≠ s1) (h2 : i ≠ s2) (h : ∀ u w, X w → wpList P l.toArray (DPost A o c w) [o] (G u) w) : StepR P l A s1 s2 c X B C zs cs ys ds T1 T2 G o i := by
  unfold StepR; rw [if_neg h1, if_neg h2]; exact h
theorem stepR_c (hS : Stg2 X B C cs ds) (hne : s1 ≠ s2) (h : StepR P l A s1 s2 c X B C zs cs ys ds T1 T2 (fun u => FF A D [] c u) o i) : StepC P l A D [] c (TR s1 s2 X B C zs cs ys ds T1 T2) o i := by
  unfold StepR at h
  rintro L u w ⟨hX, hB, hC⟩ hu _
  by_cases h1 : i = s1
  · subst h1
    rw [if_pos rfl] at h
    rw [hu, if_neg Bool.false_ne_true] at hB
    refine wpList_one (fun e a' w' hq => ?_) (h.2 u w hX hB)
    obtain ⟨q1, q2, rfl⟩ := hq
    refine ⟨q1, q2, fun d hdd _ => ?_, ?_⟩
    · rw [h.1] at hdd; cases hdd
    · rw [h.1]
      refine ⟨hS.k1 hX, ?_, ?_⟩
      · rw [setL_self, if_pos rfl]; exact hB.row cs
      · rw [setL_ne _ (Ne.symm hne)]; exact hC.rowfar (Ne.symm hS.ne) cs
  · rw [if_neg h1] at h
    by_cases h2 : i = s2
    · subst h2
      rw [if_pos rfl] at h
      rw [hu, if_neg Bool.false_ne_true] at hC
      refine wpList_one (fun e a' w' hq => ?_) (h.2 u w hX hC)
      obtain ⟨q1, q2, rfl⟩ := hq
      refine ⟨q1, q2, fun d hdd _ => ?_, ?_⟩
      · rw [h.1] at hdd; cases hdd
      · rw [h.1]
        refine ⟨hS.k2 hX, ?_, ?_⟩
        · rw [setL_ne _ hne]; exact hB.rowfar hS.ne ds
        · rw [setL_self, if_pos rfl]; exact hC.row ds
    · rw [if_neg h2] at h
      refine wpList_one (fun e a' w' hq => ?_) (h u w hX)
      obtain ⟨q1, q2, q3, q4⟩ := hq
      refine ⟨q1, q2, fun d hdd _ => ?_, ?_⟩
      · rw [hdd] at q3; exact q3
      · rw [slots_same (Ps := []) fun d _ => List.not_mem_nil]
        refine ⟨hS.k hX q4, ?_, ?_⟩
        · rw [setL_ne _ (Ne.symm h1)]; exact hB.own q4
        · rw [setL_ne _ (Ne.symm h2)]; exact hC.own q4
end
def DutyR (P : Program) (l : List Oper) (A : Act) (s1 s2 : Nat) (c : Nat → Value) (X : World → Prop) (B C : Nat) (zs cs ys ds : Array Value) (T1 T2 : TypeId) (Q : Exit → Act → World → Prop) (G : (Nat → Value) → Act) : Prop :=
  AllSteps (StepR P l A s1 s2 c X B C zs cs ys ds T1 T2 G) 0 l ∧ ∀ u w', X w' → Blk w' B cs T1 → Blk w' C ds T2 → Q .normal (G u) w'
theorem region_dutyR {id : Nat} {l : List Oper} {Q : Exit → Act → World → Prop} {A : Act} {w : World} (D : List Nat) (s1 s2 : Nat) (c : Nat → Value) (X : World → Prop) (B C : Nat) (zs cs ys ds : Array Value) (T1 T2 : TypeId) (hm : P.follows .mixedOrders = true) (hk : okReg l D = true)
    (hi : s1 < l.length ∧ s2 < l.length ∧ s1 ≠ s2) (hb : ∀ d, d ∈ D → d < A.tmps.size) (hS : Stg2 X B C cs ds) (hX : X w) (hB : Blk w B zs T1) (hC : Blk w C ys T2) (h : DutyR P l A s1 s2 c X B C zs cs ys ds T1 T2 Q (fun u => FF A D [] c u)) : (Code.region id l.toArray true).wp P Q A w := by
  refine region_core D [] c (TR s1 s2 X B C zs cs ys ds T1 T2) hm hk hb ⟨hS.k hX (Own.refl w).drew, hB.drew, hC.drew⟩ (allsteps_mono (fun o i hs => stepR_c hS hi.2.2 hs) h.1) ?_
  rintro L u w' hL ⟨h1, h2, h3⟩
  rw [hL s1 hi.1, if_pos rfl] at h2
  rw [hL s2 hi.2.1, if_pos rfl] at h3
  exact h.2 u w' h1 h2 h3
end Go.Proofs.Ytmjokgddhainlaa.RegD

/-
  A region with operations whose values are not determined: each leaves a fact about its slot, which what waits for it knows. Nothing of the program. Condition: none.
-/
namespace Go.Proofs.Ytmjokgddhainlaa.RegD
open Go RegI PairW BlkW
variable {P : Program}
/-- What holds: X, and the fact of each operation that has come up (Fs: operation, slot). -/
def TF (Fs : List (Nat × Nat)) (X : World → Prop) (F : Nat → Value → World → Prop) : Ls → (Nat → Value) → World → Prop := fun L u w => X w ∧ ∀ q, q ∈ Fs → L q.1 = true → F q.2 (u q.2) w
structure StgF (X : World → Prop) (F : Nat → Value → World → Prop) : Prop where
  x : ∀ {w w'}, X w → Own w w' → X w'
  f : ∀ {p v w w'}, F p v w → Own w w' → F p v w'
/-- What an operation knows. -/
def Knows (Fs : List (Nat × Nat)) (X : World → Prop) (F : Nat → Value → World → Prop) (o : Oper) (u : Nat → Value) (w : World) : Prop :=
  X w ∧ ∀ q, q ∈ Fs → (o.after.any fun e => Region.binds .any e && (e.on == q.1)) = true → F q.2 (u q.2) w
/-- What an operation leaves whose value is not determined. -/
def FPost (A : Act) (p : Nat) (F : Nat → Value → World → Prop) (w : World) : Exit → Act → World → Prop := fun e a' w' => e = .normal ∧ a'.defers = A.defers ∧ Own w w' ∧ F p (a'.tmps.getD p undef) w'
def okFs (Fs : List (Nat × Nat)) : Bool := Fs.all fun a => Fs.all fun b => !(a.1 == b.1) || (a.2 == b.2)
section
variable {l : List Oper} {A : Act} {D Ps : List Nat} {Fs : List (Nat × Nat)} {c : Nat → Value} {i p : Nat} {X : World → Prop} {F : Nat → Value → World → Prop} {o : Oper} {G : (Nat → Value) → Act}
def StepF (P : Program) (l : List Oper) (A : Act) (Fs : List (Nat × Nat)) (Ps : List Nat) (c : Nat → Value) (X : World → Prop) (F : Nat → Value → World → Prop) (G : (Nat → Value) → Act) (o : Oper) (i : Nat) : Prop :=
  (∃ p, (i, p) ∈ Fs ∧ p ∈ Ps ∧ o.dst = some p ∧ ∀ u w, Knows Fs X F o u w → wpList P l.toArray (FPost A p F w) [o] (G u) w)
  ∨ ((∀ q, q ∈ Fs → q.1 ≠ i) ∧ (∀ d, o.dst = some d → d ∉ Ps) ∧ ∀ u w, Knows Fs X F o u w → wpList P l.toArray (DPost A o c w) [o] (G u) w)
theorem stepF_fact (p : Nat) (hm : (i, p) ∈ Fs) (hp : p ∈ Ps) (hd : o.dst = some p) (h : ∀ u w, Knows Fs X F o u w → wpList P l.toArray (FPost A p F w) [o] (G u) w) : StepF P l A Fs Ps c X F G o i := .inl ⟨p, hm, hp, hd, h⟩
theorem stepF_det (h1 : ∀ q, q ∈ Fs → q.1 ≠ i) (h2 : ∀ d, o.dst = some d → d ∉ Ps) (h : ∀ u w, Knows Fs X F o u w → wpList P l.toArray (DPost A o c w) [o] (G u) w) : StepF P l A Fs Ps c X F G o i := .inr ⟨h1, h2, h⟩
theorem stepF_c (hS : StgF X F) (hF : okFs Fs = true) (h : StepF P l A Fs Ps c X F (fun u => FF A D Ps c u) o i) : StepC P l A D Ps c (TF Fs X F) o i := by
  rintro L u w ⟨hX, hT⟩ hu hr
  have hK : Knows Fs X F o u w := by
    refine ⟨hX, fun q hq ha => hT q hq ?_⟩
    obtain ⟨e, hem, hee⟩ := Array.any_eq_true'.1 ha
    rw [Bool.and_eq_true] at hee
    have := hr e hem hee.1
    rwa [eq_of_beq hee.2] at this
  rcases h with ⟨p, hm, hp, hd, h⟩ | ⟨h1, h2, h⟩
  · refine wpList_one (fun e a' w' hq => ?_) (h u w hK)
    obtain ⟨q1, q2, q3, q4⟩ := hq
    refine ⟨q1, q2, fun d hdd hpd => ?_, ?_⟩
    · rw [hd] at hdd
      injection hdd with hdd
      exact absurd (hdd ▸ hp) hpd
    · rw [hd]
      simp only [hp, if_true]
      refine ⟨hS.x hX q3, fun q hq hL => ?_⟩
      by_cases e2 : q.2 = p
      · rw [e2, show upd u p (a'.tmps.getD p undef) p = a'.tmps.getD p undef from if_pos rfl]
        exact q4
      · have e1 : q.1 ≠ i := by
          intro e1
          have h1 := List.all_eq_true.1 (List.all_eq_true.1 hF _ hq) _ hm
          rw [Bool.or_eq_true] at h1
          rcases h1 with h1 | h1
          · rw [e1] at h1
            simp at h1
          · exact e2 (eq_of_beq h1)
        rw [setL_ne _ e1] at hL
        rw [show upd u p (a'.tmps.getD p undef) q.2 = u q.2 from if_neg e2]
        exact hS.f (hT q hq hL) q3
  · refine wpList_one (fun e a' w' hq => ?_) (h u w hK)
    obtain ⟨q1, q2, q3, q4⟩ := hq
    refine ⟨q1, q2, fun d hdd hpd => ?_, ?_⟩
    · rw [hdd] at q3; exact q3
    · rw [slots_same (Ps := Ps) h2]
      refine ⟨hS.x hX q4, fun q hq hL => ?_⟩
      rw [setL_ne _ (h1 q hq)] at hL
      exact hS.f (hT q hq hL) q4
end
def DutyF (P : Program) (l : List Oper) (A : Act) (Fs : List (Nat × Nat)) (Ps : List Nat) (c : Nat → Value) (X : World → Prop) (F : Nat → Value → World → Prop) (Q : Exit → Act → World → Prop) (G : (Nat → Value) → Act) : Prop :=
  AllSteps (StepF P l A Fs Ps c X F G) 0 l ∧ ∀ u w', X w' → (∀ q, q ∈ Fs → F q.2 (u q.2) w') → Q .normal (G u) w'
theorem region_dutyF {id : Nat} {l : List Oper} {Q : Exit → Act → World → Prop} {A : Act} {w : World} (D : List Nat) (Fs : List (Nat × Nat)) (Ps : List Nat) (c : Nat → Value) (X : World → Prop) (F : Nat → Value → World → Prop) (hm : P.follows .mixedOrders = true) (hk : okReg l D = true)
    (hi : okFs Fs = true ∧ ∀ q, q ∈ Fs → q.1 < l.length) (hb : ∀ d, d ∈ D → d < A.tmps.size) (hS : StgF X F) (h0 : X w) (h : DutyF P l A Fs Ps c X F Q (fun u => FF A D Ps c u)) : (Code.region id l.toArray true).wp P Q A w := by
  refine region_core D Ps c (TF Fs X F) hm hk hb ⟨hS.x h0 (Own.refl w).drew, fun q _ hL => absurd hL Bool.false_ne_true⟩ (allsteps_mono (fun o i hs => stepF_c hS hi.1 hs) h.1) ?_
  intro L u w' hL hT
  exact h.2 u w' hT.1 fun q hq => hT.2 q hq (hL q.1 (hi.2 q hq))
end Go.Proofs.Ytmjokgddhainlaa.RegD
