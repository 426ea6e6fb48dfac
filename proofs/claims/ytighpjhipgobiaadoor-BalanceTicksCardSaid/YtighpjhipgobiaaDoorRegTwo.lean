/-
  A region of determined values that makes two blocks and stores into each whole. Nothing of the program. Condition: none.
-/
import Derived.Test.YtighpjhipgobiaaDoorRegBase
namespace Go.Proofs.YtighpjhipgobiaaDoor.RegD
open Go RegI PairW BlkW
section
variable {P : Program} {l : List Oper} {A : Act} {D : List Nat} {c : Nat → Value} {o : Oper} {i p1 a1 s1 p2 a2 s2 : Nat} {wb : World} {z1 c1 z2 c2 : Array Value} {T1 T2 : TypeId} {G : (Nat → Value) → Act}
def TN2 (p1 a1 s1 p2 a2 s2 : Nat) (wb : World) (z1 c1 : Array Value) (T1 : TypeId) (z2 c2 : Array Value) (T2 : TypeId) : Ls → (Nat → Value) → World → Prop := fun L u w =>
  Own wb w ∧ ((L s1 = true → L a1 = true) ∧ (L s2 = true → L a2 = true)) ∧ ∃ B C, B ≠ C ∧ (wb.heap.size ≤ B ∧ wb.heap.size ≤ C) ∧
    (L a1 = true → u p1 = .pointer (some ⟨B, 0, none⟩) ∧ Blk w B (if L s1 = true then c1 else z1) T1) ∧ (L a2 = true → u p2 = .pointer (some ⟨C, 0, none⟩) ∧ Blk w C (if L s2 = true then c2 else z2) T2)
def Step2 (P : Program) (l : List Oper) (A : Act) (p1 a1 s1 p2 a2 s2 : Nat) (c : Nat → Value) (wb : World) (z1 c1 : Array Value) (T1 : TypeId) (z2 c2 : Array Value) (T2 : TypeId) (G : (Nat → Value) → Act) (o : Oper) (i : Nat) : Prop :=
  if i = a1 then o.dst = some p1 ∧ ∀ u w, Own wb w → wpList P l.toArray (APost A p1 w z1 T1) [o] (G u) w
    else if i = a2 then o.dst = some p2 ∧ ∀ u w, Own wb w → wpList P l.toArray (APost A p2 w z2 T2) [o] (G u) w
    else if i = s1 then o.dst = none ∧ (o.after.any fun e => Region.binds .any e && (e.on == a1)) = true ∧ ∀ u w B, Own wb w → u p1 = .pointer (some ⟨B, 0, none⟩) → Blk w B z1 T1 → wpList P l.toArray (SPost A w B c1) [o] (G u) w
    else if i = s2 then o.dst = none ∧ (o.after.any fun e => Region.binds .any e && (e.on == a2)) = true ∧ ∀ u w B, Own wb w → u p2 = .pointer (some ⟨B, 0, none⟩) → Blk w B z2 T2 → wpList P l.toArray (SPost A w B c2) [o] (G u) w
    else (o.dst ≠ some p1 ∧ o.dst ≠ some p2) ∧ ∀ u w, Own wb w → wpList P l.toArray (DPost A o c w) [o] (G u) w
theorem step2_a1 (hd : o.dst = some p1) (h : ∀ u w, Own wb w → wpList P l.toArray (APost A p1 w z1 T1) [o] (G u) w) : Step2 P l A p1 a1 s1 p2 a2 s2 c wb z1 c1 T1 z2 c2 T2 G o a1 := by
  unfold Step2; rw [if_pos rfl]; exact ⟨hd, h⟩
theorem step2_a2 (hn : a2 ≠ a1) (hd : o.dst = some p2) (h : ∀ u w, Own wb w → wpList P l.toArray (APost A p2 w z2 T2) [o] (G u) w) : Step2 P l A p1 a1 s1 p2 a2 s2 c wb z1 c1 T1 z2 c2 T2 G o a2 := by
  unfold Step2; rw [if_neg hn, if_pos rfl]; exact ⟨hd, h⟩
theorem step2_s1 (hn : s1 ≠ a1 ∧ s1 ≠ a2) (hd : o.dst = none) (ha : (o.after.any fun e => Region.binds .any e && (e.on == a1)) = true) (h : ∀ u w B, Own wb w → u p1 = .pointer (some ⟨B, 0, none⟩) → Blk w B z1 T1 → wpList P l.toArray (SPost A w B c1) [o] (G u) w) : Step2 P l A p1 a1 s1 p2 a2 s2 c wb z1 c1 T1 z2 c2 T2 G o s1 := by
  unfold Step2; rw [if_neg hn.1, if_neg hn.2, if_pos rfl]; exact ⟨hd, ha, h⟩
theorem step2_s2 (hn : s2 ≠ a1 ∧ s2 ≠ a2 ∧ s2 ≠ s1) (hd : o.dst = none) (ha : (o.after.any fun e => Region.binds .any e && (e.on == a2)) = true) (h : ∀ u w B, Own wb w → u p2 = .pointer (some ⟨B, 0, none⟩) → Blk w B z2 T2 → wpList P l.toArray (SPost A w B c2) [o] (G u) w) : Step2 P l A p1 a1 s1 p2 a2 s2 c wb z1 c1 T1 z2 c2 T2 G o s2 := by
  unfold Step2; rw [if_neg hn.1, if_neg hn.2.1, if_neg hn.2.2, if_pos rfl]; exact ⟨hd, ha, h⟩
theorem step2_det (hn : i ≠ a1 ∧ i ≠ a2 ∧ i ≠ s1 ∧ i ≠ s2) (hd : o.dst ≠ some p1 ∧ o.dst ≠ some p2) (h : ∀ u w, Own wb w → wpList P l.toArray (DPost A o c w) [o] (G u) w) : Step2 P l A p1 a1 s1 p2 a2 s2 c wb z1 c1 T1 z2 c2 T2 G o i := by
  unfold Step2; rw [if_neg hn.1, if_neg hn.2.1, if_neg hn.2.2.1, if_neg hn.2.2.2]; exact ⟨hd, h⟩
def Duty2 (P : Program) (l : List Oper) (A : Act) (p1 a1 s1 p2 a2 s2 : Nat) (c : Nat → Value) (wb : World) (z1 c1 : Array Value) (T1 : TypeId) (z2 c2 : Array Value) (T2 : TypeId) (Q : Exit → Act → World → Prop) (G : (Nat → Value) → Act) : Prop :=
  AllSteps (Step2 P l A p1 a1 s1 p2 a2 s2 c wb z1 c1 T1 z2 c2 T2 G) 0 l ∧
  ∀ u w' B C, Own wb w' → u p1 = .pointer (some ⟨B, 0, none⟩) → u p2 = .pointer (some ⟨C, 0, none⟩) → B ≠ C → (wb.heap.size ≤ B ∧ wb.heap.size ≤ C) → Blk w' B c1 T1 → Blk w' C c2 T2 → Q .normal (G u) w'
theorem bound_of (L : Ls) {k : Nat} (ha : (o.after.any fun e => Region.binds .any e && (e.on == k)) = true) (hr : ∀ e ∈ o.after, Region.binds .any e = true → L e.on = true) : L k = true := by
  obtain ⟨e, he, hee⟩ := Array.any_eq_true'.1 ha
  rw [Bool.and_eq_true] at hee
  have := hr e he hee.1
  rwa [eq_of_beq hee.2] at this
theorem region_duty2 {id : Nat} {Q : Exit → Act → World → Prop} {w : World} (D : List Nat) (p1 a1 s1 p2 a2 s2 : Nat) (c : Nat → Value) (z1 c1 : Array Value) (T1 : TypeId) (z2 c2 : Array Value) (T2 : TypeId) (hm : P.follows .mixedOrders = true) (hk : okReg l D = true)
    (hi : (a1 < l.length ∧ a2 < l.length ∧ s1 < l.length ∧ s2 < l.length) ∧ (a1 ≠ a2 ∧ a1 ≠ s1 ∧ a1 ≠ s2 ∧ a2 ≠ s1 ∧ a2 ≠ s2 ∧ s1 ≠ s2) ∧ p1 ≠ p2) (hb : ∀ d, d ∈ D → d < A.tmps.size)
    (h : Duty2 P l A p1 a1 s1 p2 a2 s2 c w z1 c1 T1 z2 c2 T2 Q (fun u => FF A D [p1, p2] c u)) : (Code.region id l.toArray true).wp P Q A w := by
  obtain ⟨hlen, ⟨n1, n2, n3, n4, n5, n6⟩, hp⟩ := hi
  refine region_core D [p1, p2] c (TN2 p1 a1 s1 p2 a2 s2 w z1 c1 T1 z2 c2 T2) hm hk hb ⟨(Own.refl w).drew, ⟨(fun h => absurd h Bool.false_ne_true), (fun h => absurd h Bool.false_ne_true)⟩, w.heap.size, w.heap.size + 1, by omega, ⟨by omega, by omega⟩, (fun h => absurd h Bool.false_ne_true), (fun h => absurd h Bool.false_ne_true)⟩ (allsteps_mono (fun o i hs => ?_) h.1) ?_
  · have m1 : p1 ∈ [p1, p2] := by simp
    have m2 : p2 ∈ [p1, p2] := by simp
    unfold Step2 at hs
    by_cases e1 : i = a1
    · subst e1
      rw [if_pos rfl] at hs
      rintro L u w1 ⟨hO, ⟨g1, g2⟩, B, C, hne, ⟨hB, hC⟩, h1, h2⟩ hu _
      refine wpList_one (fun e a' w' hq => ?_) (hs.2 u w1 hO)
      obtain ⟨q1, q2, q3, rfl⟩ := hq
      refine ⟨q1, q2, fun d hd' hn => absurd (by rw [hs.1] at hd'; injection hd' with hd'; subst hd'; exact m1) hn, ?_⟩
      rw [hs.1]
      simp only [m1, if_true]
      have his : L s1 = false := by
        cases g : L s1 with
        | false => rfl
        | true => rw [g1 g] at hu; cases hu
      have us : upd u p1 (a'.tmps.getD p1 undef) p1 = a'.tmps.getD p1 undef := if_pos rfl
      have uo : upd u p1 (a'.tmps.getD p1 undef) p2 = u p2 := if_neg (fun e => hp e.symm)
      refine ⟨hO.alloc _, ⟨fun _ => setL_self L i, fun hl => ?_⟩, ?_⟩
      · rw [setL_ne L (Ne.symm n3)] at hl
        rw [setL_ne L (Ne.symm n1)]
        exact g2 hl
      · cases g : L a2 with
        | true =>
          obtain ⟨k1, k2⟩ := h2 g
          refine ⟨w1.heap.size, C, fun e => ?_, ⟨hO.size, hC⟩, fun _ => ⟨by rw [us]; exact q3, ?_⟩, fun _ => ⟨by rw [uo]; exact k1, ?_⟩⟩
          · have := k2.lt
            omega
          · rw [setL_ne L (Ne.symm n2), if_neg (by rw [his]; simp)]
            exact Blk.new w1 z1 T1
          · rw [setL_ne L (Ne.symm n3)]
            exact k2.own ((Own.refl _).alloc _)
        | false =>
          refine ⟨w1.heap.size, w1.heap.size + 1, by omega, ⟨hO.size, Nat.le_succ_of_le hO.size⟩, fun _ => ⟨by rw [us]; exact q3, ?_⟩, fun hl => ?_⟩
          · rw [setL_ne L (Ne.symm n2), if_neg (by rw [his]; simp)]
            exact Blk.new w1 z1 T1
          · rw [setL_ne L (Ne.symm n1), g] at hl
            cases hl
    · rw [if_neg e1] at hs
      by_cases e2 : i = a2
      · subst e2
        rw [if_pos rfl] at hs
        rintro L u w1 ⟨hO, ⟨g1, g2⟩, B, C, hne, ⟨hB, hC⟩, h1, h2⟩ hu _
        refine wpList_one (fun e a' w' hq => ?_) (hs.2 u w1 hO)
        obtain ⟨q1, q2, q3, rfl⟩ := hq
        refine ⟨q1, q2, fun d hd' hn => absurd (by rw [hs.1] at hd'; injection hd' with hd'; subst hd'; exact m2) hn, ?_⟩
        rw [hs.1]
        simp only [m2, if_true]
        have his : L s2 = false := by
          cases g : L s2 with
          | false => rfl
          | true => rw [g2 g] at hu; cases hu
        have us : upd u p2 (a'.tmps.getD p2 undef) p2 = a'.tmps.getD p2 undef := if_pos rfl
        have uo : upd u p2 (a'.tmps.getD p2 undef) p1 = u p1 := if_neg hp
        refine ⟨hO.alloc _, ⟨fun hl => ?_, fun _ => setL_self L i⟩, ?_⟩
        · rw [setL_ne L (Ne.symm n4)] at hl
          rw [setL_ne L n1]
          exact g1 hl
        · cases g : L a1 with
          | true =>
            obtain ⟨k1, k2⟩ := h1 g
            refine ⟨B, w1.heap.size, fun e => ?_, ⟨hB, hO.size⟩, fun _ => ⟨by rw [uo]; exact k1, ?_⟩, fun _ => ⟨by rw [us]; exact q3, ?_⟩⟩
            · have := k2.lt
              omega
            · rw [setL_ne L (Ne.symm n4)]
              exact k2.own ((Own.refl _).alloc _)
            · rw [setL_ne L (Ne.symm n5), if_neg (by rw [his]; simp)]
              exact Blk.new w1 z2 T2
          | false =>
            refine ⟨w1.heap.size + 1, w1.heap.size, by omega, ⟨Nat.le_succ_of_le hO.size, hO.size⟩, fun hl => ?_, fun _ => ⟨by rw [us]; exact q3, ?_⟩⟩
            · rw [setL_ne L n1, g] at hl
              cases hl
            · rw [setL_ne L (Ne.symm n5), if_neg (by rw [his]; simp)]
              exact Blk.new w1 z2 T2
      · rw [if_neg e2] at hs
        by_cases e3 : i = s1
        · subst e3
          rw [if_pos rfl] at hs
          rintro L u w1 ⟨hO, ⟨g1, g2⟩, B, C, hne, ⟨hB, hC⟩, h1, h2⟩ hu hr
          have hla := bound_of L hs.2.1 hr
          obtain ⟨k1, k2⟩ := h1 hla
          rw [if_neg (by rw [hu]; simp)] at k2
          refine wpList_one (fun e a' w' hq => ?_) (hs.2.2 u w1 B hO k1 k2)
          obtain ⟨q1, q2, rfl⟩ := hq
          refine ⟨q1, q2, fun d hd' _ => (by rw [hs.1] at hd'; cases hd'), ?_⟩
          rw [hs.1]
          refine ⟨own_setRow hO hB _, ⟨fun _ => by rw [setL_ne L n2]; exact hla, fun hl => ?_⟩, B, C, hne, ⟨hB, hC⟩, fun _ => ⟨k1, by rw [if_pos (setL_self L i)]; exact k2.row c1⟩, fun hl => ?_⟩
          · rw [setL_ne L (Ne.symm n6)] at hl
            rw [setL_ne L n4]
            exact g2 hl
          · rw [setL_ne L n4] at hl
            obtain ⟨j1, j2⟩ := h2 hl
            rw [setL_ne L (Ne.symm n6)]
            exact ⟨j1, j2.rowfar (Ne.symm hne) c1⟩
        · rw [if_neg e3] at hs
          by_cases e4 : i = s2
          · subst e4
            rw [if_pos rfl] at hs
            rintro L u w1 ⟨hO, ⟨g1, g2⟩, B, C, hne, ⟨hB, hC⟩, h1, h2⟩ hu hr
            have hla := bound_of L hs.2.1 hr
            obtain ⟨k1, k2⟩ := h2 hla
            rw [if_neg (by rw [hu]; simp)] at k2
            refine wpList_one (fun e a' w' hq => ?_) (hs.2.2 u w1 C hO k1 k2)
            obtain ⟨q1, q2, rfl⟩ := hq
            refine ⟨q1, q2, fun d hd' _ => (by rw [hs.1] at hd'; cases hd'), ?_⟩
            rw [hs.1]
            refine ⟨own_setRow hO hC _, ⟨fun hl => ?_, fun _ => by rw [setL_ne L n5]; exact hla⟩, B, C, hne, ⟨hB, hC⟩, fun hl => ?_, fun _ => ⟨k1, by rw [if_pos (setL_self L i)]; exact k2.row c2⟩⟩
            · rw [setL_ne L n6] at hl
              rw [setL_ne L n3]
              exact g1 hl
            · rw [setL_ne L n3] at hl
              obtain ⟨j1, j2⟩ := h1 hl
              rw [setL_ne L n6]
              exact ⟨j1, j2.rowfar hne c2⟩
          · rw [if_neg e4] at hs
            rintro L u w1 ⟨hO, ⟨g1, g2⟩, B, C, hne, ⟨hB, hC⟩, h1, h2⟩ hu _
            refine wpList_one (fun e a' w' hq => ?_) (hs.2 u w1 hO)
            obtain ⟨q1, q2, q3, q4⟩ := hq
            refine ⟨q1, q2, fun d hd _ => (by rw [hd] at q3; exact q3), ?_⟩
            rw [slots_same (fun d hd e => by
              simp at e
              rcases e with rfl | rfl
              · exact hs.1.1 hd
              · exact hs.1.2 hd)]
            refine ⟨hO.trans q4, ⟨fun hl => ?_, fun hl => ?_⟩, B, C, hne, ⟨hB, hC⟩, fun hl => ?_, fun hl => ?_⟩
            · rw [setL_ne L (Ne.symm e3)] at hl
              rw [setL_ne L (Ne.symm e1)]
              exact g1 hl
            · rw [setL_ne L (Ne.symm e4)] at hl
              rw [setL_ne L (Ne.symm e2)]
              exact g2 hl
            · rw [setL_ne L (Ne.symm e1)] at hl
              rw [setL_ne L (Ne.symm e3)]
              exact ⟨(h1 hl).1, (h1 hl).2.own q4⟩
            · rw [setL_ne L (Ne.symm e2)] at hl
              rw [setL_ne L (Ne.symm e4)]
              exact ⟨(h2 hl).1, (h2 hl).2.own q4⟩
  · rintro L u w' hall ⟨hO, _, B, C, hne, hBC, h1, h2⟩
    obtain ⟨k1, k2⟩ := h1 (hall a1 hlen.1)
    obtain ⟨j1, j2⟩ := h2 (hall a2 hlen.2.1)
    rw [if_pos (hall s1 hlen.2.2.1)] at k2
    rw [if_pos (hall s2 hlen.2.2.2)] at j2
    exact h.2 u w' B C hO k1 j1 hne hBC k2 j2
end
end Go.Proofs.YtighpjhipgobiaaDoor.RegD
