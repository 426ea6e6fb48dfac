/-
  Movements in memory: poses and supports, known cell by cell; aims within poses. Nothing of the program but its types. Condition: none.
-/
import Derived.Test.YtmjokgddhainlaaFam
import Derived.Test.YtmjokgddhainlaaPosturePlain
namespace Go.Proofs.Ytmjokgddhainlaa.MovW
open Go.ChangeShapes Go.WideShapes Go.ChangeAt Go.RowKit
open PairW BlkW PrtW PstP
/-- A movement in memory: n poses, m supports. -/
structure Mov (sv tv : Value) (f : Nat → Vl) (q : Nat → Int) (n m : Nat) (w : World) : Prop where
  ps : ∃ A c, sv = .slice A n c ∧ (0 < n → ∃ B off, A = some ⟨B, off, none⟩ ∧ ∀ i, i < n → Lie w B (off + i * 22) (cz 22 (f i)))
  ss : ∃ A c, tv = .slice A m c ∧ (0 < m → ∃ B off, A = some ⟨B, off, none⟩ ∧ ∀ i, i < m → w.cell? ⟨B, off + i, none⟩ = some (.int .i64 (q i)))
  nl : n ≤ maxLen
  ml : m ≤ maxLen
theorem Mov.own {sv tv : Value} {f : Nat → Vl} {q : Nat → Int} {n m : Nat} {w w' : World} (h : Mov sv tv f q n m w) (g : PairW.Own w w') : Mov sv tv f q n m w' := by
  obtain ⟨⟨A, c, h1, h2⟩, ⟨A', c', h3, h4⟩, h5, h6⟩ := h
  refine ⟨⟨A, c, h1, fun h => ?_⟩, ⟨A', c', h3, fun h => ?_⟩, h5, h6⟩
  · obtain ⟨B, off, e, hl⟩ := h2 h
    exact ⟨B, off, e, fun i hi => (hl i hi).own g⟩
  · obtain ⟨B, off, e, hl⟩ := h4 h
    exact ⟨B, off, e, fun i hi => g.cell (hl i hi)⟩
theorem fam_cz (n : Nat) : Fam (cz n) n := ⟨fun f _ h => cz_at h f, fun f _ v h => cz_set h f v⟩
/-- A part of what lies somewhere. -/
theorem lie_sub {w : World} {B off n o m : Nat} {f : Nat → Int} (h : Lie w B off (cz n f)) (hm : o + m ≤ n) : Lie w B (off + o) (cz m (fun j => f (o + j))) := lie_cz fun i hi => by
  have := lie_num h (i := o + i) (by omega)
  rw [← Nat.add_assoc] at this
  exact this
/-- An aim of a pose in a block, of a pose that lies somewhere. -/
theorem lie_aim {w : World} {B : Nat} {p : Vl} {T : TypeId} (h : Blk w B (cz 22 p) T) {i : Nat} (hi : i < 6) : Lie w B (4 + i * 3) #[.int .i64 (p (4 + i * 3)), .int .i64 (p (4 + i * 3 + 1)), .int .i64 (p (4 + i * 3 + 2))] :=
  (fam_cz 22).lie (off := 4 + i * 3) (m := 3) h (by omega)
theorem lie_aim2 {w : World} {B off : Nat} {p : Vl} (h : Lie w B off (cz 22 p)) {i : Nat} (hi : i < 6) : Lie w B (off + 4 + i * 3) #[.int .i64 (p (4 + i * 3)), .int .i64 (p (4 + i * 3 + 1)), .int .i64 (p (4 + i * 3 + 2))] := by
  have := lie_sub h (o := 4 + i * 3) (m := 3) (by omega)
  rw [← Nat.add_assoc] at this
  exact this
/-- A length that doesn't fit, also where one more wraps. -/
theorem form_ne {n m : Nat} (h : n ≠ m + 1) (h1 : (n : Int) ≤ 9223372036854775807) (h2 : (m : Int) ≤ 9223372036854775807) : (n : Int) ≠ IntKind.i64.wrap ((m : Int) + 1) := by
  by_cases c : (m : Int) + 1 ≤ 9223372036854775807
  · rw [IntWalk.i64_in _ (by omega)]; omega
  · have e : (m : Int) = 9223372036854775807 := by omega
    have e2 : IntKind.i64.wrap ((9223372036854775807 : Int) + 1) = -9223372036854775808 := by decide
    rw [e, e2]; omega
/-- Four blocks made one after the other. -/
theorem four_new (w : World) (c1 : Array Value) (T1 : TypeId) (c2 : Array Value) (T2 : TypeId) (c3 : Array Value) (T3 : TypeId) (c4 : Array Value) (T4 : TypeId) :
    ∃ W B C D E, (((w.alloc (.cells c1 T1)).alloc (.cells c2 T2)).alloc (.cells c3 T3)).alloc (.cells c4 T4) = W ∧ w.heap.size + 1 + 1 + 1 = E ∧ w.heap.size + 1 + 1 = D ∧ w.heap.size + 1 = C ∧ w.heap.size = B ∧ Blk W B c1 T1 ∧ Blk W C c2 T2 ∧ Blk W D c3 T3 ∧ Blk W E c4 T4 ∧ Own w W ∧ w.heap.size ≤ E ∧ (B ≠ E ∧ C ≠ E ∧ D ≠ E) := by
  obtain ⟨W, B, C, D, rfl, rfl, rfl, rfl, hb, hc, hd, g, h1, h2, h3, -⟩ := three_new w c1 T1 c2 T2 c3 T3
  generalize hW : ((w.alloc (.cells c1 T1)).alloc (.cells c2 T2)).alloc (.cells c3 T3) = W at *
  have hs : W.heap.size = w.heap.size + 1 + 1 + 1 := by rw [← hW, size_alloc, size_alloc, size_alloc]
  have q : Own W (W.alloc (.cells c4 T4)) := (Own.refl _).alloc _
  refine ⟨_, _, _, _, _, rfl, rfl, rfl, rfl, rfl, hb.own q, hc.own q, hd.own q, ?_, g.trans q, by omega, by omega, by omega, by omega⟩
  have := Blk.new W c4 T4
  rw [hs] at this
  exact this
end Go.Proofs.Ytmjokgddhainlaa.MovW
