/-
  One pair appended to a row of one's own. Nothing of the program. Condition: none.
-/
import Derived.Test.YtlepcahangkmiaaAppendRow
import Derived.Test.YtlepcahangkmiaaLists
namespace Go.Proofs.Ytlepcahangkmiaa.TemW
open Go.ChangeShapes Go.WideShapes Go.ChangeAt Go.RowKit
open PairW CelW RowA
theorem pair_shape {w : World} {base n : Nat} {e : TypeId} {v : Value} {xs : List Value} (h : w.ownsRow base e 2 v n xs) : ∃ A cap, v = .slice A n cap := by
  rcases h.2 with ⟨h1, h2⟩ | ⟨g, cap, cur, rfl, _⟩
  · subst h2
    exact ⟨none, 0, h1⟩
  · exact ⟨_, cap, rfl⟩
/-- One pair appended to a row of one's own. -/
theorem wpList_add_pt {P : Program} {ops : Array Oper} {rest : List Oper} {o : Oper} {a : Act} {Q : Exit → Act → World → Prop} (w : World) (hgd : o.guard = none) (s x : Operand) (t : TypeId)
    (ho : o.op = .call { callee := .builtin .append, args := #[s, x], argTypes := #[t, t] }) (base : Nat) (e : TypeId) (i : TypeInfo) (z : Value) (ht : P.underlying t = some (.slice e)) (hi : P.info? e = some i) (hz : i.zero = some z)
    (hsize : i.size = 2) (hby : i.bytes = 16) (hzs : z.cells.size = 2) (A : Option Addr) (c n : Nat) (ou : List Pt) (hs : a.eval s = .slice A n c) (hown : w.ownsRow base e 2 (.slice A n c) n (cellsP ou)) (hn : n ≤ 1000000)
    (x1 y1 : Int) (hx : a.eval x = .slice (some ⟨w.heap.size, 0, none⟩) 1 1) (hb : base ≤ w.heap.size)
    (h : ∀ A' c' w', w'.ownsRow base e 2 (.slice A' (n + 1) c') (n + 1) (cellsP (ou ++ [(x1, y1)])) → (∀ w0, Own w0 w → w0.heap.size ≤ base → Own w0 w') → wpList P ops Q rest (a.put o.dst (.slice A' (n + 1) c')) w') :
    wpList P ops Q (o :: rest) a (w.alloc (.cells #[.int .i64 x1, .int .i64 y1] e)) := by
  have q0 : Own w (w.alloc (.cells #[.int .i64 x1, .int .i64 y1] e)) := (Own.refl w).alloc _
  refine wpList_append_row_any _ hgd s x t ho base e i z 2 16 ht hi hz hsize hby hzs (by decide) (.slice A n c) n (cellsP ou) hs (row_own hown q0) _ 1 1 [.int .i64 x1, .int .i64 y1] hx rfl (fun _ => ⟨_, rfl, ?_⟩) (by intro u hu; simp at hu; rcases hu with rfl | rfl <;> rfl) (by unfold maxLen; omega) (by omega) (by simp; omega) ?_
  · intro j u hu
    match j, hu with
    | 0, hu => simp at hu; subst hu; simp [Addr.add]
    | 1, hu => simp at hu; subst hu; simp [Addr.add]
  · intro v' w' h1 h2 h3
    obtain ⟨A', c', rfl⟩ := pair_shape h1
    refine h A' c' w' (by rw [cellsP_snoc]; exact h1) (fun w0 h4 h5 => (h4.trans q0).grown h2 fun k hk => ?_)
    have := (hown.lt k hk).1
    omega
end Go.Proofs.Ytlepcahangkmiaa.TemW
