/-
  Walks of slices.Grow and Concat at spans, of the program's ends of two lists, sorted by the library: what a call returns for every input. Condition: none.
-/
import Derived.Test.YtggceakihapgiaaSpanPA
import Derived.Test.YtggceakihapgiaaSortShelf
import Derived.Sort.OwnSortedInts
import Derived.OwnWalk
import Derived.Deep.AppendLies
namespace Go.Proofs.Ytggceakihapgiaa.SpaW
open Go.ChangeShapes Go.WideShapes Go.ChangeAt Go.RowKit
open PairW SpaP
section
variable {P : Program}
/-- The spans of a slice appended to an owned row that has the room. -/
theorem wpList_append_pts {ops : Array Oper} {rest : List Oper} {o : Oper} {a : Act} {Q : Exit → Act → World → Prop} (w : World) (hgd : o.guard = none) (s x : Operand) (t : TypeId)
    (ho : o.op = .call { callee := .builtin .append, args := #[s, x], argTypes := #[t, t] }) (base : Nat) (e : TypeId) (i : TypeInfo) (ht : P.underlying t = some (.slice e)) (hi : P.info? e = some i) (hsz : i.size = 2)
    (g k cap : Nat) (xs : List Value) (hs : a.eval s = .slice (some ⟨g, 0, none⟩) k cap) (hown : w.ownsRow base e 2 (.slice (some ⟨g, 0, none⟩) k cap) k xs)
    (A : Option Addr) (n c : Nat) (l : List Pt) (hx : a.eval x = .slice A n c) (hp : Pts w (.slice A n c) l) (hl : l.length = n) (b1 : k + n ≤ cap)
    (hK : ∀ w', w'.ownsRow base e 2 (.slice (some ⟨g, 0, none⟩) (k + n) cap) (k + n) (xs ++ cellsP l) → w.grownBy w' (some g) → wpList P ops Q rest (a.put o.dst (.slice (some ⟨g, 0, none⟩) (k + n) cap)) w') :
    wpList P ops Q (o :: rest) a w := by
  obtain ⟨A', c', hv, h1, h2, h3⟩ := hp
  injection hv with e1 e2 e3
  subst e1; subst e3
  by_cases h0 : n = 0
  · subst h0
    have hnil := List.eq_nil_of_length_eq_zero hl
    subst hnil
    refine wpList_append_empty w hgd s x t ho e i ht hi g k cap A c (by omega) hs hx ?_
    have := hK w (by simpa [cellsP] using hown) (World.grownBy.refl _ _)
    simpa using this
  · refine wpList_append_fits_any w hgd s x t ho base e i 2 ht hi hsz g k cap xs hs hown A n c (cellsP l) hx (by rw [cellsP_len, hl]) (fun hA => ?_) (pts_row_cells h3 h1) (cellsP_one l) b1 hK
    obtain ⟨b, off, e1, _⟩ := h3 (by omega)
    rw [hA] at e1
    cases e1
/-- No span appended to nil. -/
theorem run_append_none_empty (w : World) (t ty e : TypeId) (i : TypeInfo) (ht : P.underlying t = some (.slice e)) (hi : P.info? e = some i) (A : Option Addr) (c : Nat) :
    (Builtin.append_ #[t, t] ty #[.slice none 0 0, .slice A 0 c]).run P w = .ok (.slice none 0 0) w := by
  cases A <;> simp [Builtin.append_, run_underlying ht, sizeOf, typeInfo, hi, Builtin.lenOf, Builtin.firstCells, loadCells, loadCellsFrom]
theorem wpList_append_none_empty {ops : Array Oper} {rest : List Oper} {o : Oper} {a : Act} {Q : Exit → Act → World → Prop} (w : World) (hgd : o.guard = none) (s x : Operand) (t : TypeId)
    (ho : o.op = .call { callee := .builtin .append, args := #[s, x], argTypes := #[t, t] }) (e : TypeId) (i : TypeInfo) (ht : P.underlying t = some (.slice e)) (hi : P.info? e = some i) (A : Option Addr) (c : Nat)
    (hs : a.eval s = .slice none 0 0) (hx : a.eval x = .slice A 0 c) (h : wpList P ops Q rest (a.put o.dst (.slice none 0 0)) w) : wpList P ops Q (o :: rest) a w := by
  refine wpList_plain hgd fun K hK => ?_
  have hr := run_append_none_empty (P := P) w t o.type e i ht hi A c
  unfold Oper.wp execOp
  simp only [ho, resolve, invoke, builtin, Sem.run_bind, Sem.run_pure, Result.andThen_ok, List.map_toArray, List.map_cons, List.map_nil, hs, hx, hr]
  exact hK _ _ h
end
theorem row_base {w : World} {b0 b : Nat} {e : TypeId} {z : Nat} {sv : Value} {n : Nat} {xs : List Value} (h : w.ownsRow b e z sv n xs) (hb : b0 ≤ b) : w.ownsRow b0 e z sv n xs := by
  refine ⟨h.1, h.2.imp id ?_⟩
  rintro ⟨g, cap, cur, h1, h2, h3⟩
  exact ⟨g, cap, cur, h1, by omega, h3⟩
set_option maxRecDepth 100000 in
theorem grow_at (n : Nat) (N : Int) (w : World) (hN : N = n) (h0 : 0 < n) (hn : n ≤ 1000) :
    Calls Try.prog 49 #[.slice none 0 0, .int .i64 N] w fun e w' => ∃ g cap : Nat, e = .returned (.slice (some ⟨g, 0, none⟩) 0 cap) ∧ n ≤ cap ∧ w.heap.size ≤ g ∧ w'.ownsRow w.heap.size 36 2 (.slice (some ⟨g, 0, none⟩) 0 cap) 0 [] ∧ Own w w' := by
  obtain ⟨i0, hi, hz0, hz1, hz2⟩ := info_parts (show (Try.prog.info? 36).map (fun i => (i.zero, i.size, i.bytes)) = some (some (.agg #[.int .i64 0, .int .i64 0]), 2, 16) by kernel_rfl)
  have HI := Lib.hid hi
  have HZ0 := Lib.hid hz0
  have HZ1 := Lib.hid hz1
  have HZ2 := Lib.hid hz2
  clear hi hz0 hz1 hz2
  subst hN
  have hnp : (0 : Int) < n := by omega
  go_enter Try.func49, Try.ntmps49
  go_upto_region 5 with (fail)
  go_wp2_with (at_builtin; refine wpList_append_made _ rfl _ _ 22 3 rfl 36 _ i0 (.agg #[.int .i64 0, .int .i64 0]) 2 16 Try.underlying22 Try.underlying3 HI.out HZ0.out HZ1.out HZ2.out rfl (by decide) n rfl rfl h0 (by unfold maxLen; omega) (by omega) ?_)
  intro cap w1 hge hcm hown hgr
  have g0 : Own w w1 := (Own.refl w).grown hgr (by simp)
  unfold maxLen at hcm
  have hc0 : ¬ (cap = 0) := by omega
  go_wp2
  go_ret
  exact ⟨w.heap.size, cap, rfl, hge, Nat.le_refl _, hown, g0⟩
theorem grow0_at (w : World) :
    Calls Try.prog 49 #[.slice none 0 0, .int .i64 0] w fun e w' => e = .returned (.slice none 0 0) ∧ w' = w := by
  go_enter Try.func49, Try.ntmps49
  go_wp2
  go_ret
  exact ⟨rfl, rfl⟩
set_option maxRecDepth 100000 in
set_option maxHeartbeats 4000000 in
theorem concat_at (a b : List Sp) (A B : Option Addr) (n m ca cb Q : Nat) (w : World) (HA : Hid (Pts w (.slice A n ca) a)) (HB : Hid (Pts w (.slice B m cb) b)) (HN : Hid (a.length = n)) (HM : Hid (b.length = m))
    (q0 : w.cell? ⟨Q, 0, none⟩ = some (.slice A n ca)) (q1 : w.cell? ⟨Q, 1, none⟩ = some (.slice B m cb)) (hle : n + m ≤ 1000) :
    Calls Try.prog 46 #[.slice (some ⟨Q, 0, none⟩) 2 2] w fun e w' => ∃ s', e = .returned s' ∧ Pts w' s' (a ++ b) ∧ Own w w' := by
  obtain ⟨i0, hi, hz0, hz1, hz2⟩ := info_parts (show (Try.prog.info? 36).map (fun i => (i.zero, i.size, i.bytes)) = some (some (.agg #[.int .i64 0, .int .i64 0]), 2, 16) by kernel_rfl)
  have HI := Lib.hid hi
  have HZ1 := Lib.hid hz1
  clear hi hz0 hz1 hz2
  have i1 : IntKind.i64.wrap ((n : Int) + m) = (n : Int) + m := IntWalk.i64_in _ (by omega)
  have i2 : IntKind.i64.wrap (n : Int) = (n : Int) := IntWalk.i64_in _ (by omega)
  have s1 : ¬ ((n : Int) + m < 0) := by omega
  have s2 : ¬ ((n : Int) < 0) := by omega
  have hQs : Q < w.heap.size := block_lt_of_cell q0
  by_cases hz : n + m = 0
  · have hn0 : n = 0 := by omega
    have hm0 : m = 0 := by omega
    subst hn0; subst hm0
    have ea := List.eq_nil_of_length_eq_zero HN.out
    have eb := List.eq_nil_of_length_eq_zero HM.out
    subst ea; subst eb
    clear i1 i2 s1 s2 HN HM HA HB
    go_enter Try.func46, Try.ntmps46
    go_wp2
    refine wp_loop_rounds 4 ?_
    rw [rounds_succ]
    go_wp2
    rw [rounds_succ]
    go_wp2
    rw [rounds_succ]
    go_wp2_with (go_at_call 49; refine (grow0_at _).mono ?_; rintro e w1 ⟨rfl, rfl⟩)
    refine wp_loop_rounds 4 ?_
    rw [rounds_succ]
    go_wp2_with (at_builtin; refine wpList_append_none_empty _ rfl _ _ 22 rfl 36 i0 Try.underlying22 HI.out A ca rfl rfl ?_)
    rw [rounds_succ]
    go_wp2_with (at_builtin; refine wpList_append_none_empty _ rfl _ _ 22 rfl 36 i0 Try.underlying22 HI.out B cb rfl rfl ?_)
    rw [rounds_succ]
    go_wp2
    go_ret
    exact ⟨_, rfl, pts_nil _, Own.refl _⟩
  · go_enter Try.func46, Try.ntmps46
    go_wp2
    refine wp_loop_rounds 4 ?_
    rw [rounds_succ]
    go_wp2
    rw [rounds_succ]
    go_wp2
    rw [rounds_succ]
    go_wp2_with (go_at_call 49; refine (grow_at (n + m) _ _ (by simp) (by omega) (by omega)).mono ?_; rintro e w1 ⟨g, gc, rfl, hgc, hgw, hown, g0⟩)
    refine wp_loop_rounds 4 ?_
    rw [rounds_succ]
    have QB := Lib.hid q1
    replace q0 := g0.cell q0
    replace q1 := g0.cell q1
    have R0 := Lib.hid hown
    have HA1 := Lib.hid (HA.out.own g0)
    clear hown HA
    go_upto_region 13 with (fail)
    go_wp2_with (at_builtin; refine wpList_append_pts _ rfl _ _ 22 rfl w.heap.size 36 i0 Try.underlying22 HI.out HZ1.out g 0 gc [] rfl R0.out A n ca a rfl HA1.out HN.out (by omega) ?_)
    intro w2 hown hgr
    have R1 := Lib.hid hown
    have g1 : Own w w2 := g0.grown hgr (by intro i hi; injection hi with hi; omega)
    replace q1 := g1.cell QB.out
    have HB2 := Lib.hid (HB.out.own g1)
    clear hown hgr R0 HA1
    go_wp2
    rw [rounds_succ]
    go_upto_region 13 with (fail)
    go_wp2_with (at_builtin; refine wpList_append_pts _ rfl _ _ 22 rfl w.heap.size 36 i0 Try.underlying22 HI.out HZ1.out g n gc (cellsP a) rfl R1.out B m cb b rfl HB2.out HM.out (by omega) ?_)
    intro w3 hown hgr
    have g2 : Own w w3 := g1.grown hgr (by intro i hi; injection hi with hi; omega)
    have R2 := Lib.hid hown
    clear hown hgr
    go_wp2
    rw [rounds_succ]
    go_wp2
    go_ret
    refine ⟨_, rfl, pts_of_row (base := w.heap.size) (e := 36) ?_, g2⟩
    have := R2.out
    rw [List.length_append, HN.out, HM.out]
    unfold cellsP at this ⊢
    simpa [List.flatMap_append] using this
end Go.Proofs.Ytggceakihapgiaa.SpaW
