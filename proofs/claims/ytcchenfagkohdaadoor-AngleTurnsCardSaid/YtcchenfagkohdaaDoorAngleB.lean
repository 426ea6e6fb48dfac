/-
  Walks of the table of sines, of Sin and Cos of the specification of package angle: what each call returns. Condition: none.
-/
import Derived.Test.YtcchenfagkohdaaDoorAngleA
import Derived.Laws.Tables
import Derived.Laws.Rows
import Derived.Deep.WholeRow
import Derived.RowKit3
namespace Go.Proofs.YtcchenfagkohdaaDoor.AngW
open Go.ChangeShapes Go.WideShapes Go.ChangeAt Go.RowKit
open NumP NumW AngP

/-- A composite value whose parts are known: the array that it builds. -/
theorem wpList_build_eq {P : Program} {ops : Array Oper} {rest : List Oper} {o : Oper} {a : Act} {w : World} {Q : Exit → Act → World → Prop} (hg : o.guard = none) (t : TypeId) (parts : Array (Nat × Operand)) (ho : o.op = .build t parts)
    (cells : Array Value) (hf : P.built t (parts.map fun (i, x) => (i, a.eval x)).toList = some cells)
    (h : wpList P ops Q rest (a.put o.dst (.agg cells)) w) : wpList P ops Q (o :: rest) a w :=
  wpList_build hg t parts ho (by rw [hf]; rfl) (by rw [hf]; exact h)

/-- The table as a value of Go. -/
def tabCells : Array Value := (tabS.map (Value.int .i64)).toArray
theorem tab_size : tabCells.size = 65 := by decide
theorem tab_at (k : Nat) (h : k < 65) : tabCells[k]? = some (.int .i64 (tabN k)) := by
  unfold tabCells tabN
  rw [List.getElem?_toArray, List.getElem?_map, List.getD_eq_getElem?_getD]
  have hl : k < tabS.length := h
  rw [List.getElem?_eq_getElem hl]
  rfl
theorem tab_one : tabCells.all (·.oneCell') = true := by decide +kernel

theorem set_new2 (w : World) (A : Obj) (c c' : Array Value) (t : TypeId) : ((w.alloc A).alloc (.cells c t)).setRow (w.heap.size + 1) c' = (w.alloc A).alloc (.cells c' t) := by
  have h := World.setRow_alloc_new (w.alloc A) c c' t
  have e : (w.alloc A).heap.size = w.heap.size + 1 := by show (w.heap.push A).size = _; simp
  rw [e] at h
  exact h
theorem grown_cell {W w' : World} (h : Grown W w') {b o : Nat} {v : Value} (hc : W.cell? ⟨b, o, none⟩ = some v) : w'.cell? ⟨b, o, none⟩ = some v := by
  have h3 := h.1.2.2 b (block_lt_of_cell hc)
  revert hc h3
  simp only [World.cell?]
  generalize W.heap[b]? = x
  generalize w'.heap[b]? = y
  intro hc h3
  rcases x with _ | x
  · simp at hc
  · cases x <;> try (simp at hc; done)
    rcases y with _ | y
    · simp at h3
    · cases y <;> try (simp at h3; done)
      simp only at hc h3 ⊢
      rw [h3.2.2.2 o (fun f => f)]
      exact hc
theorem grown_trans {a b c : World} (h1 : Grown a b) (h2 : Grown b c) : Grown a c :=
  ⟨World.keptBut_trans h1.1 h2.1, fun x => (h2.2.1 x).trans (h1.2.1 x), Nat.le_trans h1.2.2 h2.2.2⟩
theorem grown_drewN {W w' : World} (h : Grown W w') (n : Nat) : Grown W (w'.drewN n) := h
theorem grown_drew {W w' : World} (h : Drew W w') : Grown W w' := by
  obtain ⟨n, rfl⟩ := h
  exact grown_drewN (Grown.refl _) n
def zeroCells : Array Value := Array.replicate 65 (.int .i64 0)
theorem zero_run (w : World) : (zeroValue 38).run Tryd.prog w = .ok (.agg zeroCells) w := by kernel_rfl
theorem tab_info : (Tryd.prog.info? 38).map (·.size) = some 65 := by kernel_rfl
set_option maxRecDepth 100000 in
set_option maxHeartbeats 1000000 in
theorem rtab_core (Z C : Array Value) (w : World) (hz : ∀ w : World, (zeroValue 38).run Tryd.prog w = .ok (.agg Z) w) (hZ : Z.size = 65) (hC : Hid (C = tabCells)) :
    Calls Tryd.prog 26 #[] w fun e w' => e = .returned (.agg C) ∧ w' = w.alloc (.cells C 38) := by
  have hs : C.size = 65 := by rw [hC.out]; exact tab_size
  have HS := Lib.hid hs
  have HZ := Lib.hid hZ
  clear hs hZ
  go_enter Tryd.func26, Tryd.ntmps26
  go_wp2_with (first
    | (refine wpList_build_eq rfl 38 _ rfl C ?_ ?_; (rw [hC.out]; kernel_rfl))
    | (refine wpList_store_row rfl 38 (.tmp 0) (.tmp 1) rfl w.heap.size C rfl rfl 38 Z (heap_alloc_last w _) ?_ ?_ ?_ ?_; (rw [HS.out]; exact tab_info); (rw [HS.out, HZ.out]); (rw [hC.out]; exact tab_one); rw [World.setRow_alloc_new]))
  exact bodyPost_ret (results_cell_row rfl _ _ w.heap.size 38 C (0, 0) _ rfl (heap_alloc_last w _) Tryd.underlying38 rfl (by rw [HS.out]; exact tab_info)) rfl ⟨rfl, rfl⟩
theorem rtab_any (w : World) :
    Calls Tryd.prog 26 #[] w fun e w' => e = .returned (.agg tabCells) ∧ w' = w.alloc (.cells tabCells 38) :=
  rtab_core zeroCells tabCells w zero_run (by decide) (Lib.hid rfl)
theorem rtab_at (C : Array Value) (w : World) (hC : Hid (C = tabCells)) :
    Calls Tryd.prog 26 #[] w fun e w' => e = .returned (.agg C) ∧ w' = w.alloc (.cells C 38) := by
  obtain rfl := hC.out
  exact rtab_any w

set_option maxRecDepth 100000 in
set_option maxHeartbeats 1000000 in
theorem rsin_core (a : Int) (n : Nat) (s : Int) (Z C : Array Value) (w : World) (hz : ∀ w : World, (zeroValue 38).run Tryd.prog w = .ok (.agg Z) w) (hZ : Hid (Z.size = 65)) (hC : Hid (C = tabCells)) (H : Hid (a % 256 = n)) (hn : n < 256)
    (hc : n ≤ 64 ∧ C[n]? = some (.int .i64 s) ∨ 64 < n ∧ n ≤ 128 ∧ C[128 - n]? = some (.int .i64 s) ∨ 128 < n ∧ n ≤ 192 ∧ C[n - 128]? = some (.int .i64 (-s)) ∨ 192 < n ∧ C[256 - n]? = some (.int .i64 (-s))) (hs : -16384 ≤ s ∧ s ≤ 16384) :
    Calls Tryd.prog 15 #[.int .i64 a] w fun e w' => e = .returned (.int .i64 s) ∧ Grown w w' := by
  have HS := Lib.hid (show C.size = 65 by rw [hC.out]; exact tab_size)
  rcases hc with ⟨h1, h2⟩ | ⟨h1, h2, h3⟩ | ⟨h1, h2, h3⟩ | ⟨h1, h2⟩
  all_goals
    go_enter Tryd.func15, Tryd.ntmps15
    go_wp2_with (first
      | (go_at_call 25; refine (rnorm_at _ _ _ H).mono ?_; rintro e w' ⟨rfl, rfl⟩)
      | (go_at_call 26; refine (rtab_at C _ hC).mono ?_; rintro e w' ⟨rfl, rfl⟩)
      | (refine wpList_store_row rfl 38 (.tmp 4) (.tmp 7) rfl (w.heap.size + 1) C rfl rfl 38 Z (heap_alloc2_new w _ _) ?_ ?_ ?_ ?_; (rw [HS.out]; exact tab_info); (rw [HS.out, hZ.out]); (rw [hC.out]; exact tab_one); rw [set_new2]))
    go_ret
    exact ⟨rfl, by repeat (first | exact Grown.refl _ | apply Grown.alloc)⟩
theorem sin_cases (n : Nat) (hn : n < 256) :
    n ≤ 64 ∧ tabCells[n]? = some (.int .i64 (sinN n)) ∨ 64 < n ∧ n ≤ 128 ∧ tabCells[128 - n]? = some (.int .i64 (sinN n)) ∨ 128 < n ∧ n ≤ 192 ∧ tabCells[n - 128]? = some (.int .i64 (-sinN n)) ∨ 192 < n ∧ tabCells[256 - n]? = some (.int .i64 (-sinN n)) := by
  unfold sinN
  by_cases h1 : n ≤ 64
  · rw [if_pos h1]; exact Or.inl ⟨h1, tab_at n (by omega)⟩
  · rw [if_neg h1]
    by_cases h2 : n ≤ 128
    · rw [if_pos h2]; exact Or.inr (Or.inl ⟨by omega, h2, tab_at _ (by omega)⟩)
    · rw [if_neg h2]
      by_cases h3 : n ≤ 192
      · rw [if_pos h3, Int.neg_neg]; exact Or.inr (Or.inr (Or.inl ⟨by omega, h3, tab_at _ (by omega)⟩))
      · rw [if_neg h3, Int.neg_neg]; exact Or.inr (Or.inr (Or.inr ⟨by omega, tab_at _ (by omega)⟩))
theorem rsin_any (a : Int) (w : World) :
    Calls Tryd.prog 15 #[.int .i64 a] w fun e w' => e = .returned (.int .i64 (sinV a)) ∧ Grown w w' :=
  rsin_core a (a % 256).toNat (sinV a) zeroCells tabCells w zero_run (Lib.hid (by decide)) (Lib.hid rfl) (Lib.hid (by omega)) (by omega) (sin_cases _ (by omega)) (sin_bd a)
theorem rsin_at (a s : Int) (w : World) (H : Hid (sinV a = s)) :
    Calls Tryd.prog 15 #[.int .i64 a] w fun e w' => e = .returned (.int .i64 s) ∧ Grown w w' := by
  obtain rfl := H.out
  exact rsin_any a w

theorem rcos_at (a c : Int) (w : World) (H : Hid (cosV a = c)) :
    Calls Tryd.prog 17 #[.int .i64 a] w fun e w' => e = .returned (.int .i64 c) ∧ Grown w w' := by
  obtain ⟨n, hn⟩ : ∃ n, a % 256 = n := ⟨_, rfl⟩
  have H1 := Lib.hid hn
  have h1 : 0 ≤ n ∧ n < 256 := by omega
  have H2 := Lib.hid (show sinV (n + 64) = c by rw [← hn]; exact H.out)
  clear hn
  go_enter Tryd.func17, Tryd.ntmps17
  go_wp2_with (first
    | (go_at_call 25; refine (rnorm_at _ _ _ H1).mono ?_; rintro e w' ⟨rfl, rfl⟩)
    | (go_at_call 15; refine (rsin_at _ _ _ H2).mono ?_; rintro e w' ⟨rfl, hg⟩; have HG := Lib.hid hg; clear hg))
  go_ret
  exact ⟨rfl, HG.out⟩
end Go.Proofs.YtcchenfagkohdaaDoor.AngW
