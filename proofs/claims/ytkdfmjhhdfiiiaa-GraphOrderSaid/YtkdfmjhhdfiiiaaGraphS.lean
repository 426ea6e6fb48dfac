/-
  Package graph: the chapter's examples; the laws' sample. Condition: none.
-/
import Derived.Test.YtkdfmjhhdfiiiaaGraphPH
import Derived.Test.YtkdfmjhhdfiiiaaGraphPF
import Derived.Test.YtkdfmjhhdfiiiaaGraphPJ
import Derived.Test.YtkdfmjhhdfiiiaaGraphPK
import Derived.Test.YtkdfmjhhdfiiiaaGraphE
import Derived.Test.YtkdfmjhhdfiiiaaAppendRow
namespace Go.Proofs.Ytkdfmjhhdfiiiaa.GraW
open Go.ChangeShapes Go.WideShapes Go.ChangeAt Go.RowKit
open PairW CelW GraP TabW RowA
def smp : List Ar := [(3, 1), (1, 0), (3, 0), (2, 0)]
theorem ex_ord : ordE 5 smp = 0 ∧ ordV 5 smp = [2, 3, 1, 0, 4] := by decide +kernel
theorem ex_rea : reaE 5 smp 3 = 0 ∧ reaV 5 smp 3 = [true, true, false, true, false] := by decide +kernel
theorem ex_pth : pthE 5 smp 3 0 = 0 ∧ pthV 5 smp 3 0 = [3, 0] := by decide +kernel
theorem ex_no : pthE 5 smp 0 3 = 6 ∧ pthV 5 smp 0 3 = [] := by decide +kernel
theorem ex_cyc : ordE 5 (smp ++ [(0, 1)]) = 15 ∧ ordV 5 (smp ++ [(0, 1)]) = [] := by decide +kernel
theorem ex_par : chkE 5 (smp ++ [(0, 1)]) = 0 ∧ parW 5 (smp ++ [(0, 1)]) = [[0, 1], [2], [3], [4]] := by decide +kernel
theorem ex_clo : clzE 3 [(2, 1), (1, 0)] = 0 ∧ clzN 3 [(2, 1), (1, 0)] = 3 ∧ clzL 3 [(2, 1), (1, 0)] = [(1, 0), (2, 0), (2, 1)] := by decide +kernel
theorem ex_chk : chkE 5 (smp ++ [(5, 0)]) = 6 := by decide +kernel
theorem results_cell1 {fn : Func} {p : Tmp} {ty : TypeId} (h : fn.results = #[.cell p ty]) (tmps : Array Value) (P : Program) (w : World) :
    (results fn tmps).run P w = ((asAddr (tmps.getD p undef)).run P w).andThen fun a w₁ => ((loadVar ty a).run P w₁).andThen fun v w₂ => .ok v w₂ := by
  simp only [results, h]
  simp [Sem.run_bind]
  cases (Sem.run P (asAddr (tmps[p]?.getD undef)) w) with
  | ok a w1 =>
    simp only [Result.andThen]
    cases Sem.run P (loadVar ty a) w1 <;> rfl
  | halt h w => rfl
/-- A graph that lies in memory, as the one result. -/
theorem gr_result {fn : Func} {p : Tmp} (h : fn.results = #[.cell p 24]) {tmps : Array Value} {w : World} {B : Nat} {x y : Value} (hp : tmps.getD p undef = .pointer (some ⟨B, 0, none⟩)) (h0 : w.cell? ⟨B, 0, none⟩ = some x) (h1 : w.cell? ⟨B, 1, none⟩ = some y) :
    (results fn tmps).run Try.prog w = .ok (.agg #[x, y]) w := by
  rw [results_cell1 h, hp]
  go_simp
theorem bx0 {w : World} (x y : Value) (T : TypeId) : Bx (w.alloc (.cells #[x, y] T)) w.heap.size x y ∧ (w.alloc (.cells #[x, y] T)).frozen? ⟨w.heap.size, 0, none⟩ = false := ⟨bx_new w x y T, by go_simp⟩
theorem own_lit (w : World) (cs : Array Value) (T : TypeId) (n : Nat) (hs : cs.size = n * 2) (hn : n ≤ 1000) : (w.alloc (.cells cs T)).ownsRow w.heap.size T 2 (.slice (some ⟨w.heap.size, 0, none⟩) n n) n cs.toList := World.ownsRow_lit w cs n (Nat.le_refl _) (by unfold maxLen; omega) hs
set_option maxRecDepth 100000 in
set_option maxHeartbeats 2000000 in
theorem sample_at (more L : List Ar) (sv : Value) (w : World) (HP : Hid (Pts w sv more)) (HL : Hid (smp ++ more = L)) (hm : more.length ≤ 4) :
    Calls Try.prog 31 #[sv] w fun e w' => ∃ v, e = .returned (grV 5 v) ∧ Pts w' v L ∧ Own w w' := by
  obtain ⟨i0, hi, hz0, hz1, hz2⟩ := info_parts (show (Try.prog.info? 46).map (fun i => (i.zero, i.size, i.bytes)) = some (some (.agg #[.int .i64 0, .int .i64 0]), 2, 16) by kernel_rfl)
  have HI := Lib.hid hi
  have HZ0 := Lib.hid hz0
  have HZ1 := Lib.hid hz1
  have HZ2 := Lib.hid hz2
  clear hi hz0 hz1 hz2
  go_enter Try.func31, Try.ntmps31
  go_upto_region 1 with (fail)
  obtain ⟨⟨k0, k1, f1⟩, f0⟩ := bx0 (w := w) (.int .i64 0) (.slice none 0 0) 24
  have g0 : Own w (w.alloc (.cells #[.int .i64 0, .slice none 0 0] 24)) := (Own.refl w).alloc _
  obtain ⟨C, hC⟩ : ∃ C, w.heap.size = C := ⟨_, rfl⟩
  rw [hC] at k0 k1 f0 f1
  rw [hC]
  have HC := Lib.hid hC
  generalize hW : w.alloc (.cells #[.int .i64 0, .slice none 0 0] 24) = W0 at *
  clear hW hC
  have hr := own_lit W0 #[.int .i64 3, .int .i64 1, .int .i64 1, .int .i64 0, .int .i64 3, .int .i64 0, .int .i64 2, .int .i64 0] 46 4 rfl (by omega)
  have g1 := (Own.refl W0).alloc (.cells #[.int .i64 3, .int .i64 1, .int .i64 1, .int .i64 0, .int .i64 3, .int .i64 0, .int .i64 2, .int .i64 0] 46)
  have hp := pts_src (HP.out.own (g0.trans g1))
  obtain ⟨As, cs, rfl, hsrc⟩ := hp
  have HROW := Lib.hid hr
  have HSRC := Lib.hid hsrc
  have HG1 := Lib.hid g1
  have HK0 := Lib.hid (g1.cell k0)
  have HF0 := Lib.hid (frozen_kept g1 k0 f0)
  have HF1 := Lib.hid (frozen_kept g1 k1 f1)
  have HK1 := Lib.hid (g1.cell k1)
  have HLN := Lib.hid (cellsP_len more)
  have HONE := Lib.hid (cellsP_one more)
  have K2 := Lib.hid (show 4 + more.length ≤ maxLen by unfold maxLen; omega)
  have K3 := Lib.hid (show (4 + more.length) * 16 ≤ 140737488355328 by omega)
  have HB := Lib.hid (show C < W0.heap.size from block_lt_of_cell k0)
  clear hr g1 hsrc k0 k1 f0 f1
  go_wp2_with (at_builtin; refine wpList_append_row_any _ rfl _ _ 22 rfl W0.heap.size 46 i0 (.agg #[.int .i64 0, .int .i64 0]) 2 16 Try.underlying22 HI.out HZ0.out HZ1.out HZ2.out rfl (by decide) _ 4 _ rfl HROW.out _ more.length _ (cellsP more) rfl HLN.out HSRC.out HONE.out K2.out K3.out HG1.out.size ?_; intro v8 w8 hown8 hgr8 _; obtain ⟨A8, c8, rfl⟩ := row_sh hown8; have HOWN8 := Lib.hid hown8; have hrb := fun k (hk : (Value.slice (some ⟨W0.heap.size, 0, none⟩) 4 4).ownBlock = some k) => (HROW.out.lt k hk).1; have hkk := hgr8.block C (Nat.lt_of_lt_of_le HB.out HG1.out.size) (fun e => by have := hrb C e.symm; have := HB.out; omega); have k0 := (World.cell?_of_block hkk).trans HK0.out; have k1 := (World.cell?_of_block hkk).trans HK1.out; have f0 := (World.frozen?_of_block hkk).trans HF0.out; have f1 := (World.frozen?_of_block hkk).trans HF1.out; have HQ8 := Lib.hid ((g0.trans HG1.out).grown hgr8 (fun k hk => Nat.le_trans g0.size (hrb k hk))); clear hown8 hgr8 hrb hkk)
  refine bodyPost_ret (gr_result rfl rfl (x := .int .i64 5) (y := .slice A8 (4 + more.length) c8) (by go_simp) (by go_simp)) rfl ?_
  refine ⟨_, rfl, pts_of_row (base := W0.heap.size) (e := 46) ?_, (HQ8.out.setCell (p := ⟨C, 0, none⟩) (Nat.le_of_eq HC.out) _).setCell (p := ⟨C, 1, none⟩) (Nat.le_of_eq HC.out) _⟩
  have hl : L.length = 4 + more.length := by rw [← HL.out, List.length_append]; rfl
  rw [hl]
  have h1 := row_lo (row_lo HOWN8.out (p := ⟨C, 0, none⟩) HB.out (.int .i64 5)) (p := ⟨C, 1, none⟩) HB.out (.slice A8 (4 + more.length) c8)
  rw [← HL.out, cellsP_app]
  exact h1
end Go.Proofs.Ytkdfmjhhdfiiiaa.GraW
