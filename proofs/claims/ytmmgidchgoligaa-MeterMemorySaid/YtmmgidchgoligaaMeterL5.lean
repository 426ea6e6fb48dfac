/-
  Walk of the law MeterMemory. Condition: none.
-/
import Derived.Test.YtmmgidchgoligaaMeterT
namespace Go.Proofs.Ytmmgidchgoligaa.MetW
open Go.ChangeShapes Go.WideShapes Go.ChangeAt Go.RowKit
open PairW CelW RowA MetP
/-- Nothing that was there has turned but blocks from lo to hi. -/
structure But (lo hi : Nat) (w w' : World) : Prop where
  os : w'.os = w.os
  output : w'.output = w.output
  size : w.heap.size ≤ w'.heap.size
  block : ∀ k, k < w.heap.size → ¬ (lo ≤ k ∧ k < hi) → w'.heap[k]? = w.heap[k]?
theorem But.refl (lo hi : Nat) (w : World) : But lo hi w w := ⟨rfl, rfl, Nat.le_refl _, fun _ _ _ => rfl⟩
theorem But.setCell {lo hi : Nat} {a w : World} (h : But lo hi a w) {p : Addr} (h1 : lo ≤ p.block) (h2 : p.block < hi) (u : Value) : But lo hi a (w.setCell p u) :=
  ⟨h.os, h.output, by simpa [World.setCell] using h.size, fun k hk hn => (Below.heap_setCell w p u k (by intro e; exact hn (e ▸ ⟨h1, h2⟩))).trans (h.block k hk hn)⟩
theorem But.grow {lo hi : Nat} {a w w' : World} (h : But lo hi a w) (g : Own w w') : But lo hi a w' :=
  ⟨g.os.trans h.os, g.output.trans h.output, Nat.le_trans h.size g.size, fun k hk hn => (g.block k (Nat.lt_of_lt_of_le hk h.size)).trans (h.block k hk hn)⟩
theorem But.own {lo hi : Nat} {w w1 w2 : World} (h : But lo hi w1 w2) (g : Own w w1) (hl : w.heap.size ≤ lo) : Own w w2 :=
  ⟨h.os.trans g.os, h.output.trans g.output, Nat.le_trans g.size h.size, fun k hk => (h.block k (Nat.lt_of_lt_of_le hk g.size) (by omega)).trans (g.block k hk)⟩
theorem But.row {lo hi : Nat} {w1 w2 : World} (h : But lo hi w1 w2) {base : Nat} {e : TypeId} {size : Nat} {v : Value} {n : Nat} {xs : List Value} (hr : w1.ownsRow base e size v n xs) (hb : hi ≤ base) : w2.ownsRow base e size v n xs := by
  refine ⟨hr.1, hr.2.imp id ?_⟩
  rintro ⟨g, cap, cur, h1, h2, h3, h4⟩
  exact ⟨g, cap, cur, h1, h2, (h.block g (Array.getElem?_eq_some_iff.1 h3).1 (by omega)).trans h3, h4⟩
theorem row_in {w w' : World} {base n nc hi : Nat} {e : TypeId} {D : Option Addr} {xs : List Value} (h : w.ownsRow base e 2 (.slice D n nc) n xs) (hg : Own w w') (hh : w.heap.size ≤ hi) (h0 : 0 < n) : ∃ g, D = some ⟨g, 0, none⟩ ∧ base ≤ g ∧ g < hi ∧ g < w'.heap.size := by
  obtain ⟨g, cap, h1, h2, h3⟩ := row_form h h0
  injection h1 with h1
  exact ⟨g, h1, h2, by omega, Nat.lt_of_lt_of_le h3 hg.size⟩
theorem row_len {w : World} {base n : Nat} {e : TypeId} {v : Value} {xs : List Value} (h : w.ownsRow base e 2 v n xs) : xs.length = n * 2 := h.1
set_option maxRecDepth 100000 in
set_option maxHeartbeats 4000000 in
theorem lmemory_at (l : List Pt) (sv : Value) (s1 s2 : Int) (w : World) (HP : Hid (Pts w sv l)) (hz : l.length * 16 ≤ 140737488351232) :
    Calls Try.prog 9 #[sv, .agg #[.int .i64 s1, .int .i64 s2]] w fun e w' => e = .returned (.bool true) ∧ Own w w' := by
  obtain ⟨i0, hi, hz0, hz1, hz2⟩ := info_parts (show (Try.prog.info? 45).map (fun i => (i.zero, i.size, i.bytes)) = some (some (.agg #[.int .i64 0, .int .i64 0]), 2, 16) by kernel_rfl)
  have HI := Lib.hid hi
  have HZ0 := Lib.hid hz0
  have HZ1 := Lib.hid hz1
  have HZ2 := Lib.hid hz2
  clear hi hz0 hz1 hz2
  obtain ⟨c, hc⟩ : ∃ c, cE l (s1, s2) = c := ⟨_, rfl⟩
  obtain ⟨M, hM⟩ : ∃ M, cV l (s1, s2) = M := ⟨_, rfl⟩
  have HC := Lib.hid (And.intro hc hM)
  have hml : M.length ≤ 128 := by
    by_cases h0 : c = 0
    · obtain ⟨a, b, _, _, hb, _, _, hlen⟩ := cut_eq (hc.trans h0)
      have := (chk_zero.1 (cE_zero.1 (hc.trans h0)).1).2.1
      rw [hM] at hlen
      omega
    · rw [← hM, cV_none (by rw [hc]; exact h0)]
      simp
  obtain ⟨m, hm⟩ : ∃ m, M.length = m := ⟨_, rfl⟩
  rw [hm] at hml
  have HML := Lib.hid hm
  have t1 : (c != c) = false := bne_self_eq_false c
  have t2 : (c == c) = true := beq_self_eq_true c
  have HLA := Lib.hid (cellsP_len l)
  clear hc hM hm
  obtain ⟨k0, k1, _, _⟩ := pt_new w s1 s2 30
  have g0 : Own w (w.alloc (.cells #[.int .i64 s1, .int .i64 s2] 30)) := (Own.refl w).alloc _
  obtain ⟨Aa, ca, rfl, hsa⟩ := pts_src HP.out
  clear hsa
  go_enter Try.func9, Try.ntmps9
  go_upto_region 1 with (fail)
  generalize w.alloc (.cells #[.int .i64 s1, .int .i64 s2] 30) = W0 at *
  generalize w.heap.size = B0 at *
  have R0 : (W0.alloc (.cells #[] 45)).ownsRow W0.heap.size 45 2 (.slice (some ⟨W0.heap.size, 0, none⟩) 0 0) 0 [] := World.ownsRow_made W0 #[] 0 (Nat.le_refl _) (Nat.zero_le _) rfl
  have q0 : Own W0 (W0.alloc (.cells #[] 45)) := (Own.refl W0).alloc _
  obtain ⟨_, _, ea, hsa⟩ := pts_src (HP.out.own (g0.trans q0))
  obtain ⟨rfl, rfl⟩ : _ = Aa ∧ _ = ca := by injection ea with e1 e2 e3; exact ⟨e1.symm, e3.symm⟩
  clear ea
  have HSA := Lib.hid hsa
  have HR0 := Lib.hid R0
  clear hsa R0
  go_upto_region 2 with (at_builtin; refine wpList_append_row_any _ rfl _ _ 22 rfl W0.heap.size 45 i0 (.agg #[.int .i64 0, .int .i64 0]) 2 16 Try.underlying22 HI.out HZ0.out HZ1.out HZ2.out rfl (by decide) _ 0 [] rfl HR0.out _ l.length _ (cellsP l) rfl HLA.out HSA.out (cellsP_one l) (by unfold maxLen; omega) (by omega) (by simp) ?_; intro v5 w1 hown hgr _; have HX := Lib.hid (row_pts hown (by rw [Nat.zero_add])); have g1 : Own W0 w1 := q0.grown hgr (fun k hk => by injection hk with hk; exact Nat.le_of_eq hk); replace k0 := g1.cell k0; replace k1 := g1.cell k1; replace g0 := g0.trans g1; have HK0 := Lib.hid k0; have HK1 := Lib.hid k1; clear hown hgr g1 q0)
  clear HSA HR0
  go_upto_region 3 with (go_at_call 21; refine (pcut_at l _ s1 s2 M c _ HX HC).mono ?_; rintro e w2 ⟨va, rfl, hr, hg⟩; rw [HML.out] at hr; obtain ⟨A, na, rfl⟩ := row2_shape hr; have HA := Lib.hid hr; have HG2 := Lib.hid hg; replace k0 := hg.cell k0; replace k1 := hg.cell k1; clear hg hr)
  go_upto_region 4 with (go_at_call 21; refine (pcut_at l _ s1 s2 M c _ (Lib.hid (HX.out.own HG2.out)) HC).mono ?_; rintro e w3 ⟨vb, rfl, hr, hg⟩; rw [HML.out] at hr; obtain ⟨D, nb, rfl⟩ := row2_shape hr; have HB := Lib.hid hr; have HG3 := Lib.hid hg; replace k0 := hg.cell k0; replace k1 := hg.cell k1; clear hg hr)
  have HPA := Lib.hid (row_pts (row_own HA.out HG3.out) HML.out)
  have HPB := Lib.hid (row_pts HB.out HML.out)
  go_upto_region 6 with (go_at_call 24; refine (rsame_yes M _ _ _ HPA HPB).mono ?_; rintro e w4 ⟨rfl, hg⟩; have HG4 := Lib.hid hg; replace k0 := hg.cell k0; replace k1 := hg.cell k1; clear hg)
  clear HPA HPB
  have HAI := Lib.hid (fun h0 => row_in HA.out (HG3.out.trans HG4.out) (Nat.le_refl w2.heap.size) h0)
  have HAR := Lib.hid (row_own HA.out (HG3.out.trans HG4.out))
  have HBR := Lib.hid (row_own HB.out HG4.out)
  have g14 : Own w1 w4 := HG2.out.trans (HG3.out.trans HG4.out)
  have HS3 := Lib.hid HG3.out.size
  clear k0 k1 HA HB HG2 HG3 HG4
  go_wp2
  go_loopw [10] (fun v10 wr => ∃ (k : Nat) (ys : List Value), v10 = .int .i64 (k : Int) ∧ k ≤ m ∧ But w1.heap.size w2.heap.size w4 wr ∧ wr.ownsRow w1.heap.size 45 2 (.slice A m na) m ys) (fun v10 _ => m - (intOf v10).toNat)
  case atStart => exact ⟨0, _, rfl, Nat.zero_le _, But.refl _ _ _, HAR.out⟩
  case round =>
    obtain ⟨k, ys, rfl, hk, q, hrow⟩ := hrel
    have HROW := Lib.hid hrow
    clear hrow
    by_cases hlt : k < m
    · obtain ⟨gb, rfl, b1, b2, b3⟩ := HAI.out (by omega)
      have hl := row_len HROW.out
      have e0 : wr.cell? ⟨gb, k * 2, none⟩ = some ys[k * 2] := by rw [World.ownsRow.cellAt HROW.out (k * 2) (by omega), List.getElem?_eq_getElem]
      have e1 : wr.cell? ⟨gb, k * 2 + 1, none⟩ = some ys[k * 2 + 1] := by rw [World.ownsRow.cellAt HROW.out (k * 2 + 1) (by omega), List.getElem?_eq_getElem]
      have z0 := World.ownsRow.frozenAt HROW.out (k * 2)
      have z1 := World.ownsRow.frozenAt HROW.out (k * 2 + 1)
      have hbl : gb < wr.heap.size := block_lt_of_cell e0
      have hki : (k : Int) < m := by omega
      have k0 : 0 ≤ (k : Int) := by omega
      generalize ys[k * 2] = u0 at e0
      generalize ys[k * 2 + 1] = u1 at e1
      clear hl
      go_wp2_with (go_at_call 25; refine (of_at _ _ _).mono ?_; rintro e w8 ⟨rfl, hg⟩; replace z0 : w8.frozen? _ = _ := frozen_kept hg e0 z0; replace z1 : w8.frozen? _ = _ := frozen_kept hg e1 z1; replace e0 := hg.cell e0; replace e1 := hg.cell e1; replace hbl := Nat.lt_of_lt_of_le hbl hg.size; replace q := q.grow hg; replace HROW := Lib.hid (row_own HROW.out hg); clear hg)
      go_roundw
      case rel => exact ⟨k + 1, _, by go_num, hlt, (q.setCell (p := ⟨gb, k * 2, none⟩) b1 b2 _).setCell (p := ⟨gb, k * 2 + 1, none⟩) b1 b2 _, ((HROW.out.stored (k * 2) (.int .i64 (-1))).1.stored (k * 2 + 1) (.int .i64 (-1))).1⟩
      case measure => simp [intOf]; omega
    · obtain rfl : m = k := by omega
      have q2 : Own w1 wr := q.own g14 (Nat.le_refl _)
      have HPX := Lib.hid (HX.out.own q2)
      have HPL := Lib.hid (HP.out.own (g0.trans q2))
      have HPB := Lib.hid (row_pts (q.row HBR.out (Nat.le_refl _)) HML.out)
      have k0 := q2.cell HK0.out
      have k1 := q2.cell HK1.out
      have g9 := g0.trans q2
      generalize wr = w9 at *
      clear HROW HBR HAR HAI q q2 g14 HX HP HK0 HK1 g0
      go_upto_region 11 with (go_at_call 21; refine (pcut_at l _ s1 s2 M c _ HPX HC).mono ?_; rintro e w10 ⟨vc, rfl, hr, hg⟩; have HPC := Lib.hid (pts_of_row hr); replace HPX := Lib.hid (HPX.out.own hg); replace HPL := Lib.hid (HPL.out.own hg); replace HPB := Lib.hid (HPB.out.own hg); replace g9 := g9.trans hg; clear hg hr)
      go_wp2_with (first
        | (go_at_call 24; (first | (with_reducible refine (rsame_yes l _ _ _ HPX HPL).mono ?_) | (with_reducible refine (rsame_yes M _ _ _ HPB HPC).mono ?_)); rintro e w11 ⟨rfl, hg⟩; replace HPB := Lib.hid (HPB.out.own hg); replace HPC := Lib.hid (HPC.out.own hg); replace g9 : Own w w11 := g9.trans hg; clear hg)
        | (go_at_call 14; refine (awake_any _).mono ?_; rintro e w12 ⟨rfl, hg⟩; replace g9 : Own w w12 := g9.trans hg; clear hg))
      go_ret
      exact ⟨rfl, g9⟩
end Go.Proofs.Ytmmgidchgoligaa.MetW
