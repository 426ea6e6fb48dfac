/-
  Walk of the law SpanMemory. Condition: none.
-/
import Derived.Test.YtggceakihapgiaaSpanI
namespace Go.Proofs.Ytggceakihapgiaa.SpaW
open Go.ChangeShapes Go.WideShapes Go.ChangeAt Go.RowKit
open PairW SpaP

/-- Nothing that was there has turned but blocks from lo to hi. -/
structure But (lo hi : Nat) (w w' : World) : Prop where
  os : w'.os = w.os
  output : w'.output = w.output
  size : w.heap.size ≤ w'.heap.size
  block : ∀ k, k < w.heap.size → ¬ (lo ≤ k ∧ k < hi) → w'.heap[k]? = w.heap[k]?
theorem But.refl (lo hi : Nat) (w : World) : But lo hi w w := ⟨rfl, rfl, Nat.le_refl _, fun _ _ _ => rfl⟩
theorem But.setCell {lo hi : Nat} {a w : World} (h : But lo hi a w) {p : Addr} (h1 : lo ≤ p.block) (h2 : p.block < hi) (u : Value) : But lo hi a (w.setCell p u) :=
  ⟨h.os, h.output, by simpa [World.setCell] using h.size, fun k hk hn => (Below.heap_setCell w p u k (by intro e; exact hn (e ▸ ⟨h1, h2⟩))).trans (h.block k hk hn)⟩
theorem But.grow {lo hi : Nat} {a w w' : World} (h : But lo hi a w) (g : Own w w') : But lo hi a w' :=
  ⟨g.os.trans h.os, g.output.trans h.output, Nat.le_trans h.size g.size, fun k hk hn => (g.block k (Nat.lt_of_lt_of_le hk h.size)).trans (h.block k hk hn)⟩
theorem But.widen {lo hi lo2 hi2 : Nat} {w w' : World} (h : But lo hi w w') (h1 : lo2 ≤ lo) (h2 : hi ≤ hi2) : But lo2 hi2 w w' := ⟨h.os, h.output, h.size, fun k hk hn => h.block k hk (by omega)⟩
theorem But.trans {lo hi : Nat} {a b c : World} (h : But lo hi a b) (k : But lo hi b c) : But lo hi a c := ⟨k.os.trans h.os, k.output.trans h.output, Nat.le_trans h.size k.size, fun i hi hn => (k.block i (Nat.lt_of_lt_of_le hi h.size) hn).trans (h.block i hi hn)⟩
theorem But.own {lo hi : Nat} {w w1 w2 : World} (h : But lo hi w1 w2) (g : Own w w1) (hl : w.heap.size ≤ lo) : Own w w2 :=
  ⟨h.os.trans g.os, h.output.trans g.output, Nat.le_trans g.size h.size, fun k hk => (h.block k (Nat.lt_of_lt_of_le hk g.size) (by omega)).trans (g.block k hk)⟩
theorem But.row {lo hi : Nat} {w1 w2 : World} (h : But lo hi w1 w2) {base : Nat} {e : TypeId} {size : Nat} {v : Value} {n : Nat} {xs : List Value} (hr : w1.ownsRow base e size v n xs) (hb : hi ≤ base) : w2.ownsRow base e size v n xs := by
  refine ⟨hr.1, hr.2.imp id ?_⟩
  rintro ⟨g, cap, cur, h1, h2, h3, h4⟩
  exact ⟨g, cap, cur, h1, h2, (h.block g (Array.getElem?_eq_some_iff.1 h3).1 (by omega)).trans h3, h4⟩
theorem set_shape {v : List Sp} {f : Int} {w w' : World} {e : Ending} {n : Nat} (h : SetRet v f w e w') (hn : v.length = n) :
    ∃ (D : Option Addr) (dc : Nat), e = .returned (.tuple #[.slice D n dc, .int .i64 f]) ∧ w'.ownsRow w.heap.size 36 2 (.slice D n dc) n (cellsP v) ∧ Own w w' := by
  obtain ⟨sv, rfl, hf, hg⟩ := h
  obtain ⟨⟨D, dc⟩, rfl⟩ := row_shape hf
  subst hn
  exact ⟨D, dc, rfl, hf, hg⟩
theorem row_pts {w : World} {base : Nat} {e : TypeId} {sv : Value} {n : Nat} {l : List Pt} (h : w.ownsRow base e 2 sv n (cellsP l)) (hn : l.length = n) : Pts w sv l := by
  subst hn
  exact pts_of_row h
theorem row_in {w w' : World} {base n nc hi : Nat} {e : TypeId} {D : Option Addr} {xs : List Value} (h : w.ownsRow base e 2 (.slice D n nc) n xs) (hg : Own w w') (hh : w.heap.size ≤ hi) (h0 : 0 < n) : ∃ g, D = some ⟨g, 0, none⟩ ∧ base ≤ g ∧ g < hi ∧ g < w'.heap.size := by
  obtain ⟨g, cap, h1, h2, h3⟩ := row_form h h0
  injection h1 with h1
  exact ⟨g, h1, h2, by omega, Nat.lt_of_lt_of_le h3 hg.size⟩
theorem row_len {w : World} {base : Nat} {e : TypeId} {v : Value} {n : Nat} {xs : List Value} (h : w.ownsRow base e 2 v n xs) : xs.length = n * 2 := h.1
set_option maxRecDepth 100000 in
set_option maxHeartbeats 8000000 in
theorem SpanMemory_walk (a b : List Sp) (sa sb : Value) (w : World) (HA : Hid (Pts w sa a)) (HB : Hid (Pts w sb b)) (ha : a.length * 16 ≤ 140737488351232) (hb : b.length * 16 ≤ 140737488351232) :
    Calls Try.prog 11 #[sa, sb] w fun e w' => e = .returned (.bool true) ∧ Own w w' := by
  obtain ⟨v1, hv1⟩ : ∃ v, setV a [] 0 = v := ⟨_, rfl⟩
  obtain ⟨f1, hf1⟩ : ∃ f, setE a [] 0 = f := ⟨_, rfl⟩
  obtain ⟨v2, hv2⟩ : ∃ v, setV a b 0 = v := ⟨_, rfl⟩
  obtain ⟨f2, hf2⟩ : ∃ f, setE a b 0 = f := ⟨_, rfl⟩
  have H1 := Lib.hid (And.intro hf1 hv1)
  have H2 := Lib.hid (And.intro hf2 hv2)
  have HK1 := Lib.hid (show ∀ s ∈ v1, 0 ≤ s.1 from by rw [← hv1]; exact fun s hs => ((okS_iff s).1 ((setV_ok a [] 0).1 s hs)).1)
  have HK2 := Lib.hid (show ∀ s ∈ v2, 0 ≤ s.1 from by rw [← hv2]; exact fun s hs => ((okS_iff s).1 ((setV_ok a b 0).1 s hs)).1)
  have hb1 : v1.length ≤ 128 := by rw [← hv1]; exact (setV_ok a [] 0).2
  have hb2 : v2.length ≤ 128 := by rw [← hv2]; exact (setV_ok a b 0).2
  clear hv1 hf1 hv2 hf2
  obtain ⟨n1, hn1⟩ : ∃ n, v1.length = n := ⟨_, rfl⟩
  obtain ⟨n2, hn2⟩ : ∃ n, v2.length = n := ⟨_, rfl⟩
  rw [hn1] at hb1
  rw [hn2] at hb2
  have L1 := Lib.hid hn1
  have L2 := Lib.hid hn2
  clear hn1 hn2
  have HZA := Lib.hid (show a.length * 16 ≤ 140737488355328 by omega)
  have HZB := Lib.hid (show b.length * 16 ≤ 140737488355328 by omega)
  clear ha hb
  go_enter Try.func11, Try.ntmps11
  go_upto_region 2 with (go_at_call 32; (first | (with_reducible refine (own_at a _ _ HA HZA.out).mono ?_; rintro e w1 ⟨sx, rfl, hx, g1⟩) | (with_reducible refine (own_at b _ _ (Lib.hid (HB.out.own g1)) HZB.out).mono ?_; rintro e w2 ⟨sy, rfl, hy, g2⟩)))
  go_upto_region 3 with (go_at_call 17; refine (pnorm_at a v1 f1 _ _ H1 (Lib.hid (hx.pts.own g2))).mono ?_; rintro e w3 hq; obtain ⟨N, nc, rfl, hn, g3⟩ := set_shape hq L1.out; clear hq)
  go_upto_region 4 with (go_at_call 22; refine (punion_at a b v2 f2 _ _ _ H2 (Lib.hid (hx.pts.own (g2.trans g3))) (Lib.hid (hy.pts.own g3))).mono ?_; rintro e w4 hq; obtain ⟨U, uc, rfl, hu, g4⟩ := set_shape hq L2.out; clear hq)
  go_upto_region 5 with (go_at_call 17; refine (pnorm_at a v1 f1 _ _ H1 (Lib.hid (hx.pts.own (g2.trans (g3.trans g4))))).mono ?_; rintro e w5 hq; obtain ⟨M, mc, rfl, hm, g5⟩ := set_shape hq L1.out; clear hq)
  go_upto_region 6 with (go_at_call 22; refine (punion_at a b v2 f2 _ _ _ H2 (Lib.hid (hx.pts.own (g2.trans (g3.trans (g4.trans g5))))) (Lib.hid (hy.pts.own (g3.trans (g4.trans g5))))).mono ?_; rintro e w6 hq; obtain ⟨V, vc, rfl, hv, g6⟩ := set_shape hq L2.out; clear hq)
  have g46 : Own w4 w6 := g5.trans g6
  have g26 : Own w2 w6 := g3.trans (g4.trans g46)
  have g06 : Own w w6 := g1.trans (g2.trans g26)
  have HX := Lib.hid (hx.pts.own g2)
  have HY := Lib.hid hy.pts
  have HNI := Lib.hid (fun h0 => row_in hn (g4.trans g46) (Nat.le_refl w3.heap.size) h0)
  have HUI := Lib.hid (fun h0 => row_in hu g46 (Nat.le_refl w4.heap.size) h0)
  have HNR := Lib.hid (row_own hn (g4.trans g46))
  have HUR := Lib.hid (row_own hu g46)
  have HMR := Lib.hid (row_own hm g6)
  have HVR := Lib.hid hv
  have HS1 := Lib.hid (g3.size)
  have HS2 := Lib.hid (g5.size)
  have HS3 := Lib.hid (g4.size)
  have g02 : Own w w2 := g1.trans g2
  have HPN := Lib.hid (row_pts HNR.out L1.out)
  have HPU := Lib.hid (row_pts HUR.out L2.out)
  have HPM := Lib.hid (row_pts HMR.out L1.out)
  have HPV := Lib.hid (row_pts HVR.out L2.out)
  have HXA := Lib.hid (HX.out.own g26)
  have HYA := Lib.hid (HY.out.own g26)
  have HAA := Lib.hid (HA.out.own g06)
  have HBA := Lib.hid (HB.out.own g06)
  have g : Own w6 w6 := Own.refl w6
  have HA0 := HA
  have HB0 := HB
  clear hx hy hn hu hm hv g1 g2 g3 g4 g5 g6 g46 HA HB HZA HZB
  go_upto_region 8 with (go_at_call 21; (first
    | (with_reducible refine (rsame_at a a _ _ true _ (Lib.hid (HXA.out.own g)) (Lib.hid (HAA.out.own g)) (Lib.hid (decide_eq_true rfl))).mono ?_; rintro e w7 ⟨rfl, hg⟩; replace g := g.trans hg; clear hg)
    | (with_reducible refine (rsame_at b b _ _ true _ (Lib.hid (HYA.out.own g)) (Lib.hid (HBA.out.own g)) (Lib.hid (decide_eq_true rfl))).mono ?_; rintro e w7 ⟨rfl, hg⟩; replace g := g.trans hg; clear hg)
    | (with_reducible refine (rsame_at v1 v1 _ _ true _ (Lib.hid (HPN.out.own g)) (Lib.hid (HPM.out.own g)) (Lib.hid (decide_eq_true rfl))).mono ?_; rintro e w7 ⟨rfl, hg⟩; replace g := g.trans hg; clear hg)
    | (with_reducible refine (rsame_at v2 v2 _ _ true _ (Lib.hid (HPU.out.own g)) (Lib.hid (HPV.out.own g)) (Lib.hid (decide_eq_true rfl))).mono ?_; rintro e w7 ⟨rfl, hg⟩; replace g := g.trans hg; clear hg)))
  have HNR7 := Lib.hid (row_own HNR.out g)
  have HUR7 := Lib.hid (row_own HUR.out g)
  have HMR7 := Lib.hid (row_own HMR.out g)
  have HVR7 := Lib.hid (row_own HVR.out g)
  have q27 := g26.trans g
  have HG := Lib.hid g.size
  clear HPN HPU HPM HPV HXA HYA HAA HBA HNR HUR HMR HVR g06 g26
  go_wp2
  go_loopw [15] (fun i wr => ∃ (k : Nat) (ys : List Value), i = .int .i64 k ∧ k ≤ n1 ∧ But w2.heap.size w3.heap.size w7 wr ∧ wr.ownsRow w2.heap.size 36 2 (.slice N n1 nc) n1 ys) (fun i _ => n1 - (intOf i).toNat)
  case atStart => exact ⟨0, _, rfl, Nat.zero_le _, But.refl _ _ _, HNR7.out⟩
  case round =>
    obtain ⟨k, ys, rfl, hk, q, hrow⟩ := hrel
    have HROW := Lib.hid hrow
    clear hrow
    by_cases hlt : k < n1
    · obtain ⟨gb, rfl, b1, b2, b3⟩ := HNI.out (by omega)
      have hl := row_len HROW.out
      have e0 : wr.cell? ⟨gb, k * 2, none⟩ = some ys[k * 2] := by rw [World.ownsRow.cellAt HROW.out (k * 2) (by omega), List.getElem?_eq_getElem]
      have e1 : wr.cell? ⟨gb, k * 2 + 1, none⟩ = some ys[k * 2 + 1] := by rw [World.ownsRow.cellAt HROW.out (k * 2 + 1) (by omega), List.getElem?_eq_getElem]
      have z0 := World.ownsRow.frozenAt HROW.out (k * 2)
      have z1 := World.ownsRow.frozenAt HROW.out (k * 2 + 1)
      have hbl : gb < wr.heap.size := block_lt_of_cell e0
      have hki : (k : Int) < n1 := by omega
      have k0 : 0 ≤ (k : Int) := by omega
      generalize ys[k * 2] = u0 at e0
      generalize ys[k * 2 + 1] = u1 at e1
      clear hl
      go_wp2_with (go_at_call 31; refine (of_at _ _ _).mono ?_; rintro e w8 ⟨rfl, hg⟩; replace z0 : w8.frozen? _ = _ := frozen_kept hg e0 z0; replace z1 : w8.frozen? _ = _ := frozen_kept hg e1 z1; replace e0 := hg.cell e0; replace e1 := hg.cell e1; replace hbl := Nat.lt_of_lt_of_le hbl hg.size; replace q := q.grow hg; replace HROW := Lib.hid (row_own HROW.out hg); clear hg)
      go_roundw
      case rel => exact ⟨k + 1, _, by go_num, hlt, (q.setCell (p := ⟨gb, k * 2, none⟩) b1 b2 _).setCell (p := ⟨gb, k * 2 + 1, none⟩) b1 b2 _, ((HROW.out.stored (k * 2) (.int .i64 (-1))).1.stored (k * 2 + 1) (.int .i64 (-2))).1⟩
      case measure => simp [intOf]; omega
    · obtain rfl : n1 = k := by omega
      have q9 := q
      have HUR9 := Lib.hid (q.row HUR7.out (Nat.le_refl _))
      generalize wr = w9 at *
      go_wp2
      go_loopw [16] (fun i wr => ∃ (k : Nat) (ys : List Value), i = .int .i64 k ∧ k ≤ n2 ∧ But w3.heap.size w4.heap.size w9 wr ∧ wr.ownsRow w3.heap.size 36 2 (.slice U n2 uc) n2 ys) (fun i _ => n2 - (intOf i).toNat)
      case atStart => exact ⟨0, _, rfl, Nat.zero_le _, But.refl _ _ _, HUR9.out⟩
      case round =>
        obtain ⟨k, ys, rfl, hk, q, hrow⟩ := hrel
        have HROW := Lib.hid hrow
        clear hrow
        by_cases hlt : k < n2
        · obtain ⟨gb, rfl, b1, b2, b3⟩ := HUI.out (by omega)
          have hl := row_len HROW.out
          have e0 : wr.cell? ⟨gb, k * 2, none⟩ = some ys[k * 2] := by rw [World.ownsRow.cellAt HROW.out (k * 2) (by omega), List.getElem?_eq_getElem]
          have e1 : wr.cell? ⟨gb, k * 2 + 1, none⟩ = some ys[k * 2 + 1] := by rw [World.ownsRow.cellAt HROW.out (k * 2 + 1) (by omega), List.getElem?_eq_getElem]
          have z0 := World.ownsRow.frozenAt HROW.out (k * 2)
          have z1 := World.ownsRow.frozenAt HROW.out (k * 2 + 1)
          have hbl : gb < wr.heap.size := block_lt_of_cell e0
          have hki : (k : Int) < n2 := by omega
          have k0 : 0 ≤ (k : Int) := by omega
          generalize ys[k * 2] = u0 at e0
          generalize ys[k * 2 + 1] = u1 at e1
          clear hl
          go_wp2_with (go_at_call 31; refine (of_at _ _ _).mono ?_; rintro e w8 ⟨rfl, hg⟩; replace z0 : w8.frozen? _ = _ := frozen_kept hg e0 z0; replace z1 : w8.frozen? _ = _ := frozen_kept hg e1 z1; replace e0 := hg.cell e0; replace e1 := hg.cell e1; replace hbl := Nat.lt_of_lt_of_le hbl hg.size; replace q := q.grow hg; replace HROW := Lib.hid (row_own HROW.out hg); clear hg)
          go_roundw
          case rel => exact ⟨k + 1, _, by go_num, hlt, (q.setCell (p := ⟨gb, k * 2, none⟩) b1 b2 _).setCell (p := ⟨gb, k * 2 + 1, none⟩) b1 b2 _, ((HROW.out.stored (k * 2) (.int .i64 (-3))).1.stored (k * 2 + 1) (.int .i64 (-4))).1⟩
          case measure => simp [intOf]; omega
        · obtain rfl : n2 = k := by omega
          have qq : But w2.heap.size w4.heap.size w7 wr := (q9.widen (Nat.le_refl _) HS3.out).trans (q.widen HS1.out (Nat.le_refl _))
          have q2 : Own w2 wr := qq.own q27 (Nat.le_refl _)
          have q0 : Own w wr := g02.trans q2
          have HPX := Lib.hid (HX.out.own q2)
          have HPY := Lib.hid (HY.out.own q2)
          have HPA := Lib.hid (HA0.out.own q0)
          have HPB := Lib.hid (HB0.out.own q0)
          have HPM := Lib.hid (row_pts (qq.row HMR7.out (Nat.le_refl _)) L1.out)
          have HPV := Lib.hid (row_pts (qq.row HVR7.out HS2.out) L2.out)
          clear HROW HMR7 HVR7 HNR7 HUR9 q q9 qq HX HY
          obtain ⟨_, _, hmv, _, _, hmo⟩ := HPM.out.open
          injection hmv with e1 e2 e3
          subst e1; subst e3
          clear e2
          obtain ⟨_, _, hvv, _, _, hvo⟩ := HPV.out.open
          injection hvv with e1 e2 e3
          subst e1; subst e3
          clear e2
          have HMC := Lib.hid (show 0 < n1 → ∃ b off, M = some ⟨b, off, none⟩ ∧ wr.cell? ⟨b, off, none⟩ = some (.int .i64 (at' v1 0).1) ∧ 0 ≤ (at' v1 0).1 from fun h => by
            have h' : 0 < v1.length := by rw [L1.out]; exact h
            obtain ⟨b, off, e, hc⟩ := hmo h'
            exact ⟨b, off, e, by simpa using (hc 0 h').1, HK1.out _ (at_mem h')⟩)
          have HVC := Lib.hid (show 0 < n2 → ∃ b off, V = some ⟨b, off, none⟩ ∧ wr.cell? ⟨b, off, none⟩ = some (.int .i64 (at' v2 0).1) ∧ 0 ≤ (at' v2 0).1 from fun h => by
            have h' : 0 < v2.length := by rw [L2.out]; exact h
            obtain ⟨b, off, e, hc⟩ := hvo h'
            exact ⟨b, off, e, by simpa using (hc 0 h').1, HK2.out _ (at_mem h')⟩)
          clear hmo hvo
          generalize (at' v1 0).1 = c1 at *
          generalize (at' v2 0).1 = c2 at *
          go_upto_region 17 with (go_at_call 17; refine (pnorm_at a v1 f1 _ _ H1 HPX).mono ?_; rintro e w10 ⟨s10, rfl, h10, g10⟩)
          have HP10 := Lib.hid h10.pts
          have HPX1 := Lib.hid (HPX.out.own g10)
          have HPY1 := Lib.hid (HPY.out.own g10)
          have HPA1 := Lib.hid (HPA.out.own g10)
          have HPB1 := Lib.hid (HPB.out.own g10)
          have HPM1 := Lib.hid (HPM.out.own g10)
          have G10 := Lib.hid (q0.trans g10)
          have gg : Own w10 w10 := Own.refl _
          clear h10 HPX HPY HPA HPB HPM HPV q0 q2
          rcases Nat.eq_zero_or_pos n1 with z1 | z1
          · subst z1
            rcases Nat.eq_zero_or_pos n2 with z2 | z2
            · subst z2
              go_wp2_with (first
                | (go_at_call 21; (first
                  | (with_reducible refine (rsame_at a a _ _ true _ (Lib.hid (HPX1.out.own gg)) (Lib.hid (HPA1.out.own gg)) (Lib.hid (decide_eq_true rfl))).mono ?_)
                  | (with_reducible refine (rsame_at b b _ _ true _ (Lib.hid (HPY1.out.own gg)) (Lib.hid (HPB1.out.own gg)) (Lib.hid (decide_eq_true rfl))).mono ?_)
                  | (with_reducible refine (rsame_at v1 v1 _ _ true _ (Lib.hid (HP10.out.own gg)) (Lib.hid (HPM1.out.own gg)) (Lib.hid (decide_eq_true rfl))).mono ?_)); rintro e w11 ⟨rfl, hg⟩; replace gg := gg.trans hg; clear hg)
                | (go_at_call 16; refine (awake_any _).mono ?_; rintro e w12 ⟨rfl, hg⟩; replace gg := gg.trans hg; clear hg))
              go_ret
              exact ⟨rfl, G10.out.trans gg⟩
            · obtain ⟨pb2, po2, rfl, hc2, hp2⟩ := HVC.out z2
              have x2 := g10.cell hc2
              have n2n : ((n2 : Int) == 0) = false := beq_eq_false_iff_ne.2 (by omega)
              have n2i : (0 : Int) < n2 := by omega
              have d2 : decide (0 ≤ c2) = true := decide_eq_true hp2
              go_wp2_with (first
                | (go_at_call 21; (first
                  | (with_reducible refine (rsame_at a a _ _ true _ (Lib.hid (HPX1.out.own gg)) (Lib.hid (HPA1.out.own gg)) (Lib.hid (decide_eq_true rfl))).mono ?_)
                  | (with_reducible refine (rsame_at b b _ _ true _ (Lib.hid (HPY1.out.own gg)) (Lib.hid (HPB1.out.own gg)) (Lib.hid (decide_eq_true rfl))).mono ?_)
                  | (with_reducible refine (rsame_at v1 v1 _ _ true _ (Lib.hid (HP10.out.own gg)) (Lib.hid (HPM1.out.own gg)) (Lib.hid (decide_eq_true rfl))).mono ?_)); rintro e w11 ⟨rfl, hg⟩; replace gg := gg.trans hg; replace x2 := hg.cell x2; clear hg)
                | (go_at_call 16; refine (awake_any _).mono ?_; rintro e w12 ⟨rfl, hg⟩; replace gg := gg.trans hg; clear hg))
              go_ret
              exact ⟨rfl, G10.out.trans gg⟩
          · obtain ⟨pb1, po1, rfl, hc1, hp1⟩ := HMC.out z1
            have x1 := g10.cell hc1
            have n1n : ((n1 : Int) == 0) = false := beq_eq_false_iff_ne.2 (by omega)
            have n1i : (0 : Int) < n1 := by omega
            have d1 : decide (0 ≤ c1) = true := decide_eq_true hp1
            rcases Nat.eq_zero_or_pos n2 with z2 | z2
            · subst z2
              go_wp2_with (first
                | (go_at_call 21; (first
                  | (with_reducible refine (rsame_at a a _ _ true _ (Lib.hid (HPX1.out.own gg)) (Lib.hid (HPA1.out.own gg)) (Lib.hid (decide_eq_true rfl))).mono ?_)
                  | (with_reducible refine (rsame_at b b _ _ true _ (Lib.hid (HPY1.out.own gg)) (Lib.hid (HPB1.out.own gg)) (Lib.hid (decide_eq_true rfl))).mono ?_)
                  | (with_reducible refine (rsame_at v1 v1 _ _ true _ (Lib.hid (HP10.out.own gg)) (Lib.hid (HPM1.out.own gg)) (Lib.hid (decide_eq_true rfl))).mono ?_)); rintro e w11 ⟨rfl, hg⟩; replace gg := gg.trans hg; replace x1 := hg.cell x1; clear hg)
                | (go_at_call 16; refine (awake_any _).mono ?_; rintro e w12 ⟨rfl, hg⟩; replace gg := gg.trans hg; clear hg))
              go_ret
              exact ⟨rfl, G10.out.trans gg⟩
            · obtain ⟨pb2, po2, rfl, hc2, hp2⟩ := HVC.out z2
              have x2 := g10.cell hc2
              have n2n : ((n2 : Int) == 0) = false := beq_eq_false_iff_ne.2 (by omega)
              have n2i : (0 : Int) < n2 := by omega
              have d2 : decide (0 ≤ c2) = true := decide_eq_true hp2
              go_wp2_with (first
                | (go_at_call 21; (first
                  | (with_reducible refine (rsame_at a a _ _ true _ (Lib.hid (HPX1.out.own gg)) (Lib.hid (HPA1.out.own gg)) (Lib.hid (decide_eq_true rfl))).mono ?_)
                  | (with_reducible refine (rsame_at b b _ _ true _ (Lib.hid (HPY1.out.own gg)) (Lib.hid (HPB1.out.own gg)) (Lib.hid (decide_eq_true rfl))).mono ?_)
                  | (with_reducible refine (rsame_at v1 v1 _ _ true _ (Lib.hid (HP10.out.own gg)) (Lib.hid (HPM1.out.own gg)) (Lib.hid (decide_eq_true rfl))).mono ?_)); rintro e w11 ⟨rfl, hg⟩; replace gg := gg.trans hg; replace x1 := hg.cell x1; replace x2 := hg.cell x2; clear hg)
                | (go_at_call 16; refine (awake_any _).mono ?_; rintro e w12 ⟨rfl, hg⟩; replace gg := gg.trans hg; clear hg))
              go_ret
              exact ⟨rfl, G10.out.trans gg⟩
end Go.Proofs.Ytggceakihapgiaa.SpaW
