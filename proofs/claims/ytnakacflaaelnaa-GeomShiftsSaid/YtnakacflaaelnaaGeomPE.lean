/-
  Walks of rightmost and corners of the program's package geom: the next corner, and all corners. Condition: the points are valid and at most 17.
-/
import Derived.Test.YtnakacflaaelnaaGeomPD
import Derived.WalkMore
import Derived.Maps.AppendAt
namespace Go.Proofs.Ytnakacflaaelnaa.GeoW
open Go.ChangeShapes Go.WideShapes Go.ChangeAt Go.RowKit
open NumP NumW GeoP

theorem i_mf (fn : Fn) (first cap : Array Value) (w : World) : (Instr.makeFunc fn first cap).run Try.prog w = .ok (.func fn first cap) w := rfl
set_option maxRecDepth 100000 in
set_option maxHeartbeats 4000000 in
theorem pright_at (l : List Pt) (c d : Pt) (sv : Value) (w : World) (HP : Hid (Pts w sv l)) (hne : 0 < l.length) (HC : Hid (okP c = true ∧ (∀ q ∈ l, okP q = true) ∧ nxt l c = d)) :
    Calls Try.prog 57 #[sv, .agg #[.int .i64 c.1, .int .i64 c.2]] w fun e w' => e = .returned (.agg #[.int .i64 d.1, .int .i64 d.2]) ∧ Own w w' := by
  obtain ⟨cx, cy⟩ := c
  obtain ⟨dx, dy⟩ := d
  have hmf := i_mf
  have c0 : ((w.alloc (.cells #[.int .i64 cx, .int .i64 cy] 23)).alloc (.cells #[.int .i64 0, .int .i64 0] 23)).cell? ⟨w.heap.size, 0, none⟩ = some (.int .i64 cx) := by go_simp
  have c1 : ((w.alloc (.cells #[.int .i64 cx, .int .i64 cy] 23)).alloc (.cells #[.int .i64 0, .int .i64 0] 23)).cell? ⟨w.heap.size, 1, none⟩ = some (.int .i64 cy) := by go_simp
  have r0 : ((w.alloc (.cells #[.int .i64 cx, .int .i64 cy] 23)).alloc (.cells #[.int .i64 0, .int .i64 0] 23)).cell? ⟨w.heap.size + 1, 0, none⟩ = some (.int .i64 0) := by go_simp
  have r1 : ((w.alloc (.cells #[.int .i64 cx, .int .i64 cy] 23)).alloc (.cells #[.int .i64 0, .int .i64 0] 23)).cell? ⟨w.heap.size + 1, 1, none⟩ = some (.int .i64 0) := by go_simp
  have z0 : ((w.alloc (.cells #[.int .i64 cx, .int .i64 cy] 23)).alloc (.cells #[.int .i64 0, .int .i64 0] 23)).frozen? ⟨w.heap.size + 1, 0, none⟩ = false := by go_simp
  have z1 : ((w.alloc (.cells #[.int .i64 cx, .int .i64 cy] 23)).alloc (.cells #[.int .i64 0, .int .i64 0] 23)).frozen? ⟨w.heap.size + 1, 1, none⟩ = false := by go_simp
  have g0 : Own w ((w.alloc (.cells #[.int .i64 cx, .int .i64 cy] 23)).alloc (.cells #[.int .i64 0, .int .i64 0] 23)) := ((Own.refl w).alloc _).alloc _
  have HCC : Hid (Compares 65 #[.pointer (some ⟨w.heap.size, 0, none⟩)] (rcmp (cx, cy)) l ((w.alloc (.cells #[.int .i64 cx, .int .i64 cy] 23)).alloc (.cells #[.int .i64 0, .int .i64 0] 23))) :=
    Lib.hid (fun p q v w' hp hq hv h => pclos_at (cx, cy) p q v w.heap.size w' (Lib.hid hv) (h.cell c0) (h.cell c1) (small_of (HC.out.2.1 p hp)) (small_of (HC.out.2.1 q hq)) (small_of HC.out.1))
  have HD : Hid (pick (rcmp (cx, cy)) l = (dx, dy)) := Lib.hid ((pick_nxt (cx, cy) (by intro e; rw [e] at hne; simp at hne)).trans HC.out.2.2)
  have HPW := Lib.hid (HP.out.own g0)
  clear HC HP
  go_enter Try.func57, Try.ntmps57
  go_upto_region 1 with (fail)
  generalize (w.alloc (.cells #[.int .i64 cx, .int .i64 cy] 23)).alloc (.cells #[.int .i64 0, .int .i64 0] 23) = W0 at *
  go_wp2_with (go_at_call 55; refine (pmin_at (rcmp (cx, cy)) 65 _ l sv (dx, dy) _ (enters_of Try.func65 (by kernel_rfl) rfl) HPW hne HD HCC).mono ?_; rintro e w1 ⟨rfl, hg⟩; replace z0 : w1.frozen? _ = _ := frozen_kept hg r0 z0; replace z1 : w1.frozen? _ = _ := frozen_kept hg r1 z1; replace r0 := hg.cell r0; replace r1 := hg.cell r1; replace g0 := g0.trans hg; clear hg HCC HPW)
  exact bodyPost_ret (v := .agg #[.int .i64 dx, .int .i64 dy]) (by simp [results, Try.results57, go_sem, r0, r1]) rfl ⟨rfl, (g0.setCell (by simp) _).setCell (by simp) _⟩
/-- What corners leaves. -/
def CornRet (l : List Pt) (w : World) (e : Ending) (w' : World) : Prop := ∃ sv, e = .returned sv ∧ Pts w' sv (hull l) ∧ Own w w'
theorem corn_done {l m : List Pt} {w w' : World} {sv : Value} (h : hull l = m) (hp : Pts w' sv m) (hg : Own w w') : CornRet l w (.returned sv) w' := ⟨sv, rfl, by rw [h]; exact hp, hg⟩
theorem pcorn_nil (A : Option Addr) (cap : Nat) (w : World) :
    Calls Try.prog 43 #[.slice A 0 cap] w (CornRet [] w) := by
  go_enter Try.func43, Try.ntmps43
  go_wp2
  refine wp_scope_straight ?_
  go_wp2
  rw [Exit.noGoto_ret]
  go_ret
  exact corn_done hull_nil (pts_nil w) (Own.refl w)
set_option maxRecDepth 100000 in
set_option maxHeartbeats 16000000 in
theorem pcorn_core (l : List Pt) (sv : Value) (w : World) (HPW : Hid (Pts w sv l)) (hne : 0 < l.length) (hn : l.length ≤ 17) (HALL : Hid (∀ q ∈ l, okP q = true)) :
    Calls Try.prog 43 #[sv] w (CornRet l w) := by
  obtain ⟨i0, hi, hz0, hz1, hz2⟩ := info_parts (show (Try.prog.info? 23).map (fun i => (i.zero, i.size, i.bytes)) = some (some (.agg #[.int .i64 0, .int .i64 0]), 2, 16) by kernel_rfl)
  have HI := Lib.hid hi
  have HZ0 := Lib.hid hz0
  have HZ1 := Lib.hid hz1
  have HZ2 := Lib.hid hz2
  clear hi hz0 hz1 hz2
  have hne2 : l ≠ [] := fun e => by rw [e] at hne; simp at hne
  have HPS := Lib.hid (period_spec hne2 HALL.out)
  have HIT := Lib.hid (fun i => (itn_ok hne2 HALL.out i).1)
  have HWP := Lib.hid (walkP_hull hne2)
  have HLP := Lib.hid (pick_low hne2)
  obtain ⟨A, cap, hsv, hc1, hc2, hop⟩ := HPW.out.open
  unfold maxLen at hc2
  have hnz : ((l.length : Int) == 0) = false := beq_eq_false_iff_ne.2 (by omega)
  clear hop hne2
  obtain ⟨⟨lx, ly⟩, hlo⟩ : ∃ p, low l = p := ⟨_, rfl⟩
  have HLO := Lib.hid hlo
  have HPK := Lib.hid (show pick pcmp l = (lx, ly) by rw [HLP.out, hlo])
  clear hlo HLP
  have HCC : Hid (Compares 56 #[] pcmp l w) := Lib.hid (fun p q v w' _ _ hv _ => pcomp_at p q v w' (Lib.hid hv))
  have HN := Lib.hid (And.intro hne hn)
  subst hsv
  go_enter Try.func43, Try.ntmps43
  go_wp2
  refine wp_scope_straight ?_
  go_wp2_with (go_at_call 55; refine (pmin_at pcmp 56 #[] l _ (lx, ly) _ (enters_of Try.func56 (by kernel_rfl) rfl) HPW hne HPK HCC).mono ?_; rintro e w1 ⟨rfl, g0⟩; clear HCC)
  have hwB : w.heap.size ≤ w1.heap.size := g0.size
  have q0 : Own w1 ((w1.alloc (.cells #[.int .i64 lx, .int .i64 ly] 23)).alloc (.cells #[.int .i64 lx, .int .i64 ly] 23)) := ((Own.refl w1).alloc _).alloc _
  have y0 : ((w1.alloc (.cells #[.int .i64 lx, .int .i64 ly] 23)).alloc (.cells #[.int .i64 lx, .int .i64 ly] 23)).cell? ⟨w1.heap.size, 0, none⟩ = some (.int .i64 lx) := by go_simp
  have y1 : ((w1.alloc (.cells #[.int .i64 lx, .int .i64 ly] 23)).alloc (.cells #[.int .i64 lx, .int .i64 ly] 23)).cell? ⟨w1.heap.size, 1, none⟩ = some (.int .i64 ly) := by go_simp
  have hrow : cellsP (walkP l 1) = [.int .i64 lx, .int .i64 ly] := by show [Value.int .i64 (low l).1, .int .i64 (low l).2] = _; rw [HLO.out]
  have r1 : ((w1.alloc (.cells #[.int .i64 lx, .int .i64 ly] 23)).alloc (.cells #[.int .i64 lx, .int .i64 ly] 23)).ownsRow (w1.heap.size + 1) 23 2 (.slice (some ⟨w1.heap.size + 1, 0, none⟩) 1 1) 1 (cellsP (walkP l 1)) := by
    rw [hrow]
    have := World.ownsRow_lit (base := w1.heap.size + 1) (e := 23) (size := 2) (w1.alloc (.cells #[.int .i64 lx, .int .i64 ly] 23)) #[.int .i64 lx, .int .i64 ly] 1 (by simp) (by decide) rfl
    simpa using this
  have hsz : w1.heap.size + 1 < ((w1.alloc (.cells #[.int .i64 lx, .int .i64 ly] 23)).alloc (.cells #[.int .i64 lx, .int .i64 ly] 23)).heap.size := by simp
  replace g0 := g0.trans q0
  have R1 := Lib.hid r1
  clear q0 hrow r1
  generalize (w1.alloc (.cells #[.int .i64 lx, .int .i64 ly] 23)).alloc (.cells #[.int .i64 lx, .int .i64 ly] 23) = W2 at *
  generalize w1.heap.size = B at *
  go_step3
  go_wp2
  obtain ⟨x0, x1, z0, z1⟩ := pt_new W2 lx ly 23
  have q0 : Own W2 (W2.alloc (.cells #[.int .i64 lx, .int .i64 ly] 23)) := (Own.refl W2).alloc _
  replace y0 := q0.cell y0
  replace y1 := q0.cell y1
  replace R1 := Lib.hid (row_own R1.out q0)
  replace g0 := g0.trans q0
  clear q0
  generalize W2.alloc (.cells #[.int .i64 lx, .int .i64 ly] 23) = wd at *
  generalize W2.heap.size = C at *
  go_loopw [4, 5] (fun o cp wx => ∃ k3 bc g cap3 : Nat, 1 ≤ k3 ∧ k3 ≤ period l ∧ cp = .pointer (some ⟨bc, 0, none⟩) ∧ o = .slice (some ⟨g, 0, none⟩) k3 cap3 ∧ Hid (wx.ownsRow (B + 1) 23 2 (.slice (some ⟨g, 0, none⟩) k3 cap3) k3 (cellsP (walkP l k3))) ∧ g ≠ bc ∧ B < bc ∧ B < g ∧
      wx.cell? ⟨B, 0, none⟩ = some (.int .i64 lx) ∧ wx.cell? ⟨B, 1, none⟩ = some (.int .i64 ly) ∧ wx.cell? ⟨bc, 0, none⟩ = some (.int .i64 (itn l (k3 - 1)).1) ∧ wx.cell? ⟨bc, 1, none⟩ = some (.int .i64 (itn l (k3 - 1)).2) ∧ wx.frozen? ⟨bc, 0, none⟩ = false ∧ wx.frozen? ⟨bc, 1, none⟩ = false ∧ Own w wx) (fun o _ _ => period l - lenOf o)
  case atStart => exact ⟨1, C, B + 1, 1, Nat.le_refl _, HPS.out.1, rfl, rfl, R1, by omega, by omega, by omega, y0, y1, by show _ = some (Value.int .i64 (low l).1); rw [HLO.out]; exact x0, by show _ = some (Value.int .i64 (low l).2); rw [HLO.out]; exact x1, z0, z1, g0⟩
  case round =>
    clear x0 x1 y0 y1 z0 z1 g0 R1 hsz
    obtain ⟨k3, bc, g, cap3, h1, h2, rfl, rfl, row, hgb, hbc, hbg, y0, y1, x0, x1, z0, z1, g0⟩ := hrel
    have hok := HALL.out _ (HIT.out (k3 - 1))
    have hnx : nxt l (itn l (k3 - 1)) = itn l k3 := by show itn l (k3 - 1 + 1) = _; rw [show k3 - 1 + 1 = k3 by omega]
    obtain ⟨⟨ex, ey⟩, he⟩ : ∃ p, itn l (k3 - 1) = p := ⟨_, rfl⟩
    obtain ⟨⟨dx, dy⟩, hd⟩ : ∃ p, itn l k3 = p := ⟨_, rfl⟩
    rw [he] at x0 x1 hok hnx
    rw [hd] at hnx
    simp only at x0 x1
    have HX := Lib.hid (show okP (ex, ey) = true ∧ (∀ q ∈ l, okP q = true) ∧ nxt l (ex, ey) = (dx, dy) from ⟨hok, HALL.out, hnx⟩)
    have HD := Lib.hid hd
    clear hok hnx he hd
    go_upto_region 7 with (go_at_call 57; refine (pright_at l (ex, ey) (dx, dy) _ _ (Lib.hid (HPW.out.own g0)) HN.out.1 HX).mono ?_; rintro e w2 ⟨rfl, hg⟩; replace z0 : w2.frozen? _ = _ := frozen_kept hg x0 z0; replace z1 : w2.frozen? _ = _ := frozen_kept hg x1 z1; replace y0 := hg.cell y0; replace y1 := hg.cell y1; replace x0 := hg.cell x0; replace x1 := hg.cell x1; replace row := Lib.hid (row_own row.out hg); replace g0 := g0.trans hg; clear hg HX)
    obtain ⟨t0, t1, _, _⟩ := pt_new w2 dx dy 23
    have q0 : Own w2 (w2.alloc (.cells #[.int .i64 dx, .int .i64 dy] 23)) := (Own.refl w2).alloc _
    have hDb : bc < w2.heap.size := block_lt_of_cell x0
    have hDB : B < w2.heap.size := block_lt_of_cell y0
    obtain ⟨g', cap', hge, _, hDg⟩ := row_form row.out (by omega)
    obtain rfl : g = g' := by injection hge with hge; injection hge with hge; injection hge
    clear hge
    replace z0 : (w2.alloc (.cells #[.int .i64 dx, .int .i64 dy] 23)).frozen? _ = _ := frozen_kept q0 x0 z0
    replace z1 : (w2.alloc (.cells #[.int .i64 dx, .int .i64 dy] 23)).frozen? _ = _ := frozen_kept q0 x1 z1
    replace y0 := q0.cell y0
    replace y1 := q0.cell y1
    replace x0 := q0.cell x0
    replace x1 := q0.cell x1
    replace row := Lib.hid (row_own row.out q0)
    replace g0 := g0.trans q0
    clear q0
    generalize w2.alloc (.cells #[.int .i64 dx, .int .i64 dy] 23) = w3 at *
    generalize w2.heap.size = D at *
    by_cases h3 : k3 < period l
    · have hdn := HPS.out.2.2.2 k3 (by omega) h3
      rw [HD.out, HLO.out] at hdn
      have hb1 := ptB_no hdn
      have hws := walkP_succ l k3
      rw [HD.out] at hws
      have hk17 : k3 ≤ 17 := by have := HPS.out.2.1; have := HN.out.2; omega
      have HW := Lib.hid (show cellsP (walkP l (k3 + 1)) = cellsP (walkP l k3) ++ [.int .i64 dx, .int .i64 dy] by rw [hws, cellsP_snoc])
      clear hdn hws
      have hbw : bc < w3.heap.size := block_lt_of_cell x0
      go_upto_region 8 with (fail)
      go_wp2_with (at_builtin; refine wpList_append_own_at _ rfl _ _ 41 rfl (B + 1) 23 i0 (.agg #[.int .i64 0, .int .i64 0]) 2 16 Try.underlying41 HI.out HZ0.out HZ1.out HZ2.out rfl (by decide) _ _ _ rfl (row.out.alloc _) ⟨w3.heap.size, 0, none⟩ 1 1 [.int .i64 dx, .int .i64 dy] rfl rfl ?c1 ?c2 ?c3 ?c4 ?c5 ?_)
      case c1 =>
        intro i u hi
        match i, hi with
        | 0, hi => simp at hi; subst hi; simp [Addr.add]
        | 1, hi => simp at hi; subst hi; simp [Addr.add]
      case c2 => intro u hu; simp at hu; rcases hu with rfl | rfl <;> rfl
      case c3 => unfold maxLen; omega
      case c4 => omega
      case c5 => have : B < w3.heap.size := block_lt_of_cell y0; simp; omega
      intro v1 w4 hown hgrow _ hat
      have q0 : Own w3 (w3.alloc (.cells #[.int .i64 dx, .int .i64 dy] 23)) := (Own.refl w3).alloc _
      obtain ⟨g2, cap2, rfl, hg2, hg3⟩ := row_form hown (by omega)
      replace z0 : w4.frozen? ⟨bc, 0, none⟩ = false := by
        rw [World.frozen?_of_block (hgrow.block bc (by have := block_lt_of_cell (q0.cell x0); exact this) (by simp [Value.ownBlock]; omega)), frozen_kept q0 x0 z0]
      replace z1 : w4.frozen? ⟨bc, 1, none⟩ = false := by
        rw [World.frozen?_of_block (hgrow.block bc (by have := block_lt_of_cell (q0.cell x1); exact this) (by simp [Value.ownBlock]; omega)), frozen_kept q0 x1 z1]
      replace y0 := hgrow.cell (q0.cell y0) (by simp [Value.ownBlock]; omega)
      replace y1 := hgrow.cell (q0.cell y1) (by simp [Value.ownBlock]; omega)
      replace x0 := hgrow.cell (q0.cell x0) (by simp [Value.ownBlock]; omega)
      replace x1 := hgrow.cell (q0.cell x1) (by simp [Value.ownBlock]; omega)
      replace t0 := hgrow.cell (q0.cell t0) (by simp [Value.ownBlock]; omega)
      replace t1 := hgrow.cell (q0.cell t1) (by simp [Value.ownBlock]; omega)
      have hg2b : g2 ≠ bc := by
        simp [Value.ownBlock] at hat
        omega
      have hsz := g0.size
      replace g0 : Own w w4 := (g0.trans q0).grown hgrow (by intro i hi; simp [Value.ownBlock] at hi; omega)
      rw [← HW.out] at hown
      have R2 := Lib.hid hown
      have hbB : bc < w4.heap.size := block_lt_of_cell x0
      have hBB : B < w4.heap.size := block_lt_of_cell y0
      clear hown hgrow q0 row hat
      go_wp2
      go_roundw
      case rel =>
        refine ⟨k3 + 1, w4.heap.size, g2, cap2, by omega, by omega, by first | rfl | simp, rfl, Lib.hid (row_own (row_set (row_set R2.out (by simp; omega) _) (by simp; omega) _) ((Own.refl _).alloc _)), by omega, hBB, by omega, ?_⟩
        rw [show k3 + 1 - 1 = k3 by omega, HD.out]
        refine ⟨by go_simp, by go_simp, by go_simp, by go_simp, by go_simp, by go_simp, ?_⟩
        exact ((g0.setCell (by simp; omega) _).setCell (by simp; omega) _).alloc _
      case measure => simp [lenOf]; omega
    · obtain rfl : k3 = period l := by omega
      have hpe := HPS.out.2.2.1
      rw [HD.out, HLO.out] at hpe
      have e1 : dx = lx := congrArg Prod.fst hpe
      have e2 : dy = ly := congrArg Prod.snd hpe
      subst e1
      subst e2
      clear hpe
      have hb1 : ptB dx dy dx dy = true := ptB_yes rfl
      go_wp2
      rw [Exit.noGoto_ret]
      go_ret
      exact corn_done HWP.out.symm (pts_of_row (by rw [walkP_len]; exact row.out)) g0
/-- corners, for at most 17 valid points. -/
theorem pcorn_at (l : List Pt) (sv : Value) (w : World) (HPW : Hid (Pts w sv l)) (hn : l.length ≤ 17) (HALL : Hid (∀ q ∈ l, okP q = true)) :
    Calls Try.prog 43 #[sv] w (CornRet l w) := by
  by_cases h : 0 < l.length
  · exact pcorn_core l sv w HPW h hn HALL
  · obtain rfl := List.eq_nil_of_length_eq_zero (show l.length = 0 by omega)
    obtain ⟨A, cap, rfl, _, _, _⟩ := HPW.out
    exact pcorn_nil A cap w
end Go.Proofs.Ytnakacflaaelnaa.GeoW
