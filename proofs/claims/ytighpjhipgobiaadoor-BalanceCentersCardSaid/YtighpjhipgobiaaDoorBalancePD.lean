/-
  Walks of the program of package balance: nearness and its closures, Center, Stable. Condition: the table of sines, the table of bounds and the numbers of both sides lie in memory.
-/
import Derived.Test.YtighpjhipgobiaaDoorBalancePC
import Derived.Test.YtighpjhipgobiaaDoorPartMore
namespace Go.Proofs.YtighpjhipgobiaaDoor.BalW
open Go.ChangeShapes Go.WideShapes Go.ChangeAt Go.RowKit
open PairW AimP AimW BlkW PrtW PstP PstW JntP JntW RegD BalP
/-- A value of one cell stored into a new block. -/
theorem run_store_new1 (P : Program) (w : World) (v0 v : Value) (T : TypeId) (h : v.oneCell' = true) : (store ⟨w.heap.size, 0, none⟩ v).run P (w.alloc (.cells #[v0] T)) = .ok () (w.alloc (.cells #[v] T)) := by
  have hb := Blk.new w #[v0] T
  rw [run_store P _ _ _ _ h, hb.cell 0, hb.frozen 0]
  show Result.ok () ((w.alloc (.cells #[v0] T)).setCell ⟨w.heap.size, 0, none⟩ v) = _
  rw [set_alloc1]
theorem heap_b2_old (w : World) (z : Array Value) (T : TypeId) (o : Obj) : ((w.alloc (.cells z T)).alloc o).heap[w.heap.size]? = some (.cells z T (0, 0)) := ((Blk.new w z T).own ((Own.refl _).alloc o)).raw
theorem heap_b2_new (w : World) (z : Array Value) (T : TypeId) (o : Obj) : ((w.alloc o).alloc (.cells z T)).heap[w.heap.size + 1]? = some (.cells z T (0, 0)) := by
  have := heap_new (w.alloc o) (.cells z T)
  rw [size_alloc] at this
  exact this
/-- Near numbers, and their differences. -/
def Dif (x y mx my a b : Int) : Prop := (-40000 ≤ x ∧ x ≤ 40000) ∧ (-40000 ≤ y ∧ y ≤ 40000) ∧ (-40000 ≤ mx ∧ mx ≤ 40000) ∧ (-40000 ≤ my ∧ my ≤ 40000) ∧ x - mx = a ∧ y - my = b
/-- What the function that nearness returns has captured. -/
structure Nrb (x y lx ly lz rx ry rz : Int) (S F T M : Nat) (W : World) : Prop where
  seen : W.cell? ⟨S, 0, none⟩ = some (.func (.func 63) #[] #[.pointer (some ⟨M, 0, none⟩)])
  mid : Blk W M #[.int .i64 x, .int .i64 y] 26
  frm : Blk W F #[.int .i64 lx, .int .i64 ly, .int .i64 lz] 56
  to' : Blk W T #[.int .i64 rx, .int .i64 ry, .int .i64 rz] 56
theorem Nrb.own {x y lx ly lz rx ry rz : Int} {S F T M : Nat} {w w' : World} (h : Nrb x y lx ly lz rx ry rz S F T M w) (g : Own w w') : Nrb x y lx ly lz rx ry rz S F T M w' := ⟨g.cell h.seen, h.mid.own g, h.frm.own g, h.to'.own g⟩
set_option maxRecDepth 100000 in
set_option maxHeartbeats 2000000 in
theorem bsee_at (x y z mx my a b : Int) (M : Nat) (w : World) (HM : Hid (Blk w M #[.int .i64 mx, .int .i64 my] 26)) (H : Hid (Dif x y mx my a b)) :
    Calls Tryd.prog 63 #[.agg #[.int .i64 x, .int .i64 y, .int .i64 z], .pointer (some ⟨M, 0, none⟩)] w fun r w' => r = .returned (.agg #[.int .i64 a, .int .i64 b]) ∧ Own w w' := by
  obtain ⟨h1, h2, h3, h4, h5, h6⟩ := H.out
  have i1 : IntKind.i64.wrap (x - mx) = a := (IntWalk.i64_in _ (by omega)).trans h5
  have i2 : IntKind.i64.wrap (y - my) = b := (IntWalk.i64_in _ (by omega)).trans h6
  clear h1 h2 h3 h4 h5 h6 H
  go_enter Tryd.func63, Tryd.ntmps63
  go_upto_region 1 with (fail)
  obtain ⟨W0, B, R, hW, hR, hB, hb1, hr1, g0, -, hR0, -⟩ := two_new w (#[.int .i64 x, .int .i64 y, .int .i64 z]) 56 (#[.int .i64 0, .int .i64 0]) 26
  rw [hW, hR, hB]
  obtain ⟨k0, k1, -⟩ := hb1.three
  have HR := Lib.hid hr1
  have m0 := (HM.out.own g0).cell 0
  have m1 := (HM.out.own g0).cell 1
  clear hW hR hB hb1 hr1
  go_wp2_with ((with_reducible show wpList _ _ _ (⟨_, .store 26 (.tmp 3) (.tmp 14), _, _, _, none⟩ :: _) _ _); refine wpList_store_row rfl 26 (.tmp 3) (.tmp 14) rfl R #[.int .i64 a, .int .i64 b] rfl rfl 26 _ HR.out.raw infoPt rfl (by simp [Value.oneCell']) ?_)
  have hp := HR.out.row #[.int .i64 a, .int .i64 b]
  exact bodyPost_ret (blk_result rfl rfl hp Tryd.underlying26 rfl infoPt) rfl ⟨rfl, own_setRow g0 hR0 _⟩
set_option maxRecDepth 100000 in
set_option maxHeartbeats 2000000 in
theorem bnear1_at (b j : Vl) (s m x y lx ly lz rx ry rz : Int) (w : World) (HBT : Hid (BuiW.Tab w)) (HC : Hid (Cen b j m x y)) (HBA : Hid (Bas j s lx ly lz rx ry rz)) :
    Calls Tryd.prog 35 #[.agg (cz 15 b), .agg (cz 33 j), .int .i64 s] w fun r w' => ∃ S F T M, r = .returned (.func (.func 65) #[] #[.pointer (some ⟨S, 0, none⟩), .pointer (some ⟨F, 0, none⟩), .pointer (some ⟨T, 0, none⟩)]) ∧ Nrb x y lx ly lz rx ry rz S F T M w' ∧ Own w w' := by
  go_enter Tryd.func35, Tryd.ntmps35
  go_upto_region 1 with (fail)
  obtain ⟨W0, B, J, hW, hJ, hB, hb1, hj1, g0, -, -, -⟩ := two_new w (cz 15 b) 24 (cz 33 j) 59
  rw [hW, hJ, hB]
  have HB := Lib.hid hb1
  have HJ := Lib.hid hj1
  clear hW hJ hB hb1 hj1
  go_upto_region 2 with (first | ((with_reducible show wpList _ _ _ (⟨_, .load 24 (.tmp 3), _, _, _, none⟩ :: _) _ _); refine wpList_load_row rfl 24 (.tmp 3) rfl B rfl 24 _ (0, 0) _ HB.out.raw Tryd.underlying24 rfl infoB ?_) | ((with_reducible show wpList _ _ _ (⟨_, .load 59 (.tmp 4), _, _, _, none⟩ :: _) _ _); refine wpList_load_row rfl 59 (.tmp 4) rfl J rfl 59 _ (0, 0) _ HJ.out.raw Tryd.underlying59 rfl infoJ ?_) | (go_at_call 20; with_reducible refine (bcen_at b j m x y _ (Lib.hid (HBT.out.own g0)) HC).mono ?_; rintro r w1 ⟨rfl, hg⟩; replace g0 := g0.trans hg; replace HJ := Lib.hid (HJ.out.own hg); clear HB; clear hg) | ((with_reducible show wpList _ _ _ (⟨_, .store 26 (.tmp 7) (.tmp 13), _, _, _, none⟩ :: _) _ _); refine wpList_store_row rfl 26 (.tmp 7) (.tmp 13) rfl _ #[.int .i64 x, .int .i64 y] rfl rfl 26 _ (heap_new _ _) infoPt rfl (by simp [Value.oneCell']) ?_; rw [World.setRow_alloc_new]))
  obtain ⟨w2, M, hW, hBq, hb, hg, Mg⟩ := blk_new w1 (#[.int .i64 x, .int .i64 y]) 26
  rw [hW, hBq]
  have HM := Lib.hid hb
  replace g0 := g0.trans hg
  replace HJ := Lib.hid (HJ.out.own hg)
  clear hW hBq hb hg
  clear Mg
  (first | go_frame | skip)
  have hst := run_store_new1 Tryd.prog w2 .nilFunc (.func (.func 63) #[] #[.pointer (some ⟨M, 0, none⟩)]) 107 rfl
  go_upto_region 3 with (fail)
  clear hst
  obtain ⟨w3, S, hW, hBq, hb, hg, Sg⟩ := blk_new w2 (#[.func (.func 63) #[] #[.pointer (some ⟨M, 0, none⟩)]]) 107
  rw [hW, hBq]
  have HS := Lib.hid hb
  replace g0 := g0.trans hg
  replace HJ := Lib.hid (HJ.out.own hg)
  replace HM := Lib.hid (HM.out.own hg)
  clear hW hBq hb hg
  clear Sg
  go_upto_region 4 with (first | ((with_reducible show wpList _ _ _ (⟨_, .load 59 (.tmp 4), _, _, _, none⟩ :: _) _ _); refine wpList_load_row rfl 59 (.tmp 4) rfl J rfl 59 _ (0, 0) _ HJ.out.raw Tryd.underlying59 rfl infoJ ?_) | (go_at_call 64; with_reducible refine (bbase_at j s lx ly lz rx ry rz _ HBA).mono ?_; rintro r w4 ⟨rfl, hg⟩; replace g0 := g0.trans hg; replace HS := Lib.hid (HS.out.own hg); replace HM := Lib.hid (HM.out.own hg); clear HJ; clear hg) | ((with_reducible show wpList _ _ _ (⟨_, .store 56 (.tmp 9) (.tmp 19), _, _, _, none⟩ :: _) _ _); refine wpList_store_row rfl 56 (.tmp 9) (.tmp 19) rfl _ (#[.int .i64 lx, .int .i64 ly, .int .i64 lz]) rfl rfl 56 _ (heap_b2_old _ _ _ _) infoV rfl (by simp [Value.oneCell']) ?_; rw [setRow_alloc2]) | ((with_reducible show wpList _ _ _ (⟨_, .store 56 (.tmp 10) (.tmp 20), _, _, _, none⟩ :: _) _ _); refine wpList_store_row rfl 56 (.tmp 10) (.tmp 20) rfl _ (#[.int .i64 rx, .int .i64 ry, .int .i64 rz]) rfl rfl 56 _ (heap_b2_new _ _ _ _) infoV rfl (by simp [Value.oneCell']) ?_; rw [setRow_alloc2n]))
  obtain ⟨w5, F, T, hW, hT, hF, hf, ht, hg, -, -, -⟩ := two_new w4 (#[.int .i64 lx, .int .i64 ly, .int .i64 lz]) 56 (#[.int .i64 rx, .int .i64 ry, .int .i64 rz]) 56
  rw [hW, hT, hF]
  have HN := Lib.hid (show Nrb x y lx ly lz rx ry rz S F T M w5 from ⟨(HS.out.own hg).cell 0, HM.out.own hg, hf, ht⟩)
  replace g0 := g0.trans hg
  clear hW hT hF hf ht hg HS HM
  go_wp2
  go_ret
  exact ⟨S, F, T, M, rfl, HN.out, g0⟩
set_option maxRecDepth 100000 in
set_option maxHeartbeats 2000000 in
theorem bnear2_at (r x y lx ly lz rx ry rz a1 b1 a2 b2 : Int) (t : Bool) (S F T M : Nat) (w : World) (HN : Hid (Nrb x y lx ly lz rx ry rz S F T M w)) (HD1 : Hid (Dif lx ly x y a1 b1)) (HD2 : Hid (Dif rx ry x y a2 b2))
    (HNR : Hid (GeoP.nrV (0, 0) (a1, b1) (a2, b2) r = t ∧ GeoP.nrE (0, 0) (a1, b1) (a2, b2) r = 0)) :
    Calls Tryd.prog 65 #[.int .i64 r, .pointer (some ⟨S, 0, none⟩), .pointer (some ⟨F, 0, none⟩), .pointer (some ⟨T, 0, none⟩)] w fun e w' => e = .returned (.bool t) ∧ Own w w' := by
  have HSC := Lib.hid HN.out.seen
  have HM := Lib.hid HN.out.mid
  have HF := Lib.hid HN.out.frm
  have HTO := Lib.hid HN.out.to'
  clear HN
  go_enter Tryd.func65, Tryd.ntmps65
  go_upto_region 1 with (fail)
  refine RegD.region_duty [9, 10, 11, 12, 13, 14, 15, 16, 17, 8, 18, 19, 6, 7] (RegI.upd (RegI.upd (RegI.upd (RegI.upd (RegI.upd (RegI.upd (RegI.upd (RegI.upd (RegI.upd (RegI.upd (RegI.upd (RegI.upd (RegI.upd (RegI.upd (fun _ => undef) 9 (.agg #[.int .i64 0, .int .i64 0])) 10 (.func (.func 63) #[] #[.pointer (some ⟨M, 0, none⟩)])) 11 (.agg #[.int .i64 lx, .int .i64 ly, .int .i64 lz])) 12 (.agg #[.int .i64 a1, .int .i64 b1])) 13 (.func (.func 63) #[] #[.pointer (some ⟨M, 0, none⟩)])) 14 (.agg #[.int .i64 rx, .int .i64 ry, .int .i64 rz])) 15 (.agg #[.int .i64 a2, .int .i64 b2])) 16 (.int .i64 r)) 17 (.tuple #[.bool t, .int .i64 0])) 8 (.tuple #[.bool t, .int .i64 0])) 18 (.bool t)) 19 (.int .i64 0)) 6 (.bool t)) 7 (.int .i64 0)) (by kernel_rfl) (by kernel_rfl) (by intro d hd; simp at hd; simp; omega) ?_
  simp only [RegD.FF, RegI.FX, RegI.upd, List.foldl_cons, List.foldl_nil, List.not_mem_nil, if_true, if_false, Nat.reduceEqDiff]
  simp only [List.setIfInBounds_toArray, List.set_cons_succ, List.set_cons_zero]
  refine And.intro ?hs1 ?he1
  case hs1 =>
    refine And.intro ?s1_0 (And.intro ?s1_1 (And.intro ?s1_2 (And.intro ?s1_3 (And.intro ?s1_4 (And.intro ?s1_5 (And.intro ?s1_6 (And.intro ?s1_7 (And.intro ?s1_8 (And.intro ?s1_9 (And.intro ?s1_10 (And.intro ?s1_11 (And.intro ?s1_12 (And.intro ?s1_13 (trivial))))))))))))))
    case s1_0 =>
      intro u w1 hO
      go_wp2
      exact ⟨rfl, rfl, rfl, Own.refl _⟩
    case s1_1 =>
      intro u w1 hO
      have kk := hO.cell HSC.out
      go_wp2
      exact ⟨rfl, rfl, rfl, Own.refl _⟩
    case s1_2 =>
      intro u w1 hO
      have HB9 := Lib.hid (HF.out.own hO)
      go_wp2_with ((with_reducible show wpList _ _ _ (⟨_, .load 56 (.tmp 2), _, _, _, none⟩ :: _) _ _); refine wpList_load_row rfl 56 (.tmp 2) rfl F rfl 56 _ (0, 0) _ HB9.out.raw Tryd.underlying56 rfl infoV ?_)
      exact ⟨rfl, rfl, rfl, Own.refl _⟩
    case s1_3 =>
      intro u w1 hO
      go_wp2_with (go_at_call 63; with_reducible refine (bsee_at lx ly lz x y a1 b1 M _ (Lib.hid (HM.out.own hO)) HD1).mono ?_; rintro r w2 ⟨rfl, hg⟩)
      exact ⟨rfl, rfl, rfl, hg⟩
    case s1_4 =>
      intro u w1 hO
      have kk := hO.cell HSC.out
      go_wp2
      exact ⟨rfl, rfl, rfl, Own.refl _⟩
    case s1_5 =>
      intro u w1 hO
      have HB9 := Lib.hid (HTO.out.own hO)
      go_wp2_with ((with_reducible show wpList _ _ _ (⟨_, .load 56 (.tmp 3), _, _, _, none⟩ :: _) _ _); refine wpList_load_row rfl 56 (.tmp 3) rfl T rfl 56 _ (0, 0) _ HB9.out.raw Tryd.underlying56 rfl infoV ?_)
      exact ⟨rfl, rfl, rfl, Own.refl _⟩
    case s1_6 =>
      intro u w1 hO
      go_wp2_with (go_at_call 63; with_reducible refine (bsee_at rx ry rz x y a2 b2 M _ (Lib.hid (HM.out.own hO)) HD2).mono ?_; rintro r w2 ⟨rfl, hg⟩)
      exact ⟨rfl, rfl, rfl, hg⟩
    case s1_7 =>
      intro u w1 hO
      go_wp2
      exact ⟨rfl, rfl, rfl, Own.refl _⟩
    case s1_8 =>
      intro u w1 hO
      go_wp2_with (go_at_call 66; with_reducible refine (bnear_at 0 0 a1 b1 a2 b2 r t 0 _ HNR).mono ?_; rintro r w2 ⟨rfl, hg⟩)
      exact ⟨rfl, rfl, rfl, hg⟩
    case s1_9 =>
      intro u w1 hO
      go_wp2
      exact ⟨rfl, rfl, rfl, Own.refl _⟩
    case s1_10 =>
      intro u w1 hO
      go_wp2
      exact ⟨rfl, rfl, rfl, Own.refl _⟩
    case s1_11 =>
      intro u w1 hO
      go_wp2
      exact ⟨rfl, rfl, rfl, Own.refl _⟩
    case s1_12 =>
      intro u w1 hO
      go_wp2
      exact ⟨rfl, rfl, rfl, Own.refl _⟩
    case s1_13 =>
      intro u w1 hO
      go_wp2
      exact ⟨rfl, rfl, rfl, Own.refl _⟩
  intro u w9 hO
  clear HSC HM HF HTO
  go_wp2
  go_ret
  exact ⟨rfl, hO⟩
set_option maxRecDepth 100000 in
set_option maxHeartbeats 2000000 in
theorem bCen_at (b p : Vl) (s x y c : Int) (w : World) (HT : Hid (AngW.Tab w)) (HBT : Hid (BuiW.Tab w)) (HS : Hid (Sds w)) (H : Hid (ceV b p s 0 = x ∧ ceV b p s 1 = y ∧ joE b p s = c)) :
    Calls Tryd.prog 8 #[.agg (cz 15 b), .agg (cz 22 p), .int .i64 s] w fun r w' => r = .returned (.tuple #[.agg #[.int .i64 x, .int .i64 y], .int .i64 c]) ∧ Own w w' := by
  obtain ⟨hx, hy, hc⟩ := H.out
  clear H
  obtain ⟨j, hj⟩ : ∃ f, joV b p s = f := ⟨_, rfl⟩
  obtain ⟨c0, hc0⟩ : ∃ c, joE b p s = c := ⟨_, rfl⟩
  have HJO := Lib.hid (show cz 33 (joV b p s) = cz 33 j ∧ joE b p s = c0 from ⟨by rw [hj], hc0⟩)
  rw [hc0] at hc
  subst hc
  by_cases h : c0 = 0
  · subst h
    have HC := Lib.hid (cen_ok hc0)
    rw [ceV_yes hc0] at hx hy
    rw [hx, hy, hj] at HC
    obtain ⟨m, hm⟩ : ∃ m, BuiP.masV b = m := ⟨_, rfl⟩
    rw [hm] at HC
    clear hc0 hj hx hy hm
    go_enter Tryd.func8, Tryd.ntmps8
    go_upto_region 1 with (fail)
    obtain ⟨W0, B, P, R, hW, hR, hP, hB, hb1, hp1, hr1, g0, -, -, hR0, -⟩ := three_new w (cz 15 b) 24 (cz 22 p) 31 (#[.int .i64 0, .int .i64 0]) 26
    rw [hW, hR, hP, hB]
    have HB := Lib.hid hb1
    have HP := Lib.hid hp1
    have HR := Lib.hid hr1
    clear hW hR hP hB hb1 hp1 hr1
    go_upto_region 2 with (first | ((with_reducible show wpList _ _ _ (⟨_, .load 24 (.tmp 3), _, _, _, none⟩ :: _) _ _); refine wpList_load_row rfl 24 (.tmp 3) rfl B rfl 24 _ (0, 0) _ HB.out.raw Tryd.underlying24 rfl infoB ?_) | ((with_reducible show wpList _ _ _ (⟨_, .load 31 (.tmp 4), _, _, _, none⟩ :: _) _ _); refine wpList_load_row rfl 31 (.tmp 4) rfl P rfl 31 _ (0, 0) _ HP.out.raw Tryd.underlying31 rfl infoP ?_) | (go_at_call 19; with_reducible refine (jof_at b p j s 0 _ (Lib.hid (tab_own HT.out g0)) (Lib.hid (HBT.out.own g0)) (Lib.hid (HS.out.own g0)) HJO).mono ?_; rintro r w1 ⟨rfl, hg⟩; replace g0 := g0.trans hg; replace HB := Lib.hid (HB.out.own hg); replace HR := Lib.hid (HR.out.own hg); clear HP; clear hg) | ((with_reducible show wpList _ _ _ (⟨_, .store 59 (.tmp 8) (.tmp 15), _, _, _, none⟩ :: _) _ _); refine wpList_store_row rfl 59 (.tmp 8) (.tmp 15) rfl _ (cz 33 (j)) rfl rfl 59 _ (heap_new _ _) infoJ rfl (cz_one _ _) ?_; rw [World.setRow_alloc_new]))
    obtain ⟨w2, A, hW, hBq, hb, hg, Ag⟩ := blk_new w1 (cz 33 j) 59
    rw [hW, hBq]
    have HA := Lib.hid hb
    replace g0 := g0.trans hg
    replace HB := Lib.hid (HB.out.own hg)
    replace HR := Lib.hid (HR.out.own hg)
    clear hW hBq hb hg
    clear Ag
    (first | go_frame | skip)
    go_wp2_with (first | ((with_reducible show wpList _ _ _ (⟨_, .load 24 (.tmp 3), _, _, _, none⟩ :: _) _ _); refine wpList_load_row rfl 24 (.tmp 3) rfl B rfl 24 _ (0, 0) _ HB.out.raw Tryd.underlying24 rfl infoB ?_) | ((with_reducible show wpList _ _ _ (⟨_, .load 59 (.tmp 8), _, _, _, none⟩ :: _) _ _); refine wpList_load_row rfl 59 (.tmp 8) rfl A rfl 59 _ (0, 0) _ HA.out.raw Tryd.underlying59 rfl infoJ ?_) | (go_at_call 20; with_reducible refine (bcen_at b j m x y _ (Lib.hid (HBT.out.own g0)) HC).mono ?_; rintro r w3 ⟨rfl, hg⟩; replace g0 := g0.trans hg; replace HR := Lib.hid (HR.out.own hg); clear HB HA; clear hg) | ((with_reducible show wpList _ _ _ (⟨_, .store 26 (.tmp 6) (.tmp 23), _, _, _, none⟩ :: _) _ _); refine wpList_store_row rfl 26 (.tmp 6) (.tmp 23) rfl R #[.int .i64 x, .int .i64 y] rfl rfl 26 _ HR.out.raw infoPt rfl (by simp [Value.oneCell']) ?_))
    have hp := HR.out.row (#[.int .i64 x, .int .i64 y])
    exact bodyPost_ret (blk_results rfl rfl rfl hp Tryd.underlying26 rfl infoPt) rfl ⟨rfl, own_setRow g0 hR0 _⟩
  · have hn : joE b p s ≠ 0 := by rw [hc0]; exact h
    rw [ceV_no hn] at hx hy
    subst hx
    subst hy
    have kc : (c0 != 0) = true := bne_iff_ne.2 h
    clear hc0 hj hn h
    go_enter Tryd.func8, Tryd.ntmps8
    go_upto_region 1 with (fail)
    obtain ⟨W0, B, P, R, hW, hR, hP, hB, hb1, hp1, hr1, g0, -, -, hR0, -⟩ := three_new w (cz 15 b) 24 (cz 22 p) 31 (#[.int .i64 0, .int .i64 0]) 26
    rw [hW, hR, hP, hB]
    have HB := Lib.hid hb1
    have HP := Lib.hid hp1
    have HR := Lib.hid hr1
    clear hW hR hP hB hb1 hp1 hr1
    go_upto_region 2 with (first | ((with_reducible show wpList _ _ _ (⟨_, .load 24 (.tmp 3), _, _, _, none⟩ :: _) _ _); refine wpList_load_row rfl 24 (.tmp 3) rfl B rfl 24 _ (0, 0) _ HB.out.raw Tryd.underlying24 rfl infoB ?_) | ((with_reducible show wpList _ _ _ (⟨_, .load 31 (.tmp 4), _, _, _, none⟩ :: _) _ _); refine wpList_load_row rfl 31 (.tmp 4) rfl P rfl 31 _ (0, 0) _ HP.out.raw Tryd.underlying31 rfl infoP ?_) | (go_at_call 19; with_reducible refine (jof_at b p j s c0 _ (Lib.hid (tab_own HT.out g0)) (Lib.hid (HBT.out.own g0)) (Lib.hid (HS.out.own g0)) HJO).mono ?_; rintro r w1 ⟨rfl, hg⟩; replace g0 := g0.trans hg; replace HB := Lib.hid (HB.out.own hg); replace HR := Lib.hid (HR.out.own hg); clear HP; clear hg) | ((with_reducible show wpList _ _ _ (⟨_, .store 59 (.tmp 8) (.tmp 15), _, _, _, none⟩ :: _) _ _); refine wpList_store_row rfl 59 (.tmp 8) (.tmp 15) rfl _ (cz 33 (j)) rfl rfl 59 _ (heap_new _ _) infoJ rfl (cz_one _ _) ?_; rw [World.setRow_alloc_new]))
    obtain ⟨w2, A, hW, hBq, hb, hg, Ag⟩ := blk_new w1 (cz 33 j) 59
    rw [hW, hBq]
    have HA := Lib.hid hb
    replace g0 := g0.trans hg
    replace HB := Lib.hid (HB.out.own hg)
    replace HR := Lib.hid (HR.out.own hg)
    clear hW hBq hb hg
    clear Ag
    (first | go_frame | skip)
    clear HA HB
    go_wp2_with ((with_reducible show wpList _ _ _ (⟨_, .store 26 (.tmp 6) (.tmp 19), _, _, _, none⟩ :: _) _ _); refine wpList_store_row rfl 26 (.tmp 6) (.tmp 19) rfl R #[.int .i64 0, .int .i64 0] rfl rfl 26 _ HR.out.raw infoPt rfl (by simp [Value.oneCell']) ?_)
    have hp := HR.out.row (#[.int .i64 0, .int .i64 0])
    exact bodyPost_ret (blk_results rfl rfl rfl hp Tryd.underlying26 rfl infoPt) rfl ⟨rfl, own_setRow g0 hR0 _⟩
/-- What stands beside: the build, the joints. -/
def SX (w : World) (B A : Nat) (b j : Vl) : World → Prop := fun w1 => Own w w1 ∧ Blk w1 B (cz 15 b) 24 ∧ Blk w1 A (cz 33 j) 59
theorem sx_own {w : World} {B A : Nat} {b j : Vl} {w1 w2 : World} (h : SX w B A b j w1) (g : Own w1 w2) : SX w B A b j w2 := ⟨h.1.trans g, h.2.1.own g, h.2.2.own g⟩
theorem sx_stg {w : World} {B A : Nat} {b j : Vl} {x y lx ly lz rx ry rz : Int} : RegD.Stg1 (SX w B A b j) (SX w B A b j) (fun v1 w1 => SX w B A b j w1 ∧ ∃ S F T M, v1 = .func (.func 65) #[] #[.pointer (some ⟨S, 0, none⟩), .pointer (some ⟨F, 0, none⟩), .pointer (some ⟨T, 0, none⟩)] ∧ Nrb x y lx ly lz rx ry rz S F T M w1) :=
  ⟨fun h => h, fun h => h.1, fun h g => sx_own h g, fun ⟨h1, S, F, T, M, h2, h3⟩ g => ⟨sx_own h1 g, S, F, T, M, h2, h3.own g⟩⟩
set_option maxRecDepth 100000 in
set_option maxHeartbeats 2000000 in
theorem bSta_at (b p : Vl) (s : Int) (t : Bool) (c : Int) (w : World) (HT : Hid (AngW.Tab w)) (HBT : Hid (BuiW.Tab w)) (HS : Hid (Sds w)) (H : Hid (stV b p s = t ∧ joE b p s = c)) :
    Calls Tryd.prog 14 #[.agg (cz 15 b), .agg (cz 22 p), .int .i64 s] w fun r w' => r = .returned (.tuple #[.bool t, .int .i64 c]) ∧ Own w w' := by
  obtain ⟨ht, hc⟩ := H.out
  clear H
  obtain ⟨j, hj⟩ : ∃ f, joV b p s = f := ⟨_, rfl⟩
  obtain ⟨c0, hc0⟩ : ∃ c, joE b p s = c := ⟨_, rfl⟩
  have HJO := Lib.hid (show cz 33 (joV b p s) = cz 33 j ∧ joE b p s = c0 from ⟨by rw [hj], hc0⟩)
  rw [hc0] at hc
  subst hc
  by_cases h : c0 = 0
  · subst h
    by_cases hs : s = 0
    · rw [stV_air hc0 hs] at ht
      subst ht
      subst hs
      clear hc0 hj
      go_enter Tryd.func14, Tryd.ntmps14
      go_upto_region 1 with (fail)
      obtain ⟨W0, B, P, hW, hP, hB, hb1, hp1, g0, -, -, -⟩ := two_new w (cz 15 b) 24 (cz 22 p) 31
      rw [hW, hP, hB]
      have HB := Lib.hid hb1
      have HP := Lib.hid hp1
      clear hW hP hB hb1 hp1
      go_upto_region 2 with (first | ((with_reducible show wpList _ _ _ (⟨_, .load 24 (.tmp 3), _, _, _, none⟩ :: _) _ _); refine wpList_load_row rfl 24 (.tmp 3) rfl B rfl 24 _ (0, 0) _ HB.out.raw Tryd.underlying24 rfl infoB ?_) | ((with_reducible show wpList _ _ _ (⟨_, .load 31 (.tmp 4), _, _, _, none⟩ :: _) _ _); refine wpList_load_row rfl 31 (.tmp 4) rfl P rfl 31 _ (0, 0) _ HP.out.raw Tryd.underlying31 rfl infoP ?_) | (go_at_call 19; with_reducible refine (jof_at b p j 0 0 _ (Lib.hid (tab_own HT.out g0)) (Lib.hid (HBT.out.own g0)) (Lib.hid (HS.out.own g0)) HJO).mono ?_; rintro r w1 ⟨rfl, hg⟩; replace g0 := g0.trans hg; replace HB := Lib.hid (HB.out.own hg); clear HP; clear hg) | ((with_reducible show wpList _ _ _ (⟨_, .store 59 (.tmp 8) (.tmp 15), _, _, _, none⟩ :: _) _ _); refine wpList_store_row rfl 59 (.tmp 8) (.tmp 15) rfl _ (cz 33 (j)) rfl rfl 59 _ (heap_new _ _) infoJ rfl (cz_one _ _) ?_; rw [World.setRow_alloc_new]))
      obtain ⟨w2, A, hW, hBq, hb, hg, Ag⟩ := blk_new w1 (cz 33 j) 59
      rw [hW, hBq]
      have HA := Lib.hid hb
      replace g0 := g0.trans hg
      replace HB := Lib.hid (HB.out.own hg)
      clear hW hBq hb hg
      clear Ag
      (first | go_frame | skip)
      clear HA HB
      go_upto_region 4 with (fail)
      refine RegD.region_duty [20, 21, 22, 23, 24, 25, 26, 27, 28, 29, 30, 6, 7] (RegI.upd (RegI.upd (RegI.upd (RegI.upd (RegI.upd (RegI.upd (RegI.upd (RegI.upd (RegI.upd (RegI.upd (RegI.upd (RegI.upd (RegI.upd (fun _ => undef) 20 (.int .i64 0)) 21 (.bool true)) 22 (.bool true)) 23 (undef)) 24 (undef)) 25 (undef)) 26 (undef)) 27 (undef)) 28 (undef)) 29 (undef)) 30 (.bool true)) 6 (.bool true)) 7 (.int .i64 0)) (by kernel_rfl) (by kernel_rfl) (by intro d hd; simp at hd; simp; omega) ?_
      simp only [RegD.FF, RegI.FX, RegI.upd, List.foldl_cons, List.foldl_nil, List.not_mem_nil, if_true, if_false, Nat.reduceEqDiff]
      simp only [List.setIfInBounds_toArray, List.set_cons_succ, List.set_cons_zero]
      refine And.intro ?hs2 ?he2
      case hs2 =>
        refine And.intro ?s2_0 (And.intro ?s2_1 (And.intro ?s2_2 (And.intro ?s2_3 (And.intro ?s2_4 (And.intro ?s2_5 (And.intro ?s2_6 (And.intro ?s2_7 (And.intro ?s2_8 (And.intro ?s2_9 (And.intro ?s2_10 (And.intro ?s2_11 (And.intro ?s2_12 (trivial)))))))))))))
        case s2_0 =>
          intro u w1 hO
          go_wp2
          exact ⟨rfl, rfl, rfl, Own.refl _⟩
        case s2_1 =>
          intro u w1 hO
          go_wp2
          exact ⟨rfl, rfl, rfl, Own.refl _⟩
        case s2_2 =>
          intro u w1 hO
          go_wp2
          exact ⟨rfl, rfl, rfl, Own.refl _⟩
        case s2_3 =>
          intro u w1 hO
          go_wp2
          exact ⟨rfl, rfl, rfl, Own.refl _⟩
        case s2_4 =>
          intro u w1 hO
          go_wp2
          exact ⟨rfl, rfl, rfl, Own.refl _⟩
        case s2_5 =>
          intro u w1 hO
          go_wp2
          exact ⟨rfl, rfl, rfl, Own.refl _⟩
        case s2_6 =>
          intro u w1 hO
          go_wp2
          exact ⟨rfl, rfl, rfl, Own.refl _⟩
        case s2_7 =>
          intro u w1 hO
          go_wp2
          exact ⟨rfl, rfl, rfl, Own.refl _⟩
        case s2_8 =>
          intro u w1 hO
          go_wp2
          exact ⟨rfl, rfl, rfl, Own.refl _⟩
        case s2_9 =>
          intro u w1 hO
          go_wp2
          exact ⟨rfl, rfl, rfl, Own.refl _⟩
        case s2_10 =>
          intro u w1 hO
          go_wp2
          exact ⟨rfl, rfl, rfl, Own.refl _⟩
        case s2_11 =>
          intro u w1 hO
          go_wp2
          exact ⟨rfl, rfl, rfl, Own.refl _⟩
        case s2_12 =>
          intro u w1 hO
          go_wp2
          exact ⟨rfl, rfl, rfl, Own.refl _⟩
      intro u w9 hO
      replace g0 := g0.trans hO
      go_wp2
      go_ret2
      exact ⟨rfl, g0⟩
    · rw [stV_yes hc0 hs] at ht
      rw [hj] at ht
      have HC := Lib.hid (cen_ok hc0)
      have HBA := Lib.hid (bas_ok (joV b p s) s)
      have hbd := jo_bd hc0
      have hce := ce_rel hc0
      obtain ⟨hr1, hr2⟩ := ba_rel hc0
      obtain ⟨hp0, hp1, -, -⟩ := (va_yes (jo_yes hc0).2.1).1
      have hft := foot_bd (jo_yes hc0).1
      have HAB := Lib.hid (fun (r : Int) (hr : 0 ≤ r ∧ r ≤ 32768) => abo_prog hc0 hr _ rfl)
      rw [hj] at HC HBA hce hr1 hr2 HAB
      have hcb : (-40000 ≤ ce b j 0 ∧ ce b j 0 ≤ 40000) ∧ -40000 ≤ ce b j 1 ∧ ce b j 1 ≤ 40000 := by omega
      have hlb : ((-40000 ≤ baL j s 0 ∧ baL j s 0 ≤ 40000) ∧ -40000 ≤ baL j s 1 ∧ baL j s 1 ≤ 40000) ∧ (-40000 ≤ baR j s 0 ∧ baR j s 0 ≤ 40000) ∧ -40000 ≤ baR j s 1 ∧ baR j s 1 ≤ 40000 := by omega
      obtain ⟨x, hx⟩ : ∃ x, ce b j 0 = x := ⟨_, rfl⟩
      obtain ⟨y, hy⟩ : ∃ x, ce b j 1 = x := ⟨_, rfl⟩
      obtain ⟨lx, hlx⟩ : ∃ x, baL j s 0 = x := ⟨_, rfl⟩
      obtain ⟨ly, hly⟩ : ∃ x, baL j s 1 = x := ⟨_, rfl⟩
      obtain ⟨lz, hlz⟩ : ∃ x, baL j s 2 = x := ⟨_, rfl⟩
      obtain ⟨rx, hrx⟩ : ∃ x, baR j s 0 = x := ⟨_, rfl⟩
      obtain ⟨ry, hry⟩ : ∃ x, baR j s 1 = x := ⟨_, rfl⟩
      obtain ⟨rz, hrz⟩ : ∃ x, baR j s 2 = x := ⟨_, rfl⟩
      obtain ⟨m, hm⟩ : ∃ x, BuiP.masV b = x := ⟨_, rfl⟩
      rw [hx, hy] at hcb HC HAB
      rw [hlx, hly, hrx, hry] at hlb HAB
      rw [hlx, hly, hlz, hrx, hry, hrz] at HBA
      rw [hm] at HC
      obtain ⟨a1, ha1⟩ : ∃ a, lx - x = a := ⟨_, rfl⟩
      obtain ⟨b1, hb1⟩ : ∃ a, ly - y = a := ⟨_, rfl⟩
      obtain ⟨a2, ha2⟩ : ∃ a, rx - x = a := ⟨_, rfl⟩
      obtain ⟨b2, hb2⟩ : ∃ a, ry - y = a := ⟨_, rfl⟩
      rw [ha1, hb1, ha2, hb2] at HAB
      have HD1 := Lib.hid (show Dif lx ly x y a1 b1 from ⟨hlb.1.1, hlb.1.2, hcb.1, hcb.2, ha1, hb1⟩)
      have HD2 := Lib.hid (show Dif rx ry x y a2 b2 from ⟨hlb.2.1, hlb.2.2, hcb.1, hcb.2, ha2, hb2⟩)
      clear hcb hlb ha1 hb1 ha2 hb2 hx hy hlx hly hlz hrx hry hrz hm hce hr1 hr2 hp0 hp1 hbd
      have HNR := HAB.out (b 9) (by omega)
      rw [ht] at HNR
      replace HNR := Lib.hid HNR
      have d1 : decide (s = 0) = false := decide_eq_false hs
      have d2 : (s == 0) = false := beq_eq_false_iff_ne.2 hs
      clear hc0 hj ht hs HAB hft
      go_enter Tryd.func14, Tryd.ntmps14
      go_upto_region 1 with (fail)
      obtain ⟨W0, B, P, hW, hP, hB, hb1, hp1, g0, -, -, -⟩ := two_new w (cz 15 b) 24 (cz 22 p) 31
      rw [hW, hP, hB]
      have HB := Lib.hid hb1
      have HP := Lib.hid hp1
      clear hW hP hB hb1 hp1
      go_upto_region 2 with (first | ((with_reducible show wpList _ _ _ (⟨_, .load 24 (.tmp 3), _, _, _, none⟩ :: _) _ _); refine wpList_load_row rfl 24 (.tmp 3) rfl B rfl 24 _ (0, 0) _ HB.out.raw Tryd.underlying24 rfl infoB ?_) | ((with_reducible show wpList _ _ _ (⟨_, .load 31 (.tmp 4), _, _, _, none⟩ :: _) _ _); refine wpList_load_row rfl 31 (.tmp 4) rfl P rfl 31 _ (0, 0) _ HP.out.raw Tryd.underlying31 rfl infoP ?_) | (go_at_call 19; with_reducible refine (jof_at b p j s 0 _ (Lib.hid (tab_own HT.out g0)) (Lib.hid (HBT.out.own g0)) (Lib.hid (HS.out.own g0)) HJO).mono ?_; rintro r w1 ⟨rfl, hg⟩; replace g0 := g0.trans hg; replace HB := Lib.hid (HB.out.own hg); clear HP; clear hg) | ((with_reducible show wpList _ _ _ (⟨_, .store 59 (.tmp 8) (.tmp 15), _, _, _, none⟩ :: _) _ _); refine wpList_store_row rfl 59 (.tmp 8) (.tmp 15) rfl _ (cz 33 (j)) rfl rfl 59 _ (heap_new _ _) infoJ rfl (cz_one _ _) ?_; rw [World.setRow_alloc_new]))
      obtain ⟨w2, A, hW, hBq, hb, hg, Ag⟩ := blk_new w1 (cz 33 j) 59
      rw [hW, hBq]
      have HA := Lib.hid hb
      replace g0 := g0.trans hg
      replace HB := Lib.hid (HB.out.own hg)
      clear hW hBq hb hg
      clear Ag
      (first | go_frame | skip)
      go_upto_region 4 with (fail)
      refine RegD.region_dutyV [20, 21, 22, 23, 24, 25, 26, 27, 28, 29, 30, 6, 7] 6 26 (RegI.upd (RegI.upd (RegI.upd (RegI.upd (RegI.upd (RegI.upd (RegI.upd (RegI.upd (RegI.upd (RegI.upd (RegI.upd (RegI.upd (fun _ => undef) 20 (.int .i64 s)) 21 (.bool false)) 22 (.bool false)) 23 (.agg (cz 15 b))) 24 (.agg (cz 33 j))) 25 (.int .i64 s)) 27 (.pointer (some ⟨B, 9, none⟩))) 28 (.int .i64 (b 9))) 29 (.bool t)) 30 (.bool t)) 6 (.bool t)) 7 (.int .i64 0)) (SX w B A b j) (SX w B A b j) (fun v1 w1 => SX w B A b j w1 ∧ ∃ S F T M, v1 = .func (.func 65) #[] #[.pointer (some ⟨S, 0, none⟩), .pointer (some ⟨F, 0, none⟩), .pointer (some ⟨T, 0, none⟩)] ∧ Nrb x y lx ly lz rx ry rz S F T M w1) (by kernel_rfl) (by kernel_rfl) (by decide) (by intro d hd; simp at hd; simp; omega) (sx_stg) (⟨g0.drew, HB.out.drew, HA.out.drew⟩) ?_
      simp only [RegD.FF, RegI.FX, RegI.upd, List.foldl_cons, List.foldl_nil, List.mem_cons, List.not_mem_nil, if_true, if_false, Nat.reduceEqDiff, or_false]
      simp only [List.setIfInBounds_toArray, List.set_cons_succ, List.set_cons_zero]
      refine And.intro ?hs3 ?he3
      case hs3 =>
        refine And.intro ?s3_0 (And.intro ?s3_1 (And.intro ?s3_2 (And.intro ?s3_3 (And.intro ?s3_4 (And.intro ?s3_5 (And.intro ?s3_6 (And.intro ?s3_7 (And.intro ?s3_8 (And.intro ?s3_9 (And.intro ?s3_10 (And.intro ?s3_11 (And.intro ?s3_12 (trivial)))))))))))))
        case s3_0 =>
          refine RegD.stepV_det (by decide) (by decide) (fun u w1 hX => ?_)
          clear hX
          go_wp2
          exact ⟨rfl, rfl, rfl, Own.refl _⟩
        case s3_1 =>
          refine RegD.stepV_det (by decide) (by decide) (fun u w1 hX => ?_)
          clear hX
          go_wp2
          exact ⟨rfl, rfl, rfl, Own.refl _⟩
        case s3_2 =>
          refine RegD.stepV_det (by decide) (by decide) (fun u w1 hX => ?_)
          clear hX
          go_wp2
          exact ⟨rfl, rfl, rfl, Own.refl _⟩
        case s3_3 =>
          refine RegD.stepV_det (by decide) (by decide) (fun u w1 hX => ?_)
          have HB9 := Lib.hid (hX.2.1)
          clear hX
          go_wp2_with ((with_reducible show wpList _ _ _ (⟨_, .load 24 (.tmp 3), _, _, _, some _⟩ :: _) _ _); refine wpList_load_row_g rfl 24 (.tmp 3) rfl B rfl 24 _ (0, 0) _ HB9.out.raw Tryd.underlying24 rfl infoB ?_)
          exact ⟨rfl, rfl, rfl, Own.refl _⟩
        case s3_4 =>
          refine RegD.stepV_det (by decide) (by decide) (fun u w1 hX => ?_)
          have HB9 := Lib.hid (hX.2.2)
          clear hX
          go_wp2_with ((with_reducible show wpList _ _ _ (⟨_, .load 59 (.tmp 8), _, _, _, some _⟩ :: _) _ _); refine wpList_load_row_g rfl 59 (.tmp 8) rfl A rfl 59 _ (0, 0) _ HB9.out.raw Tryd.underlying59 rfl infoJ ?_)
          exact ⟨rfl, rfl, rfl, Own.refl _⟩
        case s3_5 =>
          refine RegD.stepV_det (by decide) (by decide) (fun u w1 hX => ?_)
          clear hX
          go_wp2
          exact ⟨rfl, rfl, rfl, Own.refl _⟩
        case s3_6 =>
          refine RegD.stepV_1 rfl (fun u w1 hR => ?_)
          have HX := Lib.hid hR
          have HBX := Lib.hid (HBT.out.own hR.1)
          clear hR
          go_wp2_with (go_at_call 35; refine (bnear1_at b j s m x y lx ly lz rx ry rz _ HBX HC HBA).mono ?_; rintro r w3 ⟨S, F, T, M, rfl, hn, hg⟩)
          exact ⟨rfl, rfl, sx_own HX.out hg, S, F, T, M, rfl, hn⟩
        case s3_7 =>
          refine RegD.stepV_det (by decide) (by decide) (fun u w1 hX => ?_)
          clear hX
          go_wp2
          exact ⟨rfl, rfl, rfl, Own.refl _⟩
        case s3_8 =>
          refine RegD.stepV_det (by decide) (by decide) (fun u w1 hX => ?_)
          have kk := blk_num (hX.2.1) (i := 9) (by omega)
          clear hX
          go_wp2
          exact ⟨rfl, rfl, rfl, Own.refl _⟩
        case s3_9 =>
          refine RegD.stepV_after (by decide) (by decide) (by kernel_rfl) (fun u w1 hR => ?_)
          obtain ⟨hX, S, F, T, M, hu, hn⟩ := hR
          have HN := Lib.hid hn
          simp only [hu]
          clear hX hn hu
          go_wp2_with (go_at_call 65; with_reducible refine (bnear2_at (b 9) x y lx ly lz rx ry rz a1 b1 a2 b2 t S F T M _ HN HD1 HD2 HNR).mono ?_; rintro r w3 ⟨rfl, hg⟩)
          exact ⟨rfl, rfl, rfl, hg⟩
        case s3_10 =>
          refine RegD.stepV_det (by decide) (by decide) (fun u w1 hX => ?_)
          clear hX
          go_wp2
          exact ⟨rfl, rfl, rfl, Own.refl _⟩
        case s3_11 =>
          refine RegD.stepV_det (by decide) (by decide) (fun u w1 hX => ?_)
          clear hX
          go_wp2
          exact ⟨rfl, rfl, rfl, Own.refl _⟩
        case s3_12 =>
          refine RegD.stepV_det (by decide) (by decide) (fun u w1 hX => ?_)
          clear hX
          go_wp2
          exact ⟨rfl, rfl, rfl, Own.refl _⟩
      intro u w9 hR
      have g9 := hR.1.1
      clear hR HA HB g0
      go_wp2
      go_ret2
      exact ⟨rfl, g9⟩
  · have hn : joE b p s ≠ 0 := by rw [hc0]; exact h
    rw [stV_no hn] at ht
    subst ht
    have kc : (c0 != 0) = true := bne_iff_ne.2 h
    clear hc0 hj hn h
    go_enter Tryd.func14, Tryd.ntmps14
    go_upto_region 1 with (fail)
    obtain ⟨W0, B, P, hW, hP, hB, hb1, hp1, g0, -, -, -⟩ := two_new w (cz 15 b) 24 (cz 22 p) 31
    rw [hW, hP, hB]
    have HB := Lib.hid hb1
    have HP := Lib.hid hp1
    clear hW hP hB hb1 hp1
    go_upto_region 2 with (first | ((with_reducible show wpList _ _ _ (⟨_, .load 24 (.tmp 3), _, _, _, none⟩ :: _) _ _); refine wpList_load_row rfl 24 (.tmp 3) rfl B rfl 24 _ (0, 0) _ HB.out.raw Tryd.underlying24 rfl infoB ?_) | ((with_reducible show wpList _ _ _ (⟨_, .load 31 (.tmp 4), _, _, _, none⟩ :: _) _ _); refine wpList_load_row rfl 31 (.tmp 4) rfl P rfl 31 _ (0, 0) _ HP.out.raw Tryd.underlying31 rfl infoP ?_) | (go_at_call 19; with_reducible refine (jof_at b p j s c0 _ (Lib.hid (tab_own HT.out g0)) (Lib.hid (HBT.out.own g0)) (Lib.hid (HS.out.own g0)) HJO).mono ?_; rintro r w1 ⟨rfl, hg⟩; replace g0 := g0.trans hg; replace HB := Lib.hid (HB.out.own hg); clear HP; clear hg) | ((with_reducible show wpList _ _ _ (⟨_, .store 59 (.tmp 8) (.tmp 15), _, _, _, none⟩ :: _) _ _); refine wpList_store_row rfl 59 (.tmp 8) (.tmp 15) rfl _ (cz 33 (j)) rfl rfl 59 _ (heap_new _ _) infoJ rfl (cz_one _ _) ?_; rw [World.setRow_alloc_new]))
    obtain ⟨w2, A, hW, hBq, hb, hg, Ag⟩ := blk_new w1 (cz 33 j) 59
    rw [hW, hBq]
    have HA := Lib.hid hb
    replace g0 := g0.trans hg
    replace HB := Lib.hid (HB.out.own hg)
    clear hW hBq hb hg
    clear Ag
    (first | go_frame | skip)
    clear HA HB
    go_wp2
    go_ret2
    exact ⟨rfl, g0⟩
end Go.Proofs.YtighpjhipgobiaaDoor.BalW
