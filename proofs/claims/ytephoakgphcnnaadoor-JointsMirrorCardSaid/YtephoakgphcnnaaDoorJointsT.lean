/-
  Walks of the laws of package joints: body, straight, vec, flip, turn, less, pair, both, awake. Condition: the table of sines, the table of bounds and the numbers of both sides lie in memory.
-/
import Derived.Test.YtephoakgphcnnaaDoorJointsEq
import Derived.Test.YtephoakgphcnnaaDoorJointsPD
import Derived.Test.YtephoakgphcnnaaDoorPartB
namespace Go.Proofs.YtephoakgphcnnaaDoor.JntL
open Go.ChangeShapes Go.WideShapes Go.ChangeAt Go.RowKit
open JntW PairW AimP AimW BlkW PrtW PstP PstW JntP RegD
def bdyl : List Int := [900, 500, 150, 700, 100, 180, 600, 80, 60, 100, 300, 30000, 5000, 3000, 10000]
def bdy : Vl := fun i => bdyl.getD i 0
def st1l : List Int := [0, 0, 0, 0, 0, -64, 0, 0, -64, 0, 0, 64, 0, 0, -64, 0, 0, -64, 0, 0, 64, 0]
def st1 : Vl := fun i => st1l.getD i 0
def st2l : List Int := [0, 0, 0, 0, 0, -64, 0, 0, -64, 0, 0, 64, 0, 0, -64, 0, 64, 0, 2, 0, 64, 0]
def st2 : Vl := fun i => st2l.getD i 0
def st3l : List Int := [0, 0, 64, 1, 0, -64, 0, 0, -64, 0, 0, 64, 0, 0, -64, 0, 64, 0, 0, 0, 64, 0]
def st3 : Vl := fun i => st3l.getD i 0
def exJl : List Int := [0, 0, 900, 0, 0, 1400, 0, 0, 1550, -100, 0, 900, 100, 0, 900, -180, 0, 1400, 180, 0, 1400, -180, 0, 700, 180, 0, 700, -100, 0, 0, 100, 0, 0]
def exJ : Vl := fun i => exJl.getD i 0
def exKl : List Int := [0, 0, 900, 0, 0, 1400, 0, 0, 1550, -100, 0, 900, 100, 0, 900, -180, 0, 1400, 180, 0, 1400, -180, 0, 700, 705, 0, 1400, -100, 0, 0, 100, 0, 0]
def exK : Vl := fun i => exKl.getD i 0
def exL : Vl := joV bdy st3 1
theorem c_j : cz 33 (joV bdy st1 3) = cz 33 exJ ∧ joE bdy st1 3 = 0 := ⟨cz_congr (by decide +kernel), by decide +kernel⟩
theorem c_k : cz 33 (joV bdy st2 3) = cz 33 exK ∧ joE bdy st2 3 = 0 := ⟨cz_congr (by decide +kernel), by decide +kernel⟩
theorem c_l : joE bdy st3 1 = 0 := by decide +kernel
theorem c_l1 : JntP.Pt exL 9 0 100 908 := by unfold JntP.Pt; decide +kernel
theorem c_l2 : JntP.Pt exL 24 0 (-880) 1408 := by unfold JntP.Pt; decide +kernel
theorem c_l3 : JntP.Pt exL 30 0 (-100) 8 := by unfold JntP.Pt; decide +kernel
theorem c_lo : loZ exJ = 0 := by decide +kernel
theorem c_end : enX exJ 2 = 0 ∧ enY exJ 2 = 0 ∧ enZ exJ 2 = 1400 ∧ enE 2 = 0 := by decide +kernel
theorem c_end6 : enX exJ 6 = 0 ∧ enY exJ 6 = 0 ∧ enZ exJ 6 = 0 ∧ enE 6 = 9 := by decide +kernel
theorem c_ds : dsV 0 0 0 1 2 3 = 14 ∧ dsE 0 0 0 1 2 3 = 0 := by decide +kernel
theorem cz15_nul : (#[.int .i64 0, .int .i64 0, .int .i64 0, .int .i64 0, .int .i64 0, .int .i64 0, .int .i64 0, .int .i64 0, .int .i64 0, .int .i64 0, .int .i64 0, .int .i64 0, .int .i64 0, .int .i64 0, .int .i64 0] : Array Value) = cz 15 nul := rfl
theorem infoV2 : (Tryd.prog.info? 34).map (·.size) = some 6 := by kernel_rfl
theorem bld_jo3 (a b c d e f g h i : Int) : Tryd.prog.built 36 [(0, .agg #[.int .i64 a, .int .i64 b, .int .i64 c]), (1, .agg #[.int .i64 d, .int .i64 e, .int .i64 f]), (2, .agg #[.int .i64 g, .int .i64 h, .int .i64 i])] = some (cz 33 (put (put (put nul 0 3 (l3 a b c)) 3 3 (l3 d e f)) 6 3 (l3 g h i))) := by kernel_rfl
theorem bld_v2 (a b c d e f : Int) : Tryd.prog.built 34 [(0, .agg #[.int .i64 a, .int .i64 b, .int .i64 c]), (1, .agg #[.int .i64 d, .int .i64 e, .int .i64 f])] = some (cz 6 (put (put nul 0 3 (l3 a b c)) 3 3 (l3 d e f))) := by kernel_rfl
theorem heap_a2_old (w : World) (z : Array Value) (T : TypeId) (o : Obj) : ((w.alloc (.cells z T)).alloc o).heap[w.heap.size]? = some (.cells z T (0, 0)) := ((Blk.new w z T).own ((Own.refl _).alloc o)).raw
theorem heap_a2_new (w : World) (z : Array Value) (T : TypeId) (o : Obj) : ((w.alloc o).alloc (.cells z T)).heap[w.heap.size + 1]? = some (.cells z T (0, 0)) := by
  have := heap_new (w.alloc o) (.cells z T)
  rw [size_alloc] at this
  exact this
set_option maxRecDepth 100000 in
set_option maxHeartbeats 2000000 in
theorem body_at (w : World) :
    Calls Tryd.prog 39 #[] w fun r w' => r = .returned (.agg (cz 15 bdy)) ∧ Own w w' := by
  go_enter Tryd.func39, Tryd.ntmps39
  go_upto_region 1 with (fail)
  obtain ⟨W0, P, hW, hP, hp, g0, hP0⟩ := blk_new w (cz 15 nul) 24
  rw [← cz15_nul] at hW
  rw [hW, hP]
  have HP := Lib.hid hp
  clear hW hP hp
  go_wp2_with ((with_reducible show wpList _ _ _ (⟨_, .store 24 (.tmp 0) (.tmp 2), _, _, _, none⟩ :: _) _ _); refine wpList_store_row rfl 24 (.tmp 0) (.tmp 2) rfl P (cz 15 (bdy)) rfl rfl 24 _ HP.out.raw infoB rfl (cz_one _ _) ?_)
  have hp := HP.out.row (cz 15 bdy)
  exact bodyPost_ret (blk_result rfl rfl hp Tryd.underlying24 rfl infoB) rfl ⟨rfl, own_setRow g0 hP0 _⟩
set_option maxRecDepth 100000 in
set_option maxHeartbeats 2000000 in
theorem straight_at (w : World) :
    Calls Tryd.prog 40 #[] w fun r w' => r = .returned (.agg (cz 22 st1)) ∧ Own w w' := by
  go_enter Tryd.func40, Tryd.ntmps40
  go_upto_region 1 with (fail)
  obtain ⟨W0, P, hW, hP, hp, g0, hP0⟩ := blk_new w (cz 22 nul) 31
  rw [← cz22_nul] at hW
  rw [hW, hP]
  have HP := Lib.hid hp
  clear hW hP hp
  go_upto_region 2 with (first | (refine wpList_store_row rfl 28 (.tmp 1) (.tmp 3) rfl _ (#[.int .i64 0, .int .i64 (-64), .int .i64 0]) rfl rfl 28 _ (heap_a2_old _ _ _ _) infoA rfl (by simp [Value.oneCell']) ?_; rw [setRow_alloc2]) | (refine wpList_store_row rfl 28 (.tmp 2) (.tmp 4) rfl _ (#[.int .i64 0, .int .i64 64, .int .i64 0]) rfl rfl 28 _ (heap_a2_new _ _ _ _) infoA rfl (by simp [Value.oneCell']) ?_; rw [setRow_alloc2n]))
  obtain ⟨W1, B, C, hW, hC, hB, hb, hc, hg, -, -, -⟩ := two_new W0 (#[.int .i64 0, .int .i64 (-64), .int .i64 0]) 28 (#[.int .i64 0, .int .i64 64, .int .i64 0]) 28
  rw [hW, hC, hB]
  have HB := Lib.hid hb
  have HC := Lib.hid hc
  replace HP := Lib.hid (HP.out.own hg)
  replace g0 := g0.trans hg
  clear hW hC hB hb hc hg
  go_wp2_with (first | ((with_reducible show wpList _ _ _ (⟨_, .load 28 (.tmp 1), _, _, _, none⟩ :: _) _ _); refine wpList_load_row rfl 28 (.tmp 1) rfl B rfl 28 _ (0, 0) _ HB.out.raw Tryd.underlying28 rfl infoA ?_) | ((with_reducible show wpList _ _ _ (⟨_, .load 28 (.tmp 2), _, _, _, none⟩ :: _) _ _); refine wpList_load_row rfl 28 (.tmp 2) rfl C rfl 28 _ (0, 0) _ HC.out.raw Tryd.underlying28 rfl infoA ?_) | ((with_reducible show wpList _ _ _ (⟨_, .store 31 (.tmp 0) (.tmp 12), _, _, _, none⟩ :: _) _ _); refine wpList_store_row rfl 31 (.tmp 0) (.tmp 12) rfl P (cz 22 (st1)) rfl rfl 31 _ HP.out.raw infoP rfl (cz_one _ _) ?_))
  have hp := HP.out.row (cz 22 st1)
  exact bodyPost_ret (blk_result rfl rfl hp Tryd.underlying31 rfl infoP) rfl ⟨rfl, own_setRow g0 hP0 _⟩
set_option maxRecDepth 100000 in
set_option maxHeartbeats 2000000 in
theorem vec_at (x y z : Int) (w : World) :
    Calls Tryd.prog 41 #[.int .i64 x, .int .i64 y, .int .i64 z] w fun r w' => r = .returned (.agg #[.int .i64 x, .int .i64 y, .int .i64 z]) ∧ Own w w' := by
  go_enter Tryd.func41, Tryd.ntmps41
  go_upto_region 1 with (fail)
  obtain ⟨W0, R, hW, hRq, hr1, g0, hR0⟩ := blk_new w (#[.int .i64 0, .int .i64 0, .int .i64 0]) 33
  rw [hW, hRq]
  have HR := Lib.hid hr1
  clear hW hRq hr1
  go_wp2_with ((with_reducible show wpList _ _ _ (⟨_, .store 33 (.tmp 6) (.tmp 10), _, _, _, none⟩ :: _) _ _); refine wpList_store_row rfl 33 (.tmp 6) (.tmp 10) rfl R #[.int .i64 x, .int .i64 y, .int .i64 z] rfl rfl 33 _ HR.out.raw infoV rfl (by simp [Value.oneCell']) ?_)
  have hp := HR.out.row #[.int .i64 x, .int .i64 y, .int .i64 z]
  exact bodyPost_ret (blk_result rfl rfl hp Tryd.underlying33 rfl infoV) rfl ⟨rfl, own_setRow g0 hR0 _⟩
set_option maxRecDepth 100000 in
set_option maxHeartbeats 2000000 in
theorem flip_at (x y z : Int) (w : World) (hx : -1000000 ≤ x ∧ x ≤ 1000000) :
    Calls Tryd.prog 14 #[.agg #[.int .i64 x, .int .i64 y, .int .i64 z]] w fun r w' => r = .returned (.agg #[.int .i64 (-x), .int .i64 y, .int .i64 z]) ∧ Own w w' := by
  go_enter Tryd.func14, Tryd.ntmps14
  go_upto_region 1 with (fail)
  obtain ⟨W0, B, R, hW, hR, hB, hb1, hr1, g0, -, hR0, -⟩ := two_new w (#[.int .i64 x, .int .i64 y, .int .i64 z]) 33 (#[.int .i64 0, .int .i64 0, .int .i64 0]) 33
  rw [hW, hR, hB]
  obtain ⟨k0, k1, k2⟩ := hb1.three
  have HR := Lib.hid hr1
  clear hW hR hB hb1 hr1
  go_wp2_with ((with_reducible show wpList _ _ _ (⟨_, .store 33 (.tmp 2) (.tmp 10), _, _, _, none⟩ :: _) _ _); refine wpList_store_row rfl 33 (.tmp 2) (.tmp 10) rfl R #[.int .i64 (-x), .int .i64 y, .int .i64 z] rfl rfl 33 _ HR.out.raw infoV rfl (by simp [Value.oneCell']) ?_)
  have hp := HR.out.row #[.int .i64 (-x), .int .i64 y, .int .i64 z]
  exact bodyPost_ret (blk_result rfl rfl hp Tryd.underlying33 rfl infoV) rfl ⟨rfl, own_setRow g0 hR0 _⟩
set_option maxRecDepth 100000 in
set_option maxHeartbeats 2000000 in
theorem turn_at (x y z : Int) (w : World) (hx : -1000000 ≤ x ∧ x ≤ 1000000) :
    Calls Tryd.prog 18 #[.agg #[.int .i64 x, .int .i64 y, .int .i64 z]] w fun r w' => r = .returned (.agg #[.int .i64 y, .int .i64 (-x), .int .i64 z]) ∧ Own w w' := by
  go_enter Tryd.func18, Tryd.ntmps18
  go_upto_region 1 with (fail)
  obtain ⟨W0, B, R, hW, hR, hB, hb1, hr1, g0, -, hR0, -⟩ := two_new w (#[.int .i64 x, .int .i64 y, .int .i64 z]) 33 (#[.int .i64 0, .int .i64 0, .int .i64 0]) 33
  rw [hW, hR, hB]
  obtain ⟨k0, k1, k2⟩ := hb1.three
  have HR := Lib.hid hr1
  clear hW hR hB hb1 hr1
  go_wp2_with ((with_reducible show wpList _ _ _ (⟨_, .store 33 (.tmp 2) (.tmp 10), _, _, _, none⟩ :: _) _ _); refine wpList_store_row rfl 33 (.tmp 2) (.tmp 10) rfl R #[.int .i64 y, .int .i64 (-x), .int .i64 z] rfl rfl 33 _ HR.out.raw infoV rfl (by simp [Value.oneCell']) ?_)
  have hp := HR.out.row #[.int .i64 y, .int .i64 (-x), .int .i64 z]
  exact bodyPost_ret (blk_result rfl rfl hp Tryd.underlying33 rfl infoV) rfl ⟨rfl, own_setRow g0 hR0 _⟩
set_option maxRecDepth 100000 in
set_option maxHeartbeats 2000000 in
theorem less_at (a b c d e f x y z : Int) (w : World) (H : Hid ((bd a ∧ bd b ∧ bd c) ∧ (bd d ∧ bd e ∧ bd f) ∧ a - d = x ∧ b - e = y ∧ c - f = z)) :
    Calls Tryd.prog 20 #[.agg #[.int .i64 a, .int .i64 b, .int .i64 c], .agg #[.int .i64 d, .int .i64 e, .int .i64 f]] w fun r w' => r = .returned (.agg #[.int .i64 x, .int .i64 y, .int .i64 z]) ∧ Own w w' := by
  obtain ⟨⟨ha, hb, hc⟩, ⟨hd, he, hf⟩, rfl, rfl, rfl⟩ := H.out
  clear H
  unfold bd at ha hb hc hd he hf
  go_enter Tryd.func20, Tryd.ntmps20
  go_upto_region 1 with (fail)
  obtain ⟨W0, B, C, R, hW, hR, hC, hB, hb1, hc1, hr, g0, -, -, hR0, -⟩ := three_new w (#[.int .i64 a, .int .i64 b, .int .i64 c]) 33 (#[.int .i64 d, .int .i64 e, .int .i64 f]) 33 (#[.int .i64 0, .int .i64 0, .int .i64 0]) 33
  rw [hW, hR, hC, hB]
  obtain ⟨b0, b1, b2⟩ := hb1.three
  obtain ⟨c0, c1, c2⟩ := hc1.three
  have HR := Lib.hid hr
  clear hW hR hC hB hb1 hc1 hr
  go_wp2_with ((with_reducible show wpList _ _ _ (⟨_, .store 33 (.tmp 4) (.tmp 20), _, _, _, none⟩ :: _) _ _); refine wpList_store_row rfl 33 (.tmp 4) (.tmp 20) rfl R #[.int .i64 (a - d), .int .i64 (b - e), .int .i64 (c - f)] rfl rfl 33 _ HR.out.raw infoV rfl (by simp [Value.oneCell']) ?_)
  have hp := HR.out.row #[.int .i64 (a - d), .int .i64 (b - e), .int .i64 (c - f)]
  exact bodyPost_ret (blk_result rfl rfl hp Tryd.underlying33 rfl infoV) rfl ⟨rfl, own_setRow g0 hR0 _⟩
set_option maxRecDepth 100000 in
set_option maxHeartbeats 2000000 in
theorem pair_at (f : Vl) (w : World) (h0 : -1000000 ≤ f 0 ∧ f 0 ≤ 1000000) (h3 : -1000000 ≤ f 3 ∧ f 3 ≤ 1000000) :
    Calls Tryd.prog 15 #[.agg (cz 6 f)] w fun r w' => r = .returned (.agg (cz 6 (put (put nul 0 3 (l3 (-f 3) (f 4) (f 5))) 3 3 (l3 (-f 0) (f 1) (f 2))))) ∧ Own w w' := by
  go_enter Tryd.func15, Tryd.ntmps15
  go_upto_region 1 with (fail)
  obtain ⟨W0, B, R, hW, hR, hB, hb1, hr1, g0, -, hR0, hne⟩ := two_new w (cz 6 f) 34 (cz 6 nul) 34
  rw [show cz 6 nul = #[.int .i64 0, .int .i64 0, .int .i64 0, .int .i64 0, .int .i64 0, .int .i64 0] from rfl] at hW
  rw [hW, hR, hB]
  have HB := Lib.hid hb1
  have HR := Lib.hid hr1
  have HNE := Lib.hid hne
  clear hW hR hB hb1 hr1 hne
  refine RegD.region_dutyJ [3, 4, 5, 6, 7, 8, 9] 7 6 (0) 6 (nul) (put (put nul 0 3 (l3 (-f 3) (f 4) (f 5))) 3 3 (l3 (-f 0) (f 1) (f 2))) (RegI.upd (RegI.upd (RegI.upd (RegI.upd (RegI.upd (RegI.upd (RegI.upd (fun _ => undef) 3 (.pointer (some ⟨B, 3, none⟩))) 4 (.agg #[.int .i64 (f 3), .int .i64 (f 4), .int .i64 (f 5)])) 5 (.agg #[.int .i64 (-f 3), .int .i64 (f 4), .int .i64 (f 5)])) 6 (.pointer (some ⟨B, 0, none⟩))) 7 (.agg #[.int .i64 (f 0), .int .i64 (f 1), .int .i64 (f 2)])) 8 (.agg #[.int .i64 (-f 0), .int .i64 (f 1), .int .i64 (f 2)])) 9 (.agg (cz 6 (put (put nul 0 3 (l3 (-f 3) (f 4) (f 5))) 3 3 (l3 (-f 0) (f 1) (f 2)))))) R 34 (by kernel_rfl) (by kernel_rfl) (by decide) (by intro d hd; simp at hd; simp; omega) HR.out ?_
  simp only [RegD.FF, RegI.FX, RegI.upd, List.foldl_cons, List.foldl_nil, List.not_mem_nil, if_true, if_false, Nat.reduceEqDiff]
  simp only [List.setIfInBounds_toArray, List.set_cons_succ, List.set_cons_zero]
  refine And.intro ?hs1 ?he1
  case hs1 =>
    refine And.intro ?s1_0 (And.intro ?s1_1 (And.intro ?s1_2 (And.intro ?s1_3 (And.intro ?s1_4 (And.intro ?s1_5 (And.intro ?s1_6 (And.intro ?s1_7 (trivial))))))))
    case s1_0 =>
      refine RegD.stepJ_det (by decide) (fun u w1 h hO hJ hA => ?_)
      go_wp2
      exact ⟨rfl, rfl, rfl, Own.refl _⟩
    case s1_1 =>
      refine RegD.stepJ_det (by decide) (fun u w1 h hO hJ hA => ?_)
      have HB9 := Lib.hid (HB.out.ownx hO HNE.out)
      go_wp2_with ((with_reducible show wpList _ _ _ (⟨_, .load 33 (.tmp 3), _, _, _, none⟩ :: _) _ _); refine wpList_load_part rfl 33 (.tmp 3) rfl B (3) rfl 3 HB9.out (by omega) (#[.int .i64 (f 3), .int .i64 (f 4), .int .i64 (f 5)]) rfl _ Tryd.underlying33 rfl infoV ?_)
      exact ⟨rfl, rfl, rfl, Own.refl _⟩
    case s1_2 =>
      refine RegD.stepJ_det (by decide) (fun u w1 h hO hJ hA => ?_)
      go_wp2_with (go_at_call 14; with_reducible refine (flip_at _ _ _ _ h3).mono ?_; rintro r w2 ⟨rfl, hg⟩)
      exact ⟨rfl, rfl, rfl, hg⟩
    case s1_3 =>
      refine RegD.stepJ_det (by decide) (fun u w1 h hO hJ hA => ?_)
      go_wp2
      exact ⟨rfl, rfl, rfl, Own.refl _⟩
    case s1_4 =>
      refine RegD.stepJ_det (by decide) (fun u w1 h hO hJ hA => ?_)
      have HB9 := Lib.hid (HB.out.ownx hO HNE.out)
      go_wp2_with ((with_reducible show wpList _ _ _ (⟨_, .load 33 (.tmp 6), _, _, _, none⟩ :: _) _ _); refine wpList_load_part rfl 33 (.tmp 6) rfl B (0) rfl 3 HB9.out (by omega) (#[.int .i64 (f 0), .int .i64 (f 1), .int .i64 (f 2)]) rfl _ Tryd.underlying33 rfl infoV ?_)
      exact ⟨rfl, rfl, rfl, Own.refl _⟩
    case s1_5 =>
      refine RegD.stepJ_det (by decide) (fun u w1 h hO hJ hA => ?_)
      go_wp2_with (go_at_call 14; with_reducible refine (flip_at _ _ _ _ h0).mono ?_; rintro r w2 ⟨rfl, hg⟩)
      exact ⟨rfl, rfl, rfl, hg⟩
    case s1_6 =>
      refine RegD.stepJ_det (by decide) (fun u w1 h hO hJ hA => ?_)
      go_wp2_with ((with_reducible show wpList _ _ _ (⟨_, .build 34 _, _, _, _, _⟩ :: _) _ _); refine wpList_build_as rfl 34 [(0, .tmp 5), (1, .tmp 8)] rfl [(0, .agg #[.int .i64 (-f 3), .int .i64 (f 4), .int .i64 (f 5)]), (1, .agg #[.int .i64 (-f 0), .int .i64 (f 1), .int .i64 (f 2)])] rfl (cz 6 (put (put nul 0 3 (l3 (-f 3) (f 4) (f 5))) 3 3 (l3 (-f 0) (f 1) (f 2)))) (bld_v2 _ _ _ _ _ _) ?_)
      exact ⟨rfl, rfl, rfl, Own.refl _⟩
    case s1_7 =>
      refine RegD.stepJ_store rfl (fun u w1 h hO hJ => ?_)
      have HN := Lib.hid hJ
      clear hJ
      go_wp2_with ((with_reducible show wpList _ _ _ (⟨_, .store 34 (.tmp 2) (.tmp 9), _, _, _, none⟩ :: _) _ _); refine wpList_store_part rfl 34 (.tmp 2) (.tmp 9) rfl R (0) 6 (put (put nul 0 3 (l3 (-f 3) (f 4) (f 5))) 3 3 (l3 (-f 0) (f 1) (f 2))) rfl (cz 6 (put (put nul 0 3 (l3 (-f 3) (f 4) (f 5))) 3 3 (l3 (-f 0) (f 1) (f 2)))) rfl rfl HN.out (by omega) infoV2 ?_)
      exact ⟨rfl, rfl, rfl⟩
  · intro u w3 hO hj
    replace g0 := own_x g0 hR0 hO
    rw [put_whole] at hj
    have HR := Lib.hid hj
    clear hO hj HB
    go_wp2
    exact bodyPost_ret (blk_result rfl rfl HR.out Tryd.underlying34 rfl infoV2) rfl ⟨rfl, g0⟩
set_option maxRecDepth 100000 in
set_option maxHeartbeats 2000000 in
theorem both_at (f : Vl) (w : World) (h0 : -1000000 ≤ f 0 ∧ f 0 ≤ 1000000) (h3 : -1000000 ≤ f 3 ∧ f 3 ≤ 1000000) :
    Calls Tryd.prog 19 #[.agg (cz 6 f)] w fun r w' => r = .returned (.agg (cz 6 (put (put nul 0 3 (l3 (f 1) (-f 0) (f 2))) 3 3 (l3 (f 4) (-f 3) (f 5))))) ∧ Own w w' := by
  go_enter Tryd.func19, Tryd.ntmps19
  go_upto_region 1 with (fail)
  obtain ⟨W0, B, R, hW, hR, hB, hb1, hr1, g0, -, hR0, hne⟩ := two_new w (cz 6 f) 34 (cz 6 nul) 34
  rw [show cz 6 nul = #[.int .i64 0, .int .i64 0, .int .i64 0, .int .i64 0, .int .i64 0, .int .i64 0] from rfl] at hW
  rw [hW, hR, hB]
  have HB := Lib.hid hb1
  have HR := Lib.hid hr1
  have HNE := Lib.hid hne
  clear hW hR hB hb1 hr1 hne
  refine RegD.region_dutyJ [3, 4, 5, 6, 7, 8, 9] 7 6 (0) 6 (nul) (put (put nul 0 3 (l3 (f 1) (-f 0) (f 2))) 3 3 (l3 (f 4) (-f 3) (f 5))) (RegI.upd (RegI.upd (RegI.upd (RegI.upd (RegI.upd (RegI.upd (RegI.upd (fun _ => undef) 3 (.pointer (some ⟨B, 0, none⟩))) 4 (.agg #[.int .i64 (f 0), .int .i64 (f 1), .int .i64 (f 2)])) 5 (.agg #[.int .i64 (f 1), .int .i64 (-f 0), .int .i64 (f 2)])) 6 (.pointer (some ⟨B, 3, none⟩))) 7 (.agg #[.int .i64 (f 3), .int .i64 (f 4), .int .i64 (f 5)])) 8 (.agg #[.int .i64 (f 4), .int .i64 (-f 3), .int .i64 (f 5)])) 9 (.agg (cz 6 (put (put nul 0 3 (l3 (f 1) (-f 0) (f 2))) 3 3 (l3 (f 4) (-f 3) (f 5)))))) R 34 (by kernel_rfl) (by kernel_rfl) (by decide) (by intro d hd; simp at hd; simp; omega) HR.out ?_
  simp only [RegD.FF, RegI.FX, RegI.upd, List.foldl_cons, List.foldl_nil, List.not_mem_nil, if_true, if_false, Nat.reduceEqDiff]
  simp only [List.setIfInBounds_toArray, List.set_cons_succ, List.set_cons_zero]
  refine And.intro ?hs2 ?he2
  case hs2 =>
    refine And.intro ?s2_0 (And.intro ?s2_1 (And.intro ?s2_2 (And.intro ?s2_3 (And.intro ?s2_4 (And.intro ?s2_5 (And.intro ?s2_6 (And.intro ?s2_7 (trivial))))))))
    case s2_0 =>
      refine RegD.stepJ_det (by decide) (fun u w1 h hO hJ hA => ?_)
      go_wp2
      exact ⟨rfl, rfl, rfl, Own.refl _⟩
    case s2_1 =>
      refine RegD.stepJ_det (by decide) (fun u w1 h hO hJ hA => ?_)
      have HB9 := Lib.hid (HB.out.ownx hO HNE.out)
      go_wp2_with ((with_reducible show wpList _ _ _ (⟨_, .load 33 (.tmp 3), _, _, _, none⟩ :: _) _ _); refine wpList_load_part rfl 33 (.tmp 3) rfl B (0) rfl 3 HB9.out (by omega) (#[.int .i64 (f 0), .int .i64 (f 1), .int .i64 (f 2)]) rfl _ Tryd.underlying33 rfl infoV ?_)
      exact ⟨rfl, rfl, rfl, Own.refl _⟩
    case s2_2 =>
      refine RegD.stepJ_det (by decide) (fun u w1 h hO hJ hA => ?_)
      go_wp2_with (go_at_call 18; with_reducible refine (turn_at _ _ _ _ h0).mono ?_; rintro r w2 ⟨rfl, hg⟩)
      exact ⟨rfl, rfl, rfl, hg⟩
    case s2_3 =>
      refine RegD.stepJ_det (by decide) (fun u w1 h hO hJ hA => ?_)
      go_wp2
      exact ⟨rfl, rfl, rfl, Own.refl _⟩
    case s2_4 =>
      refine RegD.stepJ_det (by decide) (fun u w1 h hO hJ hA => ?_)
      have HB9 := Lib.hid (HB.out.ownx hO HNE.out)
      go_wp2_with ((with_reducible show wpList _ _ _ (⟨_, .load 33 (.tmp 6), _, _, _, none⟩ :: _) _ _); refine wpList_load_part rfl 33 (.tmp 6) rfl B (3) rfl 3 HB9.out (by omega) (#[.int .i64 (f 3), .int .i64 (f 4), .int .i64 (f 5)]) rfl _ Tryd.underlying33 rfl infoV ?_)
      exact ⟨rfl, rfl, rfl, Own.refl _⟩
    case s2_5 =>
      refine RegD.stepJ_det (by decide) (fun u w1 h hO hJ hA => ?_)
      go_wp2_with (go_at_call 18; with_reducible refine (turn_at _ _ _ _ h3).mono ?_; rintro r w2 ⟨rfl, hg⟩)
      exact ⟨rfl, rfl, rfl, hg⟩
    case s2_6 =>
      refine RegD.stepJ_det (by decide) (fun u w1 h hO hJ hA => ?_)
      go_wp2_with ((with_reducible show wpList _ _ _ (⟨_, .build 34 _, _, _, _, _⟩ :: _) _ _); refine wpList_build_as rfl 34 [(0, .tmp 5), (1, .tmp 8)] rfl [(0, .agg #[.int .i64 (f 1), .int .i64 (-f 0), .int .i64 (f 2)]), (1, .agg #[.int .i64 (f 4), .int .i64 (-f 3), .int .i64 (f 5)])] rfl (cz 6 (put (put nul 0 3 (l3 (f 1) (-f 0) (f 2))) 3 3 (l3 (f 4) (-f 3) (f 5)))) (bld_v2 _ _ _ _ _ _) ?_)
      exact ⟨rfl, rfl, rfl, Own.refl _⟩
    case s2_7 =>
      refine RegD.stepJ_store rfl (fun u w1 h hO hJ => ?_)
      have HN := Lib.hid hJ
      clear hJ
      go_wp2_with ((with_reducible show wpList _ _ _ (⟨_, .store 34 (.tmp 2) (.tmp 9), _, _, _, none⟩ :: _) _ _); refine wpList_store_part rfl 34 (.tmp 2) (.tmp 9) rfl R (0) 6 (put (put nul 0 3 (l3 (f 1) (-f 0) (f 2))) 3 3 (l3 (f 4) (-f 3) (f 5))) rfl (cz 6 (put (put nul 0 3 (l3 (f 1) (-f 0) (f 2))) 3 3 (l3 (f 4) (-f 3) (f 5)))) rfl rfl HN.out (by omega) infoV2 ?_)
      exact ⟨rfl, rfl, rfl⟩
  · intro u w3 hO hj
    replace g0 := own_x g0 hR0 hO
    rw [put_whole] at hj
    have HR := Lib.hid hj
    clear hO hj HB
    go_wp2
    exact bodyPost_ret (blk_result rfl rfl HR.out Tryd.underlying34 rfl infoV2) rfl ⟨rfl, g0⟩
set_option maxRecDepth 100000 in
set_option maxHeartbeats 40000000 in
theorem awake_at (w : World) (HT : Hid (AngW.Tab w)) (HBT : Hid (BuiW.Tab w)) (HS : Hid (Sds w)) :
    Calls Tryd.prog 12 #[] w fun r w' => r = .returned (.bool true) ∧ Own w w' := by
  have CJ := Lib.hid c_j
  have CK := Lib.hid c_k
  have CL := Lib.hid (show cz 33 (joV bdy st3 1) = cz 33 exL ∧ joE bdy st3 1 = 0 from ⟨rfl, c_l⟩)
  have CL1 := Lib.hid c_l1
  have CL2 := Lib.hid c_l2
  have CL3 := Lib.hid c_l3
  have CLO := Lib.hid c_lo
  have CE := Lib.hid c_end
  have CE6 := Lib.hid c_end6
  have CDS := Lib.hid c_ds
  generalize exL = jl at *
  have g0 : Own w w := Own.refl w
  go_enter Tryd.func12, Tryd.ntmps12
  go_upto_region 2 with (first | (go_at_call 39; with_reducible refine (body_at _).mono ?_; rintro r w1 ⟨rfl, hg⟩; replace g0 := g0.trans hg; clear hg) | (go_at_call 40; with_reducible refine (straight_at _).mono ?_; rintro r w2 ⟨rfl, hg⟩; replace g0 := g0.trans hg; clear hg) | (go_at_call 10; with_reducible refine (jof_at bdy st1 exJ 3 0 _ (Lib.hid (tab_own HT.out g0)) (Lib.hid (HBT.out.own g0)) (Lib.hid (HS.out.own g0)) CJ).mono ?_; rintro r w3 ⟨rfl, hg⟩; replace g0 := g0.trans hg; clear hg) | ((with_reducible show wpList _ _ _ (⟨_, .store 36 (.tmp 1) (.tmp 19), _, _, _, none⟩ :: _) _ _); refine wpList_store_row rfl 36 (.tmp 1) (.tmp 19) rfl _ (cz 33 (exJ)) rfl rfl 36 _ (heap_new _ _) infoJ rfl (cz_one _ _) ?_; rw [World.setRow_alloc_new]))
  obtain ⟨w4, A, hW, hBq, hb, hg, Ag⟩ := blk_new w3 (cz 33 exJ) 36
  rw [hW, hBq]
  have HA := Lib.hid hb
  replace g0 := g0.trans hg
  clear hW hBq hb hg
  clear Ag
  go_upto_region 3 with (first | (go_at_call 41; refine (vec_at _ _ _ _).mono ?_; rintro r w5 ⟨rfl, hg⟩; replace g0 := g0.trans hg; replace HA := Lib.hid (HA.out.own hg); clear hg) | ((with_reducible show wpList _ _ _ (⟨_, .build 36 _, _, _, _, _⟩ :: _) _ _); refine wpList_build_as rfl 36 [(0, .tmp 21), (1, .tmp 22), (2, .tmp 23)] rfl [(0, .agg #[.int .i64 0, .int .i64 0, .int .i64 900]), (1, .agg #[.int .i64 0, .int .i64 0, .int .i64 1400]), (2, .agg #[.int .i64 0, .int .i64 0, .int .i64 1550])] rfl (cz 33 (put (put (put nul 0 3 (l3 0 0 900)) 3 3 (l3 0 0 1400)) 6 3 (l3 0 0 1550))) (bld_jo3 _ _ _ _ _ _ _ _ _) ?_) | ((with_reducible show wpList _ _ _ (⟨_, .store 36 (.tmp 3) (.tmp 24), _, _, _, none⟩ :: _) _ _); refine wpList_store_row rfl 36 (.tmp 3) (.tmp 24) rfl _ (cz 33 (put (put (put nul 0 3 (l3 0 0 900)) 3 3 (l3 0 0 1400)) 6 3 (l3 0 0 1550))) rfl rfl 36 _ (heap_new _ _) infoJ rfl (cz_one _ _) ?_; rw [World.setRow_alloc_new]))
  obtain ⟨w6, B, hW, hBq, hb, hg, Bg⟩ := blk_new w5 (cz 33 (put (put (put nul 0 3 (l3 0 0 900)) 3 3 (l3 0 0 1400)) 6 3 (l3 0 0 1550))) 36
  have hAB := Nat.ne_of_lt (Nat.lt_of_lt_of_le HA.out.lt Bg)
  have hB0 : w.heap.size ≤ B := Nat.le_trans g0.size Bg
  rw [hW, hBq]
  have HB := Lib.hid hb
  replace g0 := g0.trans hg
  replace HA := Lib.hid (HA.out.own hg)
  clear hW hBq hb hg
  clear Bg
  go_upto_region 4 with (first | (go_at_call 41; refine (vec_at _ _ _ _).mono ?_; rintro r w7 ⟨rfl, hg⟩; replace g0 := g0.trans hg; replace HA := Lib.hid (HA.out.own hg); replace HB := Lib.hid (HB.out.own hg); clear hg) | ((with_reducible show wpList _ _ _ (⟨_, .build 34 _, _, _, _, _⟩ :: _) _ _); refine wpList_build_as rfl 34 [(0, .tmp 25), (1, .tmp 26)] rfl [(0, .agg #[.int .i64 (-100), .int .i64 0, .int .i64 900]), (1, .agg #[.int .i64 100, .int .i64 0, .int .i64 900])] rfl (cz 6 (put (put nul 0 3 (l3 (-100) 0 900)) 3 3 (l3 100 0 900))) (bld_v2 _ _ _ _ _ _) ?_) | ((with_reducible show wpList _ _ _ (⟨_, .store 34 (.tmp 28) (.tmp 27), _, _, _, none⟩ :: _) _ _); refine wpList_store_part rfl 34 (.tmp 28) (.tmp 27) rfl B (9) 6 (put (put nul 0 3 (l3 (-100) 0 900)) 3 3 (l3 100 0 900)) rfl (cz 6 (put (put nul 0 3 (l3 (-100) 0 900)) 3 3 (l3 100 0 900))) rfl rfl HB.out (by omega) infoV2 ?_))
  have hb9 := HB.out.row (cz 33 (put (put (put (put nul 0 3 (l3 0 0 900)) 3 3 (l3 0 0 1400)) 6 3 (l3 0 0 1550)) 9 6 (put (put nul 0 3 (l3 (-100) 0 900)) 3 3 (l3 100 0 900))))
  have h9HA := HA.out.rowfar hAB (cz 33 (put (put (put (put nul 0 3 (l3 0 0 900)) 3 3 (l3 0 0 1400)) 6 3 (l3 0 0 1550)) 9 6 (put (put nul 0 3 (l3 (-100) 0 900)) 3 3 (l3 100 0 900))))
  replace g0 := own_setRow g0 hB0 (cz 33 (put (put (put (put nul 0 3 (l3 0 0 900)) 3 3 (l3 0 0 1400)) 6 3 (l3 0 0 1550)) 9 6 (put (put nul 0 3 (l3 (-100) 0 900)) 3 3 (l3 100 0 900))))
  clear HB HA
  generalize w7.setRow B (cz 33 (put (put (put (put nul 0 3 (l3 0 0 900)) 3 3 (l3 0 0 1400)) 6 3 (l3 0 0 1550)) 9 6 (put (put nul 0 3 (l3 (-100) 0 900)) 3 3 (l3 100 0 900)))) = w8 at *
  have HB := Lib.hid hb9
  have HA := Lib.hid h9HA
  clear hb9 h9HA
  generalize hX4 : (put (put (put (put nul 0 3 (l3 0 0 900)) 3 3 (l3 0 0 1400)) 6 3 (l3 0 0 1550)) 9 6 (put (put nul 0 3 (l3 (-100) 0 900)) 3 3 (l3 100 0 900))) = X4 at *
  go_upto_region 5 with (first | (go_at_call 41; refine (vec_at _ _ _ _).mono ?_; rintro r w9 ⟨rfl, hg⟩; replace g0 := g0.trans hg; replace HA := Lib.hid (HA.out.own hg); replace HB := Lib.hid (HB.out.own hg); clear hg) | ((with_reducible show wpList _ _ _ (⟨_, .build 34 _, _, _, _, _⟩ :: _) _ _); refine wpList_build_as rfl 34 [(0, .tmp 29), (1, .tmp 30)] rfl [(0, .agg #[.int .i64 (-100), .int .i64 0, .int .i64 0]), (1, .agg #[.int .i64 100, .int .i64 0, .int .i64 0])] rfl (cz 6 (put (put nul 0 3 (l3 (-100) 0 0)) 3 3 (l3 100 0 0))) (bld_v2 _ _ _ _ _ _) ?_) | ((with_reducible show wpList _ _ _ (⟨_, .store 34 (.tmp 32) (.tmp 31), _, _, _, none⟩ :: _) _ _); refine wpList_store_part rfl 34 (.tmp 32) (.tmp 31) rfl B (27) 6 (put (put nul 0 3 (l3 (-100) 0 0)) 3 3 (l3 100 0 0)) rfl (cz 6 (put (put nul 0 3 (l3 (-100) 0 0)) 3 3 (l3 100 0 0))) rfl rfl HB.out (by omega) infoV2 ?_))
  have hb9 := HB.out.row (cz 33 (put (X4) 27 6 (put (put nul 0 3 (l3 (-100) 0 0)) 3 3 (l3 100 0 0))))
  have h9HA := HA.out.rowfar hAB (cz 33 (put (X4) 27 6 (put (put nul 0 3 (l3 (-100) 0 0)) 3 3 (l3 100 0 0))))
  replace g0 := own_setRow g0 hB0 (cz 33 (put (X4) 27 6 (put (put nul 0 3 (l3 (-100) 0 0)) 3 3 (l3 100 0 0))))
  clear HB HA
  generalize w9.setRow B (cz 33 (put (X4) 27 6 (put (put nul 0 3 (l3 (-100) 0 0)) 3 3 (l3 100 0 0)))) = w10 at *
  have HB := Lib.hid hb9
  have HA := Lib.hid h9HA
  clear hb9 h9HA
  generalize hX5 : (put (X4) 27 6 (put (put nul 0 3 (l3 (-100) 0 0)) 3 3 (l3 100 0 0))) = X5 at *
  go_upto_region 6 with (first | (go_at_call 41; refine (vec_at _ _ _ _).mono ?_; rintro r w11 ⟨rfl, hg⟩; replace g0 := g0.trans hg; replace HA := Lib.hid (HA.out.own hg); replace HB := Lib.hid (HB.out.own hg); clear hg) | ((with_reducible show wpList _ _ _ (⟨_, .build 34 _, _, _, _, _⟩ :: _) _ _); refine wpList_build_as rfl 34 [(0, .tmp 33), (1, .tmp 34)] rfl [(0, .agg #[.int .i64 (-180), .int .i64 0, .int .i64 1400]), (1, .agg #[.int .i64 180, .int .i64 0, .int .i64 1400])] rfl (cz 6 (put (put nul 0 3 (l3 (-180) 0 1400)) 3 3 (l3 180 0 1400))) (bld_v2 _ _ _ _ _ _) ?_) | ((with_reducible show wpList _ _ _ (⟨_, .store 34 (.tmp 36) (.tmp 35), _, _, _, none⟩ :: _) _ _); refine wpList_store_part rfl 34 (.tmp 36) (.tmp 35) rfl B (15) 6 (put (put nul 0 3 (l3 (-180) 0 1400)) 3 3 (l3 180 0 1400)) rfl (cz 6 (put (put nul 0 3 (l3 (-180) 0 1400)) 3 3 (l3 180 0 1400))) rfl rfl HB.out (by omega) infoV2 ?_))
  have hb9 := HB.out.row (cz 33 (put (X5) 15 6 (put (put nul 0 3 (l3 (-180) 0 1400)) 3 3 (l3 180 0 1400))))
  have h9HA := HA.out.rowfar hAB (cz 33 (put (X5) 15 6 (put (put nul 0 3 (l3 (-180) 0 1400)) 3 3 (l3 180 0 1400))))
  replace g0 := own_setRow g0 hB0 (cz 33 (put (X5) 15 6 (put (put nul 0 3 (l3 (-180) 0 1400)) 3 3 (l3 180 0 1400))))
  clear HB HA
  generalize w11.setRow B (cz 33 (put (X5) 15 6 (put (put nul 0 3 (l3 (-180) 0 1400)) 3 3 (l3 180 0 1400)))) = w12 at *
  have HB := Lib.hid hb9
  have HA := Lib.hid h9HA
  clear hb9 h9HA
  generalize hX6 : (put (X5) 15 6 (put (put nul 0 3 (l3 (-180) 0 1400)) 3 3 (l3 180 0 1400))) = X6 at *
  go_upto_region 7 with (first | (go_at_call 41; refine (vec_at _ _ _ _).mono ?_; rintro r w13 ⟨rfl, hg⟩; replace g0 := g0.trans hg; replace HA := Lib.hid (HA.out.own hg); replace HB := Lib.hid (HB.out.own hg); clear hg) | ((with_reducible show wpList _ _ _ (⟨_, .build 34 _, _, _, _, _⟩ :: _) _ _); refine wpList_build_as rfl 34 [(0, .tmp 37), (1, .tmp 38)] rfl [(0, .agg #[.int .i64 (-180), .int .i64 0, .int .i64 700]), (1, .agg #[.int .i64 180, .int .i64 0, .int .i64 700])] rfl (cz 6 (put (put nul 0 3 (l3 (-180) 0 700)) 3 3 (l3 180 0 700))) (bld_v2 _ _ _ _ _ _) ?_) | ((with_reducible show wpList _ _ _ (⟨_, .store 34 (.tmp 40) (.tmp 39), _, _, _, none⟩ :: _) _ _); refine wpList_store_part rfl 34 (.tmp 40) (.tmp 39) rfl B (21) 6 (put (put nul 0 3 (l3 (-180) 0 700)) 3 3 (l3 180 0 700)) rfl (cz 6 (put (put nul 0 3 (l3 (-180) 0 700)) 3 3 (l3 180 0 700))) rfl rfl HB.out (by omega) infoV2 ?_))
  have hb9 := HB.out.row (cz 33 (put (X6) 21 6 (put (put nul 0 3 (l3 (-180) 0 700)) 3 3 (l3 180 0 700))))
  have h9HA := HA.out.rowfar hAB (cz 33 (put (X6) 21 6 (put (put nul 0 3 (l3 (-180) 0 700)) 3 3 (l3 180 0 700))))
  replace g0 := own_setRow g0 hB0 (cz 33 (put (X6) 21 6 (put (put nul 0 3 (l3 (-180) 0 700)) 3 3 (l3 180 0 700))))
  clear HB HA
  generalize w13.setRow B (cz 33 (put (X6) 21 6 (put (put nul 0 3 (l3 (-180) 0 700)) 3 3 (l3 180 0 700)))) = w14 at *
  have HB := Lib.hid hb9
  have HA := Lib.hid h9HA
  clear hb9 h9HA
  generalize hX7 : (put (X6) 21 6 (put (put nul 0 3 (l3 (-180) 0 700)) 3 3 (l3 180 0 700))) = X7 at *
  have hB : cz 33 X7 = cz 33 exJ := by
    subst hX7
    subst hX6
    subst hX5
    subst hX4
    exact cz_congr (by decide +kernel)
  rw [hB] at HB
  clear hX4 hX5 hX6 hX7 hB
  go_upto_region 9 with (first | ((with_reducible show wpList _ _ _ (⟨_, .load 36 (.tmp 1), _, _, _, none⟩ :: _) _ _); refine wpList_load_row rfl 36 (.tmp 1) rfl A rfl 36 _ (0, 0) _ HA.out.raw Tryd.underlying36 rfl infoJ ?_) | ((with_reducible show wpList _ _ _ (⟨_, .load 36 (.tmp 1), _, _, _, some _⟩ :: _) _ _); refine wpList_load_row_g rfl 36 (.tmp 1) rfl A rfl 36 _ (0, 0) _ HA.out.raw Tryd.underlying36 rfl infoJ ?_) | ((with_reducible show wpList _ _ _ (⟨_, .load 36 (.tmp 3), _, _, _, none⟩ :: _) _ _); refine wpList_load_row rfl 36 (.tmp 3) rfl B rfl 36 _ (0, 0) _ HB.out.raw Tryd.underlying36 rfl infoJ ?_) | (go_at_call 16; with_reducible refine (jlow_at exJ 0 _ (Lib.hid (HS.out.own g0)) CLO).mono ?_; rintro r w15 ⟨rfl, hg⟩; replace g0 := g0.trans hg; replace HA := Lib.hid (HA.out.own hg); replace HB := Lib.hid (HB.out.own hg); clear hg))
  clear HA
  go_upto_region 10 with (first | (go_at_call 40; with_reducible refine (straight_at _).mono ?_; rintro r w16 ⟨rfl, hg⟩; replace g0 := g0.trans hg; replace HB := Lib.hid (HB.out.own hg); clear hg) | ((with_reducible show wpList _ _ _ (⟨_, .store 31 (.tmp 4) (.tmp 53), _, _, _, none⟩ :: _) _ _); refine wpList_store_row rfl 31 (.tmp 4) (.tmp 53) rfl _ (cz 22 (st1)) rfl rfl 31 _ (heap_new _ _) infoP rfl (cz_one _ _) ?_; rw [World.setRow_alloc_new]))
  obtain ⟨w17, D, hW, hBq, hb, hg, Dg⟩ := blk_new w16 (cz 22 st1) 31
  have hBD := Nat.ne_of_lt (Nat.lt_of_lt_of_le HB.out.lt Dg)
  have hD0 : w.heap.size ≤ D := Nat.le_trans g0.size Dg
  rw [hW, hBq]
  have HD := Lib.hid hb
  replace g0 := g0.trans hg
  replace HB := Lib.hid (HB.out.own hg)
  clear hW hBq hb hg
  clear Dg
  go_upto_region 11 with ((with_reducible show wpList _ _ _ (⟨_, .store 28 (.tmp 56) (.tmp 54), _, _, _, none⟩ :: _) _ _); refine wpList_store_part rfl 28 (.tmp 56) (.tmp 54) rfl D (16) 3 (l3 64 0 2) rfl (#[.int .i64 64, .int .i64 0, .int .i64 2]) rfl rfl HD.out (by omega) infoA ?_)
  have hb9 := HD.out.row (cz 22 (put st1 16 3 (l3 64 0 2)))
  have h9HB := HB.out.rowfar hBD (cz 22 (put st1 16 3 (l3 64 0 2)))
  replace g0 := own_setRow g0 hD0 (cz 22 (put st1 16 3 (l3 64 0 2)))
  clear HD HB
  generalize w17.setRow D (cz 22 (put st1 16 3 (l3 64 0 2))) = w18 at *
  have HD := Lib.hid hb9
  have HB := Lib.hid h9HB
  clear hb9 h9HB
  rw [show cz 22 (put st1 16 3 (l3 64 0 2)) = cz 22 st2 from cz_congr (by decide +kernel)] at HD
  go_frame
  refine RegD.region_dutyN [58, 59, 60, 57, 61, 62, 5, 6] 5 6 7 (RegI.upd (RegI.upd (RegI.upd (RegI.upd (RegI.upd (RegI.upd (RegI.upd (fun _ => undef) 58 (.agg (cz 15 bdy))) 59 (.agg (cz 22 st2))) 60 (.tuple #[.agg (cz 33 exK), .int .i64 0])) 57 (.tuple #[.agg (cz 33 exK), .int .i64 0])) 61 (.agg (cz 33 exK))) 62 (.int .i64 0)) 6 (.int .i64 0)) (cz 33 nul) (cz 33 exK) 36 (by kernel_rfl) (by kernel_rfl) (by decide) (by intro d hd; simp at hd; simp; omega) ?_
  simp only [RegD.FF, RegI.FX, RegI.upd, List.foldl_cons, List.foldl_nil, List.mem_cons, List.not_mem_nil, if_true, if_false, Nat.reduceEqDiff, or_false]
  simp only [List.setIfInBounds_toArray, List.set_cons_succ, List.set_cons_zero]
  refine And.intro ?hs3 ?he3
  case hs3 =>
    refine And.intro ?s3_0 (And.intro ?s3_1 (And.intro ?s3_2 (And.intro ?s3_3 (And.intro ?s3_4 (And.intro ?s3_5 (And.intro ?s3_6 (And.intro ?s3_7 (And.intro ?s3_8 (trivial)))))))))
    case s3_0 =>
      refine RegD.stepN_det (by decide) (by decide) (by simp) (fun u w1 hO => ?_)
      go_wp2_with (go_at_call 39; with_reducible refine (body_at _).mono ?_; rintro r w2 ⟨rfl, hg⟩)
      exact ⟨rfl, rfl, rfl, hg⟩
    case s3_1 =>
      refine RegD.stepN_det (by decide) (by decide) (by simp) (fun u w1 hO => ?_)
      have HB9 := Lib.hid (HD.out.own hO)
      go_wp2_with ((with_reducible show wpList _ _ _ (⟨_, .load 31 (.tmp 4), _, _, _, none⟩ :: _) _ _); refine wpList_load_row rfl 31 (.tmp 4) rfl D rfl 31 _ (0, 0) _ HB9.out.raw Tryd.underlying31 rfl infoP ?_)
      exact ⟨rfl, rfl, rfl, Own.refl _⟩
    case s3_2 =>
      refine RegD.stepN_det (by decide) (by decide) (by simp) (fun u w1 hO => ?_)
      go_wp2_with (go_at_call 10; with_reducible refine (jof_at bdy st2 exK 3 0 _ (Lib.hid (tab_own HT.out (g0.trans hO))) (Lib.hid (HBT.out.own (g0.trans hO))) (Lib.hid (HS.out.own (g0.trans hO))) CK).mono ?_; rintro r w2 ⟨rfl, hg⟩)
      exact ⟨rfl, rfl, rfl, hg⟩
    case s3_3 =>
      refine RegD.stepN_det (by decide) (by decide) (by simp) (fun u w1 hO => ?_)
      go_wp2
      exact ⟨rfl, rfl, rfl, Own.refl _⟩
    case s3_4 =>
      refine RegD.stepN_det (by decide) (by decide) (by simp) (fun u w1 hO => ?_)
      go_wp2
      exact ⟨rfl, rfl, rfl, Own.refl _⟩
    case s3_5 =>
      refine RegD.stepN_det (by decide) (by decide) (by simp) (fun u w1 hO => ?_)
      go_wp2
      exact ⟨rfl, rfl, rfl, Own.refl _⟩
    case s3_6 =>
      refine RegD.stepN_alloc rfl (fun u w1 hO => ?_)
      go_wp2
      exact ⟨rfl, rfl, rfl, rfl⟩
    case s3_7 =>
      refine RegD.stepN_store (by decide) rfl (by kernel_rfl) (fun u w1 N hO hu hN => ?_)
      have HN := Lib.hid hN
      simp only [hu]
      clear hN
      go_wp2_with ((with_reducible show wpList _ _ _ (⟨_, .store 36 (.tmp 5) (.tmp 61), _, _, _, none⟩ :: _) _ _); refine wpList_store_row rfl 36 (.tmp 5) (.tmp 61) rfl N (cz 33 (exK)) rfl rfl 36 _ HN.out.raw infoJ rfl (cz_one _ _) ?_)
      exact ⟨rfl, rfl, rfl⟩
    case s3_8 =>
      refine RegD.stepN_det (by decide) (by decide) (by simp) (fun u w1 hO => ?_)
      go_wp2
      exact ⟨rfl, rfl, rfl, Own.refl _⟩
  intro u w19 E hO hu hN0 hN
  simp only [hu]
  replace g0 := g0.trans hO
  replace HB := Lib.hid (HB.out.own hO)
  replace HD := Lib.hid (HD.out.own hO)
  have HE := Lib.hid hN
  clear hO hu hN0 hN
  go_upto_region 12 with (fail)
  refine RegD.region_duty [63, 64, 65, 66, 67, 68, 69, 70, 71] (RegI.upd (RegI.upd (RegI.upd (RegI.upd (RegI.upd (RegI.upd (RegI.upd (RegI.upd (RegI.upd (fun _ => undef) 63 (.pointer (some ⟨E, 21, none⟩))) 64 (.pointer (some ⟨E, 24, none⟩))) 65 (.agg #[.int .i64 705, .int .i64 0, .int .i64 1400])) 66 (.agg #[.int .i64 705, .int .i64 0, .int .i64 1400])) 67 (.bool false)) 68 (.bool false)) 69 (.int .i64 0)) 70 (.bool false)) 71 (.bool false)) (by kernel_rfl) (by kernel_rfl) (by intro d hd; simp at hd; simp; omega) ?_
  simp only [RegD.FF, RegI.FX, RegI.upd, List.foldl_cons, List.foldl_nil, List.not_mem_nil, if_true, if_false, Nat.reduceEqDiff]
  simp only [List.setIfInBounds_toArray, List.set_cons_succ, List.set_cons_zero]
  refine And.intro ?hs4 ?he4
  case hs4 =>
    refine And.intro ?s4_0 (And.intro ?s4_1 (And.intro ?s4_2 (And.intro ?s4_3 (And.intro ?s4_4 (And.intro ?s4_5 (And.intro ?s4_6 (And.intro ?s4_7 (And.intro ?s4_8 (trivial)))))))))
    case s4_0 =>
      intro u w1 hO
      go_wp2
      exact ⟨rfl, rfl, rfl, Own.refl _⟩
    case s4_1 =>
      intro u w1 hO
      go_wp2
      exact ⟨rfl, rfl, rfl, Own.refl _⟩
    case s4_2 =>
      intro u w1 hO
      have HB9 := Lib.hid (HE.out.own hO)
      go_wp2_with ((with_reducible show wpList _ _ _ (⟨_, .load 33 (.tmp 64), _, _, _, none⟩ :: _) _ _); refine wpList_load_part rfl 33 (.tmp 64) rfl E (24) rfl 3 HB9.out (by omega) (#[.int .i64 705, .int .i64 0, .int .i64 1400]) rfl _ Tryd.underlying33 rfl infoV ?_)
      exact ⟨rfl, rfl, rfl, Own.refl _⟩
    case s4_3 =>
      intro u w1 hO
      go_wp2_with (go_at_call 41; with_reducible refine (vec_at _ _ _ _).mono ?_; rintro r w2 ⟨rfl, hg⟩)
      exact ⟨rfl, rfl, rfl, hg⟩
    case s4_4 =>
      intro u w1 hO
      go_wp2
      exact ⟨rfl, rfl, rfl, Own.refl _⟩
    case s4_5 =>
      intro u w1 hO
      go_wp2
      exact ⟨rfl, rfl, rfl, Own.refl _⟩
    case s4_6 =>
      intro u w1 hO
      go_wp2
      exact ⟨rfl, rfl, rfl, Own.refl _⟩
    case s4_7 =>
      intro u w1 hO
      go_wp2
      exact ⟨rfl, rfl, rfl, Own.refl _⟩
    case s4_8 =>
      intro u w1 hO
      go_wp2
      exact ⟨rfl, rfl, rfl, Own.refl _⟩
  intro u w20 hO
  replace g0 := g0.trans hO
  replace HB := Lib.hid (HB.out.own hO)
  replace HD := Lib.hid (HD.out.own hO)
  clear hO HE
  have kc := blk_num HD.out (i := 2) (by omega)
  have fc := HD.out.frozen 2
  go_upto_region 15 with (fail)
  have hd : Blk (w20.setCell ⟨D, 2, none⟩ (.int .i64 64)) D (cz 22 (ups (st2) 2 64)) 31 := blk_ups HD.out (by omega) 64
  have hb := HB.out.far (p := ⟨D, 2, none⟩) hBD (.int .i64 64)
  replace g0 := g0.setCell (p := ⟨D, 2, none⟩) hD0 (.int .i64 64)
  clear HB HD kc fc
  generalize w20.setCell ⟨D, 2, none⟩ (.int .i64 64) = w21 at *
  have HB := Lib.hid hb
  have HD := Lib.hid hd
  clear hb hd
  have kc := blk_num HD.out (i := 3) (by omega)
  have fc := HD.out.frozen 3
  go_upto_region 16 with (fail)
  have hd : Blk (w21.setCell ⟨D, 3, none⟩ (.int .i64 1)) D (cz 22 (ups (ups (st2) 2 64) 3 1)) 31 := blk_ups HD.out (by omega) 1
  have hb := HB.out.far (p := ⟨D, 3, none⟩) hBD (.int .i64 1)
  replace g0 := g0.setCell (p := ⟨D, 3, none⟩) hD0 (.int .i64 1)
  clear HB HD kc fc
  generalize w21.setCell ⟨D, 3, none⟩ (.int .i64 1) = w22 at *
  have HB := Lib.hid hb
  have HD := Lib.hid hd
  clear hb hd
  have kc := blk_num HD.out (i := 18) (by omega)
  have fc := HD.out.frozen 18
  go_upto_region 17 with (fail)
  have hd : Blk (w22.setCell ⟨D, 18, none⟩ (.int .i64 0)) D (cz 22 (ups (ups (ups (st2) 2 64) 3 1) 18 0)) 31 := blk_ups HD.out (by omega) 0
  have hb := HB.out.far (p := ⟨D, 18, none⟩) hBD (.int .i64 0)
  replace g0 := g0.setCell (p := ⟨D, 18, none⟩) hD0 (.int .i64 0)
  clear HB HD kc fc
  generalize w22.setCell ⟨D, 18, none⟩ (.int .i64 0) = w23 at *
  have HB := Lib.hid hb
  have HD := Lib.hid hd
  clear hb hd
  rw [show cz 22 (ups (ups (ups (st2) 2 64) 3 1) 18 0) = cz 22 st3 from cz_congr (by decide +kernel)] at HD
  (first | go_frame | skip)
  refine RegD.region_dutyN [78, 79, 80, 77, 81, 82, 7, 8] 7 6 7 (RegI.upd (RegI.upd (RegI.upd (RegI.upd (RegI.upd (RegI.upd (RegI.upd (fun _ => undef) 78 (.agg (cz 15 bdy))) 79 (.agg (cz 22 st3))) 80 (.tuple #[.agg (cz 33 jl), .int .i64 0])) 77 (.tuple #[.agg (cz 33 jl), .int .i64 0])) 81 (.agg (cz 33 jl))) 82 (.int .i64 0)) 8 (.int .i64 0)) (cz 33 nul) (cz 33 jl) 36 (by kernel_rfl) (by kernel_rfl) (by decide) (by intro d hd; simp at hd; simp; omega) ?_
  simp only [RegD.FF, RegI.FX, RegI.upd, List.foldl_cons, List.foldl_nil, List.mem_cons, List.not_mem_nil, if_true, if_false, Nat.reduceEqDiff, or_false]
  simp only [List.setIfInBounds_toArray, List.set_cons_succ, List.set_cons_zero]
  refine And.intro ?hs5 ?he5
  case hs5 =>
    refine And.intro ?s5_0 (And.intro ?s5_1 (And.intro ?s5_2 (And.intro ?s5_3 (And.intro ?s5_4 (And.intro ?s5_5 (And.intro ?s5_6 (And.intro ?s5_7 (And.intro ?s5_8 (trivial)))))))))
    case s5_0 =>
      refine RegD.stepN_det (by decide) (by decide) (by simp) (fun u w1 hO => ?_)
      go_wp2_with (go_at_call 39; with_reducible refine (body_at _).mono ?_; rintro r w2 ⟨rfl, hg⟩)
      exact ⟨rfl, rfl, rfl, hg⟩
    case s5_1 =>
      refine RegD.stepN_det (by decide) (by decide) (by simp) (fun u w1 hO => ?_)
      have HB9 := Lib.hid (HD.out.own hO)
      go_wp2_with ((with_reducible show wpList _ _ _ (⟨_, .load 31 (.tmp 4), _, _, _, none⟩ :: _) _ _); refine wpList_load_row rfl 31 (.tmp 4) rfl D rfl 31 _ (0, 0) _ HB9.out.raw Tryd.underlying31 rfl infoP ?_)
      exact ⟨rfl, rfl, rfl, Own.refl _⟩
    case s5_2 =>
      refine RegD.stepN_det (by decide) (by decide) (by simp) (fun u w1 hO => ?_)
      go_wp2_with (go_at_call 10; with_reducible refine (jof_at bdy st3 jl 1 0 _ (Lib.hid (tab_own HT.out (g0.trans hO))) (Lib.hid (HBT.out.own (g0.trans hO))) (Lib.hid (HS.out.own (g0.trans hO))) CL).mono ?_; rintro r w2 ⟨rfl, hg⟩)
      exact ⟨rfl, rfl, rfl, hg⟩
    case s5_3 =>
      refine RegD.stepN_det (by decide) (by decide) (by simp) (fun u w1 hO => ?_)
      go_wp2
      exact ⟨rfl, rfl, rfl, Own.refl _⟩
    case s5_4 =>
      refine RegD.stepN_det (by decide) (by decide) (by simp) (fun u w1 hO => ?_)
      go_wp2
      exact ⟨rfl, rfl, rfl, Own.refl _⟩
    case s5_5 =>
      refine RegD.stepN_det (by decide) (by decide) (by simp) (fun u w1 hO => ?_)
      go_wp2
      exact ⟨rfl, rfl, rfl, Own.refl _⟩
    case s5_6 =>
      refine RegD.stepN_alloc rfl (fun u w1 hO => ?_)
      go_wp2
      exact ⟨rfl, rfl, rfl, rfl⟩
    case s5_7 =>
      refine RegD.stepN_store (by decide) rfl (by kernel_rfl) (fun u w1 N hO hu hN => ?_)
      have HN := Lib.hid hN
      simp only [hu]
      clear hN
      go_wp2_with ((with_reducible show wpList _ _ _ (⟨_, .store 36 (.tmp 7) (.tmp 81), _, _, _, none⟩ :: _) _ _); refine wpList_store_row rfl 36 (.tmp 7) (.tmp 81) rfl N (cz 33 (jl)) rfl rfl 36 _ HN.out.raw infoJ rfl (cz_one _ _) ?_)
      exact ⟨rfl, rfl, rfl⟩
    case s5_8 =>
      refine RegD.stepN_det (by decide) (by decide) (by simp) (fun u w1 hO => ?_)
      go_wp2
      exact ⟨rfl, rfl, rfl, Own.refl _⟩
  intro u w24 F hO hu hN0 hN
  simp only [hu]
  replace g0 := g0.trans hO
  replace HB := Lib.hid (HB.out.own hO)
  have HF := Lib.hid hN
  clear hO hu hN0 hN
  clear HD
  go_upto_region 18 with (fail)
  refine RegD.region_duty [83, 84, 85, 86, 87, 88, 89, 90, 91, 92, 93, 94, 95, 96, 97, 98, 99, 100, 101, 102, 103, 104, 105] (RegI.upd (RegI.upd (RegI.upd (RegI.upd (RegI.upd (RegI.upd (RegI.upd (RegI.upd (RegI.upd (RegI.upd (RegI.upd (RegI.upd (RegI.upd (RegI.upd (RegI.upd (RegI.upd (RegI.upd (RegI.upd (RegI.upd (RegI.upd (RegI.upd (RegI.upd (RegI.upd (fun _ => undef) 83 (.pointer (some ⟨F, 9, none⟩))) 84 (.pointer (some ⟨F, 9, none⟩))) 85 (.agg #[.int .i64 0, .int .i64 100, .int .i64 908])) 86 (.agg #[.int .i64 0, .int .i64 100, .int .i64 908])) 87 (.bool false)) 88 (.bool false)) 89 (.pointer (some ⟨F, 21, none⟩))) 90 (.pointer (some ⟨F, 24, none⟩))) 91 (.agg #[.int .i64 0, .int .i64 (-880), .int .i64 1408])) 92 (.agg #[.int .i64 0, .int .i64 (-880), .int .i64 1408])) 93 (.bool false)) 94 (.bool false)) 95 (.bool false)) 96 (.pointer (some ⟨F, 27, none⟩))) 97 (.pointer (some ⟨F, 30, none⟩))) 98 (.agg #[.int .i64 0, .int .i64 (-100), .int .i64 8])) 99 (.agg #[.int .i64 0, .int .i64 (-100), .int .i64 8])) 100 (.bool false)) 101 (.bool false)) 102 (.bool false)) 103 (.int .i64 0)) 104 (.bool false)) 105 (.bool false)) (by kernel_rfl) (by kernel_rfl) (by intro d hd; simp at hd; simp; omega) ?_
  simp only [RegD.FF, RegI.FX, RegI.upd, List.foldl_cons, List.foldl_nil, List.not_mem_nil, if_true, if_false, Nat.reduceEqDiff]
  simp only [List.setIfInBounds_toArray, List.set_cons_succ, List.set_cons_zero]
  refine And.intro ?hs6 ?he6
  case hs6 =>
    refine And.intro ?s6_0 (And.intro ?s6_1 (And.intro ?s6_2 (And.intro ?s6_3 (And.intro ?s6_4 (And.intro ?s6_5 (And.intro ?s6_6 (And.intro ?s6_7 (And.intro ?s6_8 (And.intro ?s6_9 (And.intro ?s6_10 (And.intro ?s6_11 (And.intro ?s6_12 (And.intro ?s6_13 (And.intro ?s6_14 (And.intro ?s6_15 (And.intro ?s6_16 (And.intro ?s6_17 (And.intro ?s6_18 (And.intro ?s6_19 (And.intro ?s6_20 (And.intro ?s6_21 (And.intro ?s6_22 (trivial)))))))))))))))))))))))
    case s6_0 =>
      intro u w1 hO
      go_wp2
      exact ⟨rfl, rfl, rfl, Own.refl _⟩
    case s6_1 =>
      intro u w1 hO
      go_wp2
      exact ⟨rfl, rfl, rfl, Own.refl _⟩
    case s6_2 =>
      intro u w1 hO
      have HB9 := Lib.hid (HF.out.own hO)
      go_wp2_with ((with_reducible show wpList _ _ _ (⟨_, .load 33 (.tmp 84), _, _, _, none⟩ :: _) _ _); refine wpList_load_part rfl 33 (.tmp 84) rfl F (9) rfl 3 HB9.out (by omega) (#[.int .i64 0, .int .i64 100, .int .i64 908]) (pt_cz CL1.out) _ Tryd.underlying33 rfl infoV ?_)
      exact ⟨rfl, rfl, rfl, Own.refl _⟩
    case s6_3 =>
      intro u w1 hO
      go_wp2_with (go_at_call 41; with_reducible refine (vec_at _ _ _ _).mono ?_; rintro r w2 ⟨rfl, hg⟩)
      exact ⟨rfl, rfl, rfl, hg⟩
    case s6_4 =>
      intro u w1 hO
      go_wp2
      exact ⟨rfl, rfl, rfl, Own.refl _⟩
    case s6_5 =>
      intro u w1 hO
      go_wp2
      exact ⟨rfl, rfl, rfl, Own.refl _⟩
    case s6_6 =>
      intro u w1 hO
      go_wp2
      exact ⟨rfl, rfl, rfl, Own.refl _⟩
    case s6_7 =>
      intro u w1 hO
      go_wp2
      exact ⟨rfl, rfl, rfl, Own.refl _⟩
    case s6_8 =>
      intro u w1 hO
      have HB9 := Lib.hid (HF.out.own hO)
      go_wp2_with ((with_reducible show wpList _ _ _ (⟨_, .load 33 (.tmp 90), _, _, _, some _⟩ :: _) _ _); refine wpList_load_part_g rfl 33 (.tmp 90) rfl F (24) rfl 3 HB9.out (by omega) (#[.int .i64 0, .int .i64 (-880), .int .i64 1408]) (pt_cz CL2.out) _ Tryd.underlying33 rfl infoV ?_)
      exact ⟨rfl, rfl, rfl, Own.refl _⟩
    case s6_9 =>
      intro u w1 hO
      go_wp2_with (go_at_call 41; with_reducible refine (vec_at _ _ _ _).mono ?_; rintro r w2 ⟨rfl, hg⟩)
      exact ⟨rfl, rfl, rfl, hg⟩
    case s6_10 =>
      intro u w1 hO
      go_wp2
      exact ⟨rfl, rfl, rfl, Own.refl _⟩
    case s6_11 =>
      intro u w1 hO
      go_wp2
      exact ⟨rfl, rfl, rfl, Own.refl _⟩
    case s6_12 =>
      intro u w1 hO
      go_wp2
      exact ⟨rfl, rfl, rfl, Own.refl _⟩
    case s6_13 =>
      intro u w1 hO
      go_wp2
      exact ⟨rfl, rfl, rfl, Own.refl _⟩
    case s6_14 =>
      intro u w1 hO
      go_wp2
      exact ⟨rfl, rfl, rfl, Own.refl _⟩
    case s6_15 =>
      intro u w1 hO
      have HB9 := Lib.hid (HF.out.own hO)
      go_wp2_with ((with_reducible show wpList _ _ _ (⟨_, .load 33 (.tmp 97), _, _, _, some _⟩ :: _) _ _); refine wpList_load_part_g rfl 33 (.tmp 97) rfl F (30) rfl 3 HB9.out (by omega) (#[.int .i64 0, .int .i64 (-100), .int .i64 8]) (pt_cz CL3.out) _ Tryd.underlying33 rfl infoV ?_)
      exact ⟨rfl, rfl, rfl, Own.refl _⟩
    case s6_16 =>
      intro u w1 hO
      go_wp2_with (go_at_call 41; with_reducible refine (vec_at _ _ _ _).mono ?_; rintro r w2 ⟨rfl, hg⟩)
      exact ⟨rfl, rfl, rfl, hg⟩
    case s6_17 =>
      intro u w1 hO
      go_wp2
      exact ⟨rfl, rfl, rfl, Own.refl _⟩
    case s6_18 =>
      intro u w1 hO
      go_wp2
      exact ⟨rfl, rfl, rfl, Own.refl _⟩
    case s6_19 =>
      intro u w1 hO
      go_wp2
      exact ⟨rfl, rfl, rfl, Own.refl _⟩
    case s6_20 =>
      intro u w1 hO
      go_wp2
      exact ⟨rfl, rfl, rfl, Own.refl _⟩
    case s6_21 =>
      intro u w1 hO
      go_wp2
      exact ⟨rfl, rfl, rfl, Own.refl _⟩
    case s6_22 =>
      intro u w1 hO
      go_wp2
      exact ⟨rfl, rfl, rfl, Own.refl _⟩
  intro u w25 hO
  replace g0 := g0.trans hO
  replace HB := Lib.hid (HB.out.own hO)
  clear hO HF
  go_upto_region 21 with (first | ((with_reducible show wpList _ _ _ (⟨_, .load 36 (.tmp 3), _, _, _, none⟩ :: _) _ _); refine wpList_load_row rfl 36 (.tmp 3) rfl B rfl 36 _ (0, 0) _ HB.out.raw Tryd.underlying36 rfl infoJ ?_) | (go_at_call 24; with_reducible refine (jend_at exJ 2 0 0 1400 0 _ (Lib.hid (HS.out.own g0)) CE).mono ?_; rintro r w26 ⟨rfl, hg⟩; replace g0 := g0.trans hg; replace HB := Lib.hid (HB.out.own hg); clear hg) | ((with_reducible show wpList _ _ _ (⟨_, .store 33 (.tmp 9) (.tmp 109), _, _, _, none⟩ :: _) _ _); refine wpList_store_row rfl 33 (.tmp 9) (.tmp 109) rfl _ #[.int .i64 0, .int .i64 0, .int .i64 1400] rfl rfl 33 _ (heap_new _ _) infoV rfl (by simp [Value.oneCell']) ?_; rw [World.setRow_alloc_new]))
  obtain ⟨w27, G, hW, hBq, hb, hg, Gg⟩ := blk_new w26 (#[.int .i64 0, .int .i64 0, .int .i64 1400]) 33
  rw [hW, hBq]
  have HG := Lib.hid hb
  replace g0 := g0.trans hg
  replace HB := Lib.hid (HB.out.own hg)
  clear hW hBq hb hg
  clear Gg
  go_upto_region 22 with (first | ((with_reducible show wpList _ _ _ (⟨_, .load 36 (.tmp 3), _, _, _, none⟩ :: _) _ _); refine wpList_load_row rfl 36 (.tmp 3) rfl B rfl 36 _ (0, 0) _ HB.out.raw Tryd.underlying36 rfl infoJ ?_) | (go_at_call 24; with_reducible refine (jend_at exJ 6 0 0 0 9 _ (Lib.hid (HS.out.own g0)) CE6).mono ?_; rintro r w28 ⟨rfl, hg⟩; replace g0 := g0.trans hg; replace HG := Lib.hid (HG.out.own hg); clear hg) | ((with_reducible show wpList _ _ _ (⟨_, .store 33 (.tmp 11) (.tmp 114), _, _, _, none⟩ :: _) _ _); refine wpList_store_row rfl 33 (.tmp 11) (.tmp 114) rfl _ #[.int .i64 0, .int .i64 0, .int .i64 0] rfl rfl 33 _ (heap_new _ _) infoV rfl (by simp [Value.oneCell']) ?_; rw [World.setRow_alloc_new]))
  clear HB
  obtain ⟨w29, K, hW, hBq, hb, hg, Kg⟩ := blk_new w28 (#[.int .i64 0, .int .i64 0, .int .i64 0]) 33
  rw [hW, hBq]
  have HK := Lib.hid hb
  replace g0 := g0.trans hg
  replace HG := Lib.hid (HG.out.own hg)
  clear hW hBq hb hg
  clear Kg HK
  go_upto_region 23 with (first | (go_at_call 41; refine (vec_at _ _ _ _).mono ?_; rintro r w30 ⟨rfl, hg⟩; replace g0 := g0.trans hg; replace HG := Lib.hid (HG.out.own hg); clear hg) | (go_at_call 23; with_reducible refine (jds_at 0 0 0 1 2 3 14 0 _ CDS).mono ?_; rintro r w31 ⟨rfl, hg⟩; replace g0 := g0.trans hg; replace HG := Lib.hid (HG.out.own hg); clear hg))
  refine RegD.region_duty [122, 123, 124, 125, 126, 127, 128, 129, 130, 131, 132, 133, 134, 135, 136, 137, 138, 139, 140, 0] (RegI.upd (RegI.upd (RegI.upd (RegI.upd (RegI.upd (RegI.upd (RegI.upd (RegI.upd (RegI.upd (RegI.upd (RegI.upd (RegI.upd (RegI.upd (RegI.upd (RegI.upd (RegI.upd (RegI.upd (RegI.upd (RegI.upd (RegI.upd (fun _ => undef) 122 (.agg #[.int .i64 0, .int .i64 0, .int .i64 1400])) 123 (.agg #[.int .i64 0, .int .i64 0, .int .i64 1400])) 124 (.bool true)) 125 (.bool true)) 126 (.int .i64 0)) 127 (.bool true)) 128 (.bool true)) 129 (.bool true)) 130 (.int .i64 9)) 131 (.bool true)) 132 (.bool true)) 133 (.bool true)) 134 (.int .i64 14)) 135 (.bool true)) 136 (.bool true)) 137 (.bool true)) 138 (.int .i64 0)) 139 (.bool true)) 140 (.bool true)) 0 (.bool true)) (by kernel_rfl) (by kernel_rfl) (by intro d hd; simp at hd; simp; omega) ?_
  simp only [RegD.FF, RegI.FX, RegI.upd, List.foldl_cons, List.foldl_nil, List.not_mem_nil, if_true, if_false, Nat.reduceEqDiff]
  simp only [List.setIfInBounds_toArray, List.set_cons_succ, List.set_cons_zero]
  refine And.intro ?hs7 ?he7
  case hs7 =>
    refine And.intro ?s7_0 (And.intro ?s7_1 (And.intro ?s7_2 (And.intro ?s7_3 (And.intro ?s7_4 (And.intro ?s7_5 (And.intro ?s7_6 (And.intro ?s7_7 (And.intro ?s7_8 (And.intro ?s7_9 (And.intro ?s7_10 (And.intro ?s7_11 (And.intro ?s7_12 (And.intro ?s7_13 (And.intro ?s7_14 (And.intro ?s7_15 (And.intro ?s7_16 (And.intro ?s7_17 (And.intro ?s7_18 (And.intro ?s7_19 (trivial))))))))))))))))))))
    case s7_0 =>
      intro u w1 hO
      have HB9 := Lib.hid (HG.out.own hO)
      go_wp2_with ((with_reducible show wpList _ _ _ (⟨_, .load 33 (.tmp 9), _, _, _, none⟩ :: _) _ _); refine wpList_load_row rfl 33 (.tmp 9) rfl G rfl 33 _ (0, 0) _ HB9.out.raw Tryd.underlying33 rfl infoV ?_)
      exact ⟨rfl, rfl, rfl, Own.refl _⟩
    case s7_1 =>
      intro u w1 hO
      go_wp2_with (go_at_call 41; with_reducible refine (vec_at _ _ _ _).mono ?_; rintro r w2 ⟨rfl, hg⟩)
      exact ⟨rfl, rfl, rfl, hg⟩
    case s7_2 =>
      intro u w1 hO
      go_wp2
      exact ⟨rfl, rfl, rfl, Own.refl _⟩
    case s7_3 =>
      intro u w1 hO
      go_wp2
      exact ⟨rfl, rfl, rfl, Own.refl _⟩
    case s7_4 =>
      intro u w1 hO
      go_wp2
      exact ⟨rfl, rfl, rfl, Own.refl _⟩
    case s7_5 =>
      intro u w1 hO
      go_wp2
      exact ⟨rfl, rfl, rfl, Own.refl _⟩
    case s7_6 =>
      intro u w1 hO
      go_wp2
      exact ⟨rfl, rfl, rfl, Own.refl _⟩
    case s7_7 =>
      intro u w1 hO
      go_wp2
      exact ⟨rfl, rfl, rfl, Own.refl _⟩
    case s7_8 =>
      intro u w1 hO
      go_wp2
      exact ⟨rfl, rfl, rfl, Own.refl _⟩
    case s7_9 =>
      intro u w1 hO
      go_wp2
      exact ⟨rfl, rfl, rfl, Own.refl _⟩
    case s7_10 =>
      intro u w1 hO
      go_wp2
      exact ⟨rfl, rfl, rfl, Own.refl _⟩
    case s7_11 =>
      intro u w1 hO
      go_wp2
      exact ⟨rfl, rfl, rfl, Own.refl _⟩
    case s7_12 =>
      intro u w1 hO
      go_wp2
      exact ⟨rfl, rfl, rfl, Own.refl _⟩
    case s7_13 =>
      intro u w1 hO
      go_wp2
      exact ⟨rfl, rfl, rfl, Own.refl _⟩
    case s7_14 =>
      intro u w1 hO
      go_wp2
      exact ⟨rfl, rfl, rfl, Own.refl _⟩
    case s7_15 =>
      intro u w1 hO
      go_wp2
      exact ⟨rfl, rfl, rfl, Own.refl _⟩
    case s7_16 =>
      intro u w1 hO
      go_wp2
      exact ⟨rfl, rfl, rfl, Own.refl _⟩
    case s7_17 =>
      intro u w1 hO
      go_wp2
      exact ⟨rfl, rfl, rfl, Own.refl _⟩
    case s7_18 =>
      intro u w1 hO
      go_wp2
      exact ⟨rfl, rfl, rfl, Own.refl _⟩
    case s7_19 =>
      intro u w1 hO
      go_wp2
      exact ⟨rfl, rfl, rfl, Own.refl _⟩
  intro u w32 hO
  replace g0 := g0.trans hO
  go_wp2
  go_ret
  exact ⟨rfl, g0⟩
end Go.Proofs.YtephoakgphcnnaaDoor.JntL
