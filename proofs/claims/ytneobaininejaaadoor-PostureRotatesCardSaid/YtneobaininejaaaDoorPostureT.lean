/-
  Walks of the laws of package posture: example, posed, mirrored, awake. Condition: the target straight down and the table of sines lie in memory (Dn, Tab).
-/
import Derived.Test.YtneobaininejaaaDoorPostureEq
import Derived.Test.YtneobaininejaaaDoorPostureG
import Derived.Test.YtneobaininejaaaDoorPosturePG
import Derived.Test.YtneobaininejaaaDoorPosturePE
import Derived.Test.YtneobaininejaaaDoorPartB
import Derived.Test.YtneobaininejaaaDoorRegBase
namespace Go.Proofs.YtneobaininejaaaDoor.PstL
open Go.ChangeShapes Go.WideShapes Go.ChangeAt Go.RowKit
open PstW PstQ PairW AimP AimW BlkW PrtW PstP
def exSl : List Int := [100, 300, 1, -1, 1, 0, -1, 0, 3, 0, 0, 0, 1, 0, 1, -1, 2, 0, -1, 0, 0, 1, 0]
def exS : Vl := fun i => exSl.getD i 0
def exPl : List Int := [100, 300, 32, -8, 0, -64, 0, 64, 0, 0, 0, 64, 0, 0, -32, 2, 0, -64, 0, 0, 64, 0]
def exP : Vl := fun i => exPl.getD i 0
def exMl : List Int := [-100, 300, 7, -1, 2, 7, 0, 0, 0, -1, 0, 0, 1, 0, 0, -1, 0, 1, -1, 2, 0, 1, 0]
def exM : Vl := fun i => exMl.getD i 0
def exRl : List Int := [300, -100, 3, -1, 1, 0, -1, 0, 3, 0, 0, 0, 1, 0, 1, -1, 2, 0, -1, 0, 0, 1, 0]
def exR : Vl := fun i => exRl.getD i 0
def exUl : List Int := [-300, 100, 224, -8, 0, -64, 0, 64, 0, 0, 0, 64, 0, 0, -32, 2, 0, -64, 0, 0, 64, 0]
def exU : Vl := fun i => exUl.getD i 0
def exO : Vl := ups exS 4 2
def exQ : Vl := ups exP 2 33
theorem c_exS : stE exS = 0 := by decide +kernel
theorem c_exO : stE exO = 19 := by decide +kernel
theorem c_pose : cz 22 (poV exS) = cz 22 exP ∧ stE exS = 0 := ⟨cz_congr (by decide +kernel), c_exS⟩
theorem c_not : cz 23 (ntV exP 1) = cz 23 exS ∧ ntE exP 1 = 0 := ⟨cz_congr (by decide +kernel), by decide +kernel⟩
theorem c_mir : cz 23 (miV exS) = cz 23 exM ∧ stE exS = 0 := ⟨cz_congr (by decide +kernel), c_exS⟩
theorem c_val : vaE exP = 0 := by decide +kernel
theorem c_not33 : cz 23 (ntV exQ 1) = cz 23 nul ∧ ntE exQ 1 = 2 := ⟨cz_congr (by decide +kernel), by decide +kernel⟩
theorem c_rot : cz 23 (roV exS 1) = cz 23 exR ∧ stE exS = 0 := ⟨cz_congr (by decide +kernel), c_exS⟩
theorem c_rotp : cz 22 (rpV exP (-1)) = cz 22 exU ∧ vaE exP = 0 := ⟨cz_congr (by decide +kernel), c_val⟩
set_option maxRecDepth 100000 in
set_option maxHeartbeats 2000000 in
theorem ex_at (w : World) :
    Calls Tryd.prog 37 #[] w fun r w' => r = .returned (.agg (cz 23 exS)) ∧ Own w w' := by
  go_enter Tryd.func37, Tryd.ntmps37
  go_upto_region 1 with (fail)
  obtain ⟨W0, P, hW, hP, hp, g0, hP0⟩ := blk_new w (cz 23 nul) 28
  rw [← cz23_nul] at hW
  rw [hW, hP]
  have HP := Lib.hid hp
  clear hW hP hp
  go_upto_region 2 with (first | (refine wpList_store_row rfl 25 (.tmp 1) (.tmp 3) rfl _ (#[.int .i64 0, .int .i64 (-1), .int .i64 0]) rfl rfl 25 _ (heap_alloc2_old _ _ _) infoT rfl (by simp [Value.oneCell']) ?_; rw [setRow_alloc2]) | (refine wpList_store_row rfl 25 (.tmp 2) (.tmp 4) rfl _ (#[.int .i64 0, .int .i64 1, .int .i64 0]) rfl rfl 25 _ (heap_alloc2_new _ _ _) infoT rfl (by simp [Value.oneCell']) ?_; rw [setRow_alloc2n]))
  obtain ⟨W1, B, C, hW, hC, hB, hb, hc, hg, -, -, -⟩ := two_new W0 (#[.int .i64 0, .int .i64 (-1), .int .i64 0]) 25 (#[.int .i64 0, .int .i64 1, .int .i64 0]) 25
  rw [hW, hC, hB]
  have HB := Lib.hid hb
  have HC := Lib.hid hc
  replace HP := Lib.hid (HP.out.own hg)
  replace g0 := g0.trans hg
  clear hW hC hB hb hc hg
  go_wp2_with (first | ((with_reducible show wpList _ _ _ (⟨_, .load 25 (.tmp 1), _, _, _, none⟩ :: _) _ _); refine wpList_load_row rfl 25 (.tmp 1) rfl B rfl 25 _ (0, 0) _ HB.out.raw Tryd.underlying25 rfl infoT ?_) | ((with_reducible show wpList _ _ _ (⟨_, .load 25 (.tmp 2), _, _, _, none⟩ :: _) _ _); refine wpList_load_row rfl 25 (.tmp 2) rfl C rfl 25 _ (0, 0) _ HC.out.raw Tryd.underlying25 rfl infoT ?_) | ((with_reducible show wpList _ _ _ (⟨_, .store 28 (.tmp 0) (.tmp 13), _, _, _, none⟩ :: _) _ _); refine wpList_store_row rfl 28 (.tmp 0) (.tmp 13) rfl P (cz 23 (exS)) rfl rfl 28 _ HP.out.raw infoS rfl (cz_one _ _) ?_))
  have hp := HP.out.row (cz 23 exS)
  exact bodyPost_ret (blk_result rfl rfl hp Tryd.underlying28 rfl infoS) rfl ⟨rfl, own_setRow g0 hP0 _⟩
set_option maxRecDepth 100000 in
set_option maxHeartbeats 2000000 in
theorem po_at (w : World) :
    Calls Tryd.prog 38 #[] w fun r w' => r = .returned (.agg (cz 22 exP)) ∧ Own w w' := by
  go_enter Tryd.func38, Tryd.ntmps38
  go_upto_region 1 with (fail)
  obtain ⟨W0, P, hW, hP, hp, g0, hP0⟩ := blk_new w (cz 22 nul) 33
  rw [← cz22_nul] at hW
  rw [hW, hP]
  have HP := Lib.hid hp
  clear hW hP hp
  go_wp2_with ((with_reducible show wpList _ _ _ (⟨_, .store 33 (.tmp 0) (.tmp 9), _, _, _, none⟩ :: _) _ _); refine wpList_store_row rfl 33 (.tmp 0) (.tmp 9) rfl P (cz 22 (exP)) rfl rfl 33 _ HP.out.raw infoP rfl (cz_one _ _) ?_)
  have hp := HP.out.row (cz 22 exP)
  exact bodyPost_ret (blk_result rfl rfl hp Tryd.underlying33 rfl infoP) rfl ⟨rfl, own_setRow g0 hP0 _⟩
set_option maxRecDepth 100000 in
set_option maxHeartbeats 2000000 in
theorem mi_at (w : World) :
    Calls Tryd.prog 39 #[] w fun r w' => r = .returned (.agg (cz 23 exM)) ∧ Own w w' := by
  go_enter Tryd.func39, Tryd.ntmps39
  go_upto_region 1 with (fail)
  obtain ⟨W0, P, hW, hP, hp, g0, hP0⟩ := blk_new w (cz 23 nul) 28
  rw [← cz23_nul] at hW
  rw [hW, hP]
  have HP := Lib.hid hp
  clear hW hP hp
  go_upto_region 2 with (first | (refine wpList_store_row rfl 25 (.tmp 1) (.tmp 3) rfl _ (#[.int .i64 0, .int .i64 (-1), .int .i64 0]) rfl rfl 25 _ (heap_alloc2_old _ _ _) infoT rfl (by simp [Value.oneCell']) ?_; rw [setRow_alloc2]) | (refine wpList_store_row rfl 25 (.tmp 2) (.tmp 4) rfl _ (#[.int .i64 0, .int .i64 1, .int .i64 0]) rfl rfl 25 _ (heap_alloc2_new _ _ _) infoT rfl (by simp [Value.oneCell']) ?_; rw [setRow_alloc2n]))
  obtain ⟨W1, B, C, hW, hC, hB, hb, hc, hg, -, -, -⟩ := two_new W0 (#[.int .i64 0, .int .i64 (-1), .int .i64 0]) 25 (#[.int .i64 0, .int .i64 1, .int .i64 0]) 25
  rw [hW, hC, hB]
  have HB := Lib.hid hb
  have HC := Lib.hid hc
  replace HP := Lib.hid (HP.out.own hg)
  replace g0 := g0.trans hg
  clear hW hC hB hb hc hg
  go_wp2_with (first | ((with_reducible show wpList _ _ _ (⟨_, .load 25 (.tmp 1), _, _, _, none⟩ :: _) _ _); refine wpList_load_row rfl 25 (.tmp 1) rfl B rfl 25 _ (0, 0) _ HB.out.raw Tryd.underlying25 rfl infoT ?_) | ((with_reducible show wpList _ _ _ (⟨_, .load 25 (.tmp 2), _, _, _, none⟩ :: _) _ _); refine wpList_load_row rfl 25 (.tmp 2) rfl C rfl 25 _ (0, 0) _ HC.out.raw Tryd.underlying25 rfl infoT ?_) | ((with_reducible show wpList _ _ _ (⟨_, .store 28 (.tmp 0) (.tmp 13), _, _, _, none⟩ :: _) _ _); refine wpList_store_row rfl 28 (.tmp 0) (.tmp 13) rfl P (cz 23 (exM)) rfl rfl 28 _ HP.out.raw infoS rfl (cz_one _ _) ?_))
  have hp := HP.out.row (cz 23 exM)
  exact bodyPost_ret (blk_result rfl rfl hp Tryd.underlying28 rfl infoS) rfl ⟨rfl, own_setRow g0 hP0 _⟩
set_option maxRecDepth 100000 in
set_option maxHeartbeats 40000000 in
theorem awake_at (w : World) (HD : Hid (Dn w)) (HT : Hid (AngW.Tab w)) :
    Calls Tryd.prog 15 #[] w fun r w' => r = .returned (.bool true) ∧ Own w w' := by
  have CS := Lib.hid c_exS
  have CO := Lib.hid c_exO
  have CP := Lib.hid c_pose
  have CN := Lib.hid c_not
  have CM := Lib.hid c_mir
  have CV := Lib.hid c_val
  have CQ := Lib.hid c_not33
  have CR := Lib.hid c_rot
  have CU := Lib.hid c_rotp
  have g0 : Own w w := Own.refl w
  go_enter Tryd.func15, Tryd.ntmps15
  go_upto_region 2 with (first | (go_at_call 37; with_reducible refine (ex_at _).mono ?_; rintro r w1 ⟨rfl, hg⟩; replace g0 : Own w w1 := g0.trans hg; clear hg) | (refine wpList_store_row rfl 28 (.tmp 1) (.tmp 11) rfl _ (cz 23 exS) rfl rfl 28 _ (heap_alloc2_old _ _ _) infoS rfl (cz_one _ _) ?_; rw [setRow_alloc2]) | (refine wpList_store_row rfl 28 (.tmp 2) (.tmp 12) rfl _ (cz 23 exS) rfl rfl 28 _ (heap_alloc2_new _ _ _) infoS rfl (cz_one _ _) ?_; rw [setRow_alloc2n]))
  obtain ⟨W1, B, C, hW, hC, hB, hb, hc, hg, -, hC0, hne⟩ := two_new w1 (cz 23 exS) 28 (cz 23 exS) 28
  rw [hW, hC, hB]
  have HB := Lib.hid hb
  have k4 : W1.cell? ⟨C, 4, none⟩ = some (.int .i64 1) := blk_num hc (by omega)
  have f4 := hc.frozen 4
  replace hC0 : w.heap.size ≤ C := Nat.le_trans g0.size hC0
  replace g0 := g0.trans hg
  have HNE := Lib.hid hne
  have HC1 := Lib.hid hc
  clear hW hC hB hb hc hg hne
  go_upto_region 3 with (fail)
  have hc : Blk (W1.setCell ⟨C, 4, none⟩ (.int .i64 2)) C (cz 23 exO) 28 := blk_ups HC1.out (by omega) 2
  have hb := HB.out.far (p := ⟨C, 4, none⟩) HNE.out (.int .i64 2)
  replace g0 := g0.setCell (p := ⟨C, 4, none⟩) hC0 (.int .i64 2)
  clear HB HC1 k4 f4
  generalize W1.setCell ⟨C, 4, none⟩ (.int .i64 2) = W2 at *
  have HB := Lib.hid hb
  have HC := Lib.hid hc
  clear hb hc
  go_upto_region 5 with (first | ((with_reducible show wpList _ _ _ (⟨_, .load 28 (.tmp 1), _, _, _, none⟩ :: _) _ _); refine wpList_load_row rfl 28 (.tmp 1) rfl B rfl 28 _ (0, 0) _ HB.out.raw Tryd.underlying28 rfl infoS ?_) | ((with_reducible show wpList _ _ _ (⟨_, .load 28 (.tmp 2), _, _, _, some _⟩ :: _) _ _); refine wpList_load_row_g rfl 28 (.tmp 2) rfl C rfl 28 _ (0, 0) _ HC.out.raw Tryd.underlying28 rfl infoS ?_) | (go_at_call 13; with_reducible refine (pcheck_at exS 0 _ (Lib.hid (HD.out.own g0)) CS).mono ?_; rintro r w2 ⟨rfl, hg⟩; replace g0 := g0.trans hg; replace HB := Lib.hid (HB.out.own hg); replace HC := Lib.hid (HC.out.own hg); clear hg) | (go_at_call 13; with_reducible refine (pcheck_at exO 19 _ (Lib.hid (HD.out.own g0)) CO).mono ?_; rintro r w3 ⟨rfl, hg⟩; replace g0 := g0.trans hg; replace HB := Lib.hid (HB.out.own hg); replace HC := Lib.hid (HC.out.own hg); clear hg))
  clear HC
  go_upto_region 6 with (first | ((with_reducible show wpList _ _ _ (⟨_, .load 28 (.tmp 1), _, _, _, none⟩ :: _) _ _); refine wpList_load_row rfl 28 (.tmp 1) rfl B rfl 28 _ (0, 0) _ HB.out.raw Tryd.underlying28 rfl infoS ?_) | (go_at_call 11; with_reducible refine (qpose_at exS exP 0 _ (Lib.hid (HD.out.own g0)) CP).mono ?_; rintro r w4 ⟨rfl, hg⟩; replace g0 := g0.trans hg; replace HB := Lib.hid (HB.out.own hg); clear hg) | ((with_reducible show wpList _ _ _ (⟨_, .store 33 (.tmp 3) (.tmp 25), _, _, _, none⟩ :: _) _ _); refine wpList_store_row rfl 33 (.tmp 3) (.tmp 25) rfl _ (cz 22 (exP)) rfl rfl 33 _ (heap_new _ _) infoP rfl (cz_one _ _) ?_; rw [World.setRow_alloc_new]))
  obtain ⟨w5, D, hW, hBq, hb, hg, Dg⟩ := blk_new w4 (cz 22 exP) 33
  have hD0 : w.heap.size ≤ D := Nat.le_trans g0.size Dg
  rw [hW, hBq]
  have H3 := Lib.hid hb
  replace g0 := g0.trans hg
  have HBD := Lib.hid (Nat.ne_of_lt (Nat.lt_of_lt_of_le HB.out.lt Dg))
  replace HB := Lib.hid (HB.out.own hg)
  clear hW hBq hb hg
  go_upto_region 7 with (first | (go_at_call 38; with_reducible refine (po_at _).mono ?_; rintro r w6 ⟨rfl, hg⟩; replace g0 := g0.trans hg; replace HB := Lib.hid (HB.out.own hg); replace H3 := Lib.hid (H3.out.own hg); clear hg) | (go_at_call 16; with_reducible refine (qnot_at exP exS 1 0 _ (Lib.hid (HD.out.own g0)) CN).mono ?_; rintro r w7 ⟨rfl, hg⟩; replace g0 := g0.trans hg; replace HB := Lib.hid (HB.out.own hg); replace H3 := Lib.hid (H3.out.own hg); clear hg) | ((with_reducible show wpList _ _ _ (⟨_, .store 28 (.tmp 5) (.tmp 30), _, _, _, none⟩ :: _) _ _); refine wpList_store_row rfl 28 (.tmp 5) (.tmp 30) rfl _ (cz 23 (exS)) rfl rfl 28 _ (heap_new _ _) infoS rfl (cz_one _ _) ?_; rw [World.setRow_alloc_new]))
  obtain ⟨w8, E, hW, hBq, hb, hg, Eg⟩ := blk_new w7 (cz 23 exS) 28
  rw [hW, hBq]
  have H5 := Lib.hid hb
  replace g0 := g0.trans hg
  replace HB := Lib.hid (HB.out.own hg)
  replace H3 := Lib.hid (H3.out.own hg)
  clear hW hBq hb hg
  go_upto_region 8 with (first | ((with_reducible show wpList _ _ _ (⟨_, .load 28 (.tmp 1), _, _, _, none⟩ :: _) _ _); refine wpList_load_row rfl 28 (.tmp 1) rfl B rfl 28 _ (0, 0) _ HB.out.raw Tryd.underlying28 rfl infoS ?_) | (go_at_call 20; with_reducible refine (qmirror_at exS exM 0 _ (Lib.hid (HD.out.own g0)) CM).mono ?_; rintro r w9 ⟨rfl, hg⟩; replace g0 := g0.trans hg; replace HB := Lib.hid (HB.out.own hg); replace H3 := Lib.hid (H3.out.own hg); replace H5 := Lib.hid (H5.out.own hg); clear hg) | ((with_reducible show wpList _ _ _ (⟨_, .store 28 (.tmp 7) (.tmp 35), _, _, _, none⟩ :: _) _ _); refine wpList_store_row rfl 28 (.tmp 7) (.tmp 35) rfl _ (cz 23 (exM)) rfl rfl 28 _ (heap_new _ _) infoS rfl (cz_one _ _) ?_; rw [World.setRow_alloc_new]))
  obtain ⟨w10, F, hW, hBq, hb, hg, Fg⟩ := blk_new w9 (cz 23 exM) 28
  rw [hW, hBq]
  have H7 := Lib.hid hb
  replace g0 := g0.trans hg
  replace HB := Lib.hid (HB.out.own hg)
  replace H3 := Lib.hid (H3.out.own hg)
  replace H5 := Lib.hid (H5.out.own hg)
  clear hW hBq hb hg
  clear Dg Eg Fg
  refine RegD.region_duty [37, 38, 39, 40, 41, 42, 43, 44, 45, 46, 47, 48, 49, 50, 51, 52, 53, 54, 55, 56, 57, 58, 59, 60, 61, 62, 63, 64, 65, 66] (RegI.upd (RegI.upd (RegI.upd (RegI.upd (RegI.upd (RegI.upd (RegI.upd (RegI.upd (RegI.upd (RegI.upd (RegI.upd (RegI.upd (RegI.upd (RegI.upd (RegI.upd (RegI.upd (RegI.upd (RegI.upd (RegI.upd (RegI.upd (RegI.upd (RegI.upd (RegI.upd (RegI.upd (RegI.upd (RegI.upd (RegI.upd (RegI.upd (RegI.upd (RegI.upd (fun _ => undef) 37 (.agg (cz 22 exP))) 38 (.agg (cz 22 exP))) 39 (.bool false)) 40 (.bool false)) 41 (.int .i64 0)) 42 (.bool false)) 43 (.bool false)) 44 (.bool false)) 45 (.agg (cz 23 exS))) 46 (.agg (cz 23 exS))) 47 (.bool false)) 48 (.bool false)) 49 (.bool false)) 50 (.int .i64 0)) 51 (.bool false)) 52 (.bool false)) 53 (.bool false)) 54 (.agg (cz 23 exM))) 55 (.agg (cz 23 exM))) 56 (.bool false)) 57 (.bool false)) 58 (.bool false)) 59 (.int .i64 0)) 60 (.bool false)) 61 (.bool false)) 62 (.bool false)) 63 (.agg (cz 22 exP))) 64 (.int .i64 0)) 65 (.bool false)) 66 (.bool false)) (by kernel_rfl) (by kernel_rfl) (by intro d hd; simp at hd; simp; omega) ?_
  simp only [RegD.FF, RegI.FX, RegI.upd, List.foldl_cons, List.foldl_nil, List.not_mem_nil, if_true, if_false, Nat.reduceEqDiff]
  simp only [List.setIfInBounds_toArray, List.set_cons_succ, List.set_cons_zero]
  refine And.intro ?hs ?he
  case hs =>
    refine And.intro ?s0 (And.intro ?s1 (And.intro ?s2 (And.intro ?s3 (And.intro ?s4 (And.intro ?s5 (And.intro ?s6 (And.intro ?s7 (And.intro ?s8 (And.intro ?s9 (And.intro ?s10 (And.intro ?s11 (And.intro ?s12 (And.intro ?s13 (And.intro ?s14 (And.intro ?s15 (And.intro ?s16 (And.intro ?s17 (And.intro ?s18 (And.intro ?s19 (And.intro ?s20 (And.intro ?s21 (And.intro ?s22 (And.intro ?s23 (And.intro ?s24 (And.intro ?s25 (And.intro ?s26 (And.intro ?s27 (And.intro ?s28 (And.intro ?s29 (trivial))))))))))))))))))))))))))))))
    case s0 =>
      intro u w1 hO
      have HB9 := Lib.hid (H3.out.own hO)
      go_wp2_with ((with_reducible show wpList _ _ _ (⟨_, .load 33 (.tmp 3), _, _, _, none⟩ :: _) _ _); refine wpList_load_row rfl 33 (.tmp 3) rfl D rfl 33 _ (0, 0) _ HB9.out.raw Tryd.underlying33 rfl infoP ?_)
      exact ⟨rfl, rfl, rfl, Own.refl _⟩
    case s1 =>
      intro u w1 hO
      go_wp2_with (go_at_call 38; with_reducible refine (po_at _).mono ?_; rintro r w2 ⟨rfl, hg⟩)
      exact ⟨rfl, rfl, rfl, hg⟩
    case s2 =>
      intro u w1 hO
      go_wp2
      exact ⟨rfl, rfl, rfl, Own.refl _⟩
    case s3 =>
      intro u w1 hO
      go_wp2
      exact ⟨rfl, rfl, rfl, Own.refl _⟩
    case s4 =>
      intro u w1 hO
      go_wp2
      exact ⟨rfl, rfl, rfl, Own.refl _⟩
    case s5 =>
      intro u w1 hO
      go_wp2
      exact ⟨rfl, rfl, rfl, Own.refl _⟩
    case s6 =>
      intro u w1 hO
      go_wp2
      exact ⟨rfl, rfl, rfl, Own.refl _⟩
    case s7 =>
      intro u w1 hO
      go_wp2
      exact ⟨rfl, rfl, rfl, Own.refl _⟩
    case s8 =>
      intro u w1 hO
      have HB9 := Lib.hid (H5.out.own hO)
      go_wp2_with ((with_reducible show wpList _ _ _ (⟨_, .load 28 (.tmp 5), _, _, _, some _⟩ :: _) _ _); refine wpList_load_row_g rfl 28 (.tmp 5) rfl E rfl 28 _ (0, 0) _ HB9.out.raw Tryd.underlying28 rfl infoS ?_)
      exact ⟨rfl, rfl, rfl, Own.refl _⟩
    case s9 =>
      intro u w1 hO
      have HB9 := Lib.hid (HB.out.own hO)
      go_wp2_with ((with_reducible show wpList _ _ _ (⟨_, .load 28 (.tmp 1), _, _, _, some _⟩ :: _) _ _); refine wpList_load_row_g rfl 28 (.tmp 1) rfl B rfl 28 _ (0, 0) _ HB9.out.raw Tryd.underlying28 rfl infoS ?_)
      exact ⟨rfl, rfl, rfl, Own.refl _⟩
    case s10 =>
      intro u w1 hO
      go_wp2
      exact ⟨rfl, rfl, rfl, Own.refl _⟩
    case s11 =>
      intro u w1 hO
      go_wp2
      exact ⟨rfl, rfl, rfl, Own.refl _⟩
    case s12 =>
      intro u w1 hO
      go_wp2
      exact ⟨rfl, rfl, rfl, Own.refl _⟩
    case s13 =>
      intro u w1 hO
      go_wp2
      exact ⟨rfl, rfl, rfl, Own.refl _⟩
    case s14 =>
      intro u w1 hO
      go_wp2
      exact ⟨rfl, rfl, rfl, Own.refl _⟩
    case s15 =>
      intro u w1 hO
      go_wp2
      exact ⟨rfl, rfl, rfl, Own.refl _⟩
    case s16 =>
      intro u w1 hO
      go_wp2
      exact ⟨rfl, rfl, rfl, Own.refl _⟩
    case s17 =>
      intro u w1 hO
      have HB9 := Lib.hid (H7.out.own hO)
      go_wp2_with ((with_reducible show wpList _ _ _ (⟨_, .load 28 (.tmp 7), _, _, _, some _⟩ :: _) _ _); refine wpList_load_row_g rfl 28 (.tmp 7) rfl F rfl 28 _ (0, 0) _ HB9.out.raw Tryd.underlying28 rfl infoS ?_)
      exact ⟨rfl, rfl, rfl, Own.refl _⟩
    case s18 =>
      intro u w1 hO
      go_wp2_with (go_at_call 39; with_reducible refine (mi_at _).mono ?_; rintro r w2 ⟨rfl, hg⟩)
      exact ⟨rfl, rfl, rfl, hg⟩
    case s19 =>
      intro u w1 hO
      go_wp2
      exact ⟨rfl, rfl, rfl, Own.refl _⟩
    case s20 =>
      intro u w1 hO
      go_wp2
      exact ⟨rfl, rfl, rfl, Own.refl _⟩
    case s21 =>
      intro u w1 hO
      go_wp2
      exact ⟨rfl, rfl, rfl, Own.refl _⟩
    case s22 =>
      intro u w1 hO
      go_wp2
      exact ⟨rfl, rfl, rfl, Own.refl _⟩
    case s23 =>
      intro u w1 hO
      go_wp2
      exact ⟨rfl, rfl, rfl, Own.refl _⟩
    case s24 =>
      intro u w1 hO
      go_wp2
      exact ⟨rfl, rfl, rfl, Own.refl _⟩
    case s25 =>
      intro u w1 hO
      go_wp2
      exact ⟨rfl, rfl, rfl, Own.refl _⟩
    case s26 =>
      intro u w1 hO
      go_wp2_with (go_at_call 38; with_reducible refine (po_at _).mono ?_; rintro r w2 ⟨rfl, hg⟩)
      exact ⟨rfl, rfl, rfl, hg⟩
    case s27 =>
      intro u w1 hO
      go_wp2_with (go_at_call 18; with_reducible refine (qvalid_at exP 0 _ CV).mono ?_; rintro r w2 ⟨rfl, hg⟩)
      exact ⟨rfl, rfl, rfl, hg⟩
    case s28 =>
      intro u w1 hO
      go_wp2
      exact ⟨rfl, rfl, rfl, Own.refl _⟩
    case s29 =>
      intro u w1 hO
      go_wp2
      exact ⟨rfl, rfl, rfl, Own.refl _⟩
  case he =>
    intro u w11 hg
    replace g0 := g0.trans hg
    replace HB := Lib.hid (HB.out.own hg)
    have h3 := H3.out.own hg
    clear H3 H5 H7 hg
    have k2 : w11.cell? ⟨D, 2, none⟩ = some (.int .i64 32) := blk_num h3 (by omega)
    have f2 := h3.frozen 2
    have H3 := Lib.hid h3
    clear h3
    go_upto_region 11 with (fail)
    have h3 : Blk (w11.setCell ⟨D, 2, none⟩ (.int .i64 33)) D (cz 22 exQ) 33 := blk_ups H3.out (by omega) 33
    have hb := HB.out.far (p := ⟨D, 2, none⟩) HBD.out (.int .i64 33)
    replace g0 := g0.setCell (p := ⟨D, 2, none⟩) hD0 (.int .i64 33)
    clear HB H3 k2 f2
    generalize w11.setCell ⟨D, 2, none⟩ (.int .i64 33) = w12 at *
    have HB := Lib.hid hb
    have H3 := Lib.hid h3
    clear hb h3
    go_upto_region 12 with (first | ((with_reducible show wpList _ _ _ (⟨_, .load 33 (.tmp 3), _, _, _, none⟩ :: _) _ _); refine wpList_load_row rfl 33 (.tmp 3) rfl D rfl 33 _ (0, 0) _ H3.out.raw Tryd.underlying33 rfl infoP ?_) | (go_at_call 16; with_reducible refine (qnot_at exQ nul 1 2 _ (Lib.hid (HD.out.own g0)) CQ).mono ?_; rintro r w13 ⟨rfl, hg⟩; replace g0 := g0.trans hg; replace HB := Lib.hid (HB.out.own hg); clear hg))
    clear H3
    go_upto_region 13 with (first | ((with_reducible show wpList _ _ _ (⟨_, .load 28 (.tmp 1), _, _, _, none⟩ :: _) _ _); refine wpList_load_row rfl 28 (.tmp 1) rfl B rfl 28 _ (0, 0) _ HB.out.raw Tryd.underlying28 rfl infoS ?_) | (go_at_call 24; with_reducible refine (qrotate_at exS exR 1 0 _ (Lib.hid (HD.out.own g0)) (Lib.hid (AimW.tab_own HT.out g0)) CR).mono ?_; rintro r w14 ⟨rfl, hg⟩; replace g0 := g0.trans hg; clear hg) | ((with_reducible show wpList _ _ _ (⟨_, .store 28 (.tmp 9) (.tmp 76), _, _, _, none⟩ :: _) _ _); refine wpList_store_row rfl 28 (.tmp 9) (.tmp 76) rfl _ (cz 23 (exR)) rfl rfl 28 _ (heap_new _ _) infoS rfl (cz_one _ _) ?_; rw [World.setRow_alloc_new]))
    clear HB
    obtain ⟨w15, G, hW, hBq, hb, hg, Gg⟩ := blk_new w14 (cz 23 exR) 28
    rw [hW, hBq]
    have H9 := Lib.hid hb
    replace g0 := g0.trans hg
    clear hW hBq hb hg
    go_upto_region 14 with (first | (go_at_call 38; with_reducible refine (po_at _).mono ?_; rintro r w16 ⟨rfl, hg⟩; replace g0 := g0.trans hg; replace H9 := Lib.hid (H9.out.own hg); clear hg) | (go_at_call 26; with_reducible refine (qrotp_at exP exU (-1) 0 _ (Lib.hid (AimW.tab_own HT.out g0)) CU).mono ?_; rintro r w17 ⟨rfl, hg⟩; replace g0 := g0.trans hg; replace H9 := Lib.hid (H9.out.own hg); clear hg) | ((with_reducible show wpList _ _ _ (⟨_, .store 33 (.tmp 10) (.tmp 81), _, _, _, none⟩ :: _) _ _); refine wpList_store_row rfl 33 (.tmp 10) (.tmp 81) rfl _ (cz 22 (exU)) rfl rfl 33 _ (heap_new _ _) infoP rfl (cz_one _ _) ?_; rw [World.setRow_alloc_new]))
    obtain ⟨w18, H, hW, hBq, hb, hg, Hg⟩ := blk_new w17 (cz 22 exU) 33
    rw [hW, hBq]
    have H10 := Lib.hid hb
    replace g0 := g0.trans hg
    replace H9 := Lib.hid (H9.out.own hg)
    clear hW hBq hb hg
    have a0 : w18.cell? ⟨G, 0, none⟩ = some (.int .i64 300) := blk_num H9.out (by omega)
    have a1 : w18.cell? ⟨G, 1, none⟩ = some (.int .i64 (-100)) := blk_num H9.out (by omega)
    have a2 : w18.cell? ⟨G, 2, none⟩ = some (.int .i64 3) := blk_num H9.out (by omega)
    have b0 : w18.cell? ⟨H, 0, none⟩ = some (.int .i64 (-300)) := blk_num H10.out (by omega)
    have b1 : w18.cell? ⟨H, 1, none⟩ = some (.int .i64 100) := blk_num H10.out (by omega)
    have b2 : w18.cell? ⟨H, 2, none⟩ = some (.int .i64 224) := blk_num H10.out (by omega)
    clear H9 H10 Gg Hg
    go_wp2
    go_ret
    exact ⟨rfl, g0⟩
end Go.Proofs.YtneobaininejaaaDoor.PstL
