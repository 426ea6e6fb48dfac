/-
  Walks of the laws of package balance: BalanceCenters. Condition: the table of sines, the table of bounds and the numbers of both sides lie in memory.
-/
import Derived.Test.YtighpjhipgobiaaDoorBalanceT
import Derived.Test.YtighpjhipgobiaaDoorBalanceRA
namespace Go.Proofs.YtighpjhipgobiaaDoor.BalL
open Go.ChangeShapes Go.WideShapes Go.ChangeAt Go.RowKit
open BalW PairW AimP AimW BlkW PrtW PstP PstW JntP JntW BalP
set_option maxRecDepth 100000 in
set_option maxHeartbeats 40000000 in
theorem BalanceCenters_walk (b p : Vl) (s : Int) (w : World) (HT : Hid (AngW.Tab w)) (HBT : Hid (BuiW.Tab w)) (HS : Hid (Sds w)) :
    Calls Tryd.prog 3 #[.agg (cz 15 b), .agg (cz 22 p), .int .i64 s] w fun r w' => r = .returned (.bool true) ∧ PairW.Own w w' := by
  obtain ⟨x, hx⟩ : ∃ x, ceV b p s 0 = x := ⟨_, rfl⟩
  obtain ⟨y, hy⟩ : ∃ x, ceV b p s 1 = x := ⟨_, rfl⟩
  obtain ⟨c, hc⟩ : ∃ c, joE b p s = c := ⟨_, rfl⟩
  have HC := Lib.hid (And.intro hx (And.intro hy hc))
  clear hx hy hc
  go_enter Tryd.func3, Tryd.ntmps3
  go_upto_region 1 with (fail)
  obtain ⟨W0, B, P, hW, hC, hBq, hb, hc, g0, -, -, -⟩ := two_new w (cz 15 b) 24 (cz 22 p) 31
  rw [hW, hC, hBq]
  have HB := Lib.hid hb
  have HP := Lib.hid hc
  clear hW hC hBq hb hc
  go_upto_region 2 with (first | ((with_reducible show wpList _ _ _ (⟨_, .load 24 (.tmp 3), _, _, _, none⟩ :: _) _ _); refine wpList_load_row rfl 24 (.tmp 3) rfl B rfl 24 _ (0, 0) _ HB.out.raw Tryd.underlying24 rfl infoB ?_) | ((with_reducible show wpList _ _ _ (⟨_, .load 31 (.tmp 4), _, _, _, none⟩ :: _) _ _); refine wpList_load_row rfl 31 (.tmp 4) rfl P rfl 31 _ (0, 0) _ HP.out.raw Tryd.underlying31 rfl infoP ?_) | (go_at_call 8; with_reducible refine (bCen_at b p s x y c _ (Lib.hid (tab_own HT.out g0)) (Lib.hid (HBT.out.own g0)) (Lib.hid (HS.out.own g0)) HC).mono ?_; rintro r w1 ⟨rfl, hg⟩; replace g0 := g0.trans hg; replace HB := Lib.hid (HB.out.own hg); replace HP := Lib.hid (HP.out.own hg); clear hg) | ((with_reducible show wpList _ _ _ (⟨_, .store 26 (.tmp 7) (.tmp 16), _, _, _, none⟩ :: _) _ _); refine wpList_store_row rfl 26 (.tmp 7) (.tmp 16) rfl _ #[.int .i64 x, .int .i64 y] rfl rfl 26 _ (heap_new _ _) PstW.infoPt rfl (by simp [Value.oneCell']) ?_; rw [World.setRow_alloc_new]))
  obtain ⟨w2, B7, hW, hBq, hb, hg, B7g⟩ := blk_new w1 (#[.int .i64 x, .int .i64 y]) 26
  rw [hW, hBq]
  have H7 := Lib.hid hb
  replace g0 := g0.trans hg
  replace HB := Lib.hid (HB.out.own hg)
  replace HP := Lib.hid (HP.out.own hg)
  clear hW hBq hb hg
  clear B7g
  go_upto_region 3 with (first | ((with_reducible show wpList _ _ _ (⟨_, .load 24 (.tmp 3), _, _, _, none⟩ :: _) _ _); refine wpList_load_row rfl 24 (.tmp 3) rfl B rfl 24 _ (0, 0) _ HB.out.raw Tryd.underlying24 rfl infoB ?_) | ((with_reducible show wpList _ _ _ (⟨_, .load 31 (.tmp 4), _, _, _, none⟩ :: _) _ _); refine wpList_load_row rfl 31 (.tmp 4) rfl P rfl 31 _ (0, 0) _ HP.out.raw Tryd.underlying31 rfl infoP ?_) | (go_at_call 9; with_reducible refine (rCen_at b p s x y c _ HC).mono ?_; rintro r w3 ⟨rfl, hg⟩; replace g0 := g0.trans hg; replace H7 := Lib.hid (H7.out.own hg); clear hg) | ((with_reducible show wpList _ _ _ (⟨_, .store 26 (.tmp 9) (.tmp 23), _, _, _, none⟩ :: _) _ _); refine wpList_store_row rfl 26 (.tmp 9) (.tmp 23) rfl _ #[.int .i64 x, .int .i64 y] rfl rfl 26 _ (heap_new _ _) PstW.infoPt rfl (by simp [Value.oneCell']) ?_; rw [World.setRow_alloc_new]))
  obtain ⟨w4, B9, hW, hBq, hb, hg, B9g⟩ := blk_new w3 (#[.int .i64 x, .int .i64 y]) 26
  rw [hW, hBq]
  have H9 := Lib.hid hb
  replace g0 := g0.trans hg
  replace H7 := Lib.hid (H7.out.own hg)
  clear hW hBq hb hg
  clear B9g
  clear HB HP
  go_wp2_with (first | ((with_reducible show wpList _ _ _ (⟨_, .load 26 (.tmp 7), _, _, _, none⟩ :: _) _ _); refine wpList_load_row rfl 26 (.tmp 7) rfl B7 rfl 26 _ (0, 0) _ H7.out.raw Tryd.underlying26 rfl PstW.infoPt ?_) | ((with_reducible show wpList _ _ _ (⟨_, .load 26 (.tmp 9), _, _, _, none⟩ :: _) _ _); refine wpList_load_row rfl 26 (.tmp 9) rfl B9 rfl 26 _ (0, 0) _ H9.out.raw Tryd.underlying26 rfl PstW.infoPt ?_) | (go_at_call 10; with_reducible refine (awake_at _ (Lib.hid (tab_own HT.out g0)) (Lib.hid (HBT.out.own g0)) (Lib.hid (HS.out.own g0))).mono ?_; rintro r w99 ⟨rfl, hg⟩; replace g0 := g0.trans hg; clear hg))
  go_ret
  exact ⟨by first | rfl | (exact ret_bool (by simp)), g0⟩
end Go.Proofs.YtighpjhipgobiaaDoor.BalL
