/-
  Walks of the laws of package balance: BalanceStable. Condition: the table of sines, the table of bounds and the numbers of both sides lie in memory.
-/
import Derived.Test.YtighpjhipgobiaaGreatDoorBalanceT
import Derived.Test.YtighpjhipgobiaaGreatDoorBalanceRB
namespace Go.Proofs.YtighpjhipgobiaaGreatDoor.BalL
open Go.ChangeShapes Go.WideShapes Go.ChangeAt Go.RowKit
open BalW PairW AimP AimW BlkW PrtW PstP PstW JntP JntW BalP
set_option maxRecDepth 100000 in
set_option maxHeartbeats 40000000 in
theorem BalanceStable_walk (b p : Vl) (s : Int) (w : World) (HT : Hid (AngW.Tab w)) (HBT : Hid (BuiW.Tab w)) (HS : Hid (Sds w)) :
    Calls Tryz.prog 3 #[.agg (cz 15 b), .agg (cz 22 p), .int .i64 s] w fun r w' => r = .returned (.bool true) ∧ PairW.Own w w' := by
  obtain ⟨t, ht⟩ : ∃ x, stV b p s = x := ⟨_, rfl⟩
  obtain ⟨c, hc⟩ : ∃ c, joE b p s = c := ⟨_, rfl⟩
  obtain ⟨n, hn⟩ : ∃ x, mgV b p s = x := ⟨_, rfl⟩
  obtain ⟨d, hd⟩ : ∃ c, mgE b p s = c := ⟨_, rfl⟩
  have H1 := Lib.hid (And.intro ht hc)
  have H2 := Lib.hid (And.intro hn hd)
  clear ht hc hn hd
  go_enter Tryz.func3, Tryz.ntmps3
  go_upto_region 1 with (fail)
  obtain ⟨W0, B, P, hW, hC, hBq, hb, hc, g0, -, -, -⟩ := two_new w (cz 15 b) 24 (cz 22 p) 31
  rw [hW, hC, hBq]
  have HB := Lib.hid hb
  have HP := Lib.hid hc
  clear hW hC hBq hb hc
  go_wp2_with (first | ((with_reducible show wpList _ _ _ (⟨_, .load 24 (.tmp 3), _, _, _, none⟩ :: _) _ _); refine wpList_load_row rfl 24 (.tmp 3) rfl B rfl 24 _ (0, 0) _ HB.out.raw Tryz.underlying24 rfl infoB ?_) | ((with_reducible show wpList _ _ _ (⟨_, .load 31 (.tmp 4), _, _, _, none⟩ :: _) _ _); refine wpList_load_row rfl 31 (.tmp 4) rfl P rfl 31 _ (0, 0) _ HP.out.raw Tryz.underlying31 rfl infoP ?_) | (go_at_call 5; with_reducible refine (bSta_at b p s t c _ (Lib.hid (tab_own HT.out g0)) (Lib.hid (HBT.out.own g0)) (Lib.hid (HS.out.own g0)) H1).mono ?_; rintro r w1 ⟨rfl, hg⟩; replace g0 := g0.trans hg; replace HB := Lib.hid (HB.out.own hg); replace HP := Lib.hid (HP.out.own hg); clear hg) | (go_at_call 6; with_reducible refine (rSta_at b p s t c _ H1).mono ?_; rintro r w2 ⟨rfl, hg⟩; replace g0 := g0.trans hg; replace HB := Lib.hid (HB.out.own hg); replace HP := Lib.hid (HP.out.own hg); clear hg) | (go_at_call 7; with_reducible refine (bMar_at b p s n d _ (Lib.hid (tab_own HT.out g0)) (Lib.hid (HBT.out.own g0)) (Lib.hid (HS.out.own g0)) H2).mono ?_; rintro r w3 ⟨rfl, hg⟩; replace g0 := g0.trans hg; replace HB := Lib.hid (HB.out.own hg); replace HP := Lib.hid (HP.out.own hg); clear hg) | (go_at_call 8; with_reducible refine (rMar_at b p s n d _ H2).mono ?_; rintro r w4 ⟨rfl, hg⟩; replace g0 := g0.trans hg; replace HB := Lib.hid (HB.out.own hg); replace HP := Lib.hid (HP.out.own hg); clear hg) | (go_at_call 9; with_reducible refine (awake_at _ (Lib.hid (tab_own HT.out g0)) (Lib.hid (HBT.out.own g0)) (Lib.hid (HS.out.own g0))).mono ?_; rintro r w99 ⟨rfl, hg⟩; replace g0 := g0.trans hg; clear hg))
  go_ret
  exact ⟨by first | rfl | (exact ret_bool (by simp)), g0⟩
end Go.Proofs.YtighpjhipgobiaaGreatDoor.BalL
