/-
  Walks of the laws of package balance: BalanceFirst. Condition: the table of sines, the table of bounds and the numbers of both sides lie in memory.
-/
import Derived.Test.YtighpjhipgobiaaGreatDoorBalanceT
import Derived.Test.YtighpjhipgobiaaGreatDoorBalanceRC
namespace Go.Proofs.YtighpjhipgobiaaGreatDoor.BalL
open Go.ChangeShapes Go.WideShapes Go.ChangeAt Go.RowKit
open BalW PairW AimP AimW BlkW PrtW PstP PstW JntP JntW BalP
theorem infoMv : (Tryz.prog.info? 42).map (·.size) = some 2 := by kernel_rfl
set_option maxRecDepth 100000 in
set_option maxHeartbeats 40000000 in
theorem BalanceFirst_walk (b : Vl) (sv tv : Value) (f : Nat → Vl) (q : Nat → Int) (n m : Nat) (w : World) (HT : Hid (AngW.Tab w)) (HBT : Hid (BuiW.Tab w)) (HS : Hid (Sds w)) (HM : Hid (Mov sv tv f q n m w)) :
    Calls Tryz.prog 4 #[.agg (cz 15 b), .agg #[sv, tv]] w fun r w' => r = .returned (.bool true) ∧ PairW.Own w w' := by
  obtain ⟨⟨A, ca, rfl, hps⟩, ⟨A2, cb, rfl, hss⟩, hnl, hml⟩ := HM.out
  unfold maxLen at hnl hml
  by_cases h1 : 20 < n
  · have d1 : decide ((20 : Int) < (n : Int)) = true := decide_eq_true (by omega)
    clear h1 hps hss hnl hml
    go_enter Tryz.func4, Tryz.ntmps4
    go_upto_region 1 with (fail)
    obtain ⟨W0, B, Mb, hW, hC, hBq, hb, hc, g0, -, -, -⟩ := two_new w (cz 15 b) 24 (#[.slice A n ca, .slice A2 m cb]) 42
    rw [hW, hC, hBq]
    have HB := Lib.hid hb
    have HMB := Lib.hid hc
    clear hW hC hBq hb hc
    have k0 := HMB.out.cell 0
    have k1 := HMB.out.cell 1
    go_wp2_with (go_at_call 9; with_reducible refine (awake_at _ (Lib.hid (tab_own HT.out g0)) (Lib.hid (HBT.out.own g0)) (Lib.hid (HS.out.own g0))).mono ?_; rintro r w99 ⟨rfl, hg⟩; replace g0 := g0.trans hg; clear hg)
    go_ret
    exact ⟨by first | rfl | (exact ret_bool (by simp)), g0⟩
  · by_cases h2 : 20 < m
    · have d1 : decide ((20 : Int) < (n : Int)) = false := decide_eq_false (by omega)
      have d2 : decide ((20 : Int) < (m : Int)) = true := decide_eq_true (by omega)
      clear h1 h2 hps hss hnl hml
      go_enter Tryz.func4, Tryz.ntmps4
      go_upto_region 1 with (fail)
      obtain ⟨W0, B, Mb, hW, hC, hBq, hb, hc, g0, -, -, -⟩ := two_new w (cz 15 b) 24 (#[.slice A n ca, .slice A2 m cb]) 42
      rw [hW, hC, hBq]
      have HB := Lib.hid hb
      have HMB := Lib.hid hc
      clear hW hC hBq hb hc
      have k0 := HMB.out.cell 0
      have k1 := HMB.out.cell 1
      go_wp2_with (go_at_call 9; with_reducible refine (awake_at _ (Lib.hid (tab_own HT.out g0)) (Lib.hid (HBT.out.own g0)) (Lib.hid (HS.out.own g0))).mono ?_; rintro r w99 ⟨rfl, hg⟩; replace g0 := g0.trans hg; clear hg)
      go_ret
      exact ⟨by first | rfl | (exact ret_bool (by simp)), g0⟩
    · have d1 : decide ((20 : Int) < (n : Int)) = false := decide_eq_false (by omega)
      have d2 : decide ((20 : Int) < (m : Int)) = false := decide_eq_false (by omega)
      clear h1 h2
      obtain ⟨v, hv⟩ : ∃ x, fiV b f q n m = x := ⟨_, rfl⟩
      obtain ⟨c, hc⟩ : ∃ x, fiE b f q n m = x := ⟨_, rfl⟩
      have HF := Lib.hid (And.intro hv hc)
      clear hv hc hps hss hnl hml
      go_enter Tryz.func4, Tryz.ntmps4
      go_upto_region 1 with (fail)
      obtain ⟨W0, B, Mb, hW, hC, hBq, hb, hc, g0, -, -, -⟩ := two_new w (cz 15 b) 24 (#[.slice A n ca, .slice A2 m cb]) 42
      rw [hW, hC, hBq]
      have HB := Lib.hid hb
      have HMB := Lib.hid hc
      clear hW hC hBq hb hc
      have k0 := HMB.out.cell 0
      have k1 := HMB.out.cell 1
      go_wp2_with (first | ((with_reducible show wpList _ _ _ (⟨_, .load 24 (.tmp 2), _, _, _, none⟩ :: _) _ _); refine wpList_load_row rfl 24 (.tmp 2) rfl B rfl 24 _ (0, 0) _ HB.out.raw Tryz.underlying24 rfl infoB ?_) | ((with_reducible show wpList _ _ _ (⟨_, .load 42 (.tmp 3), _, _, _, none⟩ :: _) _ _); refine wpList_load_row rfl 42 (.tmp 3) rfl Mb rfl 42 _ (0, 0) _ HMB.out.raw Tryz.underlying42 rfl infoMv ?_) | (go_at_call 10; with_reducible refine (bFirst_at b (.slice A n ca) (.slice A2 m cb) f q n m v c _ (Lib.hid (tab_own HT.out g0)) (Lib.hid (HBT.out.own g0)) (Lib.hid (HS.out.own g0)) (Lib.hid (HM.out.own g0)) HF).mono ?_; rintro r w1 ⟨rfl, hg⟩; replace g0 := g0.trans hg; replace HB := Lib.hid (HB.out.own hg); replace HMB := Lib.hid (HMB.out.own hg); clear hg) | (go_at_call 11; with_reducible refine (rFirst_at b (.slice A n ca) (.slice A2 m cb) f q n m v c _ (Lib.hid (HM.out.own g0)) HF).mono ?_; rintro r w2 ⟨rfl, hg⟩; replace g0 := g0.trans hg; replace HB := Lib.hid (HB.out.own hg); replace HMB := Lib.hid (HMB.out.own hg); clear hg) | (go_at_call 9; with_reducible refine (awake_at _ (Lib.hid (tab_own HT.out g0)) (Lib.hid (HBT.out.own g0)) (Lib.hid (HS.out.own g0))).mono ?_; rintro r w99 ⟨rfl, hg⟩; replace g0 := g0.trans hg; clear hg))
      go_ret
      exact ⟨by first | rfl | (exact ret_bool (by simp)), g0⟩
end Go.Proofs.YtighpjhipgobiaaGreatDoor.BalL
