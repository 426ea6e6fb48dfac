/-
  Walks of the laws of package joints: JointsFloor. Condition: the table of sines, the table of bounds and the numbers of both sides lie in memory.
-/
import Derived.Test.YtephoakgphcnnaaDoorJointsT
import Derived.Test.YtephoakgphcnnaaDoorRegTwo
namespace Go.Proofs.YtephoakgphcnnaaDoor.JntL
open Go.ChangeShapes Go.WideShapes Go.ChangeAt Go.RowKit
open JntW PairW AimP AimW BlkW PrtW PstP PstW JntP RegD
theorem shl_one {k : Nat} (hk : k < 2) {fo : Int} (hfo : ((1 + k : Nat) : Int) = fo) : wrap64 ((2 : Int) ^ k) = fo := by
  have t : k = 0 ∨ k = 1 := by omega
  rcases t with rfl | rfl
  · subst hfo
    decide +kernel
  · subst hfo
    decide +kernel
set_option maxRecDepth 100000 in
set_option maxHeartbeats 40000000 in
theorem JointsFloor_walk (b p : Vl) (e : Int) (he : 0 ≤ e ∧ e ≤ 255) (w : World) (HT : Hid (AngW.Tab w)) (HBT : Hid (BuiW.Tab w)) (HS : Hid (Sds w)) :
    Calls Tryd.prog 7 #[.agg (cz 15 b), .agg (cz 22 p), .int .u8 e] w fun r w' => r = .returned (.bool true) ∧ Own w w' := by
  obtain ⟨s, hs⟩ : ∃ s, e % 4 = s := ⟨_, rfl⟩
  have hs3 : 0 ≤ s ∧ s ≤ 3 := by omega
  by_cases h : joE b p s = 0
  · obtain ⟨f1, ⟨f2, f3⟩, ⟨f4, f5, f6, f7⟩, f8, f9, f10, f11⟩ := jo_floor h
    have hbd := jo_bd h
    obtain ⟨j, hj⟩ : ∃ f, joV b p s = f := ⟨_, rfl⟩
    have HJ := Lib.hid (show cz 33 (joV b p s) = cz 33 j ∧ joE b p s = 0 from ⟨by rw [hj], h⟩)
    rw [hj] at f1 f2 f3 f4 f5 f6 f7 f8 f9 f10 f11 hbd
    have HB33 := Lib.hid (show ∀ i, i < 33 → bd (j i) from fun i hi => by have := hbd i hi; unfold bd; omega)
    have HF := Lib.hid (show ∀ k, k < 2 → on s k = true → JntP.Pt j (27 + k * 3) (j (9 + k * 3)) (j (9 + k * 3 + 1)) 0 from fun k hk ho => by
      obtain ⟨q1, q2, q3⟩ := f1 k hk ho
      rw [show (9 + k) * 3 = 27 + k * 3 by omega, show (3 + k) * 3 = 9 + k * 3 by omega] at q1 q2
      rw [show (9 + k) * 3 = 27 + k * 3 by omega] at q3
      exact ⟨q1, q2, q3⟩)
    have HP0 := Lib.hid f2
    have HP1 := Lib.hid f3
    obtain ⟨hx, e1⟩ : ∃ x, j 0 - j 9 = x := ⟨_, rfl⟩
    obtain ⟨hy, e2⟩ : ∃ x, j 1 - j 10 = x := ⟨_, rfl⟩
    obtain ⟨nx, e3⟩ : ∃ x, j 3 - j 15 = x := ⟨_, rfl⟩
    obtain ⟨ny, e4⟩ : ∃ x, j 4 - j 16 = x := ⟨_, rfl⟩
    have B3 : ∀ o, o + 2 < 33 → bd (j o) ∧ bd (j (o + 1)) ∧ bd (j (o + 2)) := fun o ho => ⟨HB33.out o (by omega), HB33.out (o + 1) (by omega), HB33.out (o + 2) (by omega)⟩
    have HL1 := Lib.hid (show (bd (j 0) ∧ bd (j 1) ∧ bd (j 2)) ∧ (bd (j 9) ∧ bd (j 10) ∧ bd (j 11)) ∧ j 0 - j 9 = hx ∧ j 1 - j 10 = hy ∧ j 2 - j 11 = 0 from ⟨B3 0 (by omega), B3 9 (by omega), e1, e2, by omega⟩)
    have HL2 := Lib.hid (show (bd (j 3) ∧ bd (j 4) ∧ bd (j 5)) ∧ (bd (j 15) ∧ bd (j 16) ∧ bd (j 17)) ∧ j 3 - j 15 = nx ∧ j 4 - j 16 = ny ∧ j 5 - j 17 = 0 from ⟨B3 3 (by omega), B3 15 (by omega), e3, e4, by omega⟩)
    have HL3 := Lib.hid (show (bd (j 12) ∧ bd (j 13) ∧ bd (j 14)) ∧ (bd (j 0) ∧ bd (j 1) ∧ bd (j 2)) ∧ j 12 - j 0 = hx ∧ j 13 - j 1 = hy ∧ j 14 - j 2 = 0 from ⟨B3 12 (by omega), B3 0 (by omega), by omega, by omega, by omega⟩)
    have HL4 := Lib.hid (show (bd (j 18) ∧ bd (j 19) ∧ bd (j 20)) ∧ (bd (j 3) ∧ bd (j 4) ∧ bd (j 5)) ∧ j 18 - j 3 = nx ∧ j 19 - j 4 = ny ∧ j 20 - j 5 = 0 from ⟨B3 18 (by omega), B3 3 (by omega), by omega, by omega, by omega⟩)
    have HSU := Lib.hid hs3
    have HD := Lib.hid (show s = 3 → ∃ m, (dsV (j 27) (j 28) (j 29) (j 30) (j 31) (j 32) = m ∧ dsE (j 27) (j 28) (j 29) (j 30) (j 31) (j 32) = 0) ∧ dsV (j 9) (j 10) (j 11) (j 12) (j 13) (j 14) = m ∧ dsE (j 9) (j 10) (j 11) (j 12) (j 13) (j 14) = 0 from fun h3 => by
      subst h3
      obtain ⟨a1, a2, a3⟩ := f1 0 (by omega) rfl
      obtain ⟨c1, c2, c3⟩ := f1 1 (by omega) rfl
      have a1 : j 27 = j 9 := a1
      have a2 : j 28 = j 10 := a2
      have a3 : j 29 = 0 := a3
      have c1 : j 30 = j 12 := c1
      have c2 : j 31 = j 13 := c2
      have c3 : j 32 = 0 := c3
      have nr : ∀ i, i < 33 → -65536 ≤ j i ∧ j i ≤ 65536 := fun i hi => by have := hbd i hi; omega
      have n9 : nearV3 (j 9) (j 10) (j 11) := ⟨nr 9 (by omega), nr 10 (by omega), nr 11 (by omega)⟩
      have n12 : nearV3 (j 12) (j 13) (j 14) := ⟨nr 12 (by omega), nr 13 (by omega), nr 14 (by omega)⟩
      have n27 : nearV3 (j 27) (j 28) (j 29) := ⟨nr 27 (by omega), nr 28 (by omega), nr 29 (by omega)⟩
      have n30 : nearV3 (j 30) (j 31) (j 32) := ⟨nr 30 (by omega), nr 31 (by omega), nr 32 (by omega)⟩
      refine ⟨_, ⟨rfl, (ds_yes n27 n30).1⟩, ?_, (ds_yes n9 n12).1⟩
      rw [(ds_yes n27 n30).2, (ds_yes n9 n12).2, a1, a2, a3, c1, c2, c3, show j 11 - j 14 = 0 - 0 by omega])
    clear f1 f2 f3 f4 f5 f6 f7 f8 f9 f10 f11 e1 e2 e3 e4 B3 hbd hj h
    go_enter Tryd.func7, Tryd.ntmps7
    go_upto_region 1 with (fail)
    obtain ⟨W0, B, P, hW, hC, hBq, hb, hc, g0, -, -, -⟩ := two_new w (cz 15 b) 24 (cz 22 p) 31
    rw [hW, hC, hBq]
    have HB := Lib.hid hb
    have HP := Lib.hid hc
    clear hW hC hBq hb hc
    go_upto_region 3 with (first | ((with_reducible show wpList _ _ _ (⟨_, .load 24 (.tmp 3), _, _, _, none⟩ :: _) _ _); refine wpList_load_row rfl 24 (.tmp 3) rfl B rfl 24 _ (0, 0) _ HB.out.raw Tryd.underlying24 rfl infoB ?_) | ((with_reducible show wpList _ _ _ (⟨_, .load 31 (.tmp 4), _, _, _, none⟩ :: _) _ _); refine wpList_load_row rfl 31 (.tmp 4) rfl P rfl 31 _ (0, 0) _ HP.out.raw Tryd.underlying31 rfl infoP ?_) | ((with_reducible show wpList _ _ _ (⟨_, .load 31 (.tmp 4), _, _, _, some _⟩ :: _) _ _); refine wpList_load_row_g rfl 31 (.tmp 4) rfl P rfl 31 _ (0, 0) _ HP.out.raw Tryd.underlying31 rfl infoP ?_) | (go_at_call 10; with_reducible refine (jof_at b p j s 0 _ (Lib.hid (tab_own HT.out g0)) (Lib.hid (HBT.out.own g0)) (Lib.hid (HS.out.own g0)) HJ).mono ?_; rintro r w1 ⟨rfl, hg⟩; replace g0 := g0.trans hg; replace HP := Lib.hid (HP.out.own hg); clear hg) | ((with_reducible show wpList _ _ _ (⟨_, .store 36 (.tmp 8) (.tmp 25), _, _, _, none⟩ :: _) _ _); refine wpList_store_row rfl 36 (.tmp 8) (.tmp 25) rfl _ (cz 33 (j)) rfl rfl 36 _ (heap_new _ _) infoJ rfl (cz_one _ _) ?_; rw [World.setRow_alloc_new]))
    obtain ⟨w2, J1, hW, hBq, hb, hg, J1g⟩ := blk_new w1 (cz 33 j) 36
    rw [hW, hBq]
    have HJ1 := Lib.hid hb
    replace g0 := g0.trans hg
    replace HP := Lib.hid (HP.out.own hg)
    clear hW hBq hb hg
    clear J1g
    clear HB
    go_wp2
    go_loopw [10] (fun vi wr => ∃ k : Nat, vi = .int .i64 (k : Int) ∧ k ≤ 2 ∧ Own w wr ∧ Blk wr P (cz 22 p) 31 ∧ Blk wr J1 (cz 33 j) 36) (fun vi _ => 2 - (intOf vi).toNat)
    case atStart => exact ⟨0, rfl, by omega, g0, HP.out, HJ1.out⟩
    case round =>
      clear HP HJ1 g0
      obtain ⟨k, rfl, hk, g0, hp1, hj1⟩ := hrel
      have HP := Lib.hid hp1
      have HJ1 := Lib.hid hj1
      clear hp1 hj1
      by_cases hlt : k < 2
      · have hkn : (k : Int) < 2 := by omega
        obtain ⟨fo, hfo⟩ : ∃ x : Int, ((1 + k : Nat) : Int) = x := ⟨_, rfl⟩
        have hsh := shl_one hlt hfo
        go_upto_region 8 with (fail)
        cases ho : on s k with
        | true =>
          obtain ⟨r, hr1, hr2⟩ := bit_yes HSU.out hlt ho
          rw [hfo] at hr1
          have HFK := Lib.hid (HF.out k hlt ho)
          clear ho
          refine RegD.region_duty [44, 45, 46, 47, 48, 49, 50, 51, 52, 53, 54, 55, 56, 57, 58, 59, 60, 61, 62, 63, 64, 65, 66] (RegI.upd (RegI.upd (RegI.upd (RegI.upd (RegI.upd (RegI.upd (RegI.upd (RegI.upd (RegI.upd (RegI.upd (RegI.upd (RegI.upd (RegI.upd (RegI.upd (RegI.upd (RegI.upd (RegI.upd (RegI.upd (RegI.upd (RegI.upd (RegI.upd (RegI.upd (RegI.upd (fun _ => undef) 44 (.int .i64 s)) 45 (.int .i64 (k : Int))) 46 (.int .i64 fo)) 47 (.int .i64 r)) 48 (.bool true)) 49 (.bool true)) 50 (.int .i64 (k : Int))) 51 (.pointer (some ⟨J1, 27, none⟩))) 52 (.pointer (some ⟨J1, 27 + k * 3, none⟩))) 53 (.agg #[.int .i64 (j (9 + k * 3)), .int .i64 (j (9 + k * 3 + 1)), .int .i64 0])) 54 (.int .i64 (k : Int))) 55 (.pointer (some ⟨J1, 9, none⟩))) 56 (.pointer (some ⟨J1, 9 + k * 3, none⟩))) 57 (.pointer (some ⟨J1, 9 + k * 3, none⟩))) 58 (.int .i64 (j (9 + k * 3)))) 59 (.int .i64 (k : Int))) 60 (.pointer (some ⟨J1, 9, none⟩))) 61 (.pointer (some ⟨J1, 9 + k * 3, none⟩))) 62 (.pointer (some ⟨J1, 9 + k * 3 + 1, none⟩))) 63 (.int .i64 (j (9 + k * 3 + 1)))) 64 (.agg #[.int .i64 (j (9 + k * 3)), .int .i64 (j (9 + k * 3 + 1)), .int .i64 0])) 65 (.bool false)) 66 (.bool false)) (by kernel_rfl) (by kernel_rfl) (by intro d hd; simp at hd; simp; omega) ?_
          simp only [RegD.FF, RegI.FX, RegI.upd, List.foldl_cons, List.foldl_nil, List.not_mem_nil, if_true, if_false, Nat.reduceEqDiff]
          simp only [List.setIfInBounds_toArray, List.set_cons_succ, List.set_cons_zero]
          refine And.intro ?hs3 ?he3
          case hs3 =>
            refine And.intro ?s3_0 (And.intro ?s3_1 (And.intro ?s3_2 (And.intro ?s3_3 (And.intro ?s3_4 (And.intro ?s3_5 (And.intro ?s3_6 (And.intro ?s3_7 (And.intro ?s3_8 (And.intro ?s3_9 (And.intro ?s3_10 (And.intro ?s3_11 (And.intro ?s3_12 (And.intro ?s3_13 (And.intro ?s3_14 (And.intro ?s3_15 (And.intro ?s3_16 (And.intro ?s3_17 (And.intro ?s3_18 (And.intro ?s3_19 (And.intro ?s3_20 (And.intro ?s3_21 (And.intro ?s3_22 (trivial)))))))))))))))))))))))
            case s3_0 =>
              intro u w1 hO
              go_wp2
              exact ⟨rfl, rfl, rfl, Own.refl _⟩
            case s3_1 =>
              intro u w1 hO
              go_wp2
              exact ⟨rfl, rfl, rfl, Own.refl _⟩
            case s3_2 =>
              intro u w1 hO
              go_wp2
              exact ⟨rfl, rfl, congrArg (Value.int .i64) hsh, Own.refl _⟩
            case s3_3 =>
              intro u w1 hO
              go_wp2
              exact ⟨rfl, rfl, rfl, Own.refl _⟩
            case s3_4 =>
              intro u w1 hO
              go_wp2
              exact ⟨rfl, rfl, rfl, Own.refl _⟩
            case s3_5 =>
              intro u w1 hO
              go_wp2
              exact ⟨rfl, rfl, rfl, Own.refl _⟩
            case s3_6 =>
              intro u w1 hO
              go_wp2
              exact ⟨rfl, rfl, rfl, Own.refl _⟩
            case s3_7 =>
              intro u w1 hO
              go_wp2
              exact ⟨rfl, rfl, rfl, Own.refl _⟩
            case s3_8 =>
              intro u w1 hO
              go_wp2
              exact ⟨rfl, rfl, rfl, Own.refl _⟩
            case s3_9 =>
              intro u w1 hO
              have HB9 := Lib.hid (HJ1.out.own hO)
              go_wp2_with ((with_reducible show wpList _ _ _ (⟨_, .load 33 (.tmp 52), _, _, _, some _⟩ :: _) _ _); refine wpList_load_part_g rfl 33 (.tmp 52) rfl J1 (27 + k * 3) rfl 3 HB9.out (by omega) (#[.int .i64 (j (9 + k * 3)), .int .i64 (j (9 + k * 3 + 1)), .int .i64 0]) (pt_cz HFK.out) _ Tryd.underlying33 rfl infoV ?_)
              exact ⟨rfl, rfl, rfl, Own.refl _⟩
            case s3_10 =>
              intro u w1 hO
              go_wp2
              exact ⟨rfl, rfl, rfl, Own.refl _⟩
            case s3_11 =>
              intro u w1 hO
              go_wp2
              exact ⟨rfl, rfl, rfl, Own.refl _⟩
            case s3_12 =>
              intro u w1 hO
              go_wp2
              exact ⟨rfl, rfl, rfl, Own.refl _⟩
            case s3_13 =>
              intro u w1 hO
              go_wp2
              exact ⟨rfl, rfl, rfl, Own.refl _⟩
            case s3_14 =>
              intro u w1 hO
              have kk := blk_num (HJ1.out.own hO) (i := 9 + k * 3) (by omega)
              go_wp2
              exact ⟨rfl, rfl, rfl, Own.refl _⟩
            case s3_15 =>
              intro u w1 hO
              go_wp2
              exact ⟨rfl, rfl, rfl, Own.refl _⟩
            case s3_16 =>
              intro u w1 hO
              go_wp2
              exact ⟨rfl, rfl, rfl, Own.refl _⟩
            case s3_17 =>
              intro u w1 hO
              go_wp2
              exact ⟨rfl, rfl, rfl, Own.refl _⟩
            case s3_18 =>
              intro u w1 hO
              go_wp2
              exact ⟨rfl, rfl, rfl, Own.refl _⟩
            case s3_19 =>
              intro u w1 hO
              have kk := blk_num (HJ1.out.own hO) (i := 9 + k * 3 + 1) (by omega)
              go_wp2
              exact ⟨rfl, rfl, rfl, Own.refl _⟩
            case s3_20 =>
              intro u w1 hO
              go_wp2
              exact ⟨rfl, rfl, rfl, Own.refl _⟩
            case s3_21 =>
              intro u w1 hO
              go_wp2
              exact ⟨rfl, rfl, rfl, Own.refl _⟩
            case s3_22 =>
              intro u w1 hO
              go_wp2
              exact ⟨rfl, rfl, rfl, Own.refl _⟩
          intro u w9 hO
          replace g0 := g0.trans hO
          replace HP := Lib.hid (HP.out.own hO)
          replace HJ1 := Lib.hid (HJ1.out.own hO)
          clear hO
          clear hr1 hr2
          go_wp2
          go_roundw
          case rel => exact ⟨k + 1, by go_num, hlt, g0, HP.out, HJ1.out⟩
          case measure => simp [intOf]; omega
        | false =>
          obtain ⟨r, hr1, hr2⟩ := bit_not HSU.out hlt ho
          rw [hfo] at hr1
          clear ho
          refine RegD.region_duty [44, 45, 46, 47, 48, 49, 50, 51, 52, 53, 54, 55, 56, 57, 58, 59, 60, 61, 62, 63, 64, 65, 66] (RegI.upd (RegI.upd (RegI.upd (RegI.upd (RegI.upd (RegI.upd (RegI.upd (RegI.upd (RegI.upd (RegI.upd (RegI.upd (RegI.upd (RegI.upd (RegI.upd (RegI.upd (RegI.upd (RegI.upd (RegI.upd (RegI.upd (RegI.upd (RegI.upd (RegI.upd (RegI.upd (fun _ => undef) 44 (.int .i64 s)) 45 (.int .i64 (k : Int))) 46 (.int .i64 fo)) 47 (.int .i64 r)) 48 (.bool false)) 49 (.bool false)) 50 (undef)) 51 (undef)) 52 (undef)) 53 (undef)) 54 (undef)) 55 (undef)) 56 (undef)) 57 (undef)) 58 (undef)) 59 (undef)) 60 (undef)) 61 (undef)) 62 (undef)) 63 (undef)) 64 (undef)) 65 (undef)) 66 (.bool false)) (by kernel_rfl) (by kernel_rfl) (by intro d hd; simp at hd; simp; omega) ?_
          simp only [RegD.FF, RegI.FX, RegI.upd, List.foldl_cons, List.foldl_nil, List.not_mem_nil, if_true, if_false, Nat.reduceEqDiff]
          simp only [List.setIfInBounds_toArray, List.set_cons_succ, List.set_cons_zero]
          refine And.intro ?hs4 ?he4
          case hs4 =>
            refine And.intro ?s4_0 (And.intro ?s4_1 (And.intro ?s4_2 (And.intro ?s4_3 (And.intro ?s4_4 (And.intro ?s4_5 (And.intro ?s4_6 (And.intro ?s4_7 (And.intro ?s4_8 (And.intro ?s4_9 (And.intro ?s4_10 (And.intro ?s4_11 (And.intro ?s4_12 (And.intro ?s4_13 (And.intro ?s4_14 (And.intro ?s4_15 (And.intro ?s4_16 (And.intro ?s4_17 (And.intro ?s4_18 (And.intro ?s4_19 (And.intro ?s4_20 (And.intro ?s4_21 (And.intro ?s4_22 (trivial)))))))))))))))))))))))
            case s4_0 =>
              intro u w1 hO
              go_wp2
              exact ⟨rfl, rfl, rfl, Own.refl _⟩
            case s4_1 =>
              intro u w1 hO
              go_wp2
              exact ⟨rfl, rfl, rfl, Own.refl _⟩
            case s4_2 =>
              intro u w1 hO
              go_wp2
              exact ⟨rfl, rfl, congrArg (Value.int .i64) hsh, Own.refl _⟩
            case s4_3 =>
              intro u w1 hO
              go_wp2
              exact ⟨rfl, rfl, rfl, Own.refl _⟩
            case s4_4 =>
              intro u w1 hO
              go_wp2
              exact ⟨rfl, rfl, rfl, Own.refl _⟩
            case s4_5 =>
              intro u w1 hO
              go_wp2
              exact ⟨rfl, rfl, rfl, Own.refl _⟩
            case s4_6 =>
              intro u w1 hO
              go_wp2
              exact ⟨rfl, rfl, rfl, Own.refl _⟩
            case s4_7 =>
              intro u w1 hO
              go_wp2
              exact ⟨rfl, rfl, rfl, Own.refl _⟩
            case s4_8 =>
              intro u w1 hO
              go_wp2
              exact ⟨rfl, rfl, rfl, Own.refl _⟩
            case s4_9 =>
              intro u w1 hO
              go_wp2
              exact ⟨rfl, rfl, rfl, Own.refl _⟩
            case s4_10 =>
              intro u w1 hO
              go_wp2
              exact ⟨rfl, rfl, rfl, Own.refl _⟩
            case s4_11 =>
              intro u w1 hO
              go_wp2
              exact ⟨rfl, rfl, rfl, Own.refl _⟩
            case s4_12 =>
              intro u w1 hO
              go_wp2
              exact ⟨rfl, rfl, rfl, Own.refl _⟩
            case s4_13 =>
              intro u w1 hO
              go_wp2
              exact ⟨rfl, rfl, rfl, Own.refl _⟩
            case s4_14 =>
              intro u w1 hO
              go_wp2
              exact ⟨rfl, rfl, rfl, Own.refl _⟩
            case s4_15 =>
              intro u w1 hO
              go_wp2
              exact ⟨rfl, rfl, rfl, Own.refl _⟩
            case s4_16 =>
              intro u w1 hO
              go_wp2
              exact ⟨rfl, rfl, rfl, Own.refl _⟩
            case s4_17 =>
              intro u w1 hO
              go_wp2
              exact ⟨rfl, rfl, rfl, Own.refl _⟩
            case s4_18 =>
              intro u w1 hO
              go_wp2
              exact ⟨rfl, rfl, rfl, Own.refl _⟩
            case s4_19 =>
              intro u w1 hO
              go_wp2
              exact ⟨rfl, rfl, rfl, Own.refl _⟩
            case s4_20 =>
              intro u w1 hO
              go_wp2
              exact ⟨rfl, rfl, rfl, Own.refl _⟩
            case s4_21 =>
              intro u w1 hO
              go_wp2
              exact ⟨rfl, rfl, rfl, Own.refl _⟩
            case s4_22 =>
              intro u w1 hO
              go_wp2
              exact ⟨rfl, rfl, rfl, Own.refl _⟩
          intro u w9 hO
          replace g0 := g0.trans hO
          replace HP := Lib.hid (HP.out.own hO)
          replace HJ1 := Lib.hid (HJ1.out.own hO)
          clear hO
          clear hr1 hr2
          go_wp2
          go_roundw
          case rel => exact ⟨k + 1, by go_num, hlt, g0, HP.out, HJ1.out⟩
          case measure => simp [intOf]; omega
      · obtain rfl : k = 2 := by omega
        by_cases q3 : s = 3
        · have d3 : decide (s = 3) = true := decide_eq_true q3
          have d3b : (s == 3) = true := by rw [q3]; rfl
          obtain ⟨m, hd1, hd2⟩ := HD.out q3
          have HD1 := Lib.hid hd1
          have HD2 := Lib.hid hd2
          clear hd1 hd2
          clear q3
          go_upto_region 15 with (first | ((with_reducible show wpList _ _ _ (⟨_, .load 33 (.tmp 71), _, _, _, none⟩ :: _) _ _); refine wpList_load_part rfl 33 (.tmp 71) rfl J1 (27) rfl 3 HJ1.out (by omega) (#[.int .i64 (j 27), .int .i64 (j 28), .int .i64 (j 29)]) rfl _ Tryd.underlying33 rfl infoV ?_) | ((with_reducible show wpList _ _ _ (⟨_, .load 33 (.tmp 74), _, _, _, none⟩ :: _) _ _); refine wpList_load_part rfl 33 (.tmp 74) rfl J1 (30) rfl 3 HJ1.out (by omega) (#[.int .i64 (j 30), .int .i64 (j 31), .int .i64 (j 32)]) rfl _ Tryd.underlying33 rfl infoV ?_) | ((with_reducible show wpList _ _ _ (⟨_, .load 33 (.tmp 81), _, _, _, none⟩ :: _) _ _); refine wpList_load_part rfl 33 (.tmp 81) rfl J1 (9) rfl 3 HJ1.out (by omega) (#[.int .i64 (j 9), .int .i64 (j 10), .int .i64 (j 11)]) rfl _ Tryd.underlying33 rfl infoV ?_) | ((with_reducible show wpList _ _ _ (⟨_, .load 33 (.tmp 84), _, _, _, none⟩ :: _) _ _); refine wpList_load_part rfl 33 (.tmp 84) rfl J1 (12) rfl 3 HJ1.out (by omega) (#[.int .i64 (j 12), .int .i64 (j 13), .int .i64 (j 14)]) rfl _ Tryd.underlying33 rfl infoV ?_) | (go_at_call 23; with_reducible refine (jds_at (j 27) (j 28) (j 29) (j 30) (j 31) (j 32) m 0 _ HD1).mono ?_; rintro r w10 ⟨rfl, hg⟩; replace g0 := g0.trans hg; replace HP := Lib.hid (HP.out.own hg); replace HJ1 := Lib.hid (HJ1.out.own hg); clear hg) | (go_at_call 23; with_reducible refine (jds_at (j 9) (j 10) (j 11) (j 12) (j 13) (j 14) m 0 _ HD2).mono ?_; rintro r w11 ⟨rfl, hg⟩; replace g0 := g0.trans hg; replace HP := Lib.hid (HP.out.own hg); replace HJ1 := Lib.hid (HJ1.out.own hg); clear hg))
          (first | go_frame | skip)
          refine RegD.region_duty2 [100, 101, 102, 103, 104, 105, 106, 107, 108, 109, 110, 111, 15, 16] 15 12 14 16 13 15 (RegI.upd (RegI.upd (RegI.upd (RegI.upd (RegI.upd (RegI.upd (RegI.upd (RegI.upd (RegI.upd (RegI.upd (RegI.upd (RegI.upd (fun _ => undef) 100 (.pointer (some ⟨J1, 0, none⟩))) 101 (.agg #[.int .i64 (j 0), .int .i64 (j 1), .int .i64 (j 2)])) 102 (.pointer (some ⟨J1, 9, none⟩))) 103 (.pointer (some ⟨J1, 9, none⟩))) 104 (.agg #[.int .i64 (j 9), .int .i64 (j 10), .int .i64 (j 11)])) 105 (.agg #[.int .i64 hx, .int .i64 hy, .int .i64 0])) 106 (.pointer (some ⟨J1, 3, none⟩))) 107 (.agg #[.int .i64 (j 3), .int .i64 (j 4), .int .i64 (j 5)])) 108 (.pointer (some ⟨J1, 15, none⟩))) 109 (.pointer (some ⟨J1, 15, none⟩))) 110 (.agg #[.int .i64 (j 15), .int .i64 (j 16), .int .i64 (j 17)])) 111 (.agg #[.int .i64 nx, .int .i64 ny, .int .i64 0])) (#[.int .i64 0, .int .i64 0, .int .i64 0]) (#[.int .i64 hx, .int .i64 hy, .int .i64 0]) 33 (#[.int .i64 0, .int .i64 0, .int .i64 0]) (#[.int .i64 nx, .int .i64 ny, .int .i64 0]) 33 (by kernel_rfl) (by kernel_rfl) (by decide) (by intro d hd; simp at hd; simp; omega) ?_
          simp only [RegD.FF, RegI.FX, RegI.upd, List.foldl_cons, List.foldl_nil, List.mem_cons, List.not_mem_nil, if_true, if_false, Nat.reduceEqDiff, or_false, or_true]
          simp only [List.setIfInBounds_toArray, List.set_cons_succ, List.set_cons_zero]
          refine And.intro ?hs5 ?he5
          case hs5 =>
            refine And.intro ?s5_0 (And.intro ?s5_1 (And.intro ?s5_2 (And.intro ?s5_3 (And.intro ?s5_4 (And.intro ?s5_5 (And.intro ?s5_6 (And.intro ?s5_7 (And.intro ?s5_8 (And.intro ?s5_9 (And.intro ?s5_10 (And.intro ?s5_11 (And.intro ?s5_12 (And.intro ?s5_13 (And.intro ?s5_14 (And.intro ?s5_15 (trivial))))))))))))))))
            case s5_0 =>
              refine RegD.step2_det (by decide) (by simp) (fun u w1 hO => ?_)
              go_wp2
              exact ⟨rfl, rfl, rfl, Own.refl _⟩
            case s5_1 =>
              refine RegD.step2_det (by decide) (by simp) (fun u w1 hO => ?_)
              have HB9 := Lib.hid (HJ1.out.own hO)
              go_wp2_with ((with_reducible show wpList _ _ _ (⟨_, .load 33 (.tmp 100), _, _, _, none⟩ :: _) _ _); refine wpList_load_part rfl 33 (.tmp 100) rfl J1 (0) rfl 3 HB9.out (by omega) (#[.int .i64 (j 0), .int .i64 (j 1), .int .i64 (j 2)]) rfl _ Tryd.underlying33 rfl infoV ?_)
              exact ⟨rfl, rfl, rfl, Own.refl _⟩
            case s5_2 =>
              refine RegD.step2_det (by decide) (by simp) (fun u w1 hO => ?_)
              go_wp2
              exact ⟨rfl, rfl, rfl, Own.refl _⟩
            case s5_3 =>
              refine RegD.step2_det (by decide) (by simp) (fun u w1 hO => ?_)
              go_wp2
              exact ⟨rfl, rfl, rfl, Own.refl _⟩
            case s5_4 =>
              refine RegD.step2_det (by decide) (by simp) (fun u w1 hO => ?_)
              have HB9 := Lib.hid (HJ1.out.own hO)
              go_wp2_with ((with_reducible show wpList _ _ _ (⟨_, .load 33 (.tmp 103), _, _, _, none⟩ :: _) _ _); refine wpList_load_part rfl 33 (.tmp 103) rfl J1 (9) rfl 3 HB9.out (by omega) (#[.int .i64 (j 9), .int .i64 (j 10), .int .i64 (j 11)]) rfl _ Tryd.underlying33 rfl infoV ?_)
              exact ⟨rfl, rfl, rfl, Own.refl _⟩
            case s5_5 =>
              refine RegD.step2_det (by decide) (by simp) (fun u w1 hO => ?_)
              go_wp2_with (go_at_call 20; with_reducible refine (less_at _ _ _ _ _ _ _ _ _ _ HL1).mono ?_; rintro r w2 ⟨rfl, hg⟩)
              exact ⟨rfl, rfl, rfl, hg⟩
            case s5_6 =>
              refine RegD.step2_det (by decide) (by simp) (fun u w1 hO => ?_)
              go_wp2
              exact ⟨rfl, rfl, rfl, Own.refl _⟩
            case s5_7 =>
              refine RegD.step2_det (by decide) (by simp) (fun u w1 hO => ?_)
              have HB9 := Lib.hid (HJ1.out.own hO)
              go_wp2_with ((with_reducible show wpList _ _ _ (⟨_, .load 33 (.tmp 106), _, _, _, none⟩ :: _) _ _); refine wpList_load_part rfl 33 (.tmp 106) rfl J1 (3) rfl 3 HB9.out (by omega) (#[.int .i64 (j 3), .int .i64 (j 4), .int .i64 (j 5)]) rfl _ Tryd.underlying33 rfl infoV ?_)
              exact ⟨rfl, rfl, rfl, Own.refl _⟩
            case s5_8 =>
              refine RegD.step2_det (by decide) (by simp) (fun u w1 hO => ?_)
              go_wp2
              exact ⟨rfl, rfl, rfl, Own.refl _⟩
            case s5_9 =>
              refine RegD.step2_det (by decide) (by simp) (fun u w1 hO => ?_)
              go_wp2
              exact ⟨rfl, rfl, rfl, Own.refl _⟩
            case s5_10 =>
              refine RegD.step2_det (by decide) (by simp) (fun u w1 hO => ?_)
              have HB9 := Lib.hid (HJ1.out.own hO)
              go_wp2_with ((with_reducible show wpList _ _ _ (⟨_, .load 33 (.tmp 109), _, _, _, none⟩ :: _) _ _); refine wpList_load_part rfl 33 (.tmp 109) rfl J1 (15) rfl 3 HB9.out (by omega) (#[.int .i64 (j 15), .int .i64 (j 16), .int .i64 (j 17)]) rfl _ Tryd.underlying33 rfl infoV ?_)
              exact ⟨rfl, rfl, rfl, Own.refl _⟩
            case s5_11 =>
              refine RegD.step2_det (by decide) (by simp) (fun u w1 hO => ?_)
              go_wp2_with (go_at_call 20; with_reducible refine (less_at _ _ _ _ _ _ _ _ _ _ HL2).mono ?_; rintro r w2 ⟨rfl, hg⟩)
              exact ⟨rfl, rfl, rfl, hg⟩
            case s5_12 =>
              refine RegD.step2_a1 rfl (fun u w1 hO => ?_)
              go_wp2
              exact ⟨rfl, rfl, rfl, rfl⟩
            case s5_13 =>
              refine RegD.step2_a2 (by decide) rfl (fun u w1 hO => ?_)
              go_wp2
              exact ⟨rfl, rfl, rfl, rfl⟩
            case s5_14 =>
              refine RegD.step2_s1 (by decide) rfl (by kernel_rfl) (fun u w1 N hO hu hN => ?_)
              have HN := Lib.hid hN
              simp only [hu]
              clear hN
              go_wp2_with ((with_reducible show wpList _ _ _ (⟨_, .store 33 (.tmp 15) (.tmp 105), _, _, _, none⟩ :: _) _ _); refine wpList_store_row rfl 33 (.tmp 15) (.tmp 105) rfl N #[.int .i64 hx, .int .i64 hy, .int .i64 0] rfl rfl 33 _ HN.out.raw infoV rfl (by simp [Value.oneCell']) ?_)
              exact ⟨rfl, rfl, rfl⟩
            case s5_15 =>
              refine RegD.step2_s2 (by decide) rfl (by kernel_rfl) (fun u w1 N hO hu hN => ?_)
              have HN := Lib.hid hN
              simp only [hu]
              clear hN
              go_wp2_with ((with_reducible show wpList _ _ _ (⟨_, .store 33 (.tmp 16) (.tmp 111), _, _, _, none⟩ :: _) _ _); refine wpList_store_row rfl 33 (.tmp 16) (.tmp 111) rfl N #[.int .i64 nx, .int .i64 ny, .int .i64 0] rfl rfl 33 _ HN.out.raw infoV rfl (by simp [Value.oneCell']) ?_)
              exact ⟨rfl, rfl, rfl⟩
          intro u w12 U Y hO hu1 hu2 hne hB0 hb1 hb2
          simp only [hu1, hu2]
          have HU := Lib.hid hb1
          have HY := Lib.hid hb2
          replace g0 := g0.trans hO
          replace HP := Lib.hid (HP.out.own hO)
          replace HJ1 := Lib.hid (HJ1.out.own hO)
          clear hO hu1 hu2 hne hB0 hb1 hb2
          go_upto_region 16 with (fail)
          refine RegD.region_duty [112, 113, 114, 115, 116, 117, 118, 119, 120, 121, 122, 123, 124, 125, 126, 127, 128, 129, 130, 131, 132, 133, 134, 135, 136, 137, 138, 139, 140, 141, 142, 143, 144, 145, 146, 147, 148, 149, 150, 151, 152, 153, 154, 155, 156, 157, 158, 159, 160, 6] (RegI.upd (RegI.upd (RegI.upd (RegI.upd (RegI.upd (RegI.upd (RegI.upd (RegI.upd (RegI.upd (RegI.upd (RegI.upd (RegI.upd (RegI.upd (RegI.upd (RegI.upd (RegI.upd (RegI.upd (RegI.upd (RegI.upd (RegI.upd (RegI.upd (RegI.upd (RegI.upd (RegI.upd (RegI.upd (RegI.upd (RegI.upd (RegI.upd (RegI.upd (RegI.upd (RegI.upd (RegI.upd (RegI.upd (RegI.upd (RegI.upd (RegI.upd (RegI.upd (RegI.upd (RegI.upd (RegI.upd (RegI.upd (RegI.upd (RegI.upd (RegI.upd (RegI.upd (RegI.upd (RegI.upd (RegI.upd (RegI.upd (RegI.upd (fun _ => undef) 112 (.agg #[.int .i64 hx, .int .i64 hy, .int .i64 0])) 113 (.pointer (some ⟨J1, 9, none⟩))) 114 (.pointer (some ⟨J1, 12, none⟩))) 115 (.agg #[.int .i64 (j 12), .int .i64 (j 13), .int .i64 (j 14)])) 116 (.pointer (some ⟨J1, 0, none⟩))) 117 (.agg #[.int .i64 (j 0), .int .i64 (j 1), .int .i64 (j 2)])) 118 (.agg #[.int .i64 hx, .int .i64 hy, .int .i64 0])) 119 (.bool true)) 120 (.bool true)) 121 (.agg #[.int .i64 nx, .int .i64 ny, .int .i64 0])) 122 (.pointer (some ⟨J1, 15, none⟩))) 123 (.pointer (some ⟨J1, 18, none⟩))) 124 (.agg #[.int .i64 (j 18), .int .i64 (j 19), .int .i64 (j 20)])) 125 (.pointer (some ⟨J1, 3, none⟩))) 126 (.agg #[.int .i64 (j 3), .int .i64 (j 4), .int .i64 (j 5)])) 127 (.agg #[.int .i64 nx, .int .i64 ny, .int .i64 0])) 128 (.bool true)) 129 (.bool true)) 130 (.bool true)) 131 (.pointer (some ⟨U, 2, none⟩))) 132 (.int .i64 0)) 133 (.bool true)) 134 (.bool true)) 135 (.bool true)) 136 (.pointer (some ⟨Y, 2, none⟩))) 137 (.int .i64 0)) 138 (.bool true)) 139 (.bool true)) 140 (.bool true)) 141 (.pointer (some ⟨J1, 0, none⟩))) 142 (.pointer (some ⟨J1, 0, none⟩))) 143 (.int .i64 (p 0))) 144 (.pointer (some ⟨P, 0, none⟩))) 145 (.pointer (some ⟨P, 0, none⟩))) 146 (.int .i64 (p 0))) 147 (.bool true)) 148 (.bool true)) 149 (.bool true)) 150 (.pointer (some ⟨J1, 0, none⟩))) 151 (.pointer (some ⟨J1, 1, none⟩))) 152 (.int .i64 (p 1))) 153 (.pointer (some ⟨P, 0, none⟩))) 154 (.pointer (some ⟨P, 1, none⟩))) 155 (.int .i64 (p 1))) 156 (.bool true)) 157 (.bool true)) 158 (.bool true)) 159 (.bool true)) 160 (.bool true)) 6 (.bool true)) (by kernel_rfl) (by kernel_rfl) (by intro d hd; simp at hd; simp; omega) ?_
          simp only [RegD.FF, RegI.FX, RegI.upd, List.foldl_cons, List.foldl_nil, List.not_mem_nil, if_true, if_false, Nat.reduceEqDiff]
          simp only [List.setIfInBounds_toArray, List.set_cons_succ, List.set_cons_zero]
          refine And.intro ?hs6 ?he6
          case hs6 =>
            refine And.intro ?s6_0 (And.intro ?s6_1 (And.intro ?s6_2 (And.intro ?s6_3 (And.intro ?s6_4 (And.intro ?s6_5 (And.intro ?s6_6 (And.intro ?s6_7 (And.intro ?s6_8 (And.intro ?s6_9 (And.intro ?s6_10 (And.intro ?s6_11 (And.intro ?s6_12 (And.intro ?s6_13 (And.intro ?s6_14 (And.intro ?s6_15 (And.intro ?s6_16 (And.intro ?s6_17 (And.intro ?s6_18 (And.intro ?s6_19 (And.intro ?s6_20 (And.intro ?s6_21 (And.intro ?s6_22 (And.intro ?s6_23 (And.intro ?s6_24 (And.intro ?s6_25 (And.intro ?s6_26 (And.intro ?s6_27 (And.intro ?s6_28 (And.intro ?s6_29 (And.intro ?s6_30 (And.intro ?s6_31 (And.intro ?s6_32 (And.intro ?s6_33 (And.intro ?s6_34 (And.intro ?s6_35 (And.intro ?s6_36 (And.intro ?s6_37 (And.intro ?s6_38 (And.intro ?s6_39 (And.intro ?s6_40 (And.intro ?s6_41 (And.intro ?s6_42 (And.intro ?s6_43 (And.intro ?s6_44 (And.intro ?s6_45 (And.intro ?s6_46 (And.intro ?s6_47 (And.intro ?s6_48 (And.intro ?s6_49 (trivial))))))))))))))))))))))))))))))))))))))))))))))))))
            case s6_0 =>
              intro u w1 hO
              have HB9 := Lib.hid (HU.out.own hO)
              go_wp2_with ((with_reducible show wpList _ _ _ (⟨_, .load 33 (.tmp 15), _, _, _, none⟩ :: _) _ _); refine wpList_load_row rfl 33 (.tmp 15) rfl U rfl 33 _ (0, 0) _ HB9.out.raw Tryd.underlying33 rfl infoV ?_)
              exact ⟨rfl, rfl, rfl, Own.refl _⟩
            case s6_1 =>
              intro u w1 hO
              go_wp2
              exact ⟨rfl, rfl, rfl, Own.refl _⟩
            case s6_2 =>
              intro u w1 hO
              go_wp2
              exact ⟨rfl, rfl, rfl, Own.refl _⟩
            case s6_3 =>
              intro u w1 hO
              have HB9 := Lib.hid (HJ1.out.own hO)
              go_wp2_with ((with_reducible show wpList _ _ _ (⟨_, .load 33 (.tmp 114), _, _, _, none⟩ :: _) _ _); refine wpList_load_part rfl 33 (.tmp 114) rfl J1 (12) rfl 3 HB9.out (by omega) (#[.int .i64 (j 12), .int .i64 (j 13), .int .i64 (j 14)]) rfl _ Tryd.underlying33 rfl infoV ?_)
              exact ⟨rfl, rfl, rfl, Own.refl _⟩
            case s6_4 =>
              intro u w1 hO
              go_wp2
              exact ⟨rfl, rfl, rfl, Own.refl _⟩
            case s6_5 =>
              intro u w1 hO
              have HB9 := Lib.hid (HJ1.out.own hO)
              go_wp2_with ((with_reducible show wpList _ _ _ (⟨_, .load 33 (.tmp 116), _, _, _, none⟩ :: _) _ _); refine wpList_load_part rfl 33 (.tmp 116) rfl J1 (0) rfl 3 HB9.out (by omega) (#[.int .i64 (j 0), .int .i64 (j 1), .int .i64 (j 2)]) rfl _ Tryd.underlying33 rfl infoV ?_)
              exact ⟨rfl, rfl, rfl, Own.refl _⟩
            case s6_6 =>
              intro u w1 hO
              go_wp2_with (go_at_call 20; with_reducible refine (less_at _ _ _ _ _ _ _ _ _ _ HL3).mono ?_; rintro r w2 ⟨rfl, hg⟩)
              exact ⟨rfl, rfl, rfl, hg⟩
            case s6_7 =>
              intro u w1 hO
              go_wp2
              exact ⟨rfl, rfl, rfl, Own.refl _⟩
            case s6_8 =>
              intro u w1 hO
              go_wp2
              exact ⟨rfl, rfl, rfl, Own.refl _⟩
            case s6_9 =>
              intro u w1 hO
              have HB9 := Lib.hid (HY.out.own hO)
              go_wp2_with ((with_reducible show wpList _ _ _ (⟨_, .load 33 (.tmp 16), _, _, _, some _⟩ :: _) _ _); refine wpList_load_row_g rfl 33 (.tmp 16) rfl Y rfl 33 _ (0, 0) _ HB9.out.raw Tryd.underlying33 rfl infoV ?_)
              exact ⟨rfl, rfl, rfl, Own.refl _⟩
            case s6_10 =>
              intro u w1 hO
              go_wp2
              exact ⟨rfl, rfl, rfl, Own.refl _⟩
            case s6_11 =>
              intro u w1 hO
              go_wp2
              exact ⟨rfl, rfl, rfl, Own.refl _⟩
            case s6_12 =>
              intro u w1 hO
              have HB9 := Lib.hid (HJ1.out.own hO)
              go_wp2_with ((with_reducible show wpList _ _ _ (⟨_, .load 33 (.tmp 123), _, _, _, some _⟩ :: _) _ _); refine wpList_load_part_g rfl 33 (.tmp 123) rfl J1 (18) rfl 3 HB9.out (by omega) (#[.int .i64 (j 18), .int .i64 (j 19), .int .i64 (j 20)]) rfl _ Tryd.underlying33 rfl infoV ?_)
              exact ⟨rfl, rfl, rfl, Own.refl _⟩
            case s6_13 =>
              intro u w1 hO
              go_wp2
              exact ⟨rfl, rfl, rfl, Own.refl _⟩
            case s6_14 =>
              intro u w1 hO
              have HB9 := Lib.hid (HJ1.out.own hO)
              go_wp2_with ((with_reducible show wpList _ _ _ (⟨_, .load 33 (.tmp 125), _, _, _, some _⟩ :: _) _ _); refine wpList_load_part_g rfl 33 (.tmp 125) rfl J1 (3) rfl 3 HB9.out (by omega) (#[.int .i64 (j 3), .int .i64 (j 4), .int .i64 (j 5)]) rfl _ Tryd.underlying33 rfl infoV ?_)
              exact ⟨rfl, rfl, rfl, Own.refl _⟩
            case s6_15 =>
              intro u w1 hO
              go_wp2_with (go_at_call 20; with_reducible refine (less_at _ _ _ _ _ _ _ _ _ _ HL4).mono ?_; rintro r w2 ⟨rfl, hg⟩)
              exact ⟨rfl, rfl, rfl, hg⟩
            case s6_16 =>
              intro u w1 hO
              go_wp2
              exact ⟨rfl, rfl, rfl, Own.refl _⟩
            case s6_17 =>
              intro u w1 hO
              go_wp2
              exact ⟨rfl, rfl, rfl, Own.refl _⟩
            case s6_18 =>
              intro u w1 hO
              go_wp2
              exact ⟨rfl, rfl, rfl, Own.refl _⟩
            case s6_19 =>
              intro u w1 hO
              go_wp2
              exact ⟨rfl, rfl, rfl, Own.refl _⟩
            case s6_20 =>
              intro u w1 hO
              have kk := (HU.out.own hO).cell 2
              go_wp2
              exact ⟨rfl, rfl, rfl, Own.refl _⟩
            case s6_21 =>
              intro u w1 hO
              go_wp2
              exact ⟨rfl, rfl, rfl, Own.refl _⟩
            case s6_22 =>
              intro u w1 hO
              go_wp2
              exact ⟨rfl, rfl, rfl, Own.refl _⟩
            case s6_23 =>
              intro u w1 hO
              go_wp2
              exact ⟨rfl, rfl, rfl, Own.refl _⟩
            case s6_24 =>
              intro u w1 hO
              go_wp2
              exact ⟨rfl, rfl, rfl, Own.refl _⟩
            case s6_25 =>
              intro u w1 hO
              have kk := (HY.out.own hO).cell 2
              go_wp2
              exact ⟨rfl, rfl, rfl, Own.refl _⟩
            case s6_26 =>
              intro u w1 hO
              go_wp2
              exact ⟨rfl, rfl, rfl, Own.refl _⟩
            case s6_27 =>
              intro u w1 hO
              go_wp2
              exact ⟨rfl, rfl, rfl, Own.refl _⟩
            case s6_28 =>
              intro u w1 hO
              go_wp2
              exact ⟨rfl, rfl, rfl, Own.refl _⟩
            case s6_29 =>
              intro u w1 hO
              go_wp2
              exact ⟨rfl, rfl, rfl, Own.refl _⟩
            case s6_30 =>
              intro u w1 hO
              go_wp2
              exact ⟨rfl, rfl, rfl, Own.refl _⟩
            case s6_31 =>
              intro u w1 hO
              have kj := blk_num (HJ1.out.own hO) (i := 0) (by omega)
              rw [HP0.out] at kj
              go_wp2
              exact ⟨rfl, rfl, rfl, Own.refl _⟩
            case s6_32 =>
              intro u w1 hO
              go_wp2
              exact ⟨rfl, rfl, rfl, Own.refl _⟩
            case s6_33 =>
              intro u w1 hO
              go_wp2
              exact ⟨rfl, rfl, rfl, Own.refl _⟩
            case s6_34 =>
              intro u w1 hO
              have kj := blk_num (HP.out.own hO) (i := 0) (by omega)
              go_wp2
              exact ⟨rfl, rfl, rfl, Own.refl _⟩
            case s6_35 =>
              intro u w1 hO
              go_wp2
              exact ⟨rfl, rfl, rfl, Own.refl _⟩
            case s6_36 =>
              intro u w1 hO
              go_wp2
              exact ⟨rfl, rfl, rfl, Own.refl _⟩
            case s6_37 =>
              intro u w1 hO
              go_wp2
              exact ⟨rfl, rfl, rfl, Own.refl _⟩
            case s6_38 =>
              intro u w1 hO
              go_wp2
              exact ⟨rfl, rfl, rfl, Own.refl _⟩
            case s6_39 =>
              intro u w1 hO
              go_wp2
              exact ⟨rfl, rfl, rfl, Own.refl _⟩
            case s6_40 =>
              intro u w1 hO
              have kj := blk_num (HJ1.out.own hO) (i := 1) (by omega)
              rw [HP1.out] at kj
              go_wp2
              exact ⟨rfl, rfl, rfl, Own.refl _⟩
            case s6_41 =>
              intro u w1 hO
              go_wp2
              exact ⟨rfl, rfl, rfl, Own.refl _⟩
            case s6_42 =>
              intro u w1 hO
              go_wp2
              exact ⟨rfl, rfl, rfl, Own.refl _⟩
            case s6_43 =>
              intro u w1 hO
              have kj := blk_num (HP.out.own hO) (i := 1) (by omega)
              go_wp2
              exact ⟨rfl, rfl, rfl, Own.refl _⟩
            case s6_44 =>
              intro u w1 hO
              go_wp2
              exact ⟨rfl, rfl, rfl, Own.refl _⟩
            case s6_45 =>
              intro u w1 hO
              go_wp2
              exact ⟨rfl, rfl, rfl, Own.refl _⟩
            case s6_46 =>
              intro u w1 hO
              go_wp2
              exact ⟨rfl, rfl, rfl, Own.refl _⟩
            case s6_47 =>
              intro u w1 hO
              go_wp2_with (go_at_call 12; with_reducible refine (awake_at _ (Lib.hid (tab_own HT.out (g0.trans hO))) (Lib.hid (HBT.out.own (g0.trans hO))) (Lib.hid (HS.out.own (g0.trans hO)))).mono ?_; rintro r w2 ⟨rfl, hg⟩)
              exact ⟨rfl, rfl, rfl, hg⟩
            case s6_48 =>
              intro u w1 hO
              go_wp2
              exact ⟨rfl, rfl, rfl, Own.refl _⟩
            case s6_49 =>
              intro u w1 hO
              go_wp2
              exact ⟨rfl, rfl, rfl, Own.refl _⟩
          intro u w13 hO
          replace g0 := g0.trans hO
          clear hO
          go_wp2
          go_ret
          exact ⟨by first | rfl | (exact ret_bool (by simp)), g0⟩
        · have d3 : decide (s = 3) = false := decide_eq_false q3
          have d3b : (s == 3) = false := beq_eq_false_iff_ne.2 q3
          clear q3
          go_upto_region 15 with (fail)
          (first | go_frame | skip)
          refine RegD.region_duty2 [100, 101, 102, 103, 104, 105, 106, 107, 108, 109, 110, 111, 15, 16] 15 12 14 16 13 15 (RegI.upd (RegI.upd (RegI.upd (RegI.upd (RegI.upd (RegI.upd (RegI.upd (RegI.upd (RegI.upd (RegI.upd (RegI.upd (RegI.upd (fun _ => undef) 100 (.pointer (some ⟨J1, 0, none⟩))) 101 (.agg #[.int .i64 (j 0), .int .i64 (j 1), .int .i64 (j 2)])) 102 (.pointer (some ⟨J1, 9, none⟩))) 103 (.pointer (some ⟨J1, 9, none⟩))) 104 (.agg #[.int .i64 (j 9), .int .i64 (j 10), .int .i64 (j 11)])) 105 (.agg #[.int .i64 hx, .int .i64 hy, .int .i64 0])) 106 (.pointer (some ⟨J1, 3, none⟩))) 107 (.agg #[.int .i64 (j 3), .int .i64 (j 4), .int .i64 (j 5)])) 108 (.pointer (some ⟨J1, 15, none⟩))) 109 (.pointer (some ⟨J1, 15, none⟩))) 110 (.agg #[.int .i64 (j 15), .int .i64 (j 16), .int .i64 (j 17)])) 111 (.agg #[.int .i64 nx, .int .i64 ny, .int .i64 0])) (#[.int .i64 0, .int .i64 0, .int .i64 0]) (#[.int .i64 hx, .int .i64 hy, .int .i64 0]) 33 (#[.int .i64 0, .int .i64 0, .int .i64 0]) (#[.int .i64 nx, .int .i64 ny, .int .i64 0]) 33 (by kernel_rfl) (by kernel_rfl) (by decide) (by intro d hd; simp at hd; simp; omega) ?_
          simp only [RegD.FF, RegI.FX, RegI.upd, List.foldl_cons, List.foldl_nil, List.mem_cons, List.not_mem_nil, if_true, if_false, Nat.reduceEqDiff, or_false, or_true]
          simp only [List.setIfInBounds_toArray, List.set_cons_succ, List.set_cons_zero]
          refine And.intro ?hs7 ?he7
          case hs7 =>
            refine And.intro ?s7_0 (And.intro ?s7_1 (And.intro ?s7_2 (And.intro ?s7_3 (And.intro ?s7_4 (And.intro ?s7_5 (And.intro ?s7_6 (And.intro ?s7_7 (And.intro ?s7_8 (And.intro ?s7_9 (And.intro ?s7_10 (And.intro ?s7_11 (And.intro ?s7_12 (And.intro ?s7_13 (And.intro ?s7_14 (And.intro ?s7_15 (trivial))))))))))))))))
            case s7_0 =>
              refine RegD.step2_det (by decide) (by simp) (fun u w1 hO => ?_)
              go_wp2
              exact ⟨rfl, rfl, rfl, Own.refl _⟩
            case s7_1 =>
              refine RegD.step2_det (by decide) (by simp) (fun u w1 hO => ?_)
              have HB9 := Lib.hid (HJ1.out.own hO)
              go_wp2_with ((with_reducible show wpList _ _ _ (⟨_, .load 33 (.tmp 100), _, _, _, none⟩ :: _) _ _); refine wpList_load_part rfl 33 (.tmp 100) rfl J1 (0) rfl 3 HB9.out (by omega) (#[.int .i64 (j 0), .int .i64 (j 1), .int .i64 (j 2)]) rfl _ Tryd.underlying33 rfl infoV ?_)
              exact ⟨rfl, rfl, rfl, Own.refl _⟩
            case s7_2 =>
              refine RegD.step2_det (by decide) (by simp) (fun u w1 hO => ?_)
              go_wp2
              exact ⟨rfl, rfl, rfl, Own.refl _⟩
            case s7_3 =>
              refine RegD.step2_det (by decide) (by simp) (fun u w1 hO => ?_)
              go_wp2
              exact ⟨rfl, rfl, rfl, Own.refl _⟩
            case s7_4 =>
              refine RegD.step2_det (by decide) (by simp) (fun u w1 hO => ?_)
              have HB9 := Lib.hid (HJ1.out.own hO)
              go_wp2_with ((with_reducible show wpList _ _ _ (⟨_, .load 33 (.tmp 103), _, _, _, none⟩ :: _) _ _); refine wpList_load_part rfl 33 (.tmp 103) rfl J1 (9) rfl 3 HB9.out (by omega) (#[.int .i64 (j 9), .int .i64 (j 10), .int .i64 (j 11)]) rfl _ Tryd.underlying33 rfl infoV ?_)
              exact ⟨rfl, rfl, rfl, Own.refl _⟩
            case s7_5 =>
              refine RegD.step2_det (by decide) (by simp) (fun u w1 hO => ?_)
              go_wp2_with (go_at_call 20; with_reducible refine (less_at _ _ _ _ _ _ _ _ _ _ HL1).mono ?_; rintro r w2 ⟨rfl, hg⟩)
              exact ⟨rfl, rfl, rfl, hg⟩
            case s7_6 =>
              refine RegD.step2_det (by decide) (by simp) (fun u w1 hO => ?_)
              go_wp2
              exact ⟨rfl, rfl, rfl, Own.refl _⟩
            case s7_7 =>
              refine RegD.step2_det (by decide) (by simp) (fun u w1 hO => ?_)
              have HB9 := Lib.hid (HJ1.out.own hO)
              go_wp2_with ((with_reducible show wpList _ _ _ (⟨_, .load 33 (.tmp 106), _, _, _, none⟩ :: _) _ _); refine wpList_load_part rfl 33 (.tmp 106) rfl J1 (3) rfl 3 HB9.out (by omega) (#[.int .i64 (j 3), .int .i64 (j 4), .int .i64 (j 5)]) rfl _ Tryd.underlying33 rfl infoV ?_)
              exact ⟨rfl, rfl, rfl, Own.refl _⟩
            case s7_8 =>
              refine RegD.step2_det (by decide) (by simp) (fun u w1 hO => ?_)
              go_wp2
              exact ⟨rfl, rfl, rfl, Own.refl _⟩
            case s7_9 =>
              refine RegD.step2_det (by decide) (by simp) (fun u w1 hO => ?_)
              go_wp2
              exact ⟨rfl, rfl, rfl, Own.refl _⟩
            case s7_10 =>
              refine RegD.step2_det (by decide) (by simp) (fun u w1 hO => ?_)
              have HB9 := Lib.hid (HJ1.out.own hO)
              go_wp2_with ((with_reducible show wpList _ _ _ (⟨_, .load 33 (.tmp 109), _, _, _, none⟩ :: _) _ _); refine wpList_load_part rfl 33 (.tmp 109) rfl J1 (15) rfl 3 HB9.out (by omega) (#[.int .i64 (j 15), .int .i64 (j 16), .int .i64 (j 17)]) rfl _ Tryd.underlying33 rfl infoV ?_)
              exact ⟨rfl, rfl, rfl, Own.refl _⟩
            case s7_11 =>
              refine RegD.step2_det (by decide) (by simp) (fun u w1 hO => ?_)
              go_wp2_with (go_at_call 20; with_reducible refine (less_at _ _ _ _ _ _ _ _ _ _ HL2).mono ?_; rintro r w2 ⟨rfl, hg⟩)
              exact ⟨rfl, rfl, rfl, hg⟩
            case s7_12 =>
              refine RegD.step2_a1 rfl (fun u w1 hO => ?_)
              go_wp2
              exact ⟨rfl, rfl, rfl, rfl⟩
            case s7_13 =>
              refine RegD.step2_a2 (by decide) rfl (fun u w1 hO => ?_)
              go_wp2
              exact ⟨rfl, rfl, rfl, rfl⟩
            case s7_14 =>
              refine RegD.step2_s1 (by decide) rfl (by kernel_rfl) (fun u w1 N hO hu hN => ?_)
              have HN := Lib.hid hN
              simp only [hu]
              clear hN
              go_wp2_with ((with_reducible show wpList _ _ _ (⟨_, .store 33 (.tmp 15) (.tmp 105), _, _, _, none⟩ :: _) _ _); refine wpList_store_row rfl 33 (.tmp 15) (.tmp 105) rfl N #[.int .i64 hx, .int .i64 hy, .int .i64 0] rfl rfl 33 _ HN.out.raw infoV rfl (by simp [Value.oneCell']) ?_)
              exact ⟨rfl, rfl, rfl⟩
            case s7_15 =>
              refine RegD.step2_s2 (by decide) rfl (by kernel_rfl) (fun u w1 N hO hu hN => ?_)
              have HN := Lib.hid hN
              simp only [hu]
              clear hN
              go_wp2_with ((with_reducible show wpList _ _ _ (⟨_, .store 33 (.tmp 16) (.tmp 111), _, _, _, none⟩ :: _) _ _); refine wpList_store_row rfl 33 (.tmp 16) (.tmp 111) rfl N #[.int .i64 nx, .int .i64 ny, .int .i64 0] rfl rfl 33 _ HN.out.raw infoV rfl (by simp [Value.oneCell']) ?_)
              exact ⟨rfl, rfl, rfl⟩
          intro u w12 U Y hO hu1 hu2 hne hB0 hb1 hb2
          simp only [hu1, hu2]
          have HU := Lib.hid hb1
          have HY := Lib.hid hb2
          replace g0 := g0.trans hO
          replace HP := Lib.hid (HP.out.own hO)
          replace HJ1 := Lib.hid (HJ1.out.own hO)
          clear hO hu1 hu2 hne hB0 hb1 hb2
          go_upto_region 16 with (fail)
          refine RegD.region_duty [112, 113, 114, 115, 116, 117, 118, 119, 120, 121, 122, 123, 124, 125, 126, 127, 128, 129, 130, 131, 132, 133, 134, 135, 136, 137, 138, 139, 140, 141, 142, 143, 144, 145, 146, 147, 148, 149, 150, 151, 152, 153, 154, 155, 156, 157, 158, 159, 160, 6] (RegI.upd (RegI.upd (RegI.upd (RegI.upd (RegI.upd (RegI.upd (RegI.upd (RegI.upd (RegI.upd (RegI.upd (RegI.upd (RegI.upd (RegI.upd (RegI.upd (RegI.upd (RegI.upd (RegI.upd (RegI.upd (RegI.upd (RegI.upd (RegI.upd (RegI.upd (RegI.upd (RegI.upd (RegI.upd (RegI.upd (RegI.upd (RegI.upd (RegI.upd (RegI.upd (RegI.upd (RegI.upd (RegI.upd (RegI.upd (RegI.upd (RegI.upd (RegI.upd (RegI.upd (RegI.upd (RegI.upd (RegI.upd (RegI.upd (RegI.upd (RegI.upd (RegI.upd (RegI.upd (RegI.upd (RegI.upd (RegI.upd (RegI.upd (fun _ => undef) 112 (.agg #[.int .i64 hx, .int .i64 hy, .int .i64 0])) 113 (.pointer (some ⟨J1, 9, none⟩))) 114 (.pointer (some ⟨J1, 12, none⟩))) 115 (.agg #[.int .i64 (j 12), .int .i64 (j 13), .int .i64 (j 14)])) 116 (.pointer (some ⟨J1, 0, none⟩))) 117 (.agg #[.int .i64 (j 0), .int .i64 (j 1), .int .i64 (j 2)])) 118 (.agg #[.int .i64 hx, .int .i64 hy, .int .i64 0])) 119 (.bool true)) 120 (.bool true)) 121 (.agg #[.int .i64 nx, .int .i64 ny, .int .i64 0])) 122 (.pointer (some ⟨J1, 15, none⟩))) 123 (.pointer (some ⟨J1, 18, none⟩))) 124 (.agg #[.int .i64 (j 18), .int .i64 (j 19), .int .i64 (j 20)])) 125 (.pointer (some ⟨J1, 3, none⟩))) 126 (.agg #[.int .i64 (j 3), .int .i64 (j 4), .int .i64 (j 5)])) 127 (.agg #[.int .i64 nx, .int .i64 ny, .int .i64 0])) 128 (.bool true)) 129 (.bool true)) 130 (.bool true)) 131 (.pointer (some ⟨U, 2, none⟩))) 132 (.int .i64 0)) 133 (.bool true)) 134 (.bool true)) 135 (.bool true)) 136 (.pointer (some ⟨Y, 2, none⟩))) 137 (.int .i64 0)) 138 (.bool true)) 139 (.bool true)) 140 (.bool true)) 141 (.pointer (some ⟨J1, 0, none⟩))) 142 (.pointer (some ⟨J1, 0, none⟩))) 143 (.int .i64 (p 0))) 144 (.pointer (some ⟨P, 0, none⟩))) 145 (.pointer (some ⟨P, 0, none⟩))) 146 (.int .i64 (p 0))) 147 (.bool true)) 148 (.bool true)) 149 (.bool true)) 150 (.pointer (some ⟨J1, 0, none⟩))) 151 (.pointer (some ⟨J1, 1, none⟩))) 152 (.int .i64 (p 1))) 153 (.pointer (some ⟨P, 0, none⟩))) 154 (.pointer (some ⟨P, 1, none⟩))) 155 (.int .i64 (p 1))) 156 (.bool true)) 157 (.bool true)) 158 (.bool true)) 159 (.bool true)) 160 (.bool true)) 6 (.bool true)) (by kernel_rfl) (by kernel_rfl) (by intro d hd; simp at hd; simp; omega) ?_
          simp only [RegD.FF, RegI.FX, RegI.upd, List.foldl_cons, List.foldl_nil, List.not_mem_nil, if_true, if_false, Nat.reduceEqDiff]
          simp only [List.setIfInBounds_toArray, List.set_cons_succ, List.set_cons_zero]
          refine And.intro ?hs8 ?he8
          case hs8 =>
            refine And.intro ?s8_0 (And.intro ?s8_1 (And.intro ?s8_2 (And.intro ?s8_3 (And.intro ?s8_4 (And.intro ?s8_5 (And.intro ?s8_6 (And.intro ?s8_7 (And.intro ?s8_8 (And.intro ?s8_9 (And.intro ?s8_10 (And.intro ?s8_11 (And.intro ?s8_12 (And.intro ?s8_13 (And.intro ?s8_14 (And.intro ?s8_15 (And.intro ?s8_16 (And.intro ?s8_17 (And.intro ?s8_18 (And.intro ?s8_19 (And.intro ?s8_20 (And.intro ?s8_21 (And.intro ?s8_22 (And.intro ?s8_23 (And.intro ?s8_24 (And.intro ?s8_25 (And.intro ?s8_26 (And.intro ?s8_27 (And.intro ?s8_28 (And.intro ?s8_29 (And.intro ?s8_30 (And.intro ?s8_31 (And.intro ?s8_32 (And.intro ?s8_33 (And.intro ?s8_34 (And.intro ?s8_35 (And.intro ?s8_36 (And.intro ?s8_37 (And.intro ?s8_38 (And.intro ?s8_39 (And.intro ?s8_40 (And.intro ?s8_41 (And.intro ?s8_42 (And.intro ?s8_43 (And.intro ?s8_44 (And.intro ?s8_45 (And.intro ?s8_46 (And.intro ?s8_47 (And.intro ?s8_48 (And.intro ?s8_49 (trivial))))))))))))))))))))))))))))))))))))))))))))))))))
            case s8_0 =>
              intro u w1 hO
              have HB9 := Lib.hid (HU.out.own hO)
              go_wp2_with ((with_reducible show wpList _ _ _ (⟨_, .load 33 (.tmp 15), _, _, _, none⟩ :: _) _ _); refine wpList_load_row rfl 33 (.tmp 15) rfl U rfl 33 _ (0, 0) _ HB9.out.raw Tryd.underlying33 rfl infoV ?_)
              exact ⟨rfl, rfl, rfl, Own.refl _⟩
            case s8_1 =>
              intro u w1 hO
              go_wp2
              exact ⟨rfl, rfl, rfl, Own.refl _⟩
            case s8_2 =>
              intro u w1 hO
              go_wp2
              exact ⟨rfl, rfl, rfl, Own.refl _⟩
            case s8_3 =>
              intro u w1 hO
              have HB9 := Lib.hid (HJ1.out.own hO)
              go_wp2_with ((with_reducible show wpList _ _ _ (⟨_, .load 33 (.tmp 114), _, _, _, none⟩ :: _) _ _); refine wpList_load_part rfl 33 (.tmp 114) rfl J1 (12) rfl 3 HB9.out (by omega) (#[.int .i64 (j 12), .int .i64 (j 13), .int .i64 (j 14)]) rfl _ Tryd.underlying33 rfl infoV ?_)
              exact ⟨rfl, rfl, rfl, Own.refl _⟩
            case s8_4 =>
              intro u w1 hO
              go_wp2
              exact ⟨rfl, rfl, rfl, Own.refl _⟩
            case s8_5 =>
              intro u w1 hO
              have HB9 := Lib.hid (HJ1.out.own hO)
              go_wp2_with ((with_reducible show wpList _ _ _ (⟨_, .load 33 (.tmp 116), _, _, _, none⟩ :: _) _ _); refine wpList_load_part rfl 33 (.tmp 116) rfl J1 (0) rfl 3 HB9.out (by omega) (#[.int .i64 (j 0), .int .i64 (j 1), .int .i64 (j 2)]) rfl _ Tryd.underlying33 rfl infoV ?_)
              exact ⟨rfl, rfl, rfl, Own.refl _⟩
            case s8_6 =>
              intro u w1 hO
              go_wp2_with (go_at_call 20; with_reducible refine (less_at _ _ _ _ _ _ _ _ _ _ HL3).mono ?_; rintro r w2 ⟨rfl, hg⟩)
              exact ⟨rfl, rfl, rfl, hg⟩
            case s8_7 =>
              intro u w1 hO
              go_wp2
              exact ⟨rfl, rfl, rfl, Own.refl _⟩
            case s8_8 =>
              intro u w1 hO
              go_wp2
              exact ⟨rfl, rfl, rfl, Own.refl _⟩
            case s8_9 =>
              intro u w1 hO
              have HB9 := Lib.hid (HY.out.own hO)
              go_wp2_with ((with_reducible show wpList _ _ _ (⟨_, .load 33 (.tmp 16), _, _, _, some _⟩ :: _) _ _); refine wpList_load_row_g rfl 33 (.tmp 16) rfl Y rfl 33 _ (0, 0) _ HB9.out.raw Tryd.underlying33 rfl infoV ?_)
              exact ⟨rfl, rfl, rfl, Own.refl _⟩
            case s8_10 =>
              intro u w1 hO
              go_wp2
              exact ⟨rfl, rfl, rfl, Own.refl _⟩
            case s8_11 =>
              intro u w1 hO
              go_wp2
              exact ⟨rfl, rfl, rfl, Own.refl _⟩
            case s8_12 =>
              intro u w1 hO
              have HB9 := Lib.hid (HJ1.out.own hO)
              go_wp2_with ((with_reducible show wpList _ _ _ (⟨_, .load 33 (.tmp 123), _, _, _, some _⟩ :: _) _ _); refine wpList_load_part_g rfl 33 (.tmp 123) rfl J1 (18) rfl 3 HB9.out (by omega) (#[.int .i64 (j 18), .int .i64 (j 19), .int .i64 (j 20)]) rfl _ Tryd.underlying33 rfl infoV ?_)
              exact ⟨rfl, rfl, rfl, Own.refl _⟩
            case s8_13 =>
              intro u w1 hO
              go_wp2
              exact ⟨rfl, rfl, rfl, Own.refl _⟩
            case s8_14 =>
              intro u w1 hO
              have HB9 := Lib.hid (HJ1.out.own hO)
              go_wp2_with ((with_reducible show wpList _ _ _ (⟨_, .load 33 (.tmp 125), _, _, _, some _⟩ :: _) _ _); refine wpList_load_part_g rfl 33 (.tmp 125) rfl J1 (3) rfl 3 HB9.out (by omega) (#[.int .i64 (j 3), .int .i64 (j 4), .int .i64 (j 5)]) rfl _ Tryd.underlying33 rfl infoV ?_)
              exact ⟨rfl, rfl, rfl, Own.refl _⟩
            case s8_15 =>
              intro u w1 hO
              go_wp2_with (go_at_call 20; with_reducible refine (less_at _ _ _ _ _ _ _ _ _ _ HL4).mono ?_; rintro r w2 ⟨rfl, hg⟩)
              exact ⟨rfl, rfl, rfl, hg⟩
            case s8_16 =>
              intro u w1 hO
              go_wp2
              exact ⟨rfl, rfl, rfl, Own.refl _⟩
            case s8_17 =>
              intro u w1 hO
              go_wp2
              exact ⟨rfl, rfl, rfl, Own.refl _⟩
            case s8_18 =>
              intro u w1 hO
              go_wp2
              exact ⟨rfl, rfl, rfl, Own.refl _⟩
            case s8_19 =>
              intro u w1 hO
              go_wp2
              exact ⟨rfl, rfl, rfl, Own.refl _⟩
            case s8_20 =>
              intro u w1 hO
              have kk := (HU.out.own hO).cell 2
              go_wp2
              exact ⟨rfl, rfl, rfl, Own.refl _⟩
            case s8_21 =>
              intro u w1 hO
              go_wp2
              exact ⟨rfl, rfl, rfl, Own.refl _⟩
            case s8_22 =>
              intro u w1 hO
              go_wp2
              exact ⟨rfl, rfl, rfl, Own.refl _⟩
            case s8_23 =>
              intro u w1 hO
              go_wp2
              exact ⟨rfl, rfl, rfl, Own.refl _⟩
            case s8_24 =>
              intro u w1 hO
              go_wp2
              exact ⟨rfl, rfl, rfl, Own.refl _⟩
            case s8_25 =>
              intro u w1 hO
              have kk := (HY.out.own hO).cell 2
              go_wp2
              exact ⟨rfl, rfl, rfl, Own.refl _⟩
            case s8_26 =>
              intro u w1 hO
              go_wp2
              exact ⟨rfl, rfl, rfl, Own.refl _⟩
            case s8_27 =>
              intro u w1 hO
              go_wp2
              exact ⟨rfl, rfl, rfl, Own.refl _⟩
            case s8_28 =>
              intro u w1 hO
              go_wp2
              exact ⟨rfl, rfl, rfl, Own.refl _⟩
            case s8_29 =>
              intro u w1 hO
              go_wp2
              exact ⟨rfl, rfl, rfl, Own.refl _⟩
            case s8_30 =>
              intro u w1 hO
              go_wp2
              exact ⟨rfl, rfl, rfl, Own.refl _⟩
            case s8_31 =>
              intro u w1 hO
              have kj := blk_num (HJ1.out.own hO) (i := 0) (by omega)
              rw [HP0.out] at kj
              go_wp2
              exact ⟨rfl, rfl, rfl, Own.refl _⟩
            case s8_32 =>
              intro u w1 hO
              go_wp2
              exact ⟨rfl, rfl, rfl, Own.refl _⟩
            case s8_33 =>
              intro u w1 hO
              go_wp2
              exact ⟨rfl, rfl, rfl, Own.refl _⟩
            case s8_34 =>
              intro u w1 hO
              have kj := blk_num (HP.out.own hO) (i := 0) (by omega)
              go_wp2
              exact ⟨rfl, rfl, rfl, Own.refl _⟩
            case s8_35 =>
              intro u w1 hO
              go_wp2
              exact ⟨rfl, rfl, rfl, Own.refl _⟩
            case s8_36 =>
              intro u w1 hO
              go_wp2
              exact ⟨rfl, rfl, rfl, Own.refl _⟩
            case s8_37 =>
              intro u w1 hO
              go_wp2
              exact ⟨rfl, rfl, rfl, Own.refl _⟩
            case s8_38 =>
              intro u w1 hO
              go_wp2
              exact ⟨rfl, rfl, rfl, Own.refl _⟩
            case s8_39 =>
              intro u w1 hO
              go_wp2
              exact ⟨rfl, rfl, rfl, Own.refl _⟩
            case s8_40 =>
              intro u w1 hO
              have kj := blk_num (HJ1.out.own hO) (i := 1) (by omega)
              rw [HP1.out] at kj
              go_wp2
              exact ⟨rfl, rfl, rfl, Own.refl _⟩
            case s8_41 =>
              intro u w1 hO
              go_wp2
              exact ⟨rfl, rfl, rfl, Own.refl _⟩
            case s8_42 =>
              intro u w1 hO
              go_wp2
              exact ⟨rfl, rfl, rfl, Own.refl _⟩
            case s8_43 =>
              intro u w1 hO
              have kj := blk_num (HP.out.own hO) (i := 1) (by omega)
              go_wp2
              exact ⟨rfl, rfl, rfl, Own.refl _⟩
            case s8_44 =>
              intro u w1 hO
              go_wp2
              exact ⟨rfl, rfl, rfl, Own.refl _⟩
            case s8_45 =>
              intro u w1 hO
              go_wp2
              exact ⟨rfl, rfl, rfl, Own.refl _⟩
            case s8_46 =>
              intro u w1 hO
              go_wp2
              exact ⟨rfl, rfl, rfl, Own.refl _⟩
            case s8_47 =>
              intro u w1 hO
              go_wp2_with (go_at_call 12; with_reducible refine (awake_at _ (Lib.hid (tab_own HT.out (g0.trans hO))) (Lib.hid (HBT.out.own (g0.trans hO))) (Lib.hid (HS.out.own (g0.trans hO)))).mono ?_; rintro r w2 ⟨rfl, hg⟩)
              exact ⟨rfl, rfl, rfl, hg⟩
            case s8_48 =>
              intro u w1 hO
              go_wp2
              exact ⟨rfl, rfl, rfl, Own.refl _⟩
            case s8_49 =>
              intro u w1 hO
              go_wp2
              exact ⟨rfl, rfl, rfl, Own.refl _⟩
          intro u w13 hO
          replace g0 := g0.trans hO
          clear hO
          go_wp2
          go_ret
          exact ⟨by first | rfl | (exact ret_bool (by simp)), g0⟩
  · obtain ⟨c, hc⟩ : ∃ c, joE b p s = c := ⟨_, rfl⟩
    have HJ := Lib.hid (show cz 33 (joV b p s) = cz 33 nul ∧ joE b p s = c from ⟨by rw [joV_no h], hc⟩)
    by_cases h1 : BuiP.chk b = 0
    · have h2 : vaE p ≠ 0 := fun q => h (jo_ok h1 q hs3)
      obtain ⟨c2, hc2⟩ : ∃ c, vaE p = c := ⟨_, rfl⟩
      rw [hc2] at h2
      have HC1 := Lib.hid h1
      have HC2 := Lib.hid hc2
      rw [hc] at h
      have kc : (c != 0) = true := bne_iff_ne.2 h
      have kc2 : (c2 != 0) = true := bne_iff_ne.2 h2
      clear h hc h1 h2 hc2
      go_enter Tryd.func7, Tryd.ntmps7
      go_upto_region 1 with (fail)
      obtain ⟨W0, B, P, hW, hC, hBq, hb, hc, g0, -, -, -⟩ := two_new w (cz 15 b) 24 (cz 22 p) 31
      rw [hW, hC, hBq]
      have HB := Lib.hid hb
      have HP := Lib.hid hc
      clear hW hC hBq hb hc
      go_upto_region 3 with (first | ((with_reducible show wpList _ _ _ (⟨_, .load 24 (.tmp 3), _, _, _, none⟩ :: _) _ _); refine wpList_load_row rfl 24 (.tmp 3) rfl B rfl 24 _ (0, 0) _ HB.out.raw Tryd.underlying24 rfl infoB ?_) | ((with_reducible show wpList _ _ _ (⟨_, .load 31 (.tmp 4), _, _, _, none⟩ :: _) _ _); refine wpList_load_row rfl 31 (.tmp 4) rfl P rfl 31 _ (0, 0) _ HP.out.raw Tryd.underlying31 rfl infoP ?_) | ((with_reducible show wpList _ _ _ (⟨_, .load 31 (.tmp 4), _, _, _, some _⟩ :: _) _ _); refine wpList_load_row_g rfl 31 (.tmp 4) rfl P rfl 31 _ (0, 0) _ HP.out.raw Tryd.underlying31 rfl infoP ?_) | (go_at_call 10; with_reducible refine (jof_at b p nul s c _ (Lib.hid (tab_own HT.out g0)) (Lib.hid (HBT.out.own g0)) (Lib.hid (HS.out.own g0)) HJ).mono ?_; rintro r w1 ⟨rfl, hg⟩; replace g0 := g0.trans hg; replace HB := Lib.hid (HB.out.own hg); replace HP := Lib.hid (HP.out.own hg); clear hg) | ((with_reducible show wpList _ _ _ (⟨_, .store 36 (.tmp 8) (.tmp 25), _, _, _, none⟩ :: _) _ _); refine wpList_store_row rfl 36 (.tmp 8) (.tmp 25) rfl _ (cz 33 (nul)) rfl rfl 36 _ (heap_new _ _) infoJ rfl (cz_one _ _) ?_; rw [World.setRow_alloc_new]))
      obtain ⟨w2, J1, hW, hBq, hb, hg, J1g⟩ := blk_new w1 (cz 33 nul) 36
      rw [hW, hBq]
      have HJ1 := Lib.hid hb
      replace g0 := g0.trans hg
      replace HB := Lib.hid (HB.out.own hg)
      replace HP := Lib.hid (HP.out.own hg)
      clear hW hBq hb hg
      clear J1g
      go_wp2_with (first | ((with_reducible show wpList _ _ _ (⟨_, .load 24 (.tmp 3), _, _, _, none⟩ :: _) _ _); refine wpList_load_row rfl 24 (.tmp 3) rfl B rfl 24 _ (0, 0) _ HB.out.raw Tryd.underlying24 rfl infoB ?_) | ((with_reducible show wpList _ _ _ (⟨_, .load 31 (.tmp 4), _, _, _, none⟩ :: _) _ _); refine wpList_load_row rfl 31 (.tmp 4) rfl P rfl 31 _ (0, 0) _ HP.out.raw Tryd.underlying31 rfl infoP ?_) | ((with_reducible show wpList _ _ _ (⟨_, .load 31 (.tmp 4), _, _, _, some _⟩ :: _) _ _); refine wpList_load_row_g rfl 31 (.tmp 4) rfl P rfl 31 _ (0, 0) _ HP.out.raw Tryd.underlying31 rfl infoP ?_) | (go_at_call 21; with_reducible refine (jbc_at b 0 _ (Lib.hid (HBT.out.own g0)) HC1).mono ?_; rintro r w5 ⟨rfl, hg⟩; replace g0 := g0.trans hg; replace HP := Lib.hid (HP.out.own hg); clear hg) | (go_at_call 22; with_reducible refine (qvalid_at p c2 _ HC2).mono ?_; rintro r w6 ⟨rfl, hg⟩; replace g0 := g0.trans hg; clear hg) | (go_at_call 12; with_reducible refine (awake_at _ (Lib.hid (tab_own HT.out g0)) (Lib.hid (HBT.out.own g0)) (Lib.hid (HS.out.own g0))).mono ?_; rintro r w99 ⟨rfl, hg⟩; replace g0 := g0.trans hg; clear hg))
      go_ret
      exact ⟨by first | rfl | (exact ret_bool (by simp)), g0⟩
    · obtain ⟨c1, hc1⟩ : ∃ c, BuiP.chk b = c := ⟨_, rfl⟩
      rw [hc1] at h1
      have HC1 := Lib.hid hc1
      rw [hc] at h
      have kc : (c != 0) = true := bne_iff_ne.2 h
      have kc1 : (c1 != 0) = true := bne_iff_ne.2 h1
      clear h hc h1 hc1
      go_enter Tryd.func7, Tryd.ntmps7
      go_upto_region 1 with (fail)
      obtain ⟨W0, B, P, hW, hC, hBq, hb, hc, g0, -, -, -⟩ := two_new w (cz 15 b) 24 (cz 22 p) 31
      rw [hW, hC, hBq]
      have HB := Lib.hid hb
      have HP := Lib.hid hc
      clear hW hC hBq hb hc
      go_upto_region 3 with (first | ((with_reducible show wpList _ _ _ (⟨_, .load 24 (.tmp 3), _, _, _, none⟩ :: _) _ _); refine wpList_load_row rfl 24 (.tmp 3) rfl B rfl 24 _ (0, 0) _ HB.out.raw Tryd.underlying24 rfl infoB ?_) | ((with_reducible show wpList _ _ _ (⟨_, .load 31 (.tmp 4), _, _, _, none⟩ :: _) _ _); refine wpList_load_row rfl 31 (.tmp 4) rfl P rfl 31 _ (0, 0) _ HP.out.raw Tryd.underlying31 rfl infoP ?_) | ((with_reducible show wpList _ _ _ (⟨_, .load 31 (.tmp 4), _, _, _, some _⟩ :: _) _ _); refine wpList_load_row_g rfl 31 (.tmp 4) rfl P rfl 31 _ (0, 0) _ HP.out.raw Tryd.underlying31 rfl infoP ?_) | (go_at_call 10; with_reducible refine (jof_at b p nul s c _ (Lib.hid (tab_own HT.out g0)) (Lib.hid (HBT.out.own g0)) (Lib.hid (HS.out.own g0)) HJ).mono ?_; rintro r w1 ⟨rfl, hg⟩; replace g0 := g0.trans hg; replace HB := Lib.hid (HB.out.own hg); replace HP := Lib.hid (HP.out.own hg); clear hg) | ((with_reducible show wpList _ _ _ (⟨_, .store 36 (.tmp 8) (.tmp 25), _, _, _, none⟩ :: _) _ _); refine wpList_store_row rfl 36 (.tmp 8) (.tmp 25) rfl _ (cz 33 (nul)) rfl rfl 36 _ (heap_new _ _) infoJ rfl (cz_one _ _) ?_; rw [World.setRow_alloc_new]))
      obtain ⟨w2, J1, hW, hBq, hb, hg, J1g⟩ := blk_new w1 (cz 33 nul) 36
      rw [hW, hBq]
      have HJ1 := Lib.hid hb
      replace g0 := g0.trans hg
      replace HB := Lib.hid (HB.out.own hg)
      replace HP := Lib.hid (HP.out.own hg)
      clear hW hBq hb hg
      clear J1g
      go_wp2_with (first | ((with_reducible show wpList _ _ _ (⟨_, .load 24 (.tmp 3), _, _, _, none⟩ :: _) _ _); refine wpList_load_row rfl 24 (.tmp 3) rfl B rfl 24 _ (0, 0) _ HB.out.raw Tryd.underlying24 rfl infoB ?_) | ((with_reducible show wpList _ _ _ (⟨_, .load 31 (.tmp 4), _, _, _, none⟩ :: _) _ _); refine wpList_load_row rfl 31 (.tmp 4) rfl P rfl 31 _ (0, 0) _ HP.out.raw Tryd.underlying31 rfl infoP ?_) | ((with_reducible show wpList _ _ _ (⟨_, .load 31 (.tmp 4), _, _, _, some _⟩ :: _) _ _); refine wpList_load_row_g rfl 31 (.tmp 4) rfl P rfl 31 _ (0, 0) _ HP.out.raw Tryd.underlying31 rfl infoP ?_) | (go_at_call 21; with_reducible refine (jbc_at b c1 _ (Lib.hid (HBT.out.own g0)) HC1).mono ?_; rintro r w5 ⟨rfl, hg⟩; replace g0 := g0.trans hg; replace HP := Lib.hid (HP.out.own hg); clear hg) | (go_at_call 12; with_reducible refine (awake_at _ (Lib.hid (tab_own HT.out g0)) (Lib.hid (HBT.out.own g0)) (Lib.hid (HS.out.own g0))).mono ?_; rintro r w99 ⟨rfl, hg⟩; replace g0 := g0.trans hg; clear hg))
      go_ret
      exact ⟨by first | rfl | (exact ret_bool (by simp)), g0⟩
end Go.Proofs.YtephoakgphcnnaaDoor.JntL
