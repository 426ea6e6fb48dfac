/-
  Walks of the laws of package joints: JointsMoved. Condition: the table of sines, the table of bounds and the numbers of both sides lie in memory.
-/
import Derived.Test.YtephoakgphcnnaaDoorJointsT
namespace Go.Proofs.YtephoakgphcnnaaDoor.JntL
open Go.ChangeShapes Go.WideShapes Go.ChangeAt Go.RowKit
open JntW PairW AimP AimW BlkW PrtW PstP PstW JntP RegD
theorem jo_at' {b p : Vl} {s x y : Int} (h : joE b p s = 0) (h' : joE b (at2 p x y) s = 0) : ∀ o, o < 33 → o % 3 = 0 →
    (bd (joV b (at2 p x y) s o) ∧ bd (joV b (at2 p x y) s (o + 1)) ∧ bd (joV b (at2 p x y) s (o + 2))) ∧ (bd (joV b p s o) ∧ bd (joV b p s (o + 1)) ∧ bd (joV b p s (o + 2))) ∧
    joV b (at2 p x y) s o - joV b p s o = x - p 0 ∧ joV b (at2 p x y) s (o + 1) - joV b p s (o + 1) = y - p 1 ∧ joV b (at2 p x y) s (o + 2) - joV b p s (o + 2) = 0 := by
  intro o ho hm
  have h1 := jo_bd h
  have h2 := jo_bd h'
  obtain ⟨q1, q2, q3⟩ := jo_at h h' (k := o / 3) (by omega)
  rw [show o / 3 * 3 = o by omega] at q1 q2 q3
  have a0 := h1 o (by omega)
  have a1 := h1 (o + 1) (by omega)
  have a2 := h1 (o + 2) (by omega)
  have c0 := h2 o (by omega)
  have c1 := h2 (o + 1) (by omega)
  have c2 := h2 (o + 2) (by omega)
  unfold bd
  refine ⟨⟨by omega, by omega, by omega⟩, ⟨by omega, by omega, by omega⟩, q1, q2, by omega⟩
set_option maxRecDepth 100000 in
set_option maxHeartbeats 40000000 in
theorem JointsMoved_walk (b p : Vl) (e x y : Int) (he : 0 ≤ e ∧ e ≤ 255) (w : World) (HT : Hid (AngW.Tab w)) (HBT : Hid (BuiW.Tab w)) (HS : Hid (Sds w)) :
    Calls Tryd.prog 6 #[.agg (cz 15 b), .agg (cz 22 p), .int .u8 e, .agg #[.int .i64 x, .int .i64 y]] w fun r w' => r = .returned (.bool true) ∧ Own w w' := by
  obtain ⟨s, hs⟩ : ∃ s, e % 4 = s := ⟨_, rfl⟩
  have hs3 : 0 ≤ s ∧ s ≤ 3 := by omega
  have HQE := Lib.hid (show cz 22 (put p 0 2 (l2 x y)) = cz 22 (at2 p x y) from cz_congr (fun i _ => by
    unfold put at2 l2
    by_cases c0 : i = 0
    · subst c0; rfl
    · by_cases c1 : i = 1
      · subst c1; rfl
      · rw [if_neg (by omega), if_neg c0, if_neg c1]))
  obtain ⟨q, hq⟩ : ∃ f, at2 p x y = f := ⟨_, rfl⟩
  rw [hq] at HQE
  by_cases h : joE b p s = 0
  · by_cases h2 : joE b q s = 0
    · have hx := ((va_yes (jo_yes h).2.1).1).1
      have hy := ((va_yes (jo_yes h).2.1).1).2.1
      have hx2 := ((va_yes (jo_yes h2).2.1).1).1
      have hy2 := ((va_yes (jo_yes h2).2.1).1).2.1
      have e0 : q 0 = x := by rw [← hq]; rfl
      have e1 : q 1 = y := by rw [← hq]; rfl
      rw [e0] at hx2
      rw [e1] at hy2
      obtain ⟨dx, hdx⟩ : ∃ d, x - p 0 = d := ⟨_, rfl⟩
      obtain ⟨dy, hdy⟩ : ∃ d, y - p 1 = d := ⟨_, rfl⟩
      have hl := jo_at' h (by rw [hq]; exact h2)
      rw [hq, hdx, hdy] at hl
      obtain ⟨j, hj⟩ : ∃ f, joV b p s = f := ⟨_, rfl⟩
      obtain ⟨k0, hk⟩ : ∃ f, joV b q s = f := ⟨_, rfl⟩
      have HJ := Lib.hid (show cz 33 (joV b p s) = cz 33 j ∧ joE b p s = 0 from ⟨by rw [hj], h⟩)
      have HK := Lib.hid (show cz 33 (joV b q s) = cz 33 k0 ∧ joE b q s = 0 from ⟨by rw [hk], h2⟩)
      rw [hj, hk] at hl
      have HL := Lib.hid hl
      have i1 : IntKind.i64.wrap (x - p 0) = dx := (IntWalk.i64_in _ (by omega)).trans hdx
      have i2 : IntKind.i64.wrap (y - p 1) = dy := (IntWalk.i64_in _ (by omega)).trans hdy
      clear h h2 hx hy hx2 hy2 e0 e1 hdx hdy hl hj hk
      go_enter Tryd.func6, Tryd.ntmps6
      go_upto_region 1 with (fail)
      obtain ⟨W0, B, P, X, hW, hD, hC, hBq, hb, hc, hd, g0, -, -, -, -⟩ := three_new w (cz 15 b) 24 (cz 22 p) 31 (#[.int .i64 x, .int .i64 y]) 26
      rw [hW, hD, hC, hBq]
      have HB := Lib.hid hb
      have HP := Lib.hid hc
      have HX := Lib.hid hd
      clear hW hD hC hBq hb hc hd
      go_upto_region 3 with (first | ((with_reducible show wpList _ _ _ (⟨_, .load 31 (.tmp 5), _, _, _, none⟩ :: _) _ _); refine wpList_load_row rfl 31 (.tmp 5) rfl P rfl 31 _ (0, 0) _ HP.out.raw Tryd.underlying31 rfl infoP ?_) | ((with_reducible show wpList _ _ _ (⟨_, .store 31 (.tmp 10) (.tmp 20), _, _, _, none⟩ :: _) _ _); refine wpList_store_row rfl 31 (.tmp 10) (.tmp 20) rfl _ (cz 22 (p)) rfl rfl 31 _ (heap_new _ _) infoP rfl (cz_one _ _) ?_; rw [World.setRow_alloc_new]))
      obtain ⟨w1, Q, hW, hBq, hb, hg, Qg⟩ := blk_new W0 (cz 22 p) 31
      have hBQ := Nat.ne_of_lt (Nat.lt_of_lt_of_le HB.out.lt Qg)
      have hPQ := Nat.ne_of_lt (Nat.lt_of_lt_of_le HP.out.lt Qg)
      have hXQ := Nat.ne_of_lt (Nat.lt_of_lt_of_le HX.out.lt Qg)
      have hQ0 : w.heap.size ≤ Q := Nat.le_trans g0.size Qg
      rw [hW, hBq]
      have HQ := Lib.hid hb
      replace g0 := g0.trans hg
      replace HB := Lib.hid (HB.out.own hg)
      replace HP := Lib.hid (HP.out.own hg)
      replace HX := Lib.hid (HX.out.own hg)
      clear hW hBq hb hg
      clear Qg
      go_upto_region 4 with (first | ((with_reducible show wpList _ _ _ (⟨_, .load 26 (.tmp 7), _, _, _, none⟩ :: _) _ _); refine wpList_load_row rfl 26 (.tmp 7) rfl X rfl 26 _ (0, 0) _ HX.out.raw Tryd.underlying26 rfl infoPt ?_) | ((with_reducible show wpList _ _ _ (⟨_, .store 26 (.tmp 22) (.tmp 21), _, _, _, none⟩ :: _) _ _); refine wpList_store_part rfl 26 (.tmp 22) (.tmp 21) rfl Q (0) 2 (l2 x y) rfl (#[.int .i64 x, .int .i64 y]) rfl rfl HQ.out (by omega) infoPt ?_))
      have hb9 := HQ.out.row (cz 22 (put p 0 2 (l2 x y)))
      have h9HB := HB.out.rowfar hBQ (cz 22 (put p 0 2 (l2 x y)))
      have h9HP := HP.out.rowfar hPQ (cz 22 (put p 0 2 (l2 x y)))
      have h9HX := HX.out.rowfar hXQ (cz 22 (put p 0 2 (l2 x y)))
      replace g0 := own_setRow g0 hQ0 (cz 22 (put p 0 2 (l2 x y)))
      clear HQ HB HP HX
      generalize w1.setRow Q (cz 22 (put p 0 2 (l2 x y))) = w2 at *
      have HQ := Lib.hid hb9
      have HB := Lib.hid h9HB
      have HP := Lib.hid h9HP
      have HX := Lib.hid h9HX
      clear hb9 h9HB h9HP h9HX
      rw [show cz 22 (put p 0 2 (l2 x y)) = cz 22 q from HQE.out] at HQ
      clear hBQ hPQ hXQ hQ0
      go_upto_region 5 with (first | ((with_reducible show wpList _ _ _ (⟨_, .load 24 (.tmp 4), _, _, _, none⟩ :: _) _ _); refine wpList_load_row rfl 24 (.tmp 4) rfl B rfl 24 _ (0, 0) _ HB.out.raw Tryd.underlying24 rfl infoB ?_) | ((with_reducible show wpList _ _ _ (⟨_, .load 31 (.tmp 5), _, _, _, none⟩ :: _) _ _); refine wpList_load_row rfl 31 (.tmp 5) rfl P rfl 31 _ (0, 0) _ HP.out.raw Tryd.underlying31 rfl infoP ?_) | (go_at_call 10; with_reducible refine (jof_at b p j s 0 _ (Lib.hid (tab_own HT.out g0)) (Lib.hid (HBT.out.own g0)) (Lib.hid (HS.out.own g0)) HJ).mono ?_; rintro r w3 ⟨rfl, hg⟩; replace g0 := g0.trans hg; replace HB := Lib.hid (HB.out.own hg); replace HP := Lib.hid (HP.out.own hg); replace HX := Lib.hid (HX.out.own hg); replace HQ := Lib.hid (HQ.out.own hg); clear hg) | ((with_reducible show wpList _ _ _ (⟨_, .store 36 (.tmp 11) (.tmp 28), _, _, _, none⟩ :: _) _ _); refine wpList_store_row rfl 36 (.tmp 11) (.tmp 28) rfl _ (cz 33 (j)) rfl rfl 36 _ (heap_new _ _) infoJ rfl (cz_one _ _) ?_; rw [World.setRow_alloc_new]))
      obtain ⟨w4, J1, hW, hBq, hb, hg, J1g⟩ := blk_new w3 (cz 33 j) 36
      rw [hW, hBq]
      have HJ1 := Lib.hid hb
      replace g0 := g0.trans hg
      replace HB := Lib.hid (HB.out.own hg)
      replace HP := Lib.hid (HP.out.own hg)
      replace HX := Lib.hid (HX.out.own hg)
      replace HQ := Lib.hid (HQ.out.own hg)
      clear hW hBq hb hg
      clear J1g
      go_upto_region 6 with (first | ((with_reducible show wpList _ _ _ (⟨_, .load 24 (.tmp 4), _, _, _, none⟩ :: _) _ _); refine wpList_load_row rfl 24 (.tmp 4) rfl B rfl 24 _ (0, 0) _ HB.out.raw Tryd.underlying24 rfl infoB ?_) | ((with_reducible show wpList _ _ _ (⟨_, .load 31 (.tmp 10), _, _, _, none⟩ :: _) _ _); refine wpList_load_row rfl 31 (.tmp 10) rfl Q rfl 31 _ (0, 0) _ HQ.out.raw Tryd.underlying31 rfl infoP ?_) | (go_at_call 10; with_reducible refine (jof_at b q k0 s 0 _ (Lib.hid (tab_own HT.out g0)) (Lib.hid (HBT.out.own g0)) (Lib.hid (HS.out.own g0)) HK).mono ?_; rintro r w5 ⟨rfl, hg⟩; replace g0 := g0.trans hg; replace HP := Lib.hid (HP.out.own hg); replace HX := Lib.hid (HX.out.own hg); replace HJ1 := Lib.hid (HJ1.out.own hg); clear hg) | ((with_reducible show wpList _ _ _ (⟨_, .store 36 (.tmp 13) (.tmp 35), _, _, _, none⟩ :: _) _ _); refine wpList_store_row rfl 36 (.tmp 13) (.tmp 35) rfl _ (cz 33 (k0)) rfl rfl 36 _ (heap_new _ _) infoJ rfl (cz_one _ _) ?_; rw [World.setRow_alloc_new]))
      obtain ⟨w6, K1, hW, hBq, hb, hg, K1g⟩ := blk_new w5 (cz 33 k0) 36
      rw [hW, hBq]
      have HK1 := Lib.hid hb
      replace g0 := g0.trans hg
      replace HP := Lib.hid (HP.out.own hg)
      replace HX := Lib.hid (HX.out.own hg)
      replace HJ1 := Lib.hid (HJ1.out.own hg)
      clear hW hBq hb hg
      clear K1g
      clear HB HQ
      have x0 := HX.out.cell 0
      have x1 := HX.out.cell 1
      have p0 := blk_num HP.out (i := 0) (by omega)
      have p1 := blk_num HP.out (i := 1) (by omega)
      go_upto_region 9 with ((with_reducible show wpList _ _ _ (⟨_, .store 33 (.tmp 15) (.tmp 56), _, _, _, none⟩ :: _) _ _); refine wpList_store_row rfl 33 (.tmp 15) (.tmp 56) rfl _ #[.int .i64 dx, .int .i64 dy, .int .i64 0] rfl rfl 33 _ (heap_new _ _) infoV rfl (by simp [Value.oneCell']) ?_; rw [World.setRow_alloc_new])
      obtain ⟨w7, V, hW, hBq, hb, hg, Vg⟩ := blk_new w6 (#[.int .i64 dx, .int .i64 dy, .int .i64 0]) 33
      rw [hW, hBq]
      have HV := Lib.hid hb
      replace g0 := g0.trans hg
      replace HJ1 := Lib.hid (HJ1.out.own hg)
      replace HK1 := Lib.hid (HK1.out.own hg)
      clear hW hBq hb hg
      clear Vg x0 x1 p0 p1 HX HP i1 i2
      (first | go_frame | skip)
      refine RegD.region_duty [57, 58, 59, 60, 61, 62, 63, 64, 65, 66, 67, 68, 69, 70, 71, 72, 73, 74, 75, 76, 77, 78, 79, 80, 81] (RegI.upd (RegI.upd (RegI.upd (RegI.upd (RegI.upd (RegI.upd (RegI.upd (RegI.upd (RegI.upd (RegI.upd (RegI.upd (RegI.upd (RegI.upd (RegI.upd (RegI.upd (RegI.upd (RegI.upd (RegI.upd (RegI.upd (RegI.upd (RegI.upd (RegI.upd (RegI.upd (RegI.upd (RegI.upd (fun _ => undef) 57 (.pointer (some ⟨K1, 0, none⟩))) 58 (.agg #[.int .i64 (k0 (0)), .int .i64 (k0 (0 + 1)), .int .i64 (k0 (0 + 2))])) 59 (.pointer (some ⟨J1, 0, none⟩))) 60 (.agg #[.int .i64 (j (0)), .int .i64 (j (0 + 1)), .int .i64 (j (0 + 2))])) 61 (.agg #[.int .i64 dx, .int .i64 dy, .int .i64 0])) 62 (.agg #[.int .i64 dx, .int .i64 dy, .int .i64 0])) 63 (.bool false)) 64 (.bool false)) 65 (.pointer (some ⟨K1, 3, none⟩))) 66 (.agg #[.int .i64 (k0 (3)), .int .i64 (k0 (3 + 1)), .int .i64 (k0 (3 + 2))])) 67 (.pointer (some ⟨J1, 3, none⟩))) 68 (.agg #[.int .i64 (j (3)), .int .i64 (j (3 + 1)), .int .i64 (j (3 + 2))])) 69 (.agg #[.int .i64 dx, .int .i64 dy, .int .i64 0])) 70 (.agg #[.int .i64 dx, .int .i64 dy, .int .i64 0])) 71 (.bool false)) 72 (.bool false)) 73 (.bool false)) 74 (.pointer (some ⟨K1, 6, none⟩))) 75 (.agg #[.int .i64 (k0 (6)), .int .i64 (k0 (6 + 1)), .int .i64 (k0 (6 + 2))])) 76 (.pointer (some ⟨J1, 6, none⟩))) 77 (.agg #[.int .i64 (j (6)), .int .i64 (j (6 + 1)), .int .i64 (j (6 + 2))])) 78 (.agg #[.int .i64 dx, .int .i64 dy, .int .i64 0])) 79 (.agg #[.int .i64 dx, .int .i64 dy, .int .i64 0])) 80 (.bool false)) 81 (.bool false)) (by kernel_rfl) (by kernel_rfl) (by intro d hd; simp at hd; simp; omega) ?_
      simp only [RegD.FF, RegI.FX, RegI.upd, List.foldl_cons, List.foldl_nil, List.not_mem_nil, if_true, if_false, Nat.reduceEqDiff]
      simp only [List.setIfInBounds_toArray, List.set_cons_succ, List.set_cons_zero]
      refine And.intro ?hs1 ?he1
      case hs1 =>
        refine And.intro ?s1_0 (And.intro ?s1_1 (And.intro ?s1_2 (And.intro ?s1_3 (And.intro ?s1_4 (And.intro ?s1_5 (And.intro ?s1_6 (And.intro ?s1_7 (And.intro ?s1_8 (And.intro ?s1_9 (And.intro ?s1_10 (And.intro ?s1_11 (And.intro ?s1_12 (And.intro ?s1_13 (And.intro ?s1_14 (And.intro ?s1_15 (And.intro ?s1_16 (And.intro ?s1_17 (And.intro ?s1_18 (And.intro ?s1_19 (And.intro ?s1_20 (And.intro ?s1_21 (And.intro ?s1_22 (And.intro ?s1_23 (And.intro ?s1_24 (trivial)))))))))))))))))))))))))
        case s1_0 =>
          intro u w1 hO
          go_wp2
          exact ⟨rfl, rfl, rfl, Own.refl _⟩
        case s1_1 =>
          intro u w1 hO
          have HB9 := Lib.hid (HK1.out.own hO)
          go_wp2_with ((with_reducible show wpList _ _ _ (⟨_, .load 33 (.tmp 57), _, _, _, none⟩ :: _) _ _); refine wpList_load_part rfl 33 (.tmp 57) rfl K1 (0) rfl 3 HB9.out (by omega) (#[.int .i64 (k0 (0)), .int .i64 (k0 (0 + 1)), .int .i64 (k0 (0 + 2))]) rfl _ Tryd.underlying33 rfl infoV ?_)
          exact ⟨rfl, rfl, rfl, Own.refl _⟩
        case s1_2 =>
          intro u w1 hO
          go_wp2
          exact ⟨rfl, rfl, rfl, Own.refl _⟩
        case s1_3 =>
          intro u w1 hO
          have HB9 := Lib.hid (HJ1.out.own hO)
          go_wp2_with ((with_reducible show wpList _ _ _ (⟨_, .load 33 (.tmp 59), _, _, _, none⟩ :: _) _ _); refine wpList_load_part rfl 33 (.tmp 59) rfl J1 (0) rfl 3 HB9.out (by omega) (#[.int .i64 (j (0)), .int .i64 (j (0 + 1)), .int .i64 (j (0 + 2))]) rfl _ Tryd.underlying33 rfl infoV ?_)
          exact ⟨rfl, rfl, rfl, Own.refl _⟩
        case s1_4 =>
          intro u w1 hO
          go_wp2_with (go_at_call 20; with_reducible refine (less_at _ _ _ _ _ _ _ _ _ _ (Lib.hid (HL.out 0 (by omega) (by omega)))).mono ?_; rintro r w2 ⟨rfl, hg⟩)
          exact ⟨rfl, rfl, rfl, hg⟩
        case s1_5 =>
          intro u w1 hO
          have HB9 := Lib.hid (HV.out.own hO)
          go_wp2_with ((with_reducible show wpList _ _ _ (⟨_, .load 33 (.tmp 15), _, _, _, none⟩ :: _) _ _); refine wpList_load_row rfl 33 (.tmp 15) rfl V rfl 33 _ (0, 0) _ HB9.out.raw Tryd.underlying33 rfl infoV ?_)
          exact ⟨rfl, rfl, rfl, Own.refl _⟩
        case s1_6 =>
          intro u w1 hO
          go_wp2
          exact ⟨rfl, rfl, rfl, Own.refl _⟩
        case s1_7 =>
          intro u w1 hO
          go_wp2
          exact ⟨rfl, rfl, rfl, Own.refl _⟩
        case s1_8 =>
          intro u w1 hO
          go_wp2
          exact ⟨rfl, rfl, rfl, Own.refl _⟩
        case s1_9 =>
          intro u w1 hO
          have HB9 := Lib.hid (HK1.out.own hO)
          go_wp2_with ((with_reducible show wpList _ _ _ (⟨_, .load 33 (.tmp 65), _, _, _, some _⟩ :: _) _ _); refine wpList_load_part_g rfl 33 (.tmp 65) rfl K1 (3) rfl 3 HB9.out (by omega) (#[.int .i64 (k0 (3)), .int .i64 (k0 (3 + 1)), .int .i64 (k0 (3 + 2))]) rfl _ Tryd.underlying33 rfl infoV ?_)
          exact ⟨rfl, rfl, rfl, Own.refl _⟩
        case s1_10 =>
          intro u w1 hO
          go_wp2
          exact ⟨rfl, rfl, rfl, Own.refl _⟩
        case s1_11 =>
          intro u w1 hO
          have HB9 := Lib.hid (HJ1.out.own hO)
          go_wp2_with ((with_reducible show wpList _ _ _ (⟨_, .load 33 (.tmp 67), _, _, _, some _⟩ :: _) _ _); refine wpList_load_part_g rfl 33 (.tmp 67) rfl J1 (3) rfl 3 HB9.out (by omega) (#[.int .i64 (j (3)), .int .i64 (j (3 + 1)), .int .i64 (j (3 + 2))]) rfl _ Tryd.underlying33 rfl infoV ?_)
          exact ⟨rfl, rfl, rfl, Own.refl _⟩
        case s1_12 =>
          intro u w1 hO
          go_wp2_with (go_at_call 20; with_reducible refine (less_at _ _ _ _ _ _ _ _ _ _ (Lib.hid (HL.out 3 (by omega) (by omega)))).mono ?_; rintro r w2 ⟨rfl, hg⟩)
          exact ⟨rfl, rfl, rfl, hg⟩
        case s1_13 =>
          intro u w1 hO
          have HB9 := Lib.hid (HV.out.own hO)
          go_wp2_with ((with_reducible show wpList _ _ _ (⟨_, .load 33 (.tmp 15), _, _, _, some _⟩ :: _) _ _); refine wpList_load_row_g rfl 33 (.tmp 15) rfl V rfl 33 _ (0, 0) _ HB9.out.raw Tryd.underlying33 rfl infoV ?_)
          exact ⟨rfl, rfl, rfl, Own.refl _⟩
        case s1_14 =>
          intro u w1 hO
          go_wp2
          exact ⟨rfl, rfl, rfl, Own.refl _⟩
        case s1_15 =>
          intro u w1 hO
          go_wp2
          exact ⟨rfl, rfl, rfl, Own.refl _⟩
        case s1_16 =>
          intro u w1 hO
          go_wp2
          exact ⟨rfl, rfl, rfl, Own.refl _⟩
        case s1_17 =>
          intro u w1 hO
          go_wp2
          exact ⟨rfl, rfl, rfl, Own.refl _⟩
        case s1_18 =>
          intro u w1 hO
          have HB9 := Lib.hid (HK1.out.own hO)
          go_wp2_with ((with_reducible show wpList _ _ _ (⟨_, .load 33 (.tmp 74), _, _, _, some _⟩ :: _) _ _); refine wpList_load_part_g rfl 33 (.tmp 74) rfl K1 (6) rfl 3 HB9.out (by omega) (#[.int .i64 (k0 (6)), .int .i64 (k0 (6 + 1)), .int .i64 (k0 (6 + 2))]) rfl _ Tryd.underlying33 rfl infoV ?_)
          exact ⟨rfl, rfl, rfl, Own.refl _⟩
        case s1_19 =>
          intro u w1 hO
          go_wp2
          exact ⟨rfl, rfl, rfl, Own.refl _⟩
        case s1_20 =>
          intro u w1 hO
          have HB9 := Lib.hid (HJ1.out.own hO)
          go_wp2_with ((with_reducible show wpList _ _ _ (⟨_, .load 33 (.tmp 76), _, _, _, some _⟩ :: _) _ _); refine wpList_load_part_g rfl 33 (.tmp 76) rfl J1 (6) rfl 3 HB9.out (by omega) (#[.int .i64 (j (6)), .int .i64 (j (6 + 1)), .int .i64 (j (6 + 2))]) rfl _ Tryd.underlying33 rfl infoV ?_)
          exact ⟨rfl, rfl, rfl, Own.refl _⟩
        case s1_21 =>
          intro u w1 hO
          go_wp2_with (go_at_call 20; with_reducible refine (less_at _ _ _ _ _ _ _ _ _ _ (Lib.hid (HL.out 6 (by omega) (by omega)))).mono ?_; rintro r w2 ⟨rfl, hg⟩)
          exact ⟨rfl, rfl, rfl, hg⟩
        case s1_22 =>
          intro u w1 hO
          have HB9 := Lib.hid (HV.out.own hO)
          go_wp2_with ((with_reducible show wpList _ _ _ (⟨_, .load 33 (.tmp 15), _, _, _, some _⟩ :: _) _ _); refine wpList_load_row_g rfl 33 (.tmp 15) rfl V rfl 33 _ (0, 0) _ HB9.out.raw Tryd.underlying33 rfl infoV ?_)
          exact ⟨rfl, rfl, rfl, Own.refl _⟩
        case s1_23 =>
          intro u w1 hO
          go_wp2
          exact ⟨rfl, rfl, rfl, Own.refl _⟩
        case s1_24 =>
          intro u w1 hO
          go_wp2
          exact ⟨rfl, rfl, rfl, Own.refl _⟩
      intro u w8 hO
      replace g0 := g0.trans hO
      replace HJ1 := Lib.hid (HJ1.out.own hO)
      replace HK1 := Lib.hid (HK1.out.own hO)
      replace HV := Lib.hid (HV.out.own hO)
      clear hO
      go_wp2
      go_loopw [16] (fun vi wr => ∃ k : Nat, vi = .int .i64 (k : Int) ∧ k ≤ 2 ∧ Own w wr ∧ Blk wr J1 (cz 33 j) 36 ∧ Blk wr K1 (cz 33 k0) 36 ∧ Blk wr V #[.int .i64 dx, .int .i64 dy, .int .i64 0] 33) (fun vi _ => 2 - (intOf vi).toNat)
      case atStart => exact ⟨0, rfl, by omega, g0, HJ1.out, HK1.out, HV.out⟩
      case round =>
        clear HJ1 HK1 HV g0
        obtain ⟨k, rfl, hk, g0, hj1, hk1, hv1⟩ := hrel
        have HJ1 := Lib.hid hj1
        have HK1 := Lib.hid hk1
        have HV := Lib.hid hv1
        clear hj1 hk1 hv1
        by_cases hlt : k < 2
        · have hkn : (k : Int) < 2 := by omega
          go_upto_region 14 with (fail)
          refine RegD.region_duty [86, 87, 88, 89, 90, 91, 92, 93, 94, 95, 96, 97, 98, 99, 100, 101, 102, 103, 104, 105, 106, 107, 108, 109, 110, 111, 112, 113, 114, 115, 116, 117, 118, 119, 120, 121, 122, 123, 124, 125, 126, 127, 128, 129, 130, 131, 132, 133, 134, 135] (RegI.upd (RegI.upd (RegI.upd (RegI.upd (RegI.upd (RegI.upd (RegI.upd (RegI.upd (RegI.upd (RegI.upd (RegI.upd (RegI.upd (RegI.upd (RegI.upd (RegI.upd (RegI.upd (RegI.upd (RegI.upd (RegI.upd (RegI.upd (RegI.upd (RegI.upd (RegI.upd (RegI.upd (RegI.upd (RegI.upd (RegI.upd (RegI.upd (RegI.upd (RegI.upd (RegI.upd (RegI.upd (RegI.upd (RegI.upd (RegI.upd (RegI.upd (RegI.upd (RegI.upd (RegI.upd (RegI.upd (RegI.upd (RegI.upd (RegI.upd (RegI.upd (RegI.upd (RegI.upd (RegI.upd (RegI.upd (RegI.upd (RegI.upd (fun _ => undef) 86 (.int .i64 (k : Int))) 87 (.pointer (some ⟨K1, 9, none⟩))) 88 (.pointer (some ⟨K1, 9 + k * 3, none⟩))) 89 (.agg #[.int .i64 (k0 (9 + k * 3)), .int .i64 (k0 (9 + k * 3 + 1)), .int .i64 (k0 (9 + k * 3 + 2))])) 90 (.int .i64 (k : Int))) 91 (.pointer (some ⟨J1, 9, none⟩))) 92 (.pointer (some ⟨J1, 9 + k * 3, none⟩))) 93 (.agg #[.int .i64 (j (9 + k * 3)), .int .i64 (j (9 + k * 3 + 1)), .int .i64 (j (9 + k * 3 + 2))])) 94 (.agg #[.int .i64 dx, .int .i64 dy, .int .i64 0])) 95 (.agg #[.int .i64 dx, .int .i64 dy, .int .i64 0])) 96 (.bool false)) 97 (.bool false)) 98 (.int .i64 (k : Int))) 99 (.pointer (some ⟨K1, 27, none⟩))) 100 (.pointer (some ⟨K1, 27 + k * 3, none⟩))) 101 (.agg #[.int .i64 (k0 (27 + k * 3)), .int .i64 (k0 (27 + k * 3 + 1)), .int .i64 (k0 (27 + k * 3 + 2))])) 102 (.int .i64 (k : Int))) 103 (.pointer (some ⟨J1, 27, none⟩))) 104 (.pointer (some ⟨J1, 27 + k * 3, none⟩))) 105 (.agg #[.int .i64 (j (27 + k * 3)), .int .i64 (j (27 + k * 3 + 1)), .int .i64 (j (27 + k * 3 + 2))])) 106 (.agg #[.int .i64 dx, .int .i64 dy, .int .i64 0])) 107 (.agg #[.int .i64 dx, .int .i64 dy, .int .i64 0])) 108 (.bool false)) 109 (.bool false)) 110 (.bool false)) 111 (.int .i64 (k : Int))) 112 (.pointer (some ⟨K1, 15, none⟩))) 113 (.pointer (some ⟨K1, 15 + k * 3, none⟩))) 114 (.agg #[.int .i64 (k0 (15 + k * 3)), .int .i64 (k0 (15 + k * 3 + 1)), .int .i64 (k0 (15 + k * 3 + 2))])) 115 (.int .i64 (k : Int))) 116 (.pointer (some ⟨J1, 15, none⟩))) 117 (.pointer (some ⟨J1, 15 + k * 3, none⟩))) 118 (.agg #[.int .i64 (j (15 + k * 3)), .int .i64 (j (15 + k * 3 + 1)), .int .i64 (j (15 + k * 3 + 2))])) 119 (.agg #[.int .i64 dx, .int .i64 dy, .int .i64 0])) 120 (.agg #[.int .i64 dx, .int .i64 dy, .int .i64 0])) 121 (.bool false)) 122 (.bool false)) 123 (.bool false)) 124 (.int .i64 (k : Int))) 125 (.pointer (some ⟨K1, 21, none⟩))) 126 (.pointer (some ⟨K1, 21 + k * 3, none⟩))) 127 (.agg #[.int .i64 (k0 (21 + k * 3)), .int .i64 (k0 (21 + k * 3 + 1)), .int .i64 (k0 (21 + k * 3 + 2))])) 128 (.int .i64 (k : Int))) 129 (.pointer (some ⟨J1, 21, none⟩))) 130 (.pointer (some ⟨J1, 21 + k * 3, none⟩))) 131 (.agg #[.int .i64 (j (21 + k * 3)), .int .i64 (j (21 + k * 3 + 1)), .int .i64 (j (21 + k * 3 + 2))])) 132 (.agg #[.int .i64 dx, .int .i64 dy, .int .i64 0])) 133 (.agg #[.int .i64 dx, .int .i64 dy, .int .i64 0])) 134 (.bool false)) 135 (.bool false)) (by kernel_rfl) (by kernel_rfl) (by intro d hd; simp at hd; simp; omega) ?_
          simp only [RegD.FF, RegI.FX, RegI.upd, List.foldl_cons, List.foldl_nil, List.not_mem_nil, if_true, if_false, Nat.reduceEqDiff]
          simp only [List.setIfInBounds_toArray, List.set_cons_succ, List.set_cons_zero]
          refine And.intro ?hs2 ?he2
          case hs2 =>
            refine And.intro ?s2_0 (And.intro ?s2_1 (And.intro ?s2_2 (And.intro ?s2_3 (And.intro ?s2_4 (And.intro ?s2_5 (And.intro ?s2_6 (And.intro ?s2_7 (And.intro ?s2_8 (And.intro ?s2_9 (And.intro ?s2_10 (And.intro ?s2_11 (And.intro ?s2_12 (And.intro ?s2_13 (And.intro ?s2_14 (And.intro ?s2_15 (And.intro ?s2_16 (And.intro ?s2_17 (And.intro ?s2_18 (And.intro ?s2_19 (And.intro ?s2_20 (And.intro ?s2_21 (And.intro ?s2_22 (And.intro ?s2_23 (And.intro ?s2_24 (And.intro ?s2_25 (And.intro ?s2_26 (And.intro ?s2_27 (And.intro ?s2_28 (And.intro ?s2_29 (And.intro ?s2_30 (And.intro ?s2_31 (And.intro ?s2_32 (And.intro ?s2_33 (And.intro ?s2_34 (And.intro ?s2_35 (And.intro ?s2_36 (And.intro ?s2_37 (And.intro ?s2_38 (And.intro ?s2_39 (And.intro ?s2_40 (And.intro ?s2_41 (And.intro ?s2_42 (And.intro ?s2_43 (And.intro ?s2_44 (And.intro ?s2_45 (And.intro ?s2_46 (And.intro ?s2_47 (And.intro ?s2_48 (And.intro ?s2_49 (trivial))))))))))))))))))))))))))))))))))))))))))))))))))
            case s2_0 =>
              intro u w1 hO
              go_wp2
              exact ⟨rfl, rfl, rfl, Own.refl _⟩
            case s2_1 =>
              intro u w1 hO
              go_wp2
              exact ⟨rfl, rfl, rfl, Own.refl _⟩
            case s2_2 =>
              intro u w1 hO
              go_wp2
              exact ⟨rfl, rfl, rfl, Own.refl _⟩
            case s2_3 =>
              intro u w1 hO
              have HB9 := Lib.hid (HK1.out.own hO)
              go_wp2_with ((with_reducible show wpList _ _ _ (⟨_, .load 33 (.tmp 88), _, _, _, none⟩ :: _) _ _); refine wpList_load_part rfl 33 (.tmp 88) rfl K1 (9 + k * 3) rfl 3 HB9.out (by omega) (#[.int .i64 (k0 (9 + k * 3)), .int .i64 (k0 (9 + k * 3 + 1)), .int .i64 (k0 (9 + k * 3 + 2))]) rfl _ Tryd.underlying33 rfl infoV ?_)
              exact ⟨rfl, rfl, rfl, Own.refl _⟩
            case s2_4 =>
              intro u w1 hO
              go_wp2
              exact ⟨rfl, rfl, rfl, Own.refl _⟩
            case s2_5 =>
              intro u w1 hO
              go_wp2
              exact ⟨rfl, rfl, rfl, Own.refl _⟩
            case s2_6 =>
              intro u w1 hO
              go_wp2
              exact ⟨rfl, rfl, rfl, Own.refl _⟩
            case s2_7 =>
              intro u w1 hO
              have HB9 := Lib.hid (HJ1.out.own hO)
              go_wp2_with ((with_reducible show wpList _ _ _ (⟨_, .load 33 (.tmp 92), _, _, _, none⟩ :: _) _ _); refine wpList_load_part rfl 33 (.tmp 92) rfl J1 (9 + k * 3) rfl 3 HB9.out (by omega) (#[.int .i64 (j (9 + k * 3)), .int .i64 (j (9 + k * 3 + 1)), .int .i64 (j (9 + k * 3 + 2))]) rfl _ Tryd.underlying33 rfl infoV ?_)
              exact ⟨rfl, rfl, rfl, Own.refl _⟩
            case s2_8 =>
              intro u w1 hO
              go_wp2_with (go_at_call 20; with_reducible refine (less_at _ _ _ _ _ _ _ _ _ _ (Lib.hid (HL.out (9 + k * 3) (by omega) (by omega)))).mono ?_; rintro r w2 ⟨rfl, hg⟩)
              exact ⟨rfl, rfl, rfl, hg⟩
            case s2_9 =>
              intro u w1 hO
              have HB9 := Lib.hid (HV.out.own hO)
              go_wp2_with ((with_reducible show wpList _ _ _ (⟨_, .load 33 (.tmp 15), _, _, _, none⟩ :: _) _ _); refine wpList_load_row rfl 33 (.tmp 15) rfl V rfl 33 _ (0, 0) _ HB9.out.raw Tryd.underlying33 rfl infoV ?_)
              exact ⟨rfl, rfl, rfl, Own.refl _⟩
            case s2_10 =>
              intro u w1 hO
              go_wp2
              exact ⟨rfl, rfl, rfl, Own.refl _⟩
            case s2_11 =>
              intro u w1 hO
              go_wp2
              exact ⟨rfl, rfl, rfl, Own.refl _⟩
            case s2_12 =>
              intro u w1 hO
              go_wp2
              exact ⟨rfl, rfl, rfl, Own.refl _⟩
            case s2_13 =>
              intro u w1 hO
              go_wp2
              exact ⟨rfl, rfl, rfl, Own.refl _⟩
            case s2_14 =>
              intro u w1 hO
              go_wp2
              exact ⟨rfl, rfl, rfl, Own.refl _⟩
            case s2_15 =>
              intro u w1 hO
              have HB9 := Lib.hid (HK1.out.own hO)
              go_wp2_with ((with_reducible show wpList _ _ _ (⟨_, .load 33 (.tmp 100), _, _, _, some _⟩ :: _) _ _); refine wpList_load_part_g rfl 33 (.tmp 100) rfl K1 (27 + k * 3) rfl 3 HB9.out (by omega) (#[.int .i64 (k0 (27 + k * 3)), .int .i64 (k0 (27 + k * 3 + 1)), .int .i64 (k0 (27 + k * 3 + 2))]) rfl _ Tryd.underlying33 rfl infoV ?_)
              exact ⟨rfl, rfl, rfl, Own.refl _⟩
            case s2_16 =>
              intro u w1 hO
              go_wp2
              exact ⟨rfl, rfl, rfl, Own.refl _⟩
            case s2_17 =>
              intro u w1 hO
              go_wp2
              exact ⟨rfl, rfl, rfl, Own.refl _⟩
            case s2_18 =>
              intro u w1 hO
              go_wp2
              exact ⟨rfl, rfl, rfl, Own.refl _⟩
            case s2_19 =>
              intro u w1 hO
              have HB9 := Lib.hid (HJ1.out.own hO)
              go_wp2_with ((with_reducible show wpList _ _ _ (⟨_, .load 33 (.tmp 104), _, _, _, some _⟩ :: _) _ _); refine wpList_load_part_g rfl 33 (.tmp 104) rfl J1 (27 + k * 3) rfl 3 HB9.out (by omega) (#[.int .i64 (j (27 + k * 3)), .int .i64 (j (27 + k * 3 + 1)), .int .i64 (j (27 + k * 3 + 2))]) rfl _ Tryd.underlying33 rfl infoV ?_)
              exact ⟨rfl, rfl, rfl, Own.refl _⟩
            case s2_20 =>
              intro u w1 hO
              go_wp2_with (go_at_call 20; with_reducible refine (less_at _ _ _ _ _ _ _ _ _ _ (Lib.hid (HL.out (27 + k * 3) (by omega) (by omega)))).mono ?_; rintro r w2 ⟨rfl, hg⟩)
              exact ⟨rfl, rfl, rfl, hg⟩
            case s2_21 =>
              intro u w1 hO
              have HB9 := Lib.hid (HV.out.own hO)
              go_wp2_with ((with_reducible show wpList _ _ _ (⟨_, .load 33 (.tmp 15), _, _, _, some _⟩ :: _) _ _); refine wpList_load_row_g rfl 33 (.tmp 15) rfl V rfl 33 _ (0, 0) _ HB9.out.raw Tryd.underlying33 rfl infoV ?_)
              exact ⟨rfl, rfl, rfl, Own.refl _⟩
            case s2_22 =>
              intro u w1 hO
              go_wp2
              exact ⟨rfl, rfl, rfl, Own.refl _⟩
            case s2_23 =>
              intro u w1 hO
              go_wp2
              exact ⟨rfl, rfl, rfl, Own.refl _⟩
            case s2_24 =>
              intro u w1 hO
              go_wp2
              exact ⟨rfl, rfl, rfl, Own.refl _⟩
            case s2_25 =>
              intro u w1 hO
              go_wp2
              exact ⟨rfl, rfl, rfl, Own.refl _⟩
            case s2_26 =>
              intro u w1 hO
              go_wp2
              exact ⟨rfl, rfl, rfl, Own.refl _⟩
            case s2_27 =>
              intro u w1 hO
              go_wp2
              exact ⟨rfl, rfl, rfl, Own.refl _⟩
            case s2_28 =>
              intro u w1 hO
              have HB9 := Lib.hid (HK1.out.own hO)
              go_wp2_with ((with_reducible show wpList _ _ _ (⟨_, .load 33 (.tmp 113), _, _, _, some _⟩ :: _) _ _); refine wpList_load_part_g rfl 33 (.tmp 113) rfl K1 (15 + k * 3) rfl 3 HB9.out (by omega) (#[.int .i64 (k0 (15 + k * 3)), .int .i64 (k0 (15 + k * 3 + 1)), .int .i64 (k0 (15 + k * 3 + 2))]) rfl _ Tryd.underlying33 rfl infoV ?_)
              exact ⟨rfl, rfl, rfl, Own.refl _⟩
            case s2_29 =>
              intro u w1 hO
              go_wp2
              exact ⟨rfl, rfl, rfl, Own.refl _⟩
            case s2_30 =>
              intro u w1 hO
              go_wp2
              exact ⟨rfl, rfl, rfl, Own.refl _⟩
            case s2_31 =>
              intro u w1 hO
              go_wp2
              exact ⟨rfl, rfl, rfl, Own.refl _⟩
            case s2_32 =>
              intro u w1 hO
              have HB9 := Lib.hid (HJ1.out.own hO)
              go_wp2_with ((with_reducible show wpList _ _ _ (⟨_, .load 33 (.tmp 117), _, _, _, some _⟩ :: _) _ _); refine wpList_load_part_g rfl 33 (.tmp 117) rfl J1 (15 + k * 3) rfl 3 HB9.out (by omega) (#[.int .i64 (j (15 + k * 3)), .int .i64 (j (15 + k * 3 + 1)), .int .i64 (j (15 + k * 3 + 2))]) rfl _ Tryd.underlying33 rfl infoV ?_)
              exact ⟨rfl, rfl, rfl, Own.refl _⟩
            case s2_33 =>
              intro u w1 hO
              go_wp2_with (go_at_call 20; with_reducible refine (less_at _ _ _ _ _ _ _ _ _ _ (Lib.hid (HL.out (15 + k * 3) (by omega) (by omega)))).mono ?_; rintro r w2 ⟨rfl, hg⟩)
              exact ⟨rfl, rfl, rfl, hg⟩
            case s2_34 =>
              intro u w1 hO
              have HB9 := Lib.hid (HV.out.own hO)
              go_wp2_with ((with_reducible show wpList _ _ _ (⟨_, .load 33 (.tmp 15), _, _, _, some _⟩ :: _) _ _); refine wpList_load_row_g rfl 33 (.tmp 15) rfl V rfl 33 _ (0, 0) _ HB9.out.raw Tryd.underlying33 rfl infoV ?_)
              exact ⟨rfl, rfl, rfl, Own.refl _⟩
            case s2_35 =>
              intro u w1 hO
              go_wp2
              exact ⟨rfl, rfl, rfl, Own.refl _⟩
            case s2_36 =>
              intro u w1 hO
              go_wp2
              exact ⟨rfl, rfl, rfl, Own.refl _⟩
            case s2_37 =>
              intro u w1 hO
              go_wp2
              exact ⟨rfl, rfl, rfl, Own.refl _⟩
            case s2_38 =>
              intro u w1 hO
              go_wp2
              exact ⟨rfl, rfl, rfl, Own.refl _⟩
            case s2_39 =>
              intro u w1 hO
              go_wp2
              exact ⟨rfl, rfl, rfl, Own.refl _⟩
            case s2_40 =>
              intro u w1 hO
              go_wp2
              exact ⟨rfl, rfl, rfl, Own.refl _⟩
            case s2_41 =>
              intro u w1 hO
              have HB9 := Lib.hid (HK1.out.own hO)
              go_wp2_with ((with_reducible show wpList _ _ _ (⟨_, .load 33 (.tmp 126), _, _, _, some _⟩ :: _) _ _); refine wpList_load_part_g rfl 33 (.tmp 126) rfl K1 (21 + k * 3) rfl 3 HB9.out (by omega) (#[.int .i64 (k0 (21 + k * 3)), .int .i64 (k0 (21 + k * 3 + 1)), .int .i64 (k0 (21 + k * 3 + 2))]) rfl _ Tryd.underlying33 rfl infoV ?_)
              exact ⟨rfl, rfl, rfl, Own.refl _⟩
            case s2_42 =>
              intro u w1 hO
              go_wp2
              exact ⟨rfl, rfl, rfl, Own.refl _⟩
            case s2_43 =>
              intro u w1 hO
              go_wp2
              exact ⟨rfl, rfl, rfl, Own.refl _⟩
            case s2_44 =>
              intro u w1 hO
              go_wp2
              exact ⟨rfl, rfl, rfl, Own.refl _⟩
            case s2_45 =>
              intro u w1 hO
              have HB9 := Lib.hid (HJ1.out.own hO)
              go_wp2_with ((with_reducible show wpList _ _ _ (⟨_, .load 33 (.tmp 130), _, _, _, some _⟩ :: _) _ _); refine wpList_load_part_g rfl 33 (.tmp 130) rfl J1 (21 + k * 3) rfl 3 HB9.out (by omega) (#[.int .i64 (j (21 + k * 3)), .int .i64 (j (21 + k * 3 + 1)), .int .i64 (j (21 + k * 3 + 2))]) rfl _ Tryd.underlying33 rfl infoV ?_)
              exact ⟨rfl, rfl, rfl, Own.refl _⟩
            case s2_46 =>
              intro u w1 hO
              go_wp2_with (go_at_call 20; with_reducible refine (less_at _ _ _ _ _ _ _ _ _ _ (Lib.hid (HL.out (21 + k * 3) (by omega) (by omega)))).mono ?_; rintro r w2 ⟨rfl, hg⟩)
              exact ⟨rfl, rfl, rfl, hg⟩
            case s2_47 =>
              intro u w1 hO
              have HB9 := Lib.hid (HV.out.own hO)
              go_wp2_with ((with_reducible show wpList _ _ _ (⟨_, .load 33 (.tmp 15), _, _, _, some _⟩ :: _) _ _); refine wpList_load_row_g rfl 33 (.tmp 15) rfl V rfl 33 _ (0, 0) _ HB9.out.raw Tryd.underlying33 rfl infoV ?_)
              exact ⟨rfl, rfl, rfl, Own.refl _⟩
            case s2_48 =>
              intro u w1 hO
              go_wp2
              exact ⟨rfl, rfl, rfl, Own.refl _⟩
            case s2_49 =>
              intro u w1 hO
              go_wp2
              exact ⟨rfl, rfl, rfl, Own.refl _⟩
          intro u w9 hO
          replace g0 := g0.trans hO
          replace HJ1 := Lib.hid (HJ1.out.own hO)
          replace HK1 := Lib.hid (HK1.out.own hO)
          replace HV := Lib.hid (HV.out.own hO)
          clear hO
          go_wp2
          go_roundw
          case rel => exact ⟨k + 1, by go_num, hlt, g0, HJ1.out, HK1.out, HV.out⟩
          case measure => simp [intOf]; omega
        · obtain rfl : k = 2 := by omega
          go_wp2_with (go_at_call 12; with_reducible refine (awake_at _ (Lib.hid (tab_own HT.out g0)) (Lib.hid (HBT.out.own g0)) (Lib.hid (HS.out.own g0))).mono ?_; rintro r w99 ⟨rfl, hg⟩; replace g0 := g0.trans hg; clear hg)
          go_ret
          exact ⟨by first | rfl | (exact ret_bool (by simp)), g0⟩
    · clear hq
      obtain ⟨d, hd⟩ : ∃ c, joE b q s = c := ⟨_, rfl⟩
      obtain ⟨j, hj⟩ : ∃ f, joV b p s = f := ⟨_, rfl⟩
      have HJ := Lib.hid (show cz 33 (joV b p s) = cz 33 j ∧ joE b p s = 0 from ⟨by rw [hj], h⟩)
      have HK := Lib.hid (show cz 33 (joV b q s) = cz 33 nul ∧ joE b q s = d from ⟨by rw [joV_no h2], hd⟩)
      rw [hd] at h2
      have kc : (d != 0) = true := bne_iff_ne.2 h2
      clear h h2 hd hj
      go_enter Tryd.func6, Tryd.ntmps6
      go_upto_region 1 with (fail)
      obtain ⟨W0, B, P, X, hW, hD, hC, hBq, hb, hc, hd, g0, -, -, -, -⟩ := three_new w (cz 15 b) 24 (cz 22 p) 31 (#[.int .i64 x, .int .i64 y]) 26
      rw [hW, hD, hC, hBq]
      have HB := Lib.hid hb
      have HP := Lib.hid hc
      have HX := Lib.hid hd
      clear hW hD hC hBq hb hc hd
      go_upto_region 3 with (first | ((with_reducible show wpList _ _ _ (⟨_, .load 31 (.tmp 5), _, _, _, none⟩ :: _) _ _); refine wpList_load_row rfl 31 (.tmp 5) rfl P rfl 31 _ (0, 0) _ HP.out.raw Tryd.underlying31 rfl infoP ?_) | ((with_reducible show wpList _ _ _ (⟨_, .store 31 (.tmp 10) (.tmp 20), _, _, _, none⟩ :: _) _ _); refine wpList_store_row rfl 31 (.tmp 10) (.tmp 20) rfl _ (cz 22 (p)) rfl rfl 31 _ (heap_new _ _) infoP rfl (cz_one _ _) ?_; rw [World.setRow_alloc_new]))
      obtain ⟨w1, Q, hW, hBq, hb, hg, Qg⟩ := blk_new W0 (cz 22 p) 31
      have hBQ := Nat.ne_of_lt (Nat.lt_of_lt_of_le HB.out.lt Qg)
      have hPQ := Nat.ne_of_lt (Nat.lt_of_lt_of_le HP.out.lt Qg)
      have hXQ := Nat.ne_of_lt (Nat.lt_of_lt_of_le HX.out.lt Qg)
      have hQ0 : w.heap.size ≤ Q := Nat.le_trans g0.size Qg
      rw [hW, hBq]
      have HQ := Lib.hid hb
      replace g0 := g0.trans hg
      replace HB := Lib.hid (HB.out.own hg)
      replace HP := Lib.hid (HP.out.own hg)
      replace HX := Lib.hid (HX.out.own hg)
      clear hW hBq hb hg
      clear Qg
      go_upto_region 4 with (first | ((with_reducible show wpList _ _ _ (⟨_, .load 26 (.tmp 7), _, _, _, none⟩ :: _) _ _); refine wpList_load_row rfl 26 (.tmp 7) rfl X rfl 26 _ (0, 0) _ HX.out.raw Tryd.underlying26 rfl infoPt ?_) | ((with_reducible show wpList _ _ _ (⟨_, .store 26 (.tmp 22) (.tmp 21), _, _, _, none⟩ :: _) _ _); refine wpList_store_part rfl 26 (.tmp 22) (.tmp 21) rfl Q (0) 2 (l2 x y) rfl (#[.int .i64 x, .int .i64 y]) rfl rfl HQ.out (by omega) infoPt ?_))
      have hb9 := HQ.out.row (cz 22 (put p 0 2 (l2 x y)))
      have h9HB := HB.out.rowfar hBQ (cz 22 (put p 0 2 (l2 x y)))
      have h9HP := HP.out.rowfar hPQ (cz 22 (put p 0 2 (l2 x y)))
      have h9HX := HX.out.rowfar hXQ (cz 22 (put p 0 2 (l2 x y)))
      replace g0 := own_setRow g0 hQ0 (cz 22 (put p 0 2 (l2 x y)))
      clear HQ HB HP HX
      generalize w1.setRow Q (cz 22 (put p 0 2 (l2 x y))) = w2 at *
      have HQ := Lib.hid hb9
      have HB := Lib.hid h9HB
      have HP := Lib.hid h9HP
      have HX := Lib.hid h9HX
      clear hb9 h9HB h9HP h9HX
      rw [show cz 22 (put p 0 2 (l2 x y)) = cz 22 q from HQE.out] at HQ
      clear hBQ hPQ hXQ hQ0
      go_upto_region 5 with (first | ((with_reducible show wpList _ _ _ (⟨_, .load 24 (.tmp 4), _, _, _, none⟩ :: _) _ _); refine wpList_load_row rfl 24 (.tmp 4) rfl B rfl 24 _ (0, 0) _ HB.out.raw Tryd.underlying24 rfl infoB ?_) | ((with_reducible show wpList _ _ _ (⟨_, .load 31 (.tmp 5), _, _, _, none⟩ :: _) _ _); refine wpList_load_row rfl 31 (.tmp 5) rfl P rfl 31 _ (0, 0) _ HP.out.raw Tryd.underlying31 rfl infoP ?_) | (go_at_call 10; with_reducible refine (jof_at b p j s 0 _ (Lib.hid (tab_own HT.out g0)) (Lib.hid (HBT.out.own g0)) (Lib.hid (HS.out.own g0)) HJ).mono ?_; rintro r w3 ⟨rfl, hg⟩; replace g0 := g0.trans hg; replace HB := Lib.hid (HB.out.own hg); replace HP := Lib.hid (HP.out.own hg); replace HX := Lib.hid (HX.out.own hg); replace HQ := Lib.hid (HQ.out.own hg); clear hg) | ((with_reducible show wpList _ _ _ (⟨_, .store 36 (.tmp 11) (.tmp 28), _, _, _, none⟩ :: _) _ _); refine wpList_store_row rfl 36 (.tmp 11) (.tmp 28) rfl _ (cz 33 (j)) rfl rfl 36 _ (heap_new _ _) infoJ rfl (cz_one _ _) ?_; rw [World.setRow_alloc_new]))
      obtain ⟨w4, J1, hW, hBq, hb, hg, J1g⟩ := blk_new w3 (cz 33 j) 36
      rw [hW, hBq]
      have HJ1 := Lib.hid hb
      replace g0 := g0.trans hg
      replace HB := Lib.hid (HB.out.own hg)
      replace HP := Lib.hid (HP.out.own hg)
      replace HX := Lib.hid (HX.out.own hg)
      replace HQ := Lib.hid (HQ.out.own hg)
      clear hW hBq hb hg
      clear J1g
      go_upto_region 6 with (first | ((with_reducible show wpList _ _ _ (⟨_, .load 24 (.tmp 4), _, _, _, none⟩ :: _) _ _); refine wpList_load_row rfl 24 (.tmp 4) rfl B rfl 24 _ (0, 0) _ HB.out.raw Tryd.underlying24 rfl infoB ?_) | ((with_reducible show wpList _ _ _ (⟨_, .load 31 (.tmp 10), _, _, _, none⟩ :: _) _ _); refine wpList_load_row rfl 31 (.tmp 10) rfl Q rfl 31 _ (0, 0) _ HQ.out.raw Tryd.underlying31 rfl infoP ?_) | (go_at_call 10; with_reducible refine (jof_at b q nul s d _ (Lib.hid (tab_own HT.out g0)) (Lib.hid (HBT.out.own g0)) (Lib.hid (HS.out.own g0)) HK).mono ?_; rintro r w5 ⟨rfl, hg⟩; replace g0 := g0.trans hg; replace HP := Lib.hid (HP.out.own hg); replace HX := Lib.hid (HX.out.own hg); replace HJ1 := Lib.hid (HJ1.out.own hg); clear hg) | ((with_reducible show wpList _ _ _ (⟨_, .store 36 (.tmp 13) (.tmp 35), _, _, _, none⟩ :: _) _ _); refine wpList_store_row rfl 36 (.tmp 13) (.tmp 35) rfl _ (cz 33 (nul)) rfl rfl 36 _ (heap_new _ _) infoJ rfl (cz_one _ _) ?_; rw [World.setRow_alloc_new]))
      obtain ⟨w6, K1, hW, hBq, hb, hg, K1g⟩ := blk_new w5 (cz 33 nul) 36
      rw [hW, hBq]
      have HK1 := Lib.hid hb
      replace g0 := g0.trans hg
      replace HP := Lib.hid (HP.out.own hg)
      replace HX := Lib.hid (HX.out.own hg)
      replace HJ1 := Lib.hid (HJ1.out.own hg)
      clear hW hBq hb hg
      clear K1g
      clear HB HQ
      go_wp2_with (go_at_call 12; with_reducible refine (awake_at _ (Lib.hid (tab_own HT.out g0)) (Lib.hid (HBT.out.own g0)) (Lib.hid (HS.out.own g0))).mono ?_; rintro r w99 ⟨rfl, hg⟩; replace g0 := g0.trans hg; clear hg)
      go_ret
      exact ⟨by first | rfl | (exact ret_bool (by simp)), g0⟩
  · clear hq
    obtain ⟨c, hc⟩ : ∃ c, joE b p s = c := ⟨_, rfl⟩
    obtain ⟨d, hd⟩ : ∃ c, joE b q s = c := ⟨_, rfl⟩
    obtain ⟨k, hk⟩ : ∃ f, joV b q s = f := ⟨_, rfl⟩
    have HJ := Lib.hid (show cz 33 (joV b p s) = cz 33 nul ∧ joE b p s = c from ⟨by rw [joV_no h], hc⟩)
    have HK := Lib.hid (show cz 33 (joV b q s) = cz 33 k ∧ joE b q s = d from ⟨by rw [hk], hd⟩)
    rw [hc] at h
    have kc : (c != 0) = true := bne_iff_ne.2 h
    clear h hc hd hk
    go_enter Tryd.func6, Tryd.ntmps6
    go_upto_region 1 with (fail)
    obtain ⟨W0, B, P, X, hW, hD, hC, hBq, hb, hc, hd, g0, -, -, -, -⟩ := three_new w (cz 15 b) 24 (cz 22 p) 31 (#[.int .i64 x, .int .i64 y]) 26
    rw [hW, hD, hC, hBq]
    have HB := Lib.hid hb
    have HP := Lib.hid hc
    have HX := Lib.hid hd
    clear hW hD hC hBq hb hc hd
    go_upto_region 3 with (first | ((with_reducible show wpList _ _ _ (⟨_, .load 31 (.tmp 5), _, _, _, none⟩ :: _) _ _); refine wpList_load_row rfl 31 (.tmp 5) rfl P rfl 31 _ (0, 0) _ HP.out.raw Tryd.underlying31 rfl infoP ?_) | ((with_reducible show wpList _ _ _ (⟨_, .store 31 (.tmp 10) (.tmp 20), _, _, _, none⟩ :: _) _ _); refine wpList_store_row rfl 31 (.tmp 10) (.tmp 20) rfl _ (cz 22 (p)) rfl rfl 31 _ (heap_new _ _) infoP rfl (cz_one _ _) ?_; rw [World.setRow_alloc_new]))
    obtain ⟨w1, Q, hW, hBq, hb, hg, Qg⟩ := blk_new W0 (cz 22 p) 31
    have hBQ := Nat.ne_of_lt (Nat.lt_of_lt_of_le HB.out.lt Qg)
    have hPQ := Nat.ne_of_lt (Nat.lt_of_lt_of_le HP.out.lt Qg)
    have hXQ := Nat.ne_of_lt (Nat.lt_of_lt_of_le HX.out.lt Qg)
    have hQ0 : w.heap.size ≤ Q := Nat.le_trans g0.size Qg
    rw [hW, hBq]
    have HQ := Lib.hid hb
    replace g0 := g0.trans hg
    replace HB := Lib.hid (HB.out.own hg)
    replace HP := Lib.hid (HP.out.own hg)
    replace HX := Lib.hid (HX.out.own hg)
    clear hW hBq hb hg
    clear Qg
    go_upto_region 4 with (first | ((with_reducible show wpList _ _ _ (⟨_, .load 26 (.tmp 7), _, _, _, none⟩ :: _) _ _); refine wpList_load_row rfl 26 (.tmp 7) rfl X rfl 26 _ (0, 0) _ HX.out.raw Tryd.underlying26 rfl infoPt ?_) | ((with_reducible show wpList _ _ _ (⟨_, .store 26 (.tmp 22) (.tmp 21), _, _, _, none⟩ :: _) _ _); refine wpList_store_part rfl 26 (.tmp 22) (.tmp 21) rfl Q (0) 2 (l2 x y) rfl (#[.int .i64 x, .int .i64 y]) rfl rfl HQ.out (by omega) infoPt ?_))
    have hb9 := HQ.out.row (cz 22 (put p 0 2 (l2 x y)))
    have h9HB := HB.out.rowfar hBQ (cz 22 (put p 0 2 (l2 x y)))
    have h9HP := HP.out.rowfar hPQ (cz 22 (put p 0 2 (l2 x y)))
    have h9HX := HX.out.rowfar hXQ (cz 22 (put p 0 2 (l2 x y)))
    replace g0 := own_setRow g0 hQ0 (cz 22 (put p 0 2 (l2 x y)))
    clear HQ HB HP HX
    generalize w1.setRow Q (cz 22 (put p 0 2 (l2 x y))) = w2 at *
    have HQ := Lib.hid hb9
    have HB := Lib.hid h9HB
    have HP := Lib.hid h9HP
    have HX := Lib.hid h9HX
    clear hb9 h9HB h9HP h9HX
    rw [show cz 22 (put p 0 2 (l2 x y)) = cz 22 q from HQE.out] at HQ
    clear hBQ hPQ hXQ hQ0
    go_upto_region 5 with (first | ((with_reducible show wpList _ _ _ (⟨_, .load 24 (.tmp 4), _, _, _, none⟩ :: _) _ _); refine wpList_load_row rfl 24 (.tmp 4) rfl B rfl 24 _ (0, 0) _ HB.out.raw Tryd.underlying24 rfl infoB ?_) | ((with_reducible show wpList _ _ _ (⟨_, .load 31 (.tmp 5), _, _, _, none⟩ :: _) _ _); refine wpList_load_row rfl 31 (.tmp 5) rfl P rfl 31 _ (0, 0) _ HP.out.raw Tryd.underlying31 rfl infoP ?_) | (go_at_call 10; with_reducible refine (jof_at b p nul s c _ (Lib.hid (tab_own HT.out g0)) (Lib.hid (HBT.out.own g0)) (Lib.hid (HS.out.own g0)) HJ).mono ?_; rintro r w3 ⟨rfl, hg⟩; replace g0 := g0.trans hg; replace HB := Lib.hid (HB.out.own hg); replace HP := Lib.hid (HP.out.own hg); replace HX := Lib.hid (HX.out.own hg); replace HQ := Lib.hid (HQ.out.own hg); clear hg) | ((with_reducible show wpList _ _ _ (⟨_, .store 36 (.tmp 11) (.tmp 28), _, _, _, none⟩ :: _) _ _); refine wpList_store_row rfl 36 (.tmp 11) (.tmp 28) rfl _ (cz 33 (nul)) rfl rfl 36 _ (heap_new _ _) infoJ rfl (cz_one _ _) ?_; rw [World.setRow_alloc_new]))
    obtain ⟨w4, J1, hW, hBq, hb, hg, J1g⟩ := blk_new w3 (cz 33 nul) 36
    rw [hW, hBq]
    have HJ1 := Lib.hid hb
    replace g0 := g0.trans hg
    replace HB := Lib.hid (HB.out.own hg)
    replace HP := Lib.hid (HP.out.own hg)
    replace HX := Lib.hid (HX.out.own hg)
    replace HQ := Lib.hid (HQ.out.own hg)
    clear hW hBq hb hg
    clear J1g
    go_upto_region 6 with (first | ((with_reducible show wpList _ _ _ (⟨_, .load 24 (.tmp 4), _, _, _, none⟩ :: _) _ _); refine wpList_load_row rfl 24 (.tmp 4) rfl B rfl 24 _ (0, 0) _ HB.out.raw Tryd.underlying24 rfl infoB ?_) | ((with_reducible show wpList _ _ _ (⟨_, .load 31 (.tmp 10), _, _, _, none⟩ :: _) _ _); refine wpList_load_row rfl 31 (.tmp 10) rfl Q rfl 31 _ (0, 0) _ HQ.out.raw Tryd.underlying31 rfl infoP ?_) | (go_at_call 10; with_reducible refine (jof_at b q k s d _ (Lib.hid (tab_own HT.out g0)) (Lib.hid (HBT.out.own g0)) (Lib.hid (HS.out.own g0)) HK).mono ?_; rintro r w5 ⟨rfl, hg⟩; replace g0 := g0.trans hg; replace HP := Lib.hid (HP.out.own hg); replace HX := Lib.hid (HX.out.own hg); replace HJ1 := Lib.hid (HJ1.out.own hg); clear hg) | ((with_reducible show wpList _ _ _ (⟨_, .store 36 (.tmp 13) (.tmp 35), _, _, _, none⟩ :: _) _ _); refine wpList_store_row rfl 36 (.tmp 13) (.tmp 35) rfl _ (cz 33 (k)) rfl rfl 36 _ (heap_new _ _) infoJ rfl (cz_one _ _) ?_; rw [World.setRow_alloc_new]))
    obtain ⟨w6, K1, hW, hBq, hb, hg, K1g⟩ := blk_new w5 (cz 33 k) 36
    rw [hW, hBq]
    have HK1 := Lib.hid hb
    replace g0 := g0.trans hg
    replace HP := Lib.hid (HP.out.own hg)
    replace HX := Lib.hid (HX.out.own hg)
    replace HJ1 := Lib.hid (HJ1.out.own hg)
    clear hW hBq hb hg
    clear K1g
    clear HB HQ
    go_wp2_with (go_at_call 12; with_reducible refine (awake_at _ (Lib.hid (tab_own HT.out g0)) (Lib.hid (HBT.out.own g0)) (Lib.hid (HS.out.own g0))).mono ?_; rintro r w99 ⟨rfl, hg⟩; replace g0 := g0.trans hg; clear hg)
    go_ret
    exact ⟨by first | rfl | (exact ret_bool (by simp)), g0⟩
end Go.Proofs.YtephoakgphcnnaaDoor.JntL
