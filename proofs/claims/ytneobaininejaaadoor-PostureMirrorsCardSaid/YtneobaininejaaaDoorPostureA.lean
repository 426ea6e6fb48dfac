/-
  Walks of the specification of layer posture: the small functions. Condition: none.
-/
import Derived.Test.YtneobaininejaaaDoorPosturePB
import Derived.Test.YtneobaininejaaaDoorAimB
import Derived.BigQuiet
import Derived.Deep.QuietTactic
namespace Go.Proofs.YtneobaininejaaaDoor.PstW
open Go.ChangeShapes Go.WideShapes Go.ChangeAt Go.RowKit
open PairW AimP AimW BlkW PrtW PstP
theorem ron_at (d : Int) (t : Bool) (w : World) (H : Hid (AngW.floorB d = t)) :
    Calls Tryd.prog 35 #[.int .i64 d] w fun r w' => r = .returned (.bool t) ∧ w = w' := by
  have hi := AngW.floor_iff d
  rw [H.out] at hi
  clear H
  by_cases h1 : -32768 ≤ d
  · by_cases h2 : d ≤ 32768
    · obtain rfl : t = true := hi.2 (by omega)
      clear hi
      go_enter Tryd.func35, Tryd.ntmps35
      go_wp2
      go_ret
      exact ⟨ret_bool (by simp), rfl⟩
    · obtain rfl : t = false := by cases t <;> simp at hi ⊢; omega
      clear hi
      go_enter Tryd.func35, Tryd.ntmps35
      go_wp2
      go_ret
      exact ⟨ret_bool (by simp), rfl⟩
  · obtain rfl : t = false := by cases t <;> simp at hi ⊢; omega
    clear hi
    go_enter Tryd.func35, Tryd.ntmps35
    go_wp2
    go_ret
    exact ⟨ret_bool (by simp), rfl⟩
theorem rdown_at (w : World) :
    Calls Tryd.prog 36 #[] w fun r w' => r = .returned (.agg #[.int .i64 0, .int .i64 (-1), .int .i64 0]) ∧ Own w w' := by
  go_enter Tryd.func36, Tryd.ntmps36
  go_upto_region 1 with (fail)
  go_wp2_with ((with_reducible show wpList _ _ _ (⟨_, .store 25 (.tmp 0) (.tmp 1), _, _, _, none⟩ :: _) _ _); refine wpList_store_row rfl 25 (.tmp 0) (.tmp 1) rfl _ #[.int .i64 0, .int .i64 (-1), .int .i64 0] rfl rfl 25 _ (heap_new _ _) infoT rfl (by simp [Value.oneCell']) ?_; rw [World.setRow_alloc_new])
  have hp := Blk.new w #[.int .i64 0, .int .i64 (-1), .int .i64 0] 25
  exact bodyPost_ret (blk_result rfl rfl hp Tryd.underlying25 rfl infoT) rfl ⟨rfl, (Own.refl w).alloc _⟩
theorem rexc_at (u v : Int) (w : World) (hu : 1 ≤ u ∧ u ≤ 3) (H : Hid (xch u = v)) :
    Calls Tryd.prog 50 #[.int .i64 u] w fun r w' => r = .returned (.int .i64 v) ∧ w = w' := by
  have t : u = 1 ∨ u = 2 ∨ u = 3 := by omega
  clear hu
  rcases t with rfl | rfl | rfl
  · obtain rfl : 2 = v := H.out
    go_enter Tryd.func50, Tryd.ntmps50
    go_wp2
    go_ret
    exact ⟨rfl, rfl⟩
  · obtain rfl : 1 = v := H.out
    go_enter Tryd.func50, Tryd.ntmps50
    go_wp2
    go_ret
    exact ⟨rfl, rfl⟩
  · obtain rfl : 3 = v := H.out
    go_enter Tryd.func50, Tryd.ntmps50
    go_wp2
    go_ret
    exact ⟨rfl, rfl⟩
theorem rquar_at (n q : Int) (w : World) (H : Hid (n % 4 = q)) :
    Calls Tryd.prog 60 #[.int .i64 n] w fun r w' => r = .returned (.int .i64 q) ∧ w = w' := by
  obtain ⟨r, hr⟩ : ∃ r, n.tmod 4 = r := ⟨_, rfl⟩
  have h1 := Int.mul_tdiv_add_tmod n 4
  have h2 := Int.tmod_lt_of_pos n (show (0 : Int) < 4 by decide)
  have h3 := Int.lt_tmod_of_pos n (show (0 : Int) < 4 by decide)
  rw [hr] at h1 h2 h3
  have HQ := Lib.hid (show (r + 4) % 4 = q by rw [← H.out]; omega)
  have b0 : 0 ≤ r + 4 := by omega
  clear h1 H
  go_enter Tryd.func60, Tryd.ntmps60
  go_wp2
  go_ret
  exact ⟨ret_int HQ.out, rfl⟩
theorem tu_next (x y : Int) {k : Int} (h : 0 ≤ k ∧ k < 3) : tuX (k + 1) x y = tuY k x y ∧ tuY (k + 1) x y = -tuX k x y := by
  have t : k = 0 ∨ k = 1 ∨ k = 2 := by omega
  rcases t with rfl | rfl | rfl <;> simp [tuX, tuY]
set_option maxRecDepth 100000 in
set_option maxHeartbeats 2000000 in
theorem rtur_at (x y n q X Y : Int) (w : World) (hx : -32768 ≤ x ∧ x ≤ 32768) (hy : -32768 ≤ y ∧ y ≤ 32768) (HQ : Hid (n % 4 = q)) (H : Hid (tuX q x y = X ∧ tuY q x y = Y)) :
    Calls Tryd.prog 59 #[.agg #[.int .i64 x, .int .i64 y], .int .i64 n] w fun r w' => r = .returned (.agg #[.int .i64 X, .int .i64 Y]) ∧ Own w w' := by
  have bq : 0 ≤ q ∧ q ≤ 3 := by have := HQ.out; omega
  have HIN := Lib.hid (fun k : Int => tu_in k hx hy)
  clear hx hy
  go_enter Tryd.func59, Tryd.ntmps59
  go_upto_region 1 with (fail)
  obtain ⟨W0, B, P, hW, hP, hB, hb, hp, g0, hB0, hP0, hne⟩ := two_new w (#[.int .i64 x, .int .i64 y]) 23 (#[.int .i64 0, .int .i64 0]) 23
  rw [hW, hP, hB]
  have HB := Lib.hid hb
  have HP := Lib.hid hp
  have HNE := Lib.hid hne
  clear hW hP hB hb hp hne
  go_wp2
  go_loopw [5] (fun vi wr => ∃ k : Nat, vi = .int .i64 (k : Int) ∧ (k : Int) ≤ q ∧ Own w wr ∧ Blk wr B #[.int .i64 (tuX k x y), .int .i64 (tuY k x y)] 23 ∧ Blk wr P #[.int .i64 0, .int .i64 0] 23) (fun vi _ => 4 - (intOf vi).toNat)
  case atStart => exact ⟨0, rfl, bq.1, g0, HB.out, HP.out⟩
  case round =>
    clear HB HP g0
    obtain ⟨k, rfl, hk, g0, hb, hp⟩ := hrel
    have HB := Lib.hid hb
    have HP := Lib.hid hp
    have k0 := hb.cell 0
    have k1 := hb.cell 1
    clear hb hp
    by_cases hlt : (k : Int) < q
    · obtain ⟨b1, b2⟩ := HIN.out k
      have HT := Lib.hid (tu_next x y (k := k) ⟨by omega, by omega⟩)
      generalize tuX k x y = X1 at *
      generalize tuY k x y = Y1 at *
      have dk : decide ((k : Int) < q) = true := decide_eq_true hlt
      go_upto_region 3 with (first | (go_at_call 60; with_reducible refine (rquar_at n q _ HQ).mono ?_; rintro r w1 ⟨rfl, rfl⟩) | ((with_reducible show wpList _ _ _ (⟨_, .store 23 (.tmp 2) (.tmp 17), _, _, _, none⟩ :: _) _ _); refine wpList_store_row rfl 23 (.tmp 2) (.tmp 17) rfl B #[.int .i64 Y1, .int .i64 (-X1)] rfl rfl 23 _ HB.out.raw infoPt rfl (by simp [Value.oneCell']) ?_))
      have hb := HB.out.row #[.int .i64 Y1, .int .i64 (-X1)]
      have hp := HP.out.rowfar HNE.out.symm #[.int .i64 Y1, .int .i64 (-X1)]
      replace g0 := own_setRow g0 hB0 #[.int .i64 Y1, .int .i64 (-X1)]
      clear HB HP k0 k1
      generalize wr.setRow B #[.int .i64 Y1, .int .i64 (-X1)] = w1 at *
      have HR := Lib.hid (And.intro hb hp)
      clear hb hp dk
      go_wp2
      go_roundw
      case rel =>
        refine ⟨k + 1, by go_num, by omega, g0, ?_, HR.out.2⟩
        rw [show ((k + 1 : Nat) : Int) = (k : Int) + 1 by omega, HT.out.1, HT.out.2]
        exact HR.out.1
      case measure => simp [intOf]; omega
    · have hkq : (k : Int) = q := by omega
      have HV := Lib.hid (show tuX k x y = X ∧ tuY k x y = Y by rw [hkq]; exact H.out)
      rw [HV.out.1, HV.out.2] at k0 k1
      have hb := HB.out
      rw [HV.out.1, HV.out.2] at hb
      clear HB
      have HB := Lib.hid hb
      clear hb
      have dk : decide ((k : Int) < q) = false := decide_eq_false hlt
      clear hkq
      go_wp2_with (first | (go_at_call 60; with_reducible refine (rquar_at n q _ HQ).mono ?_; rintro r w1 ⟨rfl, rfl⟩) | ((with_reducible show wpList _ _ _ (⟨_, .load 23 (.tmp 2), _, _, _, none⟩ :: _) _ _); refine wpList_load_row rfl 23 (.tmp 2) rfl B rfl 23 _ (0, 0) _ HB.out.raw Tryd.underlying23 rfl infoPt ?_) | ((with_reducible show wpList _ _ _ (⟨_, .store 23 (.tmp 4) (.tmp 18), _, _, _, none⟩ :: _) _ _); refine wpList_store_row rfl 23 (.tmp 4) (.tmp 18) rfl P #[.int .i64 X, .int .i64 Y] rfl rfl 23 _ HP.out.raw infoPt rfl (by simp [Value.oneCell']) ?_))
      have hp := HP.out.row #[.int .i64 X, .int .i64 Y]
      exact bodyPost_ret (blk_result rfl rfl hp Tryd.underlying23 rfl infoPt) rfl ⟨rfl, own_setRow g0 hP0 _⟩
end Go.Proofs.YtneobaininejaaaDoor.PstW
