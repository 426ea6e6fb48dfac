/-
  Walk of Beats of the specification of package meter. Condition: none.
-/
import Derived.Test.YtmmgidchgoligaaMeterA
import Derived.Test.YtmmgidchgoligaaMeterPD
namespace Go.Proofs.Ytmmgidchgoligaa.MetW
open Go.ChangeShapes Go.WideShapes Go.ChangeAt Go.RowKit
open PairW CelW MetP
set_option maxRecDepth 100000 in
set_option maxHeartbeats 4000000 in
theorem rbeats_at (l : List Pt) (sv : Value) (s1 s2 : Int) (M : List Int) (f : Int) (w : World) (HP : Hid (Pts w sv l)) (H : Hid (bE l (s1, s2) = f ∧ bV l (s1, s2) = M)) :
    Calls Try.prog 20 #[sv, .agg #[.int .i64 s1, .int .i64 s2]] w fun e w' => ∃ s', e = .returned (.tuple #[s', .int .i64 f]) ∧ w'.ownsRow w.heap.size 3 1 s' M.length (cellsI M) ∧ Own w w' := by
  obtain ⟨i0, hi, hz0, hz1, hz2⟩ := info_parts (show (Try.prog.info? 3).map (fun i => (i.zero, i.size, i.bytes)) = some (some (.int .i64 0), 1, 8) by kernel_rfl)
  have HI := Lib.hid hi
  have HZ0 := Lib.hid hz0
  have HZ1 := Lib.hid hz1
  have HZ2 := Lib.hid hz2
  clear hi hz0 hz1 hz2
  obtain ⟨c, hc⟩ : ∃ c, chkE l = c := ⟨_, rfl⟩
  have HC := Lib.hid hc
  obtain ⟨k0, k1, _, _⟩ := pt_new w s1 s2 30
  have g0 : Own w (w.alloc (.cells #[.int .i64 s1, .int .i64 s2] 30)) := (Own.refl w).alloc _
  by_cases h0 : c = 0
  · subst h0
    obtain ⟨_, hl, ho, h4⟩ := chk_zero.1 hc
    obtain ⟨v, hv⟩ : ∃ v, tot l = v := ⟨_, rfl⟩
    have HV := Lib.hid hv
    have HO := Lib.hid ho
    have hl0 := hl
    by_cases h1 : 0 ≤ s1 ∧ s1 ≤ s2 ∧ s2 ≤ v
    · have hbe := bE_ok (s := (s1, s2)) hc (by rw [hv]; exact h1)
      obtain rfl : 0 = f := by rw [← H.out.1, hbe]
      have HLN := Lib.hid hl
      have HAT := Lib.hid (fun k (hk : k < l.length) => ok_at ho hk)
      have HTT := Lib.hid (fun k (hk : k < l.length) => rtot_step ho hl hk)
      have HBT := Lib.hid (fun k (hk : k < l.length) => bts_take hk)
      have HFI := Lib.hid (show (bts 0 (l.take l.length)).filter (inS (s1, s2)) = M by rw [List.take_length, ← bV_ok hbe]; exact H.out.2)
      obtain ⟨A, cap, rfl, ha1, ha2, ha⟩ := HP.out.open
      unfold maxLen at ha2
      have HA := Lib.hid ha
      obtain ⟨n, hn⟩ : ∃ n, l.length = n := ⟨_, rfl⟩
      rw [hn] at HA ha1 HP hl HTT HAT HBT HFI ⊢
      have HN := Lib.hid hn
      have d1 : decide (s1 < 0) = false := decide_eq_false (by omega)
      have d2 : decide (s2 < s1) = false := decide_eq_false (by omega)
      have d3 : decide (v < s2) = false := decide_eq_false (by omega)
      clear hc hv ho ha hn h4 H h1 hbe
      go_enter Try.func20, Try.ntmps20
      go_upto_region 1 with (fail)
      generalize w.alloc (.cells #[.int .i64 s1, .int .i64 s2] 30) = W0 at *
      go_upto_region 4 with (go_at_call 13; refine (rcheck_at l _ 0 _ (Lib.hid (HP.out.own g0)) HC).mono ?_; rintro e wr ⟨rfl, hg⟩; replace g0 := g0.trans hg; replace k0 := hg.cell k0; replace k1 := hg.cell k1)
      clear hg
      have k0d : ∀ x : After wr, x.w.cell? ⟨w.heap.size, 0, none⟩ = some (.int .i64 s1) := fun x => x.o.cell k0
      have k1d : ∀ x : After wr, x.w.cell? ⟨w.heap.size, 1, none⟩ = some (.int .i64 s2) := fun x => x.o.cell k1
      have HPr := Lib.hid (HP.out.own g0)
      refine region_after wr (by kernel_rfl) (by kernel_rfl) ?_
      repeat (first
        | go_big_quiet_step ((go_at_call 28; refine (rtotal_at l _ v _ (Lib.hid (HPr.out.own (After.o _))) HO hl0 HV).mono ?_; rintro e w2 ⟨rfl, hg⟩; exact ⟨rfl, ⟨w2, (After.o _).trans hg⟩, rfl⟩))
        | quiet_step ((go_at_call 28; refine (rtotal_at l _ v _ (Lib.hid (HPr.out.own (After.o _))) HO hl0 HV).mono ?_; rintro e w2 ⟨rfl, hg⟩; exact ⟨rfl, ⟨w2, (After.o _).trans hg⟩, rfl⟩)))
      refine wpQuiet_nil ?_
      rintro _ ⟨x, rfl⟩
      clear k0d k1d HPr
      have d4 := x.o
      generalize x.w = w1 at *
      replace g0 := g0.trans d4
      replace k0 := d4.cell k0
      replace k1 := d4.cell k1
      clear d4
      have hbx : w.heap.size ≤ w1.heap.size := g0.size
      have R0 : (w1.alloc (.cells #[] 3)).ownsRow w1.heap.size 3 1 (.slice (some ⟨w1.heap.size, 0, none⟩) 0 0) 0 [] := World.ownsRow_made w1 #[] 0 (Nat.le_refl _) (Nat.zero_le _) rfl
      have HR0 := Lib.hid R0
      have q00 : Own w1 (w1.alloc (.cells #[] 3)) := (Own.refl w1).alloc _
      clear R0
      go_upto_region 7 with (fail)
      generalize w1.alloc (.cells #[] 3) = W1 at *
      go_wp2
      go_loopw [7, 8] (fun v7 v8 wr => ∃ (k : Nat) (ou : List Int) (z : Nat), v8 = .int .i64 (k : Int) ∧ k ≤ n ∧ Own w1 wr ∧ z = ou.length ∧ z ≤ 16 * k ∧ wr.ownsRow w1.heap.size 3 1 v7 z (cellsI ou) ∧ ou = (bts 0 (l.take k)).filter (inS (s1, s2))) (fun _ v8 _ => n - (intOf v8).toNat)
      case atStart => exact ⟨0, [], 0, rfl, Nat.zero_le _, q00, rfl, Nat.le_refl _, HR0.out, rfl⟩
      case round =>
        clear HR0 q00
        obtain ⟨k, ou, z, rfl, hk, q0, hz, hzk, hrow, hou⟩ := hrel
        have HROW := Lib.hid hrow
        have HOU := Lib.hid hou
        have HZL := Lib.hid hz
        clear hrow hou hz
        by_cases hlt : k < n
        · obtain ⟨bb, off, rfl, hcl⟩ := HA.out (by omega)
          have e0 := g0.cell (hcl k hlt).1
          have e1 := g0.cell (hcl k hlt).2
          have ht := HTT.out k hlt
          have hat := HAT.out k hlt
          have hbt := HBT.out k hlt
          clear hcl
          obtain ⟨⟨x, y⟩, hp⟩ : ∃ p, at' l k = p := ⟨_, rfl⟩
          rw [hp] at e0 e1 ht hat hbt
          simp only at e0 e1 ht hat hbt
          have HBT1 := Lib.hid hbt
          have ht2 := ht.2
          obtain ⟨S, hS⟩ : ∃ S, tot (l.take k) = S := ⟨_, rfl⟩
          have HS := Lib.hid hS
          have HO1 := Lib.hid (ok_take HO.out k)
          have hl1 : (l.take k).length ≤ 128 := by rw [List.length_take]; have := HLN.out; omega
          have HT1 := Lib.hid ((pts_take HP.out (k := k) (by rw [HN.out]; omega)).own g0)
          rw [hS] at HBT1 ht2
          clear hp ht hbt hS
          have hkn : (k : Int) < n := by omega
          have j5 : 0 ≤ (k : Int) := by omega
          have j6 : (k : Int) ≤ cap := by omega
          obtain ⟨A8, c8, rfl⟩ := rows_shape HROW.out
          obtain ⟨X, hX⟩ : ∃ X : Nat, x = X := ⟨x.toNat, by omega⟩
          subst hX
          go_wp2
          go_loopw [7, 9] (fun v7 v9 wx => ∃ (j : Nat) (ou2 : List Int) (z2 : Nat), v9 = .int .i64 (j : Int) ∧ j ≤ X ∧ Own w1 wx ∧ z2 = ou2.length ∧ z2 ≤ 16 * k + j ∧ wx.ownsRow w1.heap.size 3 1 v7 z2 (cellsI ou2) ∧ ou2 = (bts 0 (l.take k) ++ bm S y j).filter (inS (s1, s2))) (fun _ v9 _ => X - (intOf v9).toNat)
          case atStart => exact ⟨0, ou, z, rfl, Nat.zero_le _, q0, HZL.out, by omega, HROW.out, by rw [bm_zero, List.append_nil]; exact HOU.out⟩
          case round =>
            clear HROW HOU HZL q0
            obtain ⟨j, ou2, z2, rfl, hj, q2, hz2, hzj, hrow, hou⟩ := hrel
            have HROW := Lib.hid hrow
            have HOU := Lib.hid hou
            have HZL := Lib.hid hz2
            clear hrow hou hz2
            obtain ⟨A9, c9, rfl⟩ := rows_shape HROW.out
            have f0 := q2.cell e0
            by_cases hlt2 : j < X
            · have hjx : (j : Int) < X := by omega
              obtain ⟨π, hπ⟩ : ∃ π, (j : Int) * y = π := ⟨_, rfl⟩
              have hprod : (j : Int) * y ≤ 16 * 96 := Int.mul_le_mul (by omega) (by omega) (by omega) (by omega)
              have hprod2 : 0 ≤ (j : Int) * y := Int.mul_nonneg (by omega) (by omega)
              have i1 : IntKind.i64.wrap ((j : Int) * y) = π := by rw [hπ]; exact IntWalk.i64_in _ (by omega)
              obtain ⟨τ, hτ⟩ : ∃ τ, S + π = τ := ⟨_, rfl⟩
              have i2 : IntKind.i64.wrap (S + π) = τ := by rw [IntWalk.i64_in _ (by omega), hτ]
              have HG := Lib.hid (show (bts 0 (l.take k) ++ bm S y (j + 1)).filter (inS (s1, s2)) = if inS (s1, s2) τ = true then ou2 ++ [τ] else ou2 by rw [gather, hπ, hτ, ← HOU.out])
              clear hprod hprod2 hπ hτ
              go_upto_region 13 with (fail)
              have HPT := Lib.hid (HT1.out.own q2)
              have e1d : ∀ x : After wr, x.w.cell? ⟨bb, off + k * 2 + 1, none⟩ = some (.int .i64 y) := fun x => x.o.cell (q2.cell e1)
              refine region_after wr (by kernel_rfl) (by kernel_rfl) ?_
              repeat (first
                | go_big_quiet_step ((go_at_call 28; refine (rtotal_at (l.take k) _ S _ (Lib.hid (HPT.out.own (After.o _))) HO1 hl1 HS).mono ?_; rintro e w2 ⟨rfl, hg⟩; exact ⟨rfl, ⟨w2, (After.o _).trans hg⟩, rfl⟩))
                | quiet_step ((go_at_call 28; refine (rtotal_at (l.take k) _ S _ (Lib.hid (HPT.out.own (After.o _))) HO1 hl1 HS).mono ?_; rintro e w2 ⟨rfl, hg⟩; exact ⟨rfl, ⟨w2, (After.o _).trans hg⟩, rfl⟩)))
              refine wpQuiet_nil ?_
              rintro _ ⟨xx, rfl⟩
              clear e1d HPT f0
              have d4 := xx.o
              generalize xx.w = w5 at *
              replace q2 := q2.trans d4
              replace HROW := Lib.hid (row_own HROW.out d4)
              clear d4
              have c0 := q2.cell k0
              have c1 := q2.cell k1
              by_cases t1 : s1 ≤ τ
              · by_cases t2 : τ < s2
                · have HG2 := Lib.hid (HG.out.trans (if_pos ((inS_iff (s1, s2) τ).2 ⟨t1, t2⟩)))
                  have hbw : w1.heap.size ≤ w5.heap.size := q2.size
                  go_upto_region 15 with (fail)
                  go_wp2_with (at_builtin; refine wpList_add_int w5 rfl _ _ _ rfl w1.heap.size 3 i0 (.int .i64 0) Try.underlying36 HI.out HZ0.out HZ1.out HZ2.out rfl (.slice A9 z2 c9) z2 ou2 rfl HROW.out (by omega) τ rfl hbw ?_; intro v' w8 hown had; have HOWN := Lib.hid hown; have HAD := Lib.hid had; clear hown had; obtain ⟨A10, c10, rfl⟩ := rows_shape HOWN.out; have HQ8 := Lib.hid (HAD.out.own _ q2 (Nat.le_refl _)); clear HAD HROW q2 c0 c1)
                  go_roundw
                  case rel => exact ⟨j + 1, ou2 ++ [τ], z2 + 1, by go_num, hlt2, HQ8.out, by rw [List.length_append, ← HZL.out]; rfl, by omega, HOWN.out, HG2.out.symm⟩
                  case measure => simp [intOf]; omega
                · have HG2 := Lib.hid (HG.out.trans (if_neg (mt (inS_iff (s1, s2) τ).1 fun h => t2 h.2)))
                  have d5 : decide (τ < s2) = false := decide_eq_false t2
                  go_wp2
                  go_roundw
                  case rel => exact ⟨j + 1, ou2, z2, by go_num, hlt2, q2, HZL.out, by omega, HROW.out, HG2.out.symm⟩
                  case measure => simp [intOf]; omega
              · have HG2 := Lib.hid (HG.out.trans (if_neg (mt (inS_iff (s1, s2) τ).1 fun h => t1 h.1)))
                have d5 : decide (s1 ≤ τ) = false := decide_eq_false t1
                go_wp2
                go_roundw
                case rel => exact ⟨j + 1, ou2, z2, by go_num, hlt2, q2, HZL.out, by omega, HROW.out, HG2.out.symm⟩
                case measure => simp [intOf]; omega
            · obtain rfl : j = X := by omega
              go_wp2
              go_roundw
              case rel => exact ⟨k + 1, ou2, z2, by go_num, hlt, q2, HZL.out, by omega, HROW.out, by rw [HBT1.out]; exact HOU.out⟩
              case measure => simp [intOf]; omega
        · obtain rfl : k = n := by omega
          obtain rfl : ou = M := by rw [HOU.out, HFI.out]
          go_wp2
          go_ret2
          exact ⟨_, rfl, row_down (by rw [← HZL.out]; exact HROW.out) hbx, g0.trans q0⟩
    · obtain rfl : 1 = f := by rw [← H.out.1, bE_no hc (by rw [hv]; exact h1)]
      obtain rfl : [] = M := by rw [← H.out.2, bV_none (by rw [H.out.1]; decide)]
      have hno : (∃ b1 b2, decide (s1 < 0) = true ∧ decide (s2 < s1) = b1 ∧ decide (v < s2) = b2) ∨ (∃ b2, decide (s1 < 0) = false ∧ decide (s2 < s1) = true ∧ decide (v < s2) = b2) ∨ decide (s1 < 0) = false ∧ decide (s2 < s1) = false ∧ decide (v < s2) = true := by
        by_cases a1 : s1 < 0
        · exact .inl ⟨_, _, decide_eq_true a1, rfl, rfl⟩
        · by_cases a2 : s2 < s1
          · exact .inr (.inl ⟨_, decide_eq_false a1, decide_eq_true a2, rfl⟩)
          · exact .inr (.inr ⟨decide_eq_false a1, decide_eq_false a2, decide_eq_true (by omega)⟩)
      clear hc hv h1 H ho
      go_enter Try.func20, Try.ntmps20
      go_upto_region 1 with (fail)
      generalize w.alloc (.cells #[.int .i64 s1, .int .i64 s2] 30) = W0 at *
      go_upto_region 4 with (go_at_call 13; refine (rcheck_at l _ 0 _ (Lib.hid (HP.out.own g0)) HC).mono ?_; rintro e wr ⟨rfl, hg⟩; replace g0 := g0.trans hg; replace k0 := hg.cell k0; replace k1 := hg.cell k1)
      clear hg
      have k0d : ∀ x : After wr, x.w.cell? ⟨w.heap.size, 0, none⟩ = some (.int .i64 s1) := fun x => x.o.cell k0
      have k1d : ∀ x : After wr, x.w.cell? ⟨w.heap.size, 1, none⟩ = some (.int .i64 s2) := fun x => x.o.cell k1
      have HPr := Lib.hid (HP.out.own g0)
      rcases hno with ⟨b1, b2, h, h1, h2⟩ | ⟨b2, h, h1, h2⟩ | ⟨h, h1, h2⟩
      all_goals
        refine region_after wr (by kernel_rfl) (by kernel_rfl) ?_
        repeat (first
          | go_big_quiet_step ((go_at_call 28; refine (rtotal_at l _ v _ (Lib.hid (HPr.out.own (After.o _))) HO hl0 HV).mono ?_; rintro e w2 ⟨rfl, hg⟩; exact ⟨rfl, ⟨w2, (After.o _).trans hg⟩, rfl⟩))
          | quiet_step ((go_at_call 28; refine (rtotal_at l _ v _ (Lib.hid (HPr.out.own (After.o _))) HO hl0 HV).mono ?_; rintro e w2 ⟨rfl, hg⟩; exact ⟨rfl, ⟨w2, (After.o _).trans hg⟩, rfl⟩)))
        refine wpQuiet_nil ?_
        rintro _ ⟨x, rfl⟩
        clear k0d k1d HPr
        have d4 := x.o
        generalize x.w = w1 at *
        go_wp2
        go_ret2
        exact ⟨_, rfl, World.ownsRow_nil _ _ _ _, g0.trans d4⟩
  · obtain rfl : c = f := by rw [← H.out.1, bE_bad _ (by rw [hc]; exact h0), hc]
    obtain rfl : [] = M := by rw [← H.out.2, bV_none (by rw [H.out.1]; exact h0)]
    have d0 : (c != 0) = true := bne_iff_ne.2 h0
    clear hc H
    go_enter Try.func20, Try.ntmps20
    go_upto_region 1 with (fail)
    generalize w.alloc (.cells #[.int .i64 s1, .int .i64 s2] 30) = W0 at *
    go_wp2_with (go_at_call 13; refine (rcheck_at l _ c _ (Lib.hid (HP.out.own g0)) HC).mono ?_; rintro e w1 ⟨rfl, hg⟩; replace g0 := g0.trans hg)
    go_ret2
    exact ⟨_, rfl, World.ownsRow_nil _ _ _ _, g0⟩
end Go.Proofs.Ytmmgidchgoligaa.MetW
