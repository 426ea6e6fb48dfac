/-
  Walk of Beats of the program of package meter. Condition: none.
-/
import Derived.Test.YtmmgidchgoligaaMeterPA
import Derived.Test.YtmmgidchgoligaaMeterMem
namespace Go.Proofs.Ytmmgidchgoligaa.MetW
open Go.ChangeShapes Go.WideShapes Go.ChangeAt Go.RowKit
open PairW CelW MetP
/-- What is gathered of a measure's beats, with one beat more. -/
theorem gather (F : Int → Bool) (A : List Int) (s u : Int) (j : Nat) : (A ++ bm s u (j + 1)).filter F = if F (s + (j : Int) * u) = true then (A ++ bm s u j).filter F ++ [s + (j : Int) * u] else (A ++ bm s u j).filter F := by
  rw [bm_succ, ← List.append_assoc, List.filter_append, List.filter_cons]
  split
  · rfl
  · rw [List.filter_nil, List.append_nil]
theorem row_shape1 {w : World} {base n : Nat} {e : TypeId} {v : Value} {xs : List Value} (h : w.ownsRow base e 1 v n xs) : ∃ A cap, v = .slice A n cap := rows_shape h
theorem own_block {w : World} {base n : Nat} {e : TypeId} {v : Value} {xs : List Value} (h : w.ownsRow base e 1 v n xs) {b : Nat} (hb : b < base) : v.ownBlock ≠ some b := fun e => by
  have := (h.lt b e).1
  omega
theorem own_new {w : World} {base n : Nat} {e : TypeId} {v : Value} {xs : List Value} (h : w.ownsRow base e 1 v n xs) {b : Nat} (hb : w.heap.size ≤ b) : v.ownBlock ≠ some b := fun e => by
  have h2 := (h.lt b e).2
  omega
set_option maxRecDepth 100000 in
set_option maxHeartbeats 2000000 in
theorem pbeats_at (l : List Pt) (sv : Value) (s1 s2 : Int) (M : List Int) (f : Int) (w : World) (HP : Hid (Pts w sv l)) (H : Hid (bE l (s1, s2) = f ∧ bV l (s1, s2) = M)) :
    Calls Try.prog 19 #[sv, .agg #[.int .i64 s1, .int .i64 s2]] w fun e w' => ∃ s', e = .returned (.tuple #[s', .int .i64 f]) ∧ w'.ownsRow w.heap.size 3 1 s' M.length (cellsI M) ∧ Own w w' := by
  obtain ⟨i0, hi, hz0, hz1, hz2⟩ := info_parts (show (Try.prog.info? 3).map (fun i => (i.zero, i.size, i.bytes)) = some (some (.int .i64 0), 1, 8) by kernel_rfl)
  have HI := Lib.hid hi
  have HZ0 := Lib.hid hz0
  have HZ1 := Lib.hid hz1
  have HZ2 := Lib.hid hz2
  clear hi hz0 hz1 hz2
  obtain ⟨c, hc⟩ : ∃ c, chkE l = c := ⟨_, rfl⟩
  obtain ⟨v, hv⟩ : ∃ v, lenV l = v := ⟨_, rfl⟩
  have HC := Lib.hid (And.intro hc hv)
  obtain ⟨k0, k1, _, _⟩ := pt_new w s1 s2 30
  have g0 : Own w (w.alloc (.cells #[.int .i64 s1, .int .i64 s2] 30)) := (Own.refl w).alloc _
  have HSZ := Lib.hid (show w.heap.size ≤ w.heap.size from Nat.le_refl _)
  by_cases h0 : c = 0
  · subst h0
    rw [lenV_ok hc] at hv
    by_cases h1 : 0 ≤ s1 ∧ s1 ≤ s2 ∧ s2 ≤ v
    · have hbe := bE_ok (s := (s1, s2)) hc (by rw [hv]; exact h1)
      obtain rfl : 0 = f := by rw [← H.out.1, hbe]
      obtain ⟨_, hl, ho, h4⟩ := chk_zero.1 hc
      have HO := Lib.hid ho
      have HAT := Lib.hid (fun k (hk : k < l.length) => ok_at ho hk)
      have HTT := Lib.hid (fun k (hk : k < l.length) => And.intro (tot_take hk) (tot_step ho hl hk))
      have HBT := Lib.hid (fun k (hk : k < l.length) => bts_take hk)
      have HFI := Lib.hid (show (bts 0 (l.take l.length)).filter (inS (s1, s2)) = M by rw [List.take_length, ← bV_ok hbe]; exact H.out.2)
      obtain ⟨A, cap, rfl, ha1, ha2, ha⟩ := HP.out.open
      unfold maxLen at ha2
      have HA := Lib.hid ha
      obtain ⟨n, hn⟩ : ∃ n, l.length = n := ⟨_, rfl⟩
      rw [hn] at HA ha1 HP hl HTT HAT HBT HFI ⊢
      have d1 : ¬ s1 < 0 := by omega
      have d2 : ¬ s2 < s1 := by omega
      have d3 : ¬ v < s2 := by omega
      clear hc hv ho ha hn h4 H h1 hbe
      go_enter Try.func19, Try.ntmps19
      go_upto_region 1 with (fail)
      generalize w.alloc (.cells #[.int .i64 s1, .int .i64 s2] 30) = W0 at *
      go_upto_region 8 with (go_at_call 10; refine (plength_at l _ v 0 _ (Lib.hid (HP.out.own g0)) HC).mono ?_; rintro e w1 ⟨rfl, hg⟩; replace g0 := g0.trans hg; replace k0 := hg.cell k0; replace k1 := hg.cell k1)
      have hbx : w.heap.size < w1.heap.size := block_lt_of_cell k0
      clear hg
      go_wp2
      go_loopw [8, 9, 38] (fun v8 v9 v38 wr => ∃ (k : Nat) (ou : List Int) (z : Nat), v38 = .int .i64 (k : Int) ∧ v9 = .int .i64 (tot (l.take k)) ∧ k ≤ n ∧ Own w1 wr ∧ z = ou.length ∧ z ≤ 16 * k ∧ wr.ownsRow w1.heap.size 3 1 v8 z (cellsI ou) ∧ ou = (bts 0 (l.take k)).filter (inS (s1, s2))) (fun _ _ v38 _ => n - (intOf v38).toNat)
      case atStart => exact ⟨0, [], 0, rfl, rfl, Nat.zero_le _, Own.refl w1, rfl, Nat.le_refl _, World.ownsRow_nil _ _ _ _, rfl⟩
      case round =>
        obtain ⟨k, ou, z, rfl, rfl, hk, q0, hz, hzk, hrow, hou⟩ := hrel
        have HROW := Lib.hid hrow
        have HOU := Lib.hid hou
        have HZL := Lib.hid hz
        clear hrow hou hz
        by_cases hlt : k < n
        · obtain ⟨bb, off, rfl, hcl⟩ := HA.out (by omega)
          have e0 := (g0.trans q0).cell (hcl k hlt).1
          have e1 := (g0.trans q0).cell (hcl k hlt).2
          have ht := HTT.out k hlt
          have hat := HAT.out k hlt
          have hbt := HBT.out k hlt
          clear hcl
          obtain ⟨⟨x, y⟩, hp⟩ : ∃ p, at' l k = p := ⟨_, rfl⟩
          rw [hp] at e0 e1 ht hat hbt
          simp only at e0 e1 ht hat hbt
          have HT1 := Lib.hid ht.1
          have HBT1 := Lib.hid hbt
          have ht2 := ht.2
          generalize tot (l.take k) = S at *
          clear hp ht hbt
          have hkn : (k : Int) < n := by omega
          obtain ⟨m0, m1, _, _⟩ := pt_new wr x y 45
          have g1 : Own wr (wr.alloc (.cells #[.int .i64 x, .int .i64 y] 45)) := (Own.refl wr).alloc _
          have hnb := own_new HROW.out (Nat.le_refl wr.heap.size)
          obtain ⟨A8, c8, rfl⟩ := rows_shape HROW.out
          have HR1 := Lib.hid (row_own HROW.out g1)
          have q1 := q0.trans g1
          go_upto_region 11 with (fail)
          generalize wr.heap.size = B at *
          generalize wr.alloc (.cells #[.int .i64 x, .int .i64 y] 45) = W2 at *
          have HNB := Lib.hid hnb
          have m1l : B < W2.heap.size := block_lt_of_cell m1
          clear hnb q0 g1 HROW e0 e1
          obtain ⟨X, hX⟩ : ∃ X : Nat, x = X := ⟨x.toNat, by omega⟩
          subst hX
          go_wp2
          go_loopw [8, 9, 44] (fun v8 v9 v44 wx => ∃ (j : Nat) (ou2 : List Int) (z2 : Nat) (τ : Int), v44 = .int .i64 (j : Int) ∧ v9 = .int .i64 τ ∧ τ = S + (j : Int) * y ∧ 0 ≤ τ ∧ j ≤ X ∧ Own w1 wx ∧ wx.cell? ⟨B, 1, none⟩ = some (.int .i64 y) ∧ v8.ownBlock ≠ some B ∧ z2 = ou2.length ∧ z2 ≤ 16 * k + j ∧ wx.ownsRow w1.heap.size 3 1 v8 z2 (cellsI ou2) ∧ ou2 = (bts 0 (l.take k) ++ bm S y j).filter (inS (s1, s2))) (fun _ _ v44 _ => X - (intOf v44).toNat)
          case atStart => exact ⟨0, ou, z, S, rfl, rfl, by simp, by omega, Nat.zero_le _, q1, m1, HNB.out, HZL.out, by omega, HR1.out, by rw [bm_zero, List.append_nil]; exact HOU.out⟩
          case round =>
            clear HR1 HOU HZL HNB
            obtain ⟨j, ou2, z2, τ, rfl, rfl, hτ, hτ0, hj, q2, e5, hnb, hz2, hzj, hrow, hou⟩ := hrel
            have HTAU := Lib.hid hτ
            have HROW := Lib.hid hrow
            have HOU := Lib.hid hou
            have HZL := Lib.hid hz2
            have HNB := Lib.hid hnb
            clear hτ hrow hou hz2 hnb
            by_cases hlt2 : j < X
            · have hjx : (j : Int) < X := by omega
              have HG := Lib.hid (show (bts 0 (l.take k) ++ bm S y (j + 1)).filter (inS (s1, s2)) = if inS (s1, s2) τ = true then ou2 ++ [τ] else ou2 by rw [gather, ← HTAU.out, ← HOU.out])
              have hprod : (j : Int) * y ≤ 16 * 96 := Int.mul_le_mul (by omega) (by omega) (by omega) (by omega)
              have hτ1 : τ ≤ 300000 := by have := HTAU.out; omega
              have HTA2 := Lib.hid (show τ + y = S + ((j + 1 : Nat) : Int) * y by have := HTAU.out; rw [Int.natCast_add, Int.add_mul]; simp only [Int.one_mul, Int.cast_ofNat_Int]; omega)
              have i1 : IntKind.i64.wrap (τ + y) = τ + y := IntWalk.i64_in _ (by omega)
              have c0 := q2.cell k0
              have c1 := q2.cell k1
              obtain ⟨A9, c9, rfl⟩ := rows_shape HROW.out
              clear hprod
              by_cases t1 : s1 ≤ τ
              · by_cases t2 : τ < s2
                · have HG2 := Lib.hid (HG.out.trans (if_pos ((inS_iff (s1, s2) τ).2 ⟨t1, t2⟩)))
                  have hbw : w1.heap.size ≤ wr.heap.size := q2.size
                  go_upto_region 14 with (fail)
                  go_wp2_with (at_builtin; refine wpList_add_int wr rfl _ _ _ rfl w1.heap.size 3 i0 (.int .i64 0) Try.underlying36 HI.out HZ0.out HZ1.out HZ2.out rfl (.slice A9 z2 c9) z2 ou2 rfl HROW.out (by omega) τ rfl hbw ?_; intro v' w8 hown had; have HOWN := Lib.hid hown; have HAD := Lib.hid had; clear hown had; obtain ⟨A10, c10, rfl⟩ := rows_shape HOWN.out; have e6 : w8.cell? ⟨B, 1, none⟩ = some (.int .i64 y) := HAD.out.cell _ _ HNB.out e5; have HNB2 := Lib.hid (HAD.out.off _ (block_lt_of_cell e5) HNB.out); have HQ8 := Lib.hid (HAD.out.own _ q2 (Nat.le_refl _)); clear HAD HNB HROW q2 e5 c0 c1)
                  go_roundw
                  case rel => exact ⟨j + 1, ou2 ++ [τ], z2 + 1, τ + y, by go_num, rfl, HTA2.out, by omega, hlt2, HQ8.out, e6, HNB2.out, by rw [List.length_append, ← HZL.out]; rfl, by omega, HOWN.out, HG2.out.symm⟩
                  case measure => simp [intOf]; omega
                · have HG2 := Lib.hid (HG.out.trans (if_neg (mt (inS_iff (s1, s2) τ).1 fun h => t2 h.2)))
                  have d5 : decide (τ < s2) = false := decide_eq_false t2
                  go_wp2
                  go_roundw
                  case rel => exact ⟨j + 1, ou2, z2, τ + y, by go_num, rfl, HTA2.out, by omega, hlt2, q2, e5, HNB.out, HZL.out, by omega, HROW.out, HG2.out.symm⟩
                  case measure => simp [intOf]; omega
              · have HG2 := Lib.hid (HG.out.trans (if_neg (mt (inS_iff (s1, s2) τ).1 fun h => t1 h.1)))
                have d5 : decide (s1 ≤ τ) = false := decide_eq_false t1
                go_wp2
                go_roundw
                case rel => exact ⟨j + 1, ou2, z2, τ + y, by go_num, rfl, HTA2.out, by omega, hlt2, q2, e5, HNB.out, HZL.out, by omega, HROW.out, HG2.out.symm⟩
                case measure => simp [intOf]; omega
            · obtain rfl : j = X := by omega
              go_wp2
              go_roundw
              case rel => exact ⟨k + 1, ou2, z2, by go_num, by rw [HT1.out, HTAU.out], hlt, q2, HZL.out, by omega, HROW.out, by rw [HBT1.out]; exact HOU.out⟩
              case measure => simp [intOf]; omega
        · obtain rfl : k = n := by omega
          obtain rfl : ou = M := by rw [HOU.out, HFI.out]
          go_wp2
          go_ret2
          exact ⟨_, rfl, row_down (by rw [← HZL.out]; exact HROW.out) (Nat.le_of_lt hbx), g0.trans q0⟩
    · obtain rfl : 1 = f := by rw [← H.out.1, bE_no hc (by rw [hv]; exact h1)]
      obtain rfl : [] = M := by rw [← H.out.2, bV_none (by rw [H.out.1]; decide)]
      have hno : s1 < 0 ∨ ¬ s1 < 0 ∧ s2 < s1 ∨ ¬ s1 < 0 ∧ ¬ s2 < s1 ∧ v < s2 := by omega
      clear hc hv h1 H
      go_enter Try.func19, Try.ntmps19
      go_upto_region 1 with (fail)
      generalize w.alloc (.cells #[.int .i64 s1, .int .i64 s2] 30) = W0 at *
      go_upto_region 4 with (go_at_call 10; refine (plength_at l _ v 0 _ (Lib.hid (HP.out.own g0)) HC).mono ?_; rintro e w1 ⟨rfl, hg⟩; replace g0 := g0.trans hg; replace k0 := hg.cell k0; replace k1 := hg.cell k1)
      rcases hno with h | ⟨h, h1⟩ | ⟨h, h1, h2⟩
      all_goals
        go_wp2
        go_ret2
        exact ⟨_, rfl, World.ownsRow_nil _ _ _ _, g0⟩
  · obtain rfl : c = f := by rw [← H.out.1, bE_bad _ (by rw [hc]; exact h0), hc]
    obtain rfl : [] = M := by rw [← H.out.2, bV_none (by rw [H.out.1]; exact h0)]
    have d0 : (c != 0) = true := bne_iff_ne.2 h0
    clear hc hv H
    go_enter Try.func19, Try.ntmps19
    go_upto_region 1 with (fail)
    generalize w.alloc (.cells #[.int .i64 s1, .int .i64 s2] 30) = W0 at *
    go_wp2_with (go_at_call 10; refine (plength_at l _ v c _ (Lib.hid (HP.out.own g0)) HC).mono ?_; rintro e w1 ⟨rfl, hg⟩; replace g0 := g0.trans hg)
    go_ret2
    exact ⟨_, rfl, World.ownsRow_nil _ _ _ _, g0⟩
end Go.Proofs.Ytmmgidchgoligaa.MetW
