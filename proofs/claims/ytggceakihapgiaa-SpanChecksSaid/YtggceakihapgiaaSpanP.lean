/-
  Walks of the program's Total and Free: what a call returns for every input. Condition: none.
-/
import Derived.Test.YtggceakihapgiaaSpanPE
namespace Go.Proofs.Ytggceakihapgiaa.SpaW
open Go.ChangeShapes Go.WideShapes Go.ChangeAt Go.RowKit
open PairW SpaP
set_option maxRecDepth 100000 in
set_option maxHeartbeats 2000000 in
theorem ptotal_at (a : List Sp) (t f : Int) (sa : Value) (w : World) (H : Hid (sumL (setV a [] 0) = t ∧ setE a [] 0 = f)) (HA : Hid (Pts w sa a)) :
    Calls Try.prog 19 #[sa] w fun e w' => e = .returned (.tuple #[.int .i64 t, .int .i64 f]) ∧ Own w w' := by
  have HK := Lib.hid (setV_ok a [] 0)
  obtain ⟨v, hv⟩ : ∃ v, setV a [] 0 = v := ⟨_, rfl⟩
  rw [hv] at HK
  have HN := Lib.hid (And.intro H.out.2 hv)
  have HT := Lib.hid (show sumL (v.take v.length) = t by rw [List.take_length, ← hv]; exact H.out.1)
  have HS := Lib.hid (fun k (h : k < v.length) => sumL_take h)
  have HB := Lib.hid (fun k => sumL_bd (l := v.take k) (fun s hs => HK.out.1 s (List.mem_of_mem_take hs)))
  have HO := Lib.hid (fun k (h : k < v.length) => (okS_iff _).1 (HK.out.1 _ (at_mem h)))
  have hn := HK.out.2
  clear hv H
  obtain ⟨n, hnn⟩ : ∃ n, v.length = n := ⟨_, rfl⟩
  rw [hnn] at HT HS HO hn
  have HL := Lib.hid hnn
  clear hnn
  go_enter Try.func19, Try.ntmps19
  go_upto_region 2 with (go_at_call 17; refine (pnorm_at a v f _ _ HN HA).mono ?_; rintro e w1 ⟨sv, rfl, hf, g0⟩)
  obtain ⟨A, cap, hsv, hc1, hc2, hop⟩ := hf.pts.open
  unfold maxLen at hc2
  rw [HL.out] at hc1 hop hsv
  subst hsv
  have HC := Lib.hid hop
  clear hop hf HN HA
  go_wp2
  go_loopw [6, 16] (fun s i wr => ∃ k : Nat, i = .int .i64 k ∧ s = .int .i64 (sumL (v.take k)) ∧ k ≤ n ∧ Own w1 wr) (fun _ i _ => n - (intOf i).toNat)
  case atStart => exact ⟨0, rfl, rfl, Nat.zero_le _, Own.refl w1⟩
  case round =>
    obtain ⟨k, rfl, rfl, hk, q0⟩ := hrel
    by_cases hlt : k < n
    · obtain ⟨b, off, rfl, hcell⟩ := HC.out (by omega)
      have e0 := q0.cell (hcell k hlt).1
      have e1 := q0.cell (hcell k hlt).2
      clear hcell
      have hs := HS.out k hlt
      have ho := HO.out k hlt
      have hb := HB.out k
      have hlen : (v.take k).length ≤ 128 := by rw [List.length_take]; omega
      obtain ⟨⟨x, y⟩, hp⟩ : ∃ p, at' v k = p := ⟨_, rfl⟩
      obtain ⟨sm, hsm⟩ : ∃ s, sumL (v.take k) = s := ⟨_, rfl⟩
      rw [hp] at e0 e1 hs ho
      rw [hsm] at hs hb
      rw [hsm]
      simp only at e0 e1 hs ho
      have HSS := Lib.hid (show sumL (v.take (k + 1)) = sm + (y - x) by omega)
      clear hp hsm hs
      have i1 : IntKind.i64.wrap (y - x) = y - x := IntWalk.i64_in _ (by omega)
      have i2 : IntKind.i64.wrap (sm + (y - x)) = sm + (y - x) := IntWalk.i64_in _ (by omega)
      clear hb ho hlen
      obtain ⟨z, z0, _, _⟩ := pt_new wr x y 36
      have g1 : Own w1 (wr.alloc (.cells #[.int .i64 x, .int .i64 y] 36)) := q0.alloc _
      go_upto_region 6 with (fail)
      generalize wr.alloc (.cells #[.int .i64 x, .int .i64 y] 36) = W0 at *
      go_wp2
      go_roundw
      case rel => exact ⟨k + 1, by go_num, by rw [HSS.out], hlt, g1⟩
      case measure => simp [intOf]; omega
    · obtain rfl : k = n := by omega
      have ht := HT.out
      rw [ht]
      go_wp2
      go_ret2
      exact ⟨rfl, g0.trans q0⟩
set_option maxRecDepth 100000 in
set_option maxHeartbeats 4000000 in
theorem pfree_at (l : List Sp) (n most : Int) (v : Sp) (f : Int) (sl : Value) (w : World) (H : Hid (freeE l n most = f ∧ freeV l n most = v)) (HA : Hid (Pts w sl l)) :
    Calls Try.prog 29 #[sl, .int .i64 n, .int .i64 most] w fun e w' => e = .returned (.tuple #[.agg #[.int .i64 v.1, .int .i64 v.2], .int .i64 f]) ∧ Own w w' := by
  obtain ⟨rfl, rfl⟩ := H.out
  clear H
  obtain ⟨e, he⟩ : ∃ e, chkE l = e := ⟨_, rfl⟩
  obtain ⟨z, z0, z1, z2⟩ := pt_new w 0 0 36
  have g0 : Own w (w.alloc (.cells #[.int .i64 0, .int .i64 0] 36)) := (Own.refl w).alloc _
  have hzs : w.heap.size < (w.alloc (.cells #[.int .i64 0, .int .i64 0] 36)).heap.size := by first | go_simp | simp
  by_cases h0 : e = 0
  · subst h0
    have HNE := Lib.hid (norm_e he)
    cases ht : askOk n most with
    | false =>
      have HV := Lib.hid (free_b he ht)
      have hno : n < 1 ∨ ¬ n < 1 ∧ 65536 < n ∨ ¬ n < 1 ∧ ¬ 65536 < n ∧ most < 0 ∨ ¬ n < 1 ∧ ¬ 65536 < n ∧ ¬ most < 0 ∧ 65536 < most := by
        have := mt (askOk_iff n most).2 (by rw [ht]; simp)
        omega
      clear he ht
      go_enter Try.func29, Try.ntmps29
      go_upto_region 1 with (fail)
      generalize w.alloc (.cells #[.int .i64 0, .int .i64 0] 36) = W0 at *
      go_upto_region 4 with (go_at_call 17; refine (pnorm_at l _ _ _ _ HNE (Lib.hid (HA.out.own g0))).mono ?_; rintro e w1 ⟨sv, rfl, hf, hg⟩; replace z1 : w1.frozen? _ = _ := frozen_kept hg z z1; replace z2 : w1.frozen? _ = _ := frozen_kept hg z0 z2; replace z := hg.cell z; replace z0 := hg.cell z0; replace g0 := g0.trans hg; clear hg)
      clear hf
      rcases hno with h | ⟨h, h1⟩ | ⟨h, h1, h2⟩ | ⟨h, h1, h2, h3⟩
      all_goals
        go_wp2
        exact bodyPost_ret (v := .tuple #[.agg #[.int .i64 0, .int .i64 0], .int .i64 1]) (by simp [results, Try.results29, go_sem, z, z0]) rfl ⟨free_ret HV.out, (g0.setCell (by simp) _).setCell (by simp) _⟩
    | true =>
      obtain ⟨hao1, hao2⟩ := (askOk_iff n most).1 ht
      obtain ⟨R, hR⟩ : ∃ R, setsL l [] 0 = R := ⟨_, rfl⟩
      rw [hR] at HNE
      have HSO := Lib.hid (show ∀ s ∈ R, okS s = true ∧ s.1 < s.2 from by rw [← hR]; exact sets_ok ((chkE_zero l).1 he).2 ok_nil)
      have HN0 := Lib.hid (fun X (hX : freeW n 0 R = X) => free_late (X := X) he ht (by rw [hR]; exact hX))
      have HN1 := Lib.hid (fun X (hX : freeW n 0 R = X) => free_fits (X := X) he ht (by rw [hR]; exact hX))
      clear he ht hR
      obtain ⟨fe, hfe⟩ : ∃ e, freeE l n most = e := ⟨_, rfl⟩
      obtain ⟨fv, hfv⟩ : ∃ e, freeV l n most = e := ⟨_, rfl⟩
      rw [hfe, hfv] at HN0 HN1
      rw [hfe, hfv]
      clear hfe hfv
      have d1 : ¬ n < 1 := by omega
      have d2 : ¬ 65536 < n := by omega
      have d3 : ¬ most < 0 := by omega
      have d4 : ¬ 65536 < most := by omega
      obtain ⟨X, hX⟩ : ∃ X, freeW n 0 R = X := ⟨_, rfl⟩
      replace HN0 := Lib.hid (HN0.out X hX)
      replace HN1 := Lib.hid (HN1.out X hX)
      have HX := Lib.hid hX
      clear hX
      go_enter Try.func29, Try.ntmps29
      go_upto_region 1 with (fail)
      generalize w.alloc (.cells #[.int .i64 0, .int .i64 0] 36) = W0 at *
      go_upto_region 6 with (go_at_call 17; refine (pnorm_at l _ _ _ _ HNE (Lib.hid (HA.out.own g0))).mono ?_; rintro e w1 ⟨sr, rfl, hrow, hg⟩; replace z1 : w1.frozen? _ = _ := frozen_kept hg z z1; replace z2 : w1.frozen? _ = _ := frozen_kept hg z0 z2; replace z := hg.cell z; replace z0 := hg.cell z0; replace g0 := g0.trans hg; clear hg)
      have HG : Hid (0 < R.length → ∃ g cap, sr = Value.slice (some ⟨g, 0, none⟩) R.length cap ∧ w.heap.size < g) := Lib.hid (fun h0 => by obtain ⟨g, cap, h1, h2, _⟩ := row_form hrow h0; exact ⟨g, cap, h1, by omega⟩)
      obtain ⟨A, cap, hsv, hc1, hc2, hop⟩ := hrow.pts.open
      unfold maxLen at hc2
      have HFS := Lib.hid (fun k c (h : k < R.length) => freeW_step (n := n) (c := c) h)
      have HOA := Lib.hid (fun k (h : k < R.length) => HSO.out _ (at_mem h))
      have HXD := Lib.hid (show freeW n 0 (R.drop 0) = X from HX.out)
      have HXE := Lib.hid (List.drop_length (l := R))
      obtain ⟨m, hm⟩ : ∃ m, R.length = m := ⟨_, rfl⟩
      rw [hm] at hc1 hop HFS HOA hsv HG HXE
      subst hsv
      have HC := Lib.hid hop
      have hzl : w.heap.size < w1.heap.size := block_lt_of_cell z
      clear hop hrow hm HSO HA HX HNE d1 d2 d3 d4
      go_wp2
      go_loopw [41] (fun i wr => ∃ (k : Nat) (c : Int), i = .int .i64 k ∧ k ≤ m ∧ Own w1 wr ∧ wr.cell? ⟨w1.heap.size, 0, none⟩ = some (.int .i64 c) ∧ wr.cell? ⟨w1.heap.size, 1, none⟩ = some (.int .i64 (c + n)) ∧
        wr.frozen? ⟨w1.heap.size, 0, none⟩ = false ∧ wr.frozen? ⟨w1.heap.size, 1, none⟩ = false ∧ (0 ≤ c ∧ c ≤ 65536) ∧ freeW n c (R.drop k) = X) (fun i _ => m - (intOf i).toNat)
      case atStart =>
        refine ⟨0, 0, rfl, Nat.zero_le _, by repeat (first | exact Own.refl _ | apply Own.alloc | refine Own.setCell ?_ (by simp; try omega) _), by go_simp, by go_simp, by go_simp, by go_simp, by omega, HXD.out⟩
      case round =>
        obtain ⟨k, c, rfl, hk, q0, k4, k5, z3, z4, hcb, hfw⟩ := hrel
        have hwl : w1.heap.size < wr.heap.size := block_lt_of_cell k4
        by_cases hlt : k < m
        · obtain ⟨b, off, rfl, hcell⟩ := HC.out (by omega)
          have e0 := q0.cell (hcell k hlt).1
          have e1 := q0.cell (hcell k hlt).2
          clear hcell
          have hst := HFS.out k c hlt
          obtain ⟨ho1, ho2⟩ := HOA.out k hlt
          replace ho1 := (okS_iff _).1 ho1
          obtain ⟨⟨x, y⟩, hp⟩ : ∃ p, at' R k = p := ⟨_, rfl⟩
          rw [hp] at e0 e1 ho1 ho2 hst
          simp only at e0 e1 ho1 ho2 hst
          clear hp
          rw [hfw] at hst
          have HST := Lib.hid hst
          clear hst hfw
          have i2 : IntKind.i64.wrap (y + n) = y + n := IntWalk.i64_in _ (by omega)
          obtain ⟨y0, y1, _, _⟩ := pt_new wr x y 36
          have g1 : Own wr (wr.alloc (.cells #[.int .i64 x, .int .i64 y] 36)) := (Own.refl wr).alloc _
          by_cases cc : c + n ≤ x
          · have hXc : X = c := HST.out.trans (if_pos cc)
            subst hXc
            go_upto_region 10 with (fail)
            generalize wr.alloc (.cells #[.int .i64 x, .int .i64 y] 36) = W1 at *
            have q2 : Own w1 W1 := q0.trans g1
            replace k4 := g1.cell k4
            replace k5 := g1.cell k5
            replace z1 : W1.frozen? _ = _ := frozen_kept q2 z z1
            replace z2 : W1.frozen? _ = _ := frozen_kept q2 z0 z2
            replace z := q2.cell z
            replace z0 := q2.cell z0
            replace g0 := g0.trans q2
            by_cases hm : most < X + n
            · have HV := Lib.hid (HN0.out hm)
              go_wp2
              exact bodyPost_ret (v := .tuple #[.agg #[.int .i64 0, .int .i64 0], .int .i64 6]) (by simp [results, Try.results29, go_sem, z, z0]) rfl ⟨free_ret HV.out, (g0.setCell (by simp) _).setCell (by simp) _⟩
            · have HV := Lib.hid (HN1.out (by omega))
              go_wp2
              exact bodyPost_ret (v := .tuple #[.agg #[.int .i64 X, .int .i64 (X + n)], .int .i64 0]) (by simp [results, Try.results29, go_sem, z, z0]) rfl ⟨free_ret HV.out, (g0.setCell (by simp) _).setCell (by simp) _⟩
          · have HS2 := Lib.hid (HST.out.trans (if_neg cc)).symm
            go_upto_region 10 with (fail)
            generalize wr.alloc (.cells #[.int .i64 x, .int .i64 y] 36) = W1 at *
            have q2 : Own w1 W1 := q0.trans g1
            replace z3 : W1.frozen? _ = _ := frozen_kept g1 k4 z3
            replace z4 : W1.frozen? _ = _ := frozen_kept g1 k5 z4
            replace k4 := g1.cell k4
            replace k5 := g1.cell k5
            clear e0 e1 z z0 z1 z2 g0
            go_wp2
            go_roundw
            case rel =>
              refine ⟨k + 1, y, by go_num, hlt, by repeat (first | exact q2 | apply Own.drewN | refine Own.setCell ?_ (by simp; try omega) _), by go_simp, by go_simp, by go_simp, by go_simp, by omega, HS2.out⟩
            case measure => simp [intOf]; omega
        · obtain rfl : k = m := by omega
          rw [HXE.out] at hfw
          have hXc : X = c := hfw.symm
          subst hXc
          have q2 := q0
          replace z1 : wr.frozen? _ = _ := frozen_kept q2 z z1
          replace z2 : wr.frozen? _ = _ := frozen_kept q2 z0 z2
          replace z := q2.cell z
          replace z0 := q2.cell z0
          replace g0 := g0.trans q2
          by_cases hm : most < X + n
          · have HV := Lib.hid (HN0.out hm)
            go_wp2
            exact bodyPost_ret (v := .tuple #[.agg #[.int .i64 0, .int .i64 0], .int .i64 6]) (by simp [results, Try.results29, go_sem, z, z0]) rfl ⟨free_ret HV.out, (g0.setCell (by simp) _).setCell (by simp) _⟩
          · have HV := Lib.hid (HN1.out (by omega))
            go_wp2
            exact bodyPost_ret (v := .tuple #[.agg #[.int .i64 X, .int .i64 (X + n)], .int .i64 0]) (by simp [results, Try.results29, go_sem, z, z0]) rfl ⟨free_ret HV.out, (g0.setCell (by simp) _).setCell (by simp) _⟩
  · have HV := Lib.hid (free_a (n := n) (most := most) he h0)
    have HNE := Lib.hid (norm_bad he h0)
    have hne : (e != 0) = true := bne_iff_ne.2 h0
    clear he h0
    go_enter Try.func29, Try.ntmps29
    go_upto_region 1 with (fail)
    generalize w.alloc (.cells #[.int .i64 0, .int .i64 0] 36) = W0 at *
    go_wp2_with (go_at_call 17; refine (pnorm_at l _ _ _ _ HNE (Lib.hid (HA.out.own g0))).mono ?_; rintro e w1 ⟨sv, rfl, hf, hg⟩; replace z1 : w1.frozen? _ = _ := frozen_kept hg z z1; replace z2 : w1.frozen? _ = _ := frozen_kept hg z0 z2; replace z := hg.cell z; replace z0 := hg.cell z0; replace g0 := g0.trans hg; clear hg)
    exact bodyPost_ret (v := .tuple #[.agg #[.int .i64 0, .int .i64 0], .int .i64 e]) (by simp [results, Try.results29, go_sem, z, z0]) rfl ⟨free_ret HV.out, (g0.setCell (by simp) _).setCell (by simp) _⟩
end Go.Proofs.Ytggceakihapgiaa.SpaW
