/-
  Walks of the program of package limits: narrowed. Condition: none.
-/
import Derived.Test.YtmjokgddhainlaaLimitsPD
namespace Go.Proofs.Ytmjokgddhainlaa.LimW
open Go.ChangeShapes Go.WideShapes Go.ChangeAt Go.RowKit
open PairW AimP AimW BlkW PrtW PstP PstW RegD LimP
set_option maxRecDepth 100000 in
set_option maxHeartbeats 8000000 in
theorem lnr_at (x y r : Vl) (e : Int) (w : World) (hx : okX x) (hy : okX y) (H : Hid (cz 6 (nrV x y) = cz 6 r ∧ nrE x y = e)) :
    Calls Try.prog 40 #[.agg (cz 6 x), .agg (cz 6 y)] w fun o w' => o = .returned (.tuple #[.agg (cz 6 r), .int .i64 e]) ∧ Own w w' := by
  by_cases hq : eqX x y = true
  · have hq6 := (eqX_iff x y).1 hq
    obtain ⟨e1, e2⟩ := nr_like hq6
    obtain ⟨e3, e4⟩ := nr_self hx
    obtain ⟨h1, h2⟩ := H.out
    rw [e2, cz_congr e4] at h1
    rw [e1, e3] at h2
    subst h2
    rw [← h1]
    clear hq6 e1 e2 e3 e4 h1 H hx hy
    go_enter Try.func40, Try.ntmps40
    go_upto_region 1 with (fail)
    obtain ⟨W0, B, C, R, hW, hR, hC, hB, hb, hc, hr, g0, -, -, hR0, hneBC, hneBR, hneCR⟩ := three_new w (cz 6 x) 23 (cz 6 y) 23 (cz 6 nul) 23
    rw [← cz6_nul] at hW
    rw [hW, hR, hC, hB]
    have HB := Lib.hid hb
    have HC := Lib.hid hc
    have HR := Lib.hid hr
    clear hW hR hC hB hb hc hr
    go_wp2_with (first | ((with_reducible show wpList _ _ _ (⟨_, .load 23 (.tmp 2), _, _, _, none⟩ :: _) _ _); refine wpList_load_row rfl 23 (.tmp 2) rfl B rfl 23 _ (0, 0) _ HB.out.raw Try.underlying23 rfl infoL ?_) | ((with_reducible show wpList _ _ _ (⟨_, .load 23 (.tmp 3), _, _, _, none⟩ :: _) _ _); refine wpList_load_row rfl 23 (.tmp 3) rfl C rfl 23 _ (0, 0) _ HC.out.raw Try.underlying23 rfl infoL ?_) | ((with_reducible show wpList _ _ _ (⟨_, .store 23 (.tmp 4) (.tmp 13), _, _, _, none⟩ :: _) _ _); refine wpList_store_row rfl 23 (.tmp 4) (.tmp 13) rfl R (cz 6 (x)) rfl rfl 23 _ HR.out.raw infoL rfl (cz_one _ _) ?_))
    have hp := HR.out.row (cz 6 x)
    exact bodyPost_ret (blk_results rfl rfl rfl hp Try.underlying23 rfl infoL) rfl ⟨rfl, own_setRow g0 hR0 _⟩
  · have kq : eqX x y = false := Bool.eq_false_iff.2 hq
    obtain ⟨fr, hfr⟩ : ∃ v, crF x y = v := ⟨_, rfl⟩
    obtain ⟨wi, hwi⟩ : ∃ v, crW x y = v := ⟨_, rfl⟩
    obtain ⟨ok, hok⟩ : ∃ v, decide (f0 x y ≤ (x 3).toNat) = v := ⟨_, rfl⟩
    have HCO := Lib.hid (show crF x y = fr ∧ crW x y = wi ∧ decide (f0 x y ≤ (x 3).toNat) = ok from ⟨hfr, hwi, hok⟩)
    have HBL := Lib.hid (bld_li (max (x 0) (y 0)) (min (x 1) (y 1)) fr wi (min (x 4) (y 4)) (min (x 5) (y 5)))
    clear hq
    have hm0 := fun (w : World) (ts : Array TypeId) (t : TypeId) => max2_at (P := Try.prog) (x 0) (y 0) w ts t
    have hm1 := fun (w : World) (ts : Array TypeId) (t : TypeId) => min2_at (P := Try.prog) (x 1) (y 1) w ts t
    have hm4 := fun (w : World) (ts : Array TypeId) (t : TypeId) => min2_at (P := Try.prog) (x 4) (y 4) w ts t
    have hm5 := fun (w : World) (ts : Array TypeId) (t : TypeId) => min2_at (P := Try.prog) (x 5) (y 5) w ts t
    go_enter Try.func40, Try.ntmps40
    go_upto_region 1 with (fail)
    obtain ⟨W0, B, C, R, hW, hR, hC, hB, hb, hc, hr, g0, -, -, hR0, hneBC, hneBR, hneCR⟩ := three_new w (cz 6 x) 23 (cz 6 y) 23 (cz 6 nul) 23
    rw [← cz6_nul] at hW
    rw [hW, hR, hC, hB]
    have HB := Lib.hid hb
    have HC := Lib.hid hc
    have HR := Lib.hid hr
    clear hW hR hC hB hb hc hr
    go_upto_region 4 with (first | ((with_reducible show wpList _ _ _ (⟨_, .load 23 (.tmp 2), _, _, _, none⟩ :: _) _ _); refine wpList_load_row rfl 23 (.tmp 2) rfl B rfl 23 _ (0, 0) _ HB.out.raw Try.underlying23 rfl infoL ?_) | ((with_reducible show wpList _ _ _ (⟨_, .load 23 (.tmp 3), _, _, _, none⟩ :: _) _ _); refine wpList_load_row rfl 23 (.tmp 3) rfl C rfl 23 _ (0, 0) _ HC.out.raw Try.underlying23 rfl infoL ?_) | (go_at_call 61; with_reducible refine (lcom_at x y fr wi ok _ hx hy HCO).mono ?_; rintro r w1 ⟨rfl, hg⟩; replace g0 := g0.trans hg; replace HB := Lib.hid (HB.out.own hg); replace HC := Lib.hid (HC.out.own hg); replace HR := Lib.hid (HR.out.own hg); clear hg))
    have b0 := blk_num HB.out (i := 0) (by omega)
    have c0 := blk_num HC.out (i := 0) (by omega)
    have b1 := blk_num HB.out (i := 1) (by omega)
    have c1 := blk_num HC.out (i := 1) (by omega)
    have b4 := blk_num HB.out (i := 4) (by omega)
    have c4 := blk_num HC.out (i := 4) (by omega)
    have b5 := blk_num HB.out (i := 5) (by omega)
    have c5 := blk_num HC.out (i := 5) (by omega)
    go_upto_region 5 with (first | ((with_reducible show wpList _ _ _ (⟨_, .build 23 _, _, _, _, _⟩ :: _) _ _); refine wpList_build_as rfl 23 [(0, .tmp 25), (1, .tmp 30), (2, .tmp 31), (3, .tmp 32), (4, .tmp 37), (5, .tmp 42)] rfl [(0, .int .i64 (max (x 0) (y 0))), (1, .int .i64 (min (x 1) (y 1))), (2, .int .i64 fr), (3, .int .i64 wi), (4, .int .i64 (min (x 4) (y 4))), (5, .int .i64 (min (x 5) (y 5)))] rfl (cz 6 (l6 (max (x 0) (y 0)) (min (x 1) (y 1)) (fr) (wi) (min (x 4) (y 4)) (min (x 5) (y 5)))) (HBL.out) ?_) | ((with_reducible show wpList _ _ _ (⟨_, .store 23 (.tmp 9) (.tmp 43), _, _, _, none⟩ :: _) _ _); refine wpList_store_row rfl 23 (.tmp 9) (.tmp 43) rfl _ (cz 6 (l6 (max (x 0) (y 0)) (min (x 1) (y 1)) (fr) (wi) (min (x 4) (y 4)) (min (x 5) (y 5)))) rfl rfl 23 _ (heap_new _ _) infoL rfl (cz_one _ _) ?_; rw [World.setRow_alloc_new]))
    clear hm0 hm1 hm4 hm5 b0 b1 b4 b5 c0 c1 c4 c5 kq HBL
    obtain ⟨w2, N, hW, hBq, hb, hg, Ng⟩ := blk_new w1 (cz 6 (l6 (max (x 0) (y 0)) (min (x 1) (y 1)) (fr) (wi) (min (x 4) (y 4)) (min (x 5) (y 5)))) 23
    rw [hW, hBq]
    have HN := Lib.hid hb
    replace g0 := g0.trans hg
    replace HR := Lib.hid (HR.out.own hg)
    clear hW hBq hb hg
    have n0 : w2.cell? ⟨N, 0, none⟩ = some (.int .i64 (max (x 0) (y 0))) := blk_num HN.out (i := 0) (by omega)
    have n1 : w2.cell? ⟨N, 1, none⟩ = some (.int .i64 (min (x 1) (y 1))) := blk_num HN.out (i := 1) (by omega)
    clear HB HC Ng
    by_cases hl : max (x 0) (y 0) ≤ min (x 1) (y 1)
    · have d1 : decide (min (x 1) (y 1) < max (x 0) (y 0)) = false := decide_eq_false (by omega)
      cases ok with
      | true =>
        have hf := of_decide_eq_true hok
        have ee : nrE x y = 0 := if_pos ⟨hl, hf⟩
        have es : nrV x y = nrS x y := if_pos ee
        have e5 : nrS x y = l6 (max (x 0) (y 0)) (min (x 1) (y 1)) (fr) (wi) (min (x 4) (y 4)) (min (x 5) (y 5)) := by
          have q1 : coF x y = fr := by rw [← hfr]; exact (if_pos hf).symm
          have q2 : coW x y = wi := by rw [← hwi]; exact (if_pos hf).symm
          rw [← q1, ← q2]
          rfl
        obtain ⟨h1, h2⟩ := H.out
        rw [es, e5] at h1
        rw [ee] at h2
        subst h2
        have H1 := Lib.hid h1
        clear h1 H hf ee es e5 hfr hwi hok HCO hx hy hl
        generalize l6 (max (x 0) (y 0)) (min (x 1) (y 1)) (fr) (wi) (min (x 4) (y 4)) (min (x 5) (y 5)) = v at *
        go_wp2_with (first | ((with_reducible show wpList _ _ _ (⟨_, .load 23 (.tmp 9), _, _, _, none⟩ :: _) _ _); refine wpList_load_row rfl 23 (.tmp 9) rfl N rfl 23 _ (0, 0) _ HN.out.raw Try.underlying23 rfl infoL ?_) | ((with_reducible show wpList _ _ _ (⟨_, .store 23 (.tmp 4) (.tmp 54), _, _, _, none⟩ :: _) _ _); refine wpList_store_row rfl 23 (.tmp 4) (.tmp 54) rfl R (cz 6 (v)) rfl rfl 23 _ HR.out.raw infoL rfl (cz_one _ _) ?_))
        have hp := HR.out.row (cz 6 v)
        exact bodyPost_ret (blk_results rfl rfl rfl hp Try.underlying23 rfl infoL) rfl ⟨(by rw [H1.out]; rfl), own_setRow g0 hR0 _⟩
      | false =>
        have hf := of_decide_eq_false hok
        have ee : nrE x y = 25 := if_neg (fun h => hf h.2)
        have es : nrV x y = nul := if_neg (by rw [ee]; decide)
        obtain ⟨h1, h2⟩ := H.out
        rw [es] at h1
        rw [ee] at h2
        subst h2
        have H1 := Lib.hid h1
        clear h1 H hf ee es hfr hwi hok HCO hx hy hl HN
        go_wp2_with ((with_reducible show wpList _ _ _ (⟨_, .store 23 (.tmp 4) (.tmp 53), _, _, _, none⟩ :: _) _ _); refine wpList_store_row rfl 23 (.tmp 4) (.tmp 53) rfl R (cz 6 (nul)) rfl rfl 23 _ HR.out.raw infoL rfl (cz_one _ _) ?_)
        have hp := HR.out.row (cz 6 nul)
        exact bodyPost_ret (blk_results rfl rfl rfl hp Try.underlying23 rfl infoL) rfl ⟨(by rw [H1.out]; rfl), own_setRow g0 hR0 _⟩
    · have d1 : decide (min (x 1) (y 1) < max (x 0) (y 0)) = true := decide_eq_true (by omega)
      have ee : nrE x y = 25 := if_neg (fun h => hl h.1)
      have es : nrV x y = nul := if_neg (by rw [ee]; decide)
      obtain ⟨h1, h2⟩ := H.out
      rw [es] at h1
      rw [ee] at h2
      subst h2
      have H1 := Lib.hid h1
      clear h1 H ee es hfr hwi hok HCO hx hy hl HN
      go_wp2_with ((with_reducible show wpList _ _ _ (⟨_, .store 23 (.tmp 4) (.tmp 53), _, _, _, none⟩ :: _) _ _); refine wpList_store_row rfl 23 (.tmp 4) (.tmp 53) rfl R (cz 6 (nul)) rfl rfl 23 _ HR.out.raw infoL rfl (cz_one _ _) ?_)
      have hp := HR.out.row (cz 6 nul)
      exact bodyPost_ret (blk_results rfl rfl rfl hp Try.underlying23 rfl infoL) rfl ⟨(by rw [H1.out]; rfl), own_setRow g0 hR0 _⟩
end Go.Proofs.Ytmjokgddhainlaa.LimW
