/-
  Walks of the specification of layer aim: Of, Mirror, Notate, Vector. Condition: none.
-/
import Derived.Test.YtighpjhipgobiaaDoorAimA
import Derived.Test.YtighpjhipgobiaaDoorAimPC
namespace Go.Proofs.YtighpjhipgobiaaDoor.AimW
open Go.ChangeShapes Go.WideShapes Go.ChangeAt Go.RowKit
open PairW AimP BlkW
set_option maxRecDepth 100000 in
set_option maxHeartbeats 4000000 in
theorem rvec_at (z e b f x y v c : Int) (w : World) (H : Hid (vcX z e b f = x ∧ vcY z e b f = y ∧ vcZ z e b = v ∧ chk 0 z e b = c)) :
    Calls Tryd.prog 80 #[.agg #[.int .i64 z, .int .i64 e, .int .i64 b], .int .i64 f] w fun r w' => r = .returned (.tuple #[.agg #[.int .i64 x, .int .i64 y, .int .i64 v], .int .i64 c]) ∧ Own w w' := by
  obtain ⟨h1, h2, h3, h4⟩ := H.out
  clear H
  have HC := Lib.hid h4
  by_cases k : c = 0
  · subst k
    obtain ⟨e1, e2, e3⟩ := vc_yes f h4
    have c1 := chk_yes h4
    have hz := c1.2.1
    obtain ⟨n, hn⟩ : ∃ n, f % 256 = n := ⟨_, rfl⟩
    have hnb : 0 ≤ n ∧ n ≤ 255 := by omega
    have HN := Lib.hid hn
    obtain ⟨p1, p2⟩ := v_prods z e f
    rw [hn] at p1 p2
    have r1 := h1
    have r2 := h2
    rw [e1] at r1
    rw [e2] at r2
    rw [e3] at h3
    unfold vX at r1
    unfold vY at r2
    rw [hn] at r1 r2
    obtain ⟨ce, hce⟩ : ∃ q, AngP.cosV e = q := ⟨_, rfl⟩
    obtain ⟨sa, hsa⟩ : ∃ q, AngP.sinV (z + n) = q := ⟨_, rfl⟩
    obtain ⟨ca, hca⟩ : ∃ q, AngP.cosV (z + n) = q := ⟨_, rfl⟩
    rw [hce, hsa] at r1 p1
    rw [hce, hca] at r2 p2
    have HCE := Lib.hid hce
    have HSA := Lib.hid hsa
    have HCA := Lib.hid hca
    have HSE := Lib.hid h3
    have i1 : IntKind.i64.wrap (ce * sa) = ce * sa := IntWalk.i64_in _ (by omega)
    have i2 : IntKind.i64.wrap (ce * ca) = ce * ca := IntWalk.i64_in _ (by omega)
    have HX := Lib.hid (show NumP.roundV (ce * sa) 16384 = x ∧ NumP.roundE (ce * sa) 16384 = 0 by have := near_round (s := ce * sa) (by omega); exact ⟨this.1.trans r1, this.2⟩)
    have HY := Lib.hid (show NumP.roundV (ce * ca) 16384 = y ∧ NumP.roundE (ce * ca) 16384 = 0 by have := near_round (s := ce * ca) (by omega); exact ⟨this.1.trans r2, this.2⟩)
    clear h1 h2 h3 h4 e1 e2 e3 c1 hn r1 r2 hce hsa hca
    go_enter Tryd.func80, Tryd.ntmps80
    go_upto_region 1 with (fail)
    obtain ⟨W0, B, C, hW, hC, hB, hb, hc, g0, hB0, hC0, hne⟩ := two_new w (#[.int .i64 z, .int .i64 e, .int .i64 b]) 28 (#[.int .i64 0, .int .i64 0, .int .i64 0]) 56
    rw [hW, hC, hB]
    have HB := Lib.hid hb
    have HP := Lib.hid hc
    have HNE := Lib.hid hne
    clear hW hC hB hb hc hne
    go_upto_region 4 with (first | ((with_reducible show wpList _ _ _ (⟨_, .load 28 (.tmp 2), _, _, _, none⟩ :: _) _ _); refine wpList_load_row rfl 28 (.tmp 2) rfl B rfl 28 _ (0, 0) _ HB.out.raw Tryd.underlying28 rfl infoA ?_) | (go_at_call 79; with_reducible refine (rcheck_at 0 z e b 0 _ HC).mono ?_; rintro r w1 ⟨rfl, hg⟩; replace g0 : Own w w1 := g0.trans hg; replace HB := Lib.hid (HB.out.own hg); replace HP := Lib.hid (HP.out.own hg); have k0 := HB.out.three.1; have k1 := HB.out.three.2.1; clear hg))
    go_quiet ((go_at_call 93; exact Calls.quiet_of_same ((AngW.rnorm_at f n _ HN).mono fun _ _ h => ⟨h.1, h.2.symm⟩)))
    clear k0 k1
    generalize hw2 : World.drewN w1 _ = w2
    have q2 : Own w1 w2 := hw2 ▸ (Own.refl w1).drewN _
    replace g0 := g0.trans q2
    replace HB := Lib.hid (HB.out.own q2)
    replace HP := Lib.hid (HP.out.own q2)
    clear hw2 q2
    have k0 := HB.out.three.1
    have k1 := HB.out.three.2.1
    go_wp2_with (first | (go_at_call 94; with_reducible refine (AngW.rcos_at e ce _ HCE).mono ?_; rintro r w3 ⟨rfl, hd⟩; have hg := own_gr hd; replace g0 : Own w w3 := g0.trans hg; replace HB := Lib.hid (HB.out.own hg); replace HP := Lib.hid (HP.out.own hg); replace k1 := HB.out.three.2.1; clear hd hg) | (go_at_call 94; with_reducible refine (AngW.rcos_at (z + n) ca _ HCA).mono ?_; rintro r w3 ⟨rfl, hd⟩; have hg := own_gr hd; replace g0 : Own w w3 := g0.trans hg; replace HB := Lib.hid (HB.out.own hg); replace HP := Lib.hid (HP.out.own hg); replace k1 := HB.out.three.2.1; clear hd hg) | (go_at_call 95; with_reducible refine (AngW.rsin_at (z + n) sa _ HSA).mono ?_; rintro r w3 ⟨rfl, hd⟩; have hg := own_gr hd; replace g0 : Own w w3 := g0.trans hg; replace HB := Lib.hid (HB.out.own hg); replace HP := Lib.hid (HP.out.own hg); replace k1 := HB.out.three.2.1; clear hd hg) | (go_at_call 95; with_reducible refine (AngW.rsin_at e v _ HSE).mono ?_; rintro r w3 ⟨rfl, hd⟩; have hg := own_gr hd; replace g0 : Own w w3 := g0.trans hg; replace HB := Lib.hid (HB.out.own hg); replace HP := Lib.hid (HP.out.own hg); replace k1 := HB.out.three.2.1; clear hd hg) | (go_at_call 24; with_reducible refine (AngW.rround_at (ce * sa) 16384 x 0 _ HX).mono ?_; rintro r w3 ⟨rfl, hd⟩; have hg := own_dr hd; replace g0 : Own w w3 := g0.trans hg; replace HB := Lib.hid (HB.out.own hg); replace HP := Lib.hid (HP.out.own hg); replace k1 := HB.out.three.2.1; clear hd hg) | (go_at_call 24; with_reducible refine (AngW.rround_at (ce * ca) 16384 y 0 _ HY).mono ?_; rintro r w3 ⟨rfl, hd⟩; have hg := own_dr hd; replace g0 : Own w w3 := g0.trans hg; replace HB := Lib.hid (HB.out.own hg); replace HP := Lib.hid (HP.out.own hg); replace k1 := HB.out.three.2.1; clear hd hg) | ((with_reducible show wpList _ _ _ (⟨_, .store 56 (.tmp 4) (.tmp 48), _, _, _, none⟩ :: _) _ _); refine wpList_store_row rfl 56 (.tmp 4) (.tmp 48) rfl C #[.int .i64 x, .int .i64 y, .int .i64 v] rfl rfl 56 _ HP.out.raw infoV rfl (by simp [Value.oneCell']) ?_))
    have hp := HP.out.row #[.int .i64 x, .int .i64 y, .int .i64 v]
    exact bodyPost_ret (blk_results rfl rfl rfl hp Tryd.underlying56 rfl infoV) rfl ⟨rfl, own_setRow g0 hC0 _⟩
  · have kc : (c != 0) = true := bne_iff_ne.2 k
    obtain ⟨e1, e2, e3⟩ := vc_nul f (by rw [h4]; exact k)
    obtain rfl := e1.symm.trans h1
    obtain rfl := e2.symm.trans h2
    obtain rfl := e3.symm.trans h3
    clear h1 h2 h3 h4 e1 e2 e3 k
    go_enter Tryd.func80, Tryd.ntmps80
    go_upto_region 1 with (fail)
    obtain ⟨W0, B, C, hW, hC, hB, hb, hc, g0, hB0, hC0, hne⟩ := two_new w (#[.int .i64 z, .int .i64 e, .int .i64 b]) 28 (#[.int .i64 0, .int .i64 0, .int .i64 0]) 56
    rw [hW, hC, hB]
    have HB := Lib.hid hb
    have HP := Lib.hid hc
    have HNE := Lib.hid hne
    clear hW hC hB hb hc hne
    go_wp2_with (first | ((with_reducible show wpList _ _ _ (⟨_, .load 28 (.tmp 2), _, _, _, none⟩ :: _) _ _); refine wpList_load_row rfl 28 (.tmp 2) rfl B rfl 28 _ (0, 0) _ HB.out.raw Tryd.underlying28 rfl infoA ?_) | (go_at_call 79; with_reducible refine (rcheck_at 0 z e b c _ HC).mono ?_; rintro r w1 ⟨rfl, hg⟩; replace g0 : Own w w1 := g0.trans hg; replace HB := Lib.hid (HB.out.own hg); replace HP := Lib.hid (HP.out.own hg); have k0 := HB.out.three.1; have k1 := HB.out.three.2.1; clear hg) | ((with_reducible show wpList _ _ _ (⟨_, .store 56 (.tmp 4) (.tmp 16), _, _, _, none⟩ :: _) _ _); refine wpList_store_row rfl 56 (.tmp 4) (.tmp 16) rfl C #[.int .i64 0, .int .i64 0, .int .i64 0] rfl rfl 56 _ HP.out.raw infoV rfl (by simp [Value.oneCell']) ?_))
    have hp := HP.out.row #[.int .i64 0, .int .i64 0, .int .i64 0]
    exact bodyPost_ret (blk_results rfl rfl rfl hp Tryd.underlying56 rfl infoV) rfl ⟨rfl, own_setRow g0 hC0 _⟩
end Go.Proofs.YtighpjhipgobiaaDoor.AimW
