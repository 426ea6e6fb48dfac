/-
  Walks of the program of package aim: vertical, Of, Mirror. Condition: none.
-/
import Derived.Test.YtneobaininejaaaDoorAimPA
import Derived.Test.YtneobaininejaaaDoorDirPA
import Derived.Test.YtneobaininejaaaDoorAngBase
import Derived.Test.YtneobaininejaaaDoorBlk
namespace Go.Proofs.YtneobaininejaaaDoor.AimW
open Go.ChangeShapes Go.WideShapes Go.ChangeAt Go.RowKit
open PairW AimP BlkW
theorem infoA : (Tryd.prog.info? 30).map (·.size) = some 3 := by kernel_rfl
theorem infoT : (Tryd.prog.info? 25).map (·.size) = some 3 := by kernel_rfl
theorem two_blk (w : World) (c1 : Array Value) (T1 : TypeId) (c2 : Array Value) (T2 : TypeId) : Blk ((w.alloc (.cells c1 T1)).alloc (.cells c2 T2)) (w.heap.size + 1) c2 T2 := by
  have := Blk.new (w.alloc (.cells c1 T1)) c2 T2
  rw [size_alloc] at this
  exact this
def vtE (l v : Int) : Int := if v = 0 ∨ v = -1 ∧ (l = 2 ∨ l = 5) then 18 else 0
def vtL (l v : Int) : Int := if vtE l v = 0 then 64 * v else 0
def vtB (l v b : Int) : Int := if vtE l v = 0 then b else 0
set_option maxRecDepth 100000 in
set_option maxHeartbeats 1000000 in
theorem pvert_at (l d v b y u c : Int) (w : World) (hv : -1 ≤ v ∧ v ≤ 1) (H : Hid (vtL l v = y ∧ vtB l v b = u ∧ vtE l v = c)) :
    Calls Tryd.prog 79 #[.int .i64 l, .agg #[.int .i64 d, .int .i64 v, .int .i64 b]] w fun r w' => r = .returned (.tuple #[.agg #[.int .i64 0, .int .i64 y, .int .i64 u], .int .i64 c]) ∧ Own w w' := by
  obtain ⟨h1, h2, h3⟩ := H.out
  clear H
  have t : v = 0 ∨ v = -1 ∨ v = 1 := by omega
  clear hv
  rcases t with rfl | rfl | rfl
  · have e0 : vtE l 0 = 18 := if_pos (Or.inl rfl)
    obtain rfl : 18 = c := e0.symm.trans h3
    obtain rfl : 0 = y := by rw [← h1]; unfold vtL; rw [e0]; rfl
    obtain rfl : 0 = u := by rw [← h2]; unfold vtB; rw [e0]; rfl
    clear h1 h2 h3 e0
    go_enter Tryd.func79, Tryd.ntmps79
    go_wp2
    exact bodyPost_ret (v := .tuple #[.agg #[.int .i64 0, .int .i64 0, .int .i64 0], .int .i64 18]) (by simp [results, Tryd.results79, go_sem]) rfl ⟨rfl, by repeat (first | exact Own.refl w | apply Own.alloc | refine Own.setCell ?_ (by simp) _)⟩
  · by_cases k : l = 2 ∨ l = 5
    · have e0 : vtE l (-1) = 18 := if_pos (Or.inr ⟨rfl, k⟩)
      have HT := Lib.hid ((trunk_iff l).2 k)
      obtain rfl : 18 = c := e0.symm.trans h3
      obtain rfl : 0 = y := by rw [← h1]; unfold vtL; rw [e0]; rfl
      obtain rfl : 0 = u := by rw [← h2]; unfold vtB; rw [e0]; rfl
      clear h1 h2 h3 e0 k
      go_enter Tryd.func79, Tryd.ntmps79
      go_wp2_with (go_at_call 86; with_reducible refine (ptr_at l true _ HT).mono ?_; rintro r w1 ⟨rfl, rfl⟩)
      exact bodyPost_ret (v := .tuple #[.agg #[.int .i64 0, .int .i64 0, .int .i64 0], .int .i64 18]) (by simp [results, Tryd.results79, go_sem]) rfl ⟨rfl, by repeat (first | exact Own.refl w | apply Own.alloc | refine Own.setCell ?_ (by simp) _)⟩
    · have e0 : vtE l (-1) = 0 := if_neg (fun x => x.elim (by decide) (fun y => k y.2))
      have HT := Lib.hid ((trunk_no l).2 (by omega))
      obtain rfl : 0 = c := e0.symm.trans h3
      obtain rfl : -64 = y := by rw [← h1]; unfold vtL; rw [e0]; rfl
      obtain rfl : b = u := by rw [← h2]; unfold vtB; rw [e0]; rfl
      clear h1 h2 h3 e0 k
      go_enter Tryd.func79, Tryd.ntmps79
      go_wp2_with (go_at_call 86; with_reducible refine (ptr_at l false _ HT).mono ?_; rintro r w1 ⟨rfl, rfl⟩)
      exact bodyPost_ret (v := .tuple #[.agg #[.int .i64 0, .int .i64 (-64), .int .i64 b], .int .i64 0]) (by simp [results, Tryd.results79, go_sem]) rfl ⟨rfl, by repeat (first | exact Own.refl w | apply Own.alloc | refine Own.setCell ?_ (by simp) _)⟩
  · have e0 : vtE l 1 = 0 := if_neg (fun x => x.elim (by decide) (fun y => absurd y.1 (by decide)))
    obtain rfl : 0 = c := e0.symm.trans h3
    obtain rfl : 64 = y := by rw [← h1]; unfold vtL; rw [e0]; rfl
    obtain rfl : b = u := by rw [← h2]; unfold vtB; rw [e0]; rfl
    clear h1 h2 h3 e0
    go_enter Tryd.func79, Tryd.ntmps79
    go_wp2
    exact bodyPost_ret (v := .tuple #[.agg #[.int .i64 0, .int .i64 64, .int .i64 b], .int .i64 0]) (by simp [results, Tryd.results79, go_sem]) rfl ⟨rfl, by repeat (first | exact Own.refl w | apply Own.alloc | refine Own.setCell ?_ (by simp) _)⟩
set_option maxRecDepth 100000 in
set_option maxHeartbeats 2000000 in
theorem pof_at (l d v b x y u c : Int) (w : World) (H : Hid (ofZ l d v b = x ∧ ofL l d v b = y ∧ ofB l d v b = u ∧ ofE l d v b = c)) :
    Calls Tryd.prog 62 #[.int .i64 l, .agg #[.int .i64 d, .int .i64 v, .int .i64 b]] w fun r w' => r = .returned (.tuple #[.agg #[.int .i64 x, .int .i64 y, .int .i64 u], .int .i64 c]) ∧ Own w w' := by
  obtain ⟨h1, h2, h3, h4⟩ := H.out
  clear H
  by_cases k1 : 0 ≤ l ∧ l ≤ 5
  · have HL := Lib.hid ((limb_iff l).2 k1)
    by_cases k2 : (0 ≤ d ∧ d ≤ 8) ∧ -1 ≤ v ∧ v ≤ 1
    · have HK := Lib.hid (show DirP.chk d v = 0 from if_pos k2)
      by_cases k3 : 0 ≤ b ∧ b ≤ 6
      · have HB := Lib.hid ((be_iff b).2 k3)
        by_cases k4 : d = 0
        · subst k4
          obtain ⟨k5, k6⟩ := k2.2
          have HV := Lib.hid (show vtL l v = y ∧ vtB l v b = u ∧ vtE l v = c by
            have hE : ofE l 0 v b = vtE l v := by
              unfold ofE vtE
              rw [if_pos k1, if_pos k2, if_pos k3]
              by_cases q : v = 0 ∨ v = -1 ∧ (l = 2 ∨ l = 5)
              · rw [if_pos q, if_pos ⟨rfl, q⟩]
              · rw [if_neg q, if_neg (fun x => q x.2)]
            rw [← h2, ← h3, ← h4]
            unfold vtL vtB ofL ofB
            rw [hE]
            exact ⟨rfl, rfl, rfl⟩)
          obtain rfl : 0 = x := by rw [← h1]; unfold ofZ; split <;> rfl
          clear h1 h2 h3 h4 k1 k2 k3
          go_enter Tryd.func62, Tryd.ntmps62
          go_wp2_with (first | (go_at_call 67; with_reducible refine (pil_at l true _ HL).mono ?_; rintro r w1 ⟨rfl, rfl⟩) | (go_at_call 78; with_reducible refine (DirW.pcheck_at _ v 0 _ HK).mono ?_; rintro r w1 ⟨rfl, rfl⟩) | (go_at_call 70; with_reducible refine (pbe_at b true _ HB).mono ?_; rintro r w1 ⟨rfl, rfl⟩) | (go_at_call 79; with_reducible refine (pvert_at l 0 v b y u c _ ⟨k5, k6⟩ HV).mono ?_; rintro r w1 ⟨rfl, hg⟩; have HG := Lib.hid hg; have hR : Blk w1 (w.heap.size + 1) #[.int .i64 0, .int .i64 0, .int .i64 0] 30 := Blk.own (two_blk w _ _ _ _) hg; have r0 := hR.three.1; have r1 := hR.three.2.1; have r2 := hR.three.2.2; have f0 := hR.frozen 0; have f1 := hR.frozen 1; have f2 := hR.frozen 2; have HR := Lib.hid hR; clear hg hR))
          have hp := HR.out.set3 (.int .i64 0) (.int .i64 y) (.int .i64 u)
          exact bodyPost_ret (blk_results rfl rfl rfl hp Tryd.underlying30 rfl infoA) rfl ⟨rfl, own_set3 (((Own.refl w).alloc _).alloc _ |>.trans HG.out) (by omega) _ _ _⟩
        · have e0 : ofE l d v b = 0 := of_ok k1 k2 k3 (fun x => absurd x k4)
          obtain ⟨n1, n2, n3⟩ := of_vals e0
          rw [if_neg k4] at n1 n2
          obtain rfl : 0 = c := e0.symm.trans h4
          obtain ⟨q, hq⟩ : ∃ q, d - 1 = q := ⟨_, rfl⟩
          rw [hq] at n1
          have HQ := Lib.hid (show DirP.eigV d = q ∧ DirP.eigE d = 0 by rw [← hq]; unfold DirP.eigV DirP.eigE; rw [if_pos (by omega), if_pos k2.1, if_neg k4]; exact ⟨rfl, rfl⟩)
          have hq1 : 0 ≤ q ∧ q ≤ 7 := by omega
          have j1 : IntKind.i64.wrap (32 * q) = x := by rw [IntWalk.i64_in _ (by omega)]; exact n1.symm.trans h1
          have j2 : IntKind.i64.wrap (32 * v) = y := by rw [IntWalk.i64_in _ (by omega)]; exact n2.symm.trans h2
          obtain rfl := n3.symm.trans h3
          have kd : (d == 0) = false := beq_eq_false_iff_ne.2 k4
          clear h1 h2 h3 h4 k1 k2 k3 k4 n1 n2 n3 e0 hq hq1
          go_enter Tryd.func62, Tryd.ntmps62
          go_wp2_with (first | (go_at_call 67; with_reducible refine (pil_at l true _ HL).mono ?_; rintro r w1 ⟨rfl, rfl⟩) | (go_at_call 78; with_reducible refine (DirW.pcheck_at _ v 0 _ HK).mono ?_; rintro r w1 ⟨rfl, rfl⟩) | (go_at_call 70; with_reducible refine (pbe_at b true _ HB).mono ?_; rintro r w1 ⟨rfl, rfl⟩) | (go_at_call 73; with_reducible refine (DirW.peighth_at d q 0 _ HQ).mono ?_; rintro r w1 ⟨rfl, rfl⟩))
          exact bodyPost_ret (v := .tuple #[.agg #[.int .i64 x, .int .i64 y, .int .i64 b], .int .i64 0]) (by simp [results, Tryd.results62, go_sem]) rfl ⟨rfl, by repeat (first | exact Own.refl w | apply Own.alloc | refine Own.setCell ?_ (by simp) _)⟩
      · have HB := Lib.hid ((be_no b).2 (by omega))
        have e0 : ofE l d v b = 1 := by unfold ofE; rw [if_pos k1, if_pos k2, if_neg k3]
        obtain rfl : 1 = c := e0.symm.trans h4
        obtain ⟨n1, n2, n3⟩ := of_nul (l := l) (d := d) (v := v) (b := b) (by rw [e0]; decide)
        obtain rfl := n1.symm.trans h1
        obtain rfl := n2.symm.trans h2
        obtain rfl := n3.symm.trans h3
        clear h1 h2 h3 h4 n1 n2 n3 e0
        clear k1 k2 k3
        go_enter Tryd.func62, Tryd.ntmps62
        go_wp2_with (first | (go_at_call 67; with_reducible refine (pil_at l true _ HL).mono ?_; rintro r w1 ⟨rfl, rfl⟩) | (go_at_call 78; with_reducible refine (DirW.pcheck_at _ v 0 _ HK).mono ?_; rintro r w1 ⟨rfl, rfl⟩) | (go_at_call 70; with_reducible refine (pbe_at b false _ HB).mono ?_; rintro r w1 ⟨rfl, rfl⟩))
        exact bodyPost_ret (v := .tuple #[.agg #[.int .i64 0, .int .i64 0, .int .i64 0], .int .i64 1]) (by simp [results, Tryd.results62, go_sem]) rfl ⟨rfl, by repeat (first | exact Own.refl w | apply Own.alloc | refine Own.setCell ?_ (by simp) _)⟩
    · have HK := Lib.hid (show DirP.chk d v = 1 from if_neg k2)
      have e0 : ofE l d v b = 1 := by unfold ofE; rw [if_pos k1, if_neg k2]
      obtain rfl : 1 = c := e0.symm.trans h4
      obtain ⟨n1, n2, n3⟩ := of_nul (l := l) (d := d) (v := v) (b := b) (by rw [e0]; decide)
      obtain rfl := n1.symm.trans h1
      obtain rfl := n2.symm.trans h2
      obtain rfl := n3.symm.trans h3
      clear h1 h2 h3 h4 n1 n2 n3 e0
      clear k1 k2
      go_enter Tryd.func62, Tryd.ntmps62
      go_wp2_with (first | (go_at_call 67; with_reducible refine (pil_at l true _ HL).mono ?_; rintro r w1 ⟨rfl, rfl⟩) | (go_at_call 78; with_reducible refine (DirW.pcheck_at _ v 1 _ HK).mono ?_; rintro r w1 ⟨rfl, rfl⟩))
      exact bodyPost_ret (v := .tuple #[.agg #[.int .i64 0, .int .i64 0, .int .i64 0], .int .i64 1]) (by simp [results, Tryd.results62, go_sem]) rfl ⟨rfl, by repeat (first | exact Own.refl w | apply Own.alloc | refine Own.setCell ?_ (by simp) _)⟩
  · have HL := Lib.hid ((limb_no l).2 (by omega))
    have e0 : ofE l d v b = 9 := by unfold ofE; rw [if_neg k1]
    obtain rfl : 9 = c := e0.symm.trans h4
    obtain ⟨n1, n2, n3⟩ := of_nul (l := l) (d := d) (v := v) (b := b) (by rw [e0]; decide)
    obtain rfl := n1.symm.trans h1
    obtain rfl := n2.symm.trans h2
    obtain rfl := n3.symm.trans h3
    clear h1 h2 h3 h4 n1 n2 n3 e0
    clear k1
    go_enter Tryd.func62, Tryd.ntmps62
    go_wp2_with (go_at_call 67; with_reducible refine (pil_at l false _ HL).mono ?_; rintro r w1 ⟨rfl, rfl⟩)
    exact bodyPost_ret (v := .tuple #[.agg #[.int .i64 0, .int .i64 0, .int .i64 0], .int .i64 9]) (by simp [results, Tryd.results62, go_sem]) rfl ⟨rfl, by repeat (first | exact Own.refl w | apply Own.alloc | refine Own.setCell ?_ (by simp) _)⟩
set_option maxRecDepth 100000 in
set_option maxHeartbeats 1000000 in
theorem pmir_at (l z e b x y u c : Int) (w : World) (H : Hid (mirZ l z e b = x ∧ mirL l z e b = y ∧ mirB l z e b = u ∧ chk l z e b = c)) :
    Calls Tryd.prog 54 #[.int .i64 l, .agg #[.int .i64 z, .int .i64 e, .int .i64 b]] w fun r w' => r = .returned (.tuple #[.agg #[.int .i64 x, .int .i64 y, .int .i64 u], .int .i64 c]) ∧ Own w w' := by
  obtain ⟨h1, h2, h3, h4⟩ := H.out
  clear H
  have HC := Lib.hid h4
  by_cases k : c = 0
  · subst k
    obtain ⟨e1, e2, e3⟩ := mir_yes h4
    obtain rfl := e2.symm.trans h2
    obtain rfl := e3.symm.trans h3
    have HM := Lib.hid (e1.symm.trans h1)
    clear h1 h2 h3 h4 e1 e2 e3
    go_enter Tryd.func54, Tryd.ntmps54
    go_upto_region 1 with (fail)
    obtain ⟨W0, B, C, hW, hC, hB, hb, hc, g0, hB0, hC0, hne⟩ := two_new w (#[.int .i64 z, .int .i64 e, .int .i64 b]) 30 (#[.int .i64 0, .int .i64 0, .int .i64 0]) 30
    rw [hW, hC, hB]
    have HB := Lib.hid hb
    have HP := Lib.hid hc
    have HNE := Lib.hid hne
    clear hW hC hB hb hc hne
    go_upto_region 4 with (first | ((with_reducible show wpList _ _ _ (⟨_, .load 30 (.tmp 3), _, _, _, none⟩ :: _) _ _); refine wpList_load_row rfl 30 (.tmp 3) rfl B rfl 30 _ (0, 0) _ HB.out.raw Tryd.underlying30 rfl infoA ?_) | (go_at_call 44; with_reducible refine (pcheck_at l z e b 0 _ HC).mono ?_; rintro r w1 ⟨rfl, hg⟩; replace g0 : Own w w1 := g0.trans hg; replace HB := Lib.hid (HB.out.own hg); replace HP := Lib.hid (HP.out.own hg); have k0 := HB.out.three.1; have f0 := HB.out.frozen 0; clear hg))
    go_upto_region 5 with (go_at_call 53; with_reducible refine (AngW.mir_at _ x _ HM).mono ?_; rintro r w1 ⟨rfl, rfl⟩)
    have hb : Blk (w1.setCell ⟨B, 0, none⟩ (.int .i64 x)) B #[.int .i64 x, .int .i64 e, .int .i64 b] 30 := HB.out.put 0 (.int .i64 x)
    have hp := HP.out.far (p := ⟨B, 0, none⟩) HNE.out.symm (.int .i64 x)
    replace g0 := g0.setCell (p := ⟨B, 0, none⟩) hB0 (.int .i64 x)
    clear HB HP k0 f0
    generalize w1.setCell ⟨B, 0, none⟩ (.int .i64 x) = w2 at *
    have HB := Lib.hid hb
    have HP := Lib.hid hp
    clear hb hp
    go_wp2_with (first | ((with_reducible show wpList _ _ _ (⟨_, .load 30 (.tmp 3), _, _, _, none⟩ :: _) _ _); refine wpList_load_row rfl 30 (.tmp 3) rfl B rfl 30 _ (0, 0) _ HB.out.raw Tryd.underlying30 rfl infoA ?_) | ((with_reducible show wpList _ _ _ (⟨_, .store 30 (.tmp 4) (.tmp 18), _, _, _, none⟩ :: _) _ _); refine wpList_store_row rfl 30 (.tmp 4) (.tmp 18) rfl C #[.int .i64 x, .int .i64 e, .int .i64 b] rfl rfl 30 _ HP.out.raw infoA rfl (by simp [Value.oneCell']) ?_))
    have hp := HP.out.row #[.int .i64 x, .int .i64 e, .int .i64 b]
    exact bodyPost_ret (blk_results rfl rfl rfl hp Tryd.underlying30 rfl infoA) rfl ⟨rfl, own_setRow g0 hC0 _⟩
  · have kc : (c != 0) = true := bne_iff_ne.2 k
    obtain ⟨e1, e2, e3⟩ := mir_nul (l := l) (z := z) (e := e) (b := b) (by rw [h4]; exact k)
    obtain rfl := e1.symm.trans h1
    obtain rfl := e2.symm.trans h2
    obtain rfl := e3.symm.trans h3
    clear h1 h2 h3 h4 e1 e2 e3 k
    go_enter Tryd.func54, Tryd.ntmps54
    go_upto_region 1 with (fail)
    obtain ⟨W0, B, C, hW, hC, hB, hb, hc, g0, hB0, hC0, hne⟩ := two_new w (#[.int .i64 z, .int .i64 e, .int .i64 b]) 30 (#[.int .i64 0, .int .i64 0, .int .i64 0]) 30
    rw [hW, hC, hB]
    have HB := Lib.hid hb
    have HP := Lib.hid hc
    have HNE := Lib.hid hne
    clear hW hC hB hb hc hne
    go_wp2_with (first | ((with_reducible show wpList _ _ _ (⟨_, .load 30 (.tmp 3), _, _, _, none⟩ :: _) _ _); refine wpList_load_row rfl 30 (.tmp 3) rfl B rfl 30 _ (0, 0) _ HB.out.raw Tryd.underlying30 rfl infoA ?_) | (go_at_call 44; with_reducible refine (pcheck_at l z e b c _ HC).mono ?_; rintro r w1 ⟨rfl, hg⟩; replace g0 : Own w w1 := g0.trans hg; replace HB := Lib.hid (HB.out.own hg); replace HP := Lib.hid (HP.out.own hg); clear hg) | ((with_reducible show wpList _ _ _ (⟨_, .store 30 (.tmp 4) (.tmp 12), _, _, _, none⟩ :: _) _ _); refine wpList_store_row rfl 30 (.tmp 4) (.tmp 12) rfl C #[.int .i64 0, .int .i64 0, .int .i64 0] rfl rfl 30 _ HP.out.raw infoA rfl (by simp [Value.oneCell']) ?_))
    have hp := HP.out.row #[.int .i64 0, .int .i64 0, .int .i64 0]
    exact bodyPost_ret (blk_results rfl rfl rfl hp Tryd.underlying30 rfl infoA) rfl ⟨rfl, own_setRow g0 hC0 _⟩
end Go.Proofs.YtneobaininejaaaDoor.AimW
