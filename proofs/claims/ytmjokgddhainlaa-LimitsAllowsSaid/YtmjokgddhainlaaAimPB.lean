/-
  Walks of the program of package aim: vertical, Of, Mirror. Condition: none.
-/
import Derived.Test.YtmjokgddhainlaaAimPA
import Derived.Test.YtmjokgddhainlaaDirPlain
import Derived.Test.YtmjokgddhainlaaAngBase
import Derived.Test.YtmjokgddhainlaaBlk
namespace Go.Proofs.Ytmjokgddhainlaa.AimW
open Go.ChangeShapes Go.WideShapes Go.ChangeAt Go.RowKit
open PairW AimP BlkW
theorem infoA : (Try.prog.info? 34).map (·.size) = some 3 := by kernel_rfl
theorem two_blk (w : World) (c1 : Array Value) (T1 : TypeId) (c2 : Array Value) (T2 : TypeId) : Blk ((w.alloc (.cells c1 T1)).alloc (.cells c2 T2)) (w.heap.size + 1) c2 T2 := by
  have := Blk.new (w.alloc (.cells c1 T1)) c2 T2
  rw [size_alloc] at this
  exact this
set_option maxRecDepth 100000 in
set_option maxHeartbeats 1000000 in
theorem pmir_at (l z e b x y u c : Int) (w : World) (H : Hid (mirZ l z e b = x ∧ mirL l z e b = y ∧ mirB l z e b = u ∧ chk l z e b = c)) :
    Calls Try.prog 23 #[.int .i64 l, .agg #[.int .i64 z, .int .i64 e, .int .i64 b]] w fun r w' => r = .returned (.tuple #[.agg #[.int .i64 x, .int .i64 y, .int .i64 u], .int .i64 c]) ∧ Own w w' := by
  obtain ⟨h1, h2, h3, h4⟩ := H.out
  clear H
  have HC := Lib.hid h4
  by_cases k : c = 0
  · subst k
    obtain ⟨e1, e2, e3⟩ := mir_yes h4
    obtain rfl := e2.symm.trans h2
    obtain rfl := e3.symm.trans h3
    have HM := Lib.hid (e1.symm.trans h1)
    clear h1 h2 h3 h4 e1 e2 e3
    go_enter Try.func23, Try.ntmps23
    go_upto_region 1 with (fail)
    obtain ⟨W0, B, C, hW, hC, hB, hb, hc, g0, hB0, hC0, hne⟩ := two_new w (#[.int .i64 z, .int .i64 e, .int .i64 b]) 34 (#[.int .i64 0, .int .i64 0, .int .i64 0]) 34
    rw [hW, hC, hB]
    have HB := Lib.hid hb
    have HP := Lib.hid hc
    have HNE := Lib.hid hne
    clear hW hC hB hb hc hne
    go_upto_region 4 with (first | ((with_reducible show wpList _ _ _ (⟨_, .load 34 (.tmp 3), _, _, _, none⟩ :: _) _ _); refine wpList_load_row rfl 34 (.tmp 3) rfl B rfl 34 _ (0, 0) _ HB.out.raw Try.underlying34 rfl infoA ?_) | (go_at_call 36; with_reducible refine (pcheck_at l z e b 0 _ HC).mono ?_; rintro r w1 ⟨rfl, hg⟩; replace g0 : Own w w1 := g0.trans hg; replace HB := Lib.hid (HB.out.own hg); replace HP := Lib.hid (HP.out.own hg); have k0 := HB.out.three.1; have f0 := HB.out.frozen 0; clear hg))
    go_upto_region 5 with (go_at_call 28; with_reducible refine (AngW.mir_at _ x _ HM).mono ?_; rintro r w1 ⟨rfl, rfl⟩)
    have hb : Blk (w1.setCell ⟨B, 0, none⟩ (.int .i64 x)) B #[.int .i64 x, .int .i64 e, .int .i64 b] 34 := HB.out.put 0 (.int .i64 x)
    have hp := HP.out.far (p := ⟨B, 0, none⟩) HNE.out.symm (.int .i64 x)
    replace g0 := g0.setCell (p := ⟨B, 0, none⟩) hB0 (.int .i64 x)
    clear HB HP k0 f0
    generalize w1.setCell ⟨B, 0, none⟩ (.int .i64 x) = w2 at *
    have HB := Lib.hid hb
    have HP := Lib.hid hp
    clear hb hp
    go_wp2_with (first | ((with_reducible show wpList _ _ _ (⟨_, .load 34 (.tmp 3), _, _, _, none⟩ :: _) _ _); refine wpList_load_row rfl 34 (.tmp 3) rfl B rfl 34 _ (0, 0) _ HB.out.raw Try.underlying34 rfl infoA ?_) | ((with_reducible show wpList _ _ _ (⟨_, .store 34 (.tmp 4) (.tmp 18), _, _, _, none⟩ :: _) _ _); refine wpList_store_row rfl 34 (.tmp 4) (.tmp 18) rfl C #[.int .i64 x, .int .i64 e, .int .i64 b] rfl rfl 34 _ HP.out.raw infoA rfl (by simp [Value.oneCell']) ?_))
    have hp := HP.out.row #[.int .i64 x, .int .i64 e, .int .i64 b]
    exact bodyPost_ret (blk_results rfl rfl rfl hp Try.underlying34 rfl infoA) rfl ⟨rfl, own_setRow g0 hC0 _⟩
  · have kc : (c != 0) = true := bne_iff_ne.2 k
    obtain ⟨e1, e2, e3⟩ := mir_nul (l := l) (z := z) (e := e) (b := b) (by rw [h4]; exact k)
    obtain rfl := e1.symm.trans h1
    obtain rfl := e2.symm.trans h2
    obtain rfl := e3.symm.trans h3
    clear h1 h2 h3 h4 e1 e2 e3 k
    go_enter Try.func23, Try.ntmps23
    go_upto_region 1 with (fail)
    obtain ⟨W0, B, C, hW, hC, hB, hb, hc, g0, hB0, hC0, hne⟩ := two_new w (#[.int .i64 z, .int .i64 e, .int .i64 b]) 34 (#[.int .i64 0, .int .i64 0, .int .i64 0]) 34
    rw [hW, hC, hB]
    have HB := Lib.hid hb
    have HP := Lib.hid hc
    have HNE := Lib.hid hne
    clear hW hC hB hb hc hne
    go_wp2_with (first | ((with_reducible show wpList _ _ _ (⟨_, .load 34 (.tmp 3), _, _, _, none⟩ :: _) _ _); refine wpList_load_row rfl 34 (.tmp 3) rfl B rfl 34 _ (0, 0) _ HB.out.raw Try.underlying34 rfl infoA ?_) | (go_at_call 36; with_reducible refine (pcheck_at l z e b c _ HC).mono ?_; rintro r w1 ⟨rfl, hg⟩; replace g0 : Own w w1 := g0.trans hg; replace HB := Lib.hid (HB.out.own hg); replace HP := Lib.hid (HP.out.own hg); clear hg) | ((with_reducible show wpList _ _ _ (⟨_, .store 34 (.tmp 4) (.tmp 12), _, _, _, none⟩ :: _) _ _); refine wpList_store_row rfl 34 (.tmp 4) (.tmp 12) rfl C #[.int .i64 0, .int .i64 0, .int .i64 0] rfl rfl 34 _ HP.out.raw infoA rfl (by simp [Value.oneCell']) ?_))
    have hp := HP.out.row #[.int .i64 0, .int .i64 0, .int .i64 0]
    exact bodyPost_ret (blk_results rfl rfl rfl hp Try.underlying34 rfl infoA) rfl ⟨rfl, own_setRow g0 hC0 _⟩
end Go.Proofs.Ytmjokgddhainlaa.AimW
