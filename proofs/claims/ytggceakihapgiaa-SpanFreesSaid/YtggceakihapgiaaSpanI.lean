/-
  Walk of the chapter's examples of span. Condition: none.
-/
import Derived.Test.YtggceakihapgiaaSpanH
namespace Go.Proofs.Ytggceakihapgiaa.SpaW
open Go.ChangeShapes Go.WideShapes Go.ChangeAt Go.RowKit
open PairW SpaP

def xa : List Sp := [(5, 9), (0, 5), (20, 21), (7, 7)]
def xb : List Sp := [(0, 9), (20, 21)]
def xc : List Sp := [(4, 3)]
def xd : List Sp := [(0, 10)]
def xe : List Sp := [(3, 4), (8, 20)]
def xf : List Sp := [(3, 4)]
def xg : List Sp := [(3, 4), (8, 10)]
def xh : List Sp := [(0, 3), (4, 10)]
def xi : List Sp := [(0, 5), (3, 8)]
def xj : List Sp := [(0, 3), (5, 6)]
theorem pts_lit (w : World) (l : List Pt) (n : Nat) (cs : Array Value) (t : TypeId) (hn : l.length = n) (hm : n ≤ maxLen) (hc : (cellsP l).toArray = cs) : Pts (w.alloc (.cells cs t)) (.slice (some ⟨w.heap.size, 0, none⟩) n n) l := by
  subst hc
  subst hn
  exact pts_of_row (World.ownsRow_lit (base := 0) (e := t) (size := 2) w (cellsP l).toArray l.length (Nat.zero_le _) hm (by simpa using cellsP_len l))
set_option maxRecDepth 100000 in
set_option maxHeartbeats 8000000 in
theorem awake_any (w : World) :
    Calls Try.prog 16 #[] w fun e w' => e = .returned (.bool true) ∧ Own w w' := by
  have H1 := Lib.hid (show setE xa [] 0 = 0 ∧ setV xa [] 0 = xb by decide +kernel)
  have H2 := Lib.hid (show chkE xc = 1 by decide +kernel)
  have H3 := Lib.hid (show setE xd xe 1 = 0 ∧ setV xd xe 1 = xg by decide +kernel)
  have H4 := Lib.hid (show setE xd xf 2 = 0 ∧ setV xd xf 2 = xh by decide +kernel)
  have H5 := Lib.hid (show sumL (setV xi [] 0) = 8 ∧ setE xi [] 0 = 0 by decide +kernel)
  have H6 := Lib.hid (show freeE xj 2 10 = 0 ∧ freeV xj 2 10 = (3, 5) by decide +kernel)
  have H7 := Lib.hid (show freeE xj 3 8 = 6 ∧ freeV xj 3 8 = (0, 0) by decide +kernel)
  have H8 := Lib.hid (show hasB xj 5 = true by decide +kernel)
  have H9 := Lib.hid (show hasB xj 3 = false by decide +kernel)
  have g0 := Own.refl w
  go_enter Try.func16, Try.ntmps16
  go_upto_region 2 with (first
    | (go_at_call 31; refine (of_at _ _ _).mono ?_; rintro e w1 ⟨rfl, hg⟩; replace g0 : Own w w1 := Own.trans (by first | exact g0 | exact g0.alloc _ | exact (g0.alloc _).alloc _) hg; clear hg)
    | (go_at_call 17; refine (pnorm_at xa xb 0 _ _ H1 (Lib.hid (pts_lit _ xa 4 _ 36 rfl (by decide) rfl))).mono ?_; rintro e w1 ⟨sn, rfl, hf, hg⟩; have HN := Lib.hid hf.pts; clear hf; replace g0 : Own w w1 := Own.trans (by first | exact g0 | exact g0.alloc _ | exact (g0.alloc _).alloc _) hg; clear hg))
  go_upto_region 4 with (first
    | (go_at_call 31; refine (of_at _ _ _).mono ?_; rintro e w1 ⟨rfl, hg⟩; replace g0 : Own w w1 := Own.trans (by first | exact g0 | exact g0.alloc _ | exact (g0.alloc _).alloc _) hg; replace HN := Lib.hid (HN.out.own (by first | exact hg | exact ((Own.refl _).alloc _).trans hg)); clear hg)
    | (go_at_call 21; refine (rsame_at xb xb _ _ true _ (Lib.hid (HN.out.own ((Own.refl _).alloc _))) (Lib.hid (pts_lit _ xb 2 _ 36 rfl (by decide) rfl)) (Lib.hid (decide_eq_true rfl))).mono ?_; rintro e w1 ⟨rfl, hg⟩; replace HN := Lib.hid (HN.out.own (((Own.refl _).alloc _).trans hg)); replace g0 : Own w w1 := Own.trans (by first | exact g0 | exact g0.alloc _ | exact (g0.alloc _).alloc _) hg; clear hg)
    | (go_at_call 12; refine (pcheck_at xc _ 1 _ (Lib.hid (pts_lit _ xc 1 _ 36 rfl (by decide) rfl)) H2).mono ?_; rintro e w1 ⟨rfl, hg⟩; clear HN; replace g0 : Own w w1 := Own.trans (by first | exact g0 | exact g0.alloc _ | exact (g0.alloc _).alloc _) hg; clear hg))
  go_upto_region 5 with (first
    | (go_at_call 31; with_reducible refine (of_at 0 10 _).mono ?_; rintro e w1 ⟨rfl, hg⟩; replace g0 : Own w w1 := Own.trans (by first | exact g0 | exact g0.alloc _ | exact (g0.alloc _).alloc _) hg; clear hg)
    | (go_at_call 31; with_reducible refine (of_at 3 4 _).mono ?_; rintro e w2 ⟨rfl, hg⟩; have HL := Lib.hid (Pts.own (pts_lit w1 xd 1 #[.int .i64 0, .int .i64 10] 36 rfl (by decide) rfl) hg); replace g0 : Own w w2 := Own.trans (by first | exact g0 | exact g0.alloc _ | exact (g0.alloc _).alloc _) hg; clear hg)
    | (go_at_call 31; with_reducible refine (of_at 8 20 _).mono ?_; rintro e w3 ⟨rfl, hg⟩; replace HL := Lib.hid (HL.out.own hg); replace g0 : Own w w3 := Own.trans (by first | exact g0 | exact g0.alloc _ | exact (g0.alloc _).alloc _) hg; clear hg)
    | (go_at_call 24; refine (pcommon_at xd xe xg 0 _ _ _ H3 (Lib.hid (HL.out.own ((Own.refl _).alloc _))) (Lib.hid (pts_lit _ xe 2 _ 36 rfl (by decide) rfl))).mono ?_; rintro e w4 ⟨sc, rfl, hf, hg⟩; clear HL; have HC := Lib.hid hf.pts; clear hf; replace g0 : Own w w4 := (g0.alloc _).trans hg; clear hg))
  go_upto_region 6 with (first
    | (go_at_call 31; with_reducible refine (of_at 0 10 _).mono ?_; rintro e w1 ⟨rfl, hg⟩; replace HC := Lib.hid (HC.out.own hg); replace g0 : Own w w1 := Own.trans (by first | exact g0 | exact g0.alloc _ | exact (g0.alloc _).alloc _) hg; clear hg)
    | (go_at_call 31; with_reducible refine (of_at 3 4 _).mono ?_; rintro e w2 ⟨rfl, hg⟩; replace HC := Lib.hid (HC.out.own (((Own.refl w1).alloc _).trans hg)); have HL := Lib.hid (Pts.own (pts_lit w1 xd 1 #[.int .i64 0, .int .i64 10] 36 rfl (by decide) rfl) hg); replace g0 : Own w w2 := Own.trans (by first | exact g0 | exact g0.alloc _ | exact (g0.alloc _).alloc _) hg; clear hg)
    | (go_at_call 26; refine (pminus_at xd xf xh 0 _ _ _ H4 (Lib.hid (HL.out.own ((Own.refl _).alloc _))) (Lib.hid (pts_lit _ xf 1 _ 36 rfl (by decide) rfl))).mono ?_; rintro e w4 ⟨sm, rfl, hf, hg⟩; clear HL; have HM := Lib.hid hf.pts; clear hf; replace HC := Lib.hid (HC.out.own (((Own.refl _).alloc _).trans hg)); replace g0 : Own w w4 := (g0.alloc _).trans hg; clear hg))
  go_upto_region 8 with (first
    | (go_at_call 31; refine (of_at _ _ _).mono ?_; rintro e w1 ⟨rfl, hg⟩; replace HC := Lib.hid (HC.out.own (by first | exact hg | exact ((Own.refl _).alloc _).trans hg)); replace HM := Lib.hid (HM.out.own (by first | exact hg | exact ((Own.refl _).alloc _).trans hg)); replace g0 : Own w w1 := Own.trans (by first | exact g0 | exact g0.alloc _ | exact (g0.alloc _).alloc _) hg; clear hg)
    | (go_at_call 21; with_reducible refine (rsame_at xg xg sc _ true _ ?_ ?_ ?_).mono ?_; exact Lib.hid (HC.out.own ((Own.refl _).alloc _)); exact Lib.hid (pts_lit _ xg 2 _ 36 rfl (by decide) rfl); exact Lib.hid (decide_eq_true rfl); rintro e w1 ⟨rfl, hg⟩; replace HM := Lib.hid (HM.out.own (((Own.refl _).alloc _).trans hg)); replace HC := Lib.hid (HC.out.own (((Own.refl _).alloc _).trans hg)); replace g0 : Own w w1 := (g0.alloc _).trans hg; clear hg)
    | (go_at_call 21; with_reducible refine (rsame_at xh xh sm _ true _ ?_ ?_ ?_).mono ?_; exact Lib.hid (HM.out.own ((Own.refl _).alloc _)); exact Lib.hid (pts_lit _ xh 2 _ 36 rfl (by decide) rfl); exact Lib.hid (decide_eq_true rfl); rintro e w1 ⟨rfl, hg⟩; replace HM := Lib.hid (HM.out.own (((Own.refl _).alloc _).trans hg)); replace HC := Lib.hid (HC.out.own (((Own.refl _).alloc _).trans hg)); replace g0 : Own w w1 := (g0.alloc _).trans hg; clear hg))
  clear HC HM
  go_upto_region 9 with (first
    | (go_at_call 31; refine (of_at _ _ _).mono ?_; rintro e w1 ⟨rfl, hg⟩; replace g0 : Own w w1 := Own.trans (by first | exact g0 | exact g0.alloc _ | exact (g0.alloc _).alloc _) hg; clear hg)
    | (go_at_call 19; refine (ptotal_at xi 8 0 _ _ H5 (Lib.hid (pts_lit _ xi 2 _ 36 rfl (by decide) rfl))).mono ?_; rintro e w1 ⟨rfl, hg⟩; replace g0 : Own w w1 := Own.trans (by first | exact g0 | exact g0.alloc _ | exact (g0.alloc _).alloc _) hg; clear hg))
  go_upto_region 10 with (go_at_call 31; refine (of_at _ _ _).mono ?_; rintro e w1 ⟨rfl, hg⟩; replace g0 : Own w w1 := Own.trans (by first | exact g0 | exact g0.alloc _ | exact (g0.alloc _).alloc _) hg; clear hg)
  have hp := pts_lit w1 xj 2 #[.int .i64 0, .int .i64 3, .int .i64 5, .int .i64 6] 36 rfl (by decide) rfl
  replace g0 := g0.alloc (.cells #[.int .i64 0, .int .i64 3, .int .i64 5, .int .i64 6] 36)
  generalize w1.alloc (.cells #[.int .i64 0, .int .i64 3, .int .i64 5, .int .i64 6] 36) = W1 at *
  generalize w1.heap.size = B at *
  have HB := Lib.hid hp
  clear hp
  go_upto_region 11 with (go_at_call 29; refine (pfree_at xj 2 10 (3, 5) 0 _ _ H6 HB).mono ?_; rintro e w2 ⟨rfl, hg⟩; replace HB := Lib.hid (HB.out.own hg); replace g0 : Own w w2 := g0.trans hg; clear hg)

  obtain ⟨k0, k1, _, _⟩ := pt_new w2 3 5 36
  replace HB := Lib.hid (HB.out.own ((Own.refl w2).alloc (.cells #[.int .i64 3, .int .i64 5] 36)))
  replace g0 := g0.alloc (.cells #[.int .i64 3, .int .i64 5] 36)
  generalize w2.alloc (.cells #[.int .i64 3, .int .i64 5] 36) = W2 at *
  generalize w2.heap.size = K at *
  go_upto_region 12 with (go_at_call 29; refine (pfree_at xj 3 8 (0, 0) 6 _ _ H7 HB).mono ?_; rintro e w5 ⟨rfl, hg⟩; replace HB := Lib.hid (HB.out.own hg); replace g0 : Own w w5 := g0.trans hg; replace k0 := hg.cell k0; replace k1 := hg.cell k1; clear hg)
  replace HB := Lib.hid (HB.out.own ((Own.refl w5).alloc (.cells #[.int .i64 0, .int .i64 0] 36)))
  replace k0 := ((Own.refl w5).alloc (.cells #[.int .i64 0, .int .i64 0] 36)).cell k0
  replace k1 := ((Own.refl w5).alloc (.cells #[.int .i64 0, .int .i64 0] 36)).cell k1
  replace g0 := g0.alloc (.cells #[.int .i64 0, .int .i64 0] 36)
  generalize w5.alloc (.cells #[.int .i64 0, .int .i64 0] 36) = wr at *
  have k0d : ∀ x : After wr, x.w.cell? ⟨K, 0, none⟩ = some (.int .i64 3) := fun x => x.o.cell k0
  have k1d : ∀ x : After wr, x.w.cell? ⟨K, 1, none⟩ = some (.int .i64 5) := fun x => x.o.cell k1
  have hpt : ptB 3 5 3 5 = true := by decide
  clear k0 k1
  refine region_after wr (by kernel_rfl) (by kernel_rfl) ?_
  repeat (first
    | go_big_quiet_step ((first | (go_at_call 31; refine (of_at _ _ _).mono ?_; rintro e w2 ⟨rfl, hg⟩; exact ⟨rfl, ⟨w2, (After.o _).trans hg⟩, rfl⟩) | (go_at_call 14; with_reducible refine (phas_at xj _ 5 true _ ?_ H8).mono ?_; exact Lib.hid (HB.out.own (After.o _)); rintro e w2 ⟨rfl, hg⟩; exact ⟨rfl, ⟨w2, (After.o _).trans hg⟩, rfl⟩) | (go_at_call 14; with_reducible refine (phas_at xj _ 3 false _ ?_ H9).mono ?_; exact Lib.hid (HB.out.own (After.o _)); rintro e w2 ⟨rfl, hg⟩; exact ⟨rfl, ⟨w2, (After.o _).trans hg⟩, rfl⟩)))
    | quiet_step ((first | (go_at_call 31; refine (of_at _ _ _).mono ?_; rintro e w2 ⟨rfl, hg⟩; exact ⟨rfl, ⟨w2, (After.o _).trans hg⟩, rfl⟩) | (go_at_call 14; with_reducible refine (phas_at xj _ 5 true _ ?_ H8).mono ?_; exact Lib.hid (HB.out.own (After.o _)); rintro e w2 ⟨rfl, hg⟩; exact ⟨rfl, ⟨w2, (After.o _).trans hg⟩, rfl⟩) | (go_at_call 14; with_reducible refine (phas_at xj _ 3 false _ ?_ H9).mono ?_; exact Lib.hid (HB.out.own (After.o _)); rintro e w2 ⟨rfl, hg⟩; exact ⟨rfl, ⟨w2, (After.o _).trans hg⟩, rfl⟩))))
  refine wpQuiet_nil ?_
  rintro _ ⟨x, rfl⟩
  clear k0d k1d
  have d4 := x.o
  generalize x.w = w2 at *
  go_wp2
  go_ret
  exact ⟨rfl, g0.trans d4⟩
end Go.Proofs.Ytggceakihapgiaa.SpaW
