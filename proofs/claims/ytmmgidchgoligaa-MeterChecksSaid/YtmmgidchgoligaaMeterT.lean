/-
  Walks of the small functions of the laws of package meter, and of the chapter's examples. Condition: none.
-/
import Derived.Test.YtmmgidchgoligaaMeterB
import Derived.Test.YtmmgidchgoligaaMeterC
import Derived.Test.YtmmgidchgoligaaMeterD
import Derived.Test.YtmmgidchgoligaaMeterPB
import Derived.Test.YtmmgidchgoligaaMeterPC
namespace Go.Proofs.Ytmmgidchgoligaa.MetW
open Go.ChangeShapes Go.WideShapes Go.ChangeAt Go.RowKit
open PairW CelW MetP
theorem of_at (x y : Int) (w : World) :
    Calls Try.prog 25 #[.int .i64 x, .int .i64 y] w fun e w' => e = .returned (.agg #[.int .i64 x, .int .i64 y]) ∧ Own w w' := by
  go_enter Try.func25, Try.ntmps25
  go_wp2
  exact bodyPost_ret (v := .agg #[.int .i64 x, .int .i64 y]) (by simp [results, Try.results25, go_sem]) rfl ⟨rfl, by repeat (first | exact Own.refl _ | apply Own.alloc | refine Own.setCell ?_ (by simp; try omega) _)⟩
def xa : List Pt := [(4, 24), (3, 24)]
def xb : List Pt := [(17, 24)]
def xc : List Pt := [(2, 10), (1, 5)]
def xd : List Pt := [(4, 24), (3, 24), (2, 12)]
def xe : List Pt := [(3, 24), (2, 12)]
theorem pts_lit (w : World) (l : List Pt) (n : Nat) (cs : Array Value) (t : TypeId) (hn : l.length = n) (hm : n ≤ maxLen) (hc : (cellsP l).toArray = cs) : Pts (w.alloc (.cells cs t)) (.slice (some ⟨w.heap.size, 0, none⟩) n n) l := by
  subst hc
  subst hn
  exact pts_of_row (World.ownsRow_lit (base := 0) (e := t) (size := 2) w (cellsP l).toArray l.length (Nat.zero_le _) hm (by simpa using cellsP_len l))
theorem row_pts {w : World} {base : Nat} {e : TypeId} {sv : Value} {n : Nat} {l : List Pt} (h : w.ownsRow base e 2 sv n (cellsP l)) (hn : l.length = n) : Pts w sv l := by
  subst hn
  exact pts_of_row h
set_option maxRecDepth 100000 in
set_option maxHeartbeats 4000000 in
theorem awake_any (w : World) :
    Calls Try.prog 14 #[] w fun e w' => e = .returned (.bool true) ∧ Own w w' := by
  have H1 := Lib.hid (show chkE xa = 0 ∧ lenV xa = 168 by decide +kernel)
  have H2 := Lib.hid (show mE xa 1 = 0 ∧ mV xa 1 = (96, 168) by decide +kernel)
  have H3 := Lib.hid (show chkE xb = 1 by decide +kernel)
  have H4 := Lib.hid (show wE xa 125 = 0 ∧ wV xa 125 = (1, 1, 5) by decide +kernel)
  have H5 := Lib.hid (show wE xa 168 = 1 ∧ wV xa 168 = (0, 0, 0) by decide +kernel)
  have H6 := Lib.hid (show bE xc (5, 25) = 0 ∧ bV xc (5, 25) = [10, 20] by decide +kernel)
  have H7 := Lib.hid (show cE xd (1, 3) = 0 ∧ cV xd (1, 3) = xe by decide +kernel)
  have g0 := Own.refl w
  go_enter Try.func14, Try.ntmps14
  go_upto_region 2 with (go_at_call 25; refine (of_at _ _ _).mono ?_; rintro e w1 ⟨rfl, hg⟩; replace g0 : Own w w1 := Own.trans (by first | exact g0 | exact g0.alloc _) hg; clear hg)
  have hp := pts_lit w1 xa 2 #[.int .i64 4, .int .i64 24, .int .i64 3, .int .i64 24] 45 rfl (by decide) rfl
  replace g0 := g0.alloc (.cells #[.int .i64 4, .int .i64 24, .int .i64 3, .int .i64 24] 45)
  generalize w1.alloc (.cells #[.int .i64 4, .int .i64 24, .int .i64 3, .int .i64 24] 45) = W1 at *
  generalize w1.heap.size = B at *
  have HB := Lib.hid hp
  clear hp
  go_upto_region 4 with (first
    | (go_at_call 10; refine (plength_at xa _ 168 0 _ HB H1).mono ?_; rintro e w2 ⟨rfl, hg⟩; replace HB := Lib.hid (HB.out.own hg); replace g0 : Own w w2 := g0.trans hg; clear hg)
    | (go_at_call 15; refine (pmeasure_at xa _ 1 (96, 168) 0 _ HB H2).mono ?_; rintro e w3 ⟨rfl, hg⟩; replace HB := Lib.hid (HB.out.own hg); replace g0 : Own w w3 := g0.trans hg; clear hg))
  obtain ⟨k0, k1, _, _⟩ := pt_new w3 96 168 30
  replace HB := Lib.hid (HB.out.own ((Own.refl w3).alloc (.cells #[.int .i64 96, .int .i64 168] 30)))
  replace g0 := g0.alloc (.cells #[.int .i64 96, .int .i64 168] 30)
  generalize w3.alloc (.cells #[.int .i64 96, .int .i64 168] 30) = W2 at *
  generalize w3.heap.size = K at *
  go_upto_region 8 with (first
    | (go_at_call 25; refine (of_at _ _ _).mono ?_; rintro e w4 ⟨rfl, hg⟩; replace HB := Lib.hid (HB.out.own hg); replace g0 : Own w w4 := g0.trans hg; clear hg)
    | (go_at_call 12; refine (pcheck_at xb _ 1 _ (Lib.hid (pts_lit _ xb 1 _ 45 rfl (by decide) rfl)) H3).mono ?_; rintro e w5 ⟨rfl, hg⟩; replace hg := ((Own.refl w4).alloc _).trans hg; replace HB := Lib.hid (HB.out.own hg); replace g0 : Own w w5 := g0.trans hg; clear hg)
    | (go_at_call 17; (first | (with_reducible refine (pwhere_at xa _ 125 1 1 5 0 _ HB H4).mono ?_) | (with_reducible refine (pwhere_at xa _ 168 0 0 0 1 _ HB H5).mono ?_)); rintro e w6 ⟨rfl, hg⟩; replace HB := Lib.hid (HB.out.own hg); replace g0 : Own w w6 := g0.trans hg; clear hg))
  clear HB
  go_upto_region 12 with (first
    | (go_at_call 25; refine (of_at _ _ _).mono ?_; rintro e w7 ⟨rfl, hg⟩; (try replace HX := Lib.hid (HX.out.own hg)); replace g0 : Own w w7 := g0.trans hg; clear hg)
    | (go_at_call 19; refine (pbeats_at xc _ 5 25 [10, 20] 0 _ (Lib.hid (pts_lit _ xc 2 _ 45 rfl (by decide) rfl)) H6).mono ?_; rintro e w8 ⟨sb, rfl, hr, hg⟩; have HX := Lib.hid (cel_of_row hr); clear hr; replace hg := ((Own.refl w7).alloc _).trans hg; replace g0 : Own w w8 := g0.trans hg; clear hg)
    | (go_at_call 21; refine (pcut_at xd _ 1 3 xe 0 _ (Lib.hid (pts_lit _ xd 3 _ 45 rfl (by decide) rfl)) H7).mono ?_; rintro e w9 ⟨sc, rfl, hr, hg⟩; have HY := Lib.hid (pts_of_row hr); clear hr; replace hg := ((Own.refl w7).alloc _).trans hg; replace HX := Lib.hid (HX.out.own hg); replace g0 : Own w w9 := g0.trans hg; clear hg))
  go_wp2_with (first
    | (go_at_call 23; refine (rints_yes [10, 20] _ _ _ (Lib.hid (HX.out.own ((Own.refl _).alloc _))) (Lib.hid (cel_lit rfl rfl (by decide)))).mono ?_; rintro e w10 ⟨rfl, hg⟩; replace hg := ((Own.refl w9).alloc _).trans hg; replace HY := Lib.hid (HY.out.own hg); replace g0 : Own w w10 := g0.trans hg; clear hg HX)
    | (go_at_call 25; refine (of_at _ _ _).mono ?_; rintro e w11 ⟨rfl, hg⟩; replace HY := Lib.hid (HY.out.own hg); replace g0 : Own w w11 := g0.trans hg; clear hg)
    | (go_at_call 24; refine (rsame_yes xe _ _ _ (Lib.hid (HY.out.own ((Own.refl _).alloc _))) (Lib.hid (pts_lit _ xe 2 _ 45 rfl (by decide) rfl))).mono ?_; rintro e w12 ⟨rfl, hg⟩; replace hg := ((Own.refl w11).alloc _).trans hg; replace g0 : Own w w12 := g0.trans hg; clear hg HY))
  go_ret
  exact ⟨rfl, g0⟩
end Go.Proofs.Ytmmgidchgoligaa.MetW
