/-
  Walk of the laws' awake of package cue: the chapter's examples. Condition: none.
-/
import Derived.Test.YtlepcahangkmiaaCuePD
import Derived.Test.YtlepcahangkmiaaCuePE
namespace Go.Proofs.Ytlepcahangkmiaa.CueW
open Go.ChangeShapes Go.WideShapes Go.ChangeAt Go.RowKit
open PairW CelW CueP
def xa : List Pt := [(0, 500), (3, 510), (5, 530)]
def xt : List Pt := [(0, 4)]
def xf : List Pt := [(0, 4), (1, 3), (3, 10)]
def xb : List Pt := [(0, 0), (3, 2)]
def xc : List Pt := [(0, 500)]
def xd : List Int := [0, 2, -10]
theorem pts_lit (w : World) (l : List Pt) (n : Nat) (cs : Array Value) (t : TypeId) (hn : l.length = n) (hm : n ≤ maxLen) (hc : (cellsP l).toArray = cs) : Pts (w.alloc (.cells cs t)) (.slice (some ⟨w.heap.size, 0, none⟩) n n) l := by
  subst hc
  subst hn
  exact pts_of_row (World.ownsRow_lit (base := 0) (e := t) (size := 2) w (cellsP l).toArray l.length (Nat.zero_le _) hm (by simpa using cellsP_len l))
/-- The integers of a row, by a function. -/
theorem ints_at {w : World} {A : Option Addr} {n n' c : Nat} {D : Nat → Int} (h : Cel w (.slice A n c) (cellsI (mp D n'))) : 0 < n' → ∃ b off : Nat, A = some ⟨b, off, none⟩ ∧ ∀ k, k < n' → w.cell? ⟨b, off + k, none⟩ = some (.int .i64 (D k)) := fun h0 => by
  obtain ⟨A', c', hv, _, _, h4⟩ := h
  injection hv with q1 q2 q3
  subst q1
  obtain ⟨b, off, h5, h6⟩ := h4 (by rw [cellsI_len, mp_len]; exact h0)
  exact ⟨b, off, h5, fun k hk => h6 k _ (by unfold cellsI; rw [List.getElem?_map, mp_at hk]; rfl)⟩
set_option maxRecDepth 100000 in
set_option maxHeartbeats 4000000 in
theorem awake_at (w : World) :
    Calls Try.prog 12 #[] w fun e w' => e = .returned (.bool true) ∧ PairW.Own w w' := by
  have H1 := Lib.hid (show fiE xa = 0 ∧ fiV xa = xf by decide +kernel)
  have H2 := Lib.hid (show drE xa xt = 0 ∧ drV xa xt = xd by decide +kernel)
  have H3 := Lib.hid (show drE xa xt = 0 ∧ woV xa xt = 10 by decide +kernel)
  have H4 := Lib.hid (show fiE xb = 1 ∧ fiV xb = [] by decide +kernel)
  have H5 := Lib.hid (show ccE xc = 4 by decide +kernel)
  have g0 := PairW.Own.refl w
  have tok1 : True := trivial
  go_enter Try.func12, Try.ntmps12
  go_upto_region 2 with (fail)
  have hp := pts_lit w xa 3 #[.int .i64 0, .int .i64 500, .int .i64 3, .int .i64 510, .int .i64 5, .int .i64 530] 40 rfl (by decide) rfl
  have hq := MetW.pts_take hp (k := 1) (by decide)
  replace g0 := g0.alloc (.cells #[.int .i64 0, .int .i64 500, .int .i64 3, .int .i64 510, .int .i64 5, .int .i64 530] 40)
  generalize w.alloc (.cells #[.int .i64 0, .int .i64 500, .int .i64 3, .int .i64 510, .int .i64 5, .int .i64 530] 40) = W1 at *
  have HB := Lib.hid hp
  have HQ := Lib.hid (show Pts W1 _ xc from hq)
  clear hp hq
  go_upto_region 6 with (first
    | (go_at_call 13; have _t := tok1; refine (pfit_at xa _ xf 0 _ HB H1).mono ?_; rintro e w2 ⟨sa, rfl, hr, hg⟩; have HX1 := Lib.hid (pts_of_row hr); replace HB := Lib.hid (HB.out.own hg); replace HQ := Lib.hid (HQ.out.own hg); replace g0 : PairW.Own w w2 := g0.trans hg; clear hg hr tok1)
    | (go_at_call 16; refine (pdrift_at xa xt _ _ xd 0 _ (Lib.hid (HB.out.own ((PairW.Own.refl _).alloc _))) (Lib.hid (pts_lit _ xt 1 _ 45 rfl (by decide) rfl)) H2).mono ?_; rintro e w3 ⟨sb, rfl, hr, hg⟩; have HX2 := Lib.hid (cel_of_row hr); replace hg := ((PairW.Own.refl w2).alloc _).trans hg; replace HB := Lib.hid (HB.out.own hg); replace HQ := Lib.hid (HQ.out.own hg); replace HX1 := Lib.hid (HX1.out.own hg); replace g0 : PairW.Own w w3 := g0.trans hg; clear hg hr)
    | (go_at_call 18; refine (pworst_at xa xt _ _ 10 0 _ (Lib.hid (HB.out.own ((PairW.Own.refl _).alloc _))) (Lib.hid (pts_lit _ xt 1 _ 45 rfl (by decide) rfl)) H3).mono ?_; rintro e w4 ⟨rfl, hg⟩; replace hg := ((PairW.Own.refl w3).alloc _).trans hg; replace HQ := Lib.hid (HQ.out.own hg); replace HX1 := Lib.hid (HX1.out.own hg); replace HX2 := Lib.hid (HX2.out.own hg); replace g0 : PairW.Own w w4 := g0.trans hg; clear hg HB)
    | (go_at_call 13; refine (pfit_at xb _ [] 1 _ (Lib.hid (pts_lit _ xb 2 _ 40 rfl (by decide) rfl)) H4).mono ?_; rintro e w5 ⟨sc, rfl, hr, hg⟩; replace hg := ((PairW.Own.refl w4).alloc _).trans hg; replace HQ := Lib.hid (HQ.out.own hg); replace HX1 := Lib.hid (HX1.out.own hg); replace HX2 := Lib.hid (HX2.out.own hg); replace g0 : PairW.Own w w5 := g0.trans hg; clear hg hr))
  go_wp2_with (first
    | (go_at_call 10; refine (pcheck_at xc _ 4 _ HQ H5).mono ?_; rintro e w6 ⟨rfl, hg⟩; replace HX1 := Lib.hid (HX1.out.own hg); replace HX2 := Lib.hid (HX2.out.own hg); replace g0 : PairW.Own w w6 := g0.trans hg; clear hg HQ)
    | (go_at_call 15; refine (rtempos_yes xf _ _ _ (Lib.hid (HX1.out.own ((PairW.Own.refl _).alloc _))) (Lib.hid (pts_lit _ xf 3 _ 45 rfl (by decide) rfl))).mono ?_; rintro e w7 ⟨rfl, hg⟩; replace hg := ((PairW.Own.refl w6).alloc _).trans hg; replace HX2 := Lib.hid (HX2.out.own hg); replace g0 : PairW.Own w w7 := g0.trans hg; clear hg HX1)
    | (go_at_call 20; refine (rints_yes xd _ _ _ (Lib.hid (HX2.out.own ((PairW.Own.refl _).alloc _))) (Lib.hid (cel_lit rfl rfl (by unfold maxLen; decide)))).mono ?_; rintro e w8 ⟨rfl, hg⟩; replace hg := ((PairW.Own.refl w7).alloc _).trans hg; replace g0 : PairW.Own w w8 := g0.trans hg; clear hg HX2))
  go_ret
  exact ⟨rfl, g0⟩
end Go.Proofs.Ytlepcahangkmiaa.CueW
