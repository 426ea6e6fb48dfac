/-
  Walks of the small functions of the laws of package tempo, and of the chapter's examples. Condition: none.
-/
import Derived.Test.YtpgeiflbmcjaaaaTempoB
import Derived.Test.YtpgeiflbmcjaaaaTempoC
import Derived.Test.YtpgeiflbmcjaaaaTempoPD
import Derived.Test.YtpgeiflbmcjaaaaTempoPF
import Derived.Test.YtpgeiflbmcjaaaaTempoPH
namespace Go.Proofs.Ytpgeiflbmcjaaaa.TemW
open Go.ChangeShapes Go.WideShapes Go.ChangeAt Go.RowKit
open PairW CelW TemP
set_option maxRecDepth 100000 in
theorem when_at (l : List Pt) (sv : Value) (t m : Int) (w : World) (HP : Hid (Pts w sv l)) (H : Hid (chkE l = 0 ∧ (0 ≤ t ∧ t ≤ 8192) ∧ mV l t = m)) :
    Calls Try.prog 26 #[sv, .int .i64 t, .int .i64 m] w fun e w' => e = .returned (.bool true) ∧ Own w w' := by
  have HW := Lib.hid (show whE l t = 0 ∧ whV l t = m by have := wh_ok H.out.1 H.out.2.1; rw [H.out.2.2] at this; exact this)
  have dm : (m == m) = true := beq_self_eq_true m
  clear H
  go_enter Try.func26, Try.ntmps26
  go_wp2_with (go_at_call 14; refine (pWhen_at l _ t m 0 _ HP HW).mono ?_; rintro e w1 ⟨rfl, hg⟩)
  go_ret
  exact ⟨rfl, hg⟩
set_option maxRecDepth 100000 in
theorem back_at (l : List Pt) (sv : Value) (m t : Int) (w : World) (HP : Hid (Pts w sv l)) (H : Hid (chkE l = 0 ∧ (0 ≤ m ∧ m ≤ mV l 8192) ∧ IsT l m t)) :
    Calls Try.prog 25 #[sv, .int .i64 m, .int .i64 t] w fun e w' => e = .returned (.bool true) ∧ Own w w' := by
  obtain ⟨N, hN⟩ : ∃ N, N = 8192 := ⟨8192, rfl⟩
  have HN := Lib.hid hN
  have HW := Lib.hid (tk_ok hN H.out.1 H.out.2.1 H.out.2.2)
  have dm : (t == t) = true := beq_self_eq_true t
  clear H hN
  go_enter Try.func25, Try.ntmps25
  go_wp2_with (go_at_call 15; refine (pTick_at l _ m t 0 N _ HP HN HW).mono ?_; rintro e w1 ⟨rfl, hg⟩)
  go_ret
  exact ⟨rfl, hg⟩
def xa : List Pt := [(0, 10), (4, 20)]
def xb : List Pt := [(0, 10), (4, 15), (8, 20)]
def xc : List Pt := [(0, 10), (4, 10), (8, 20)]
def xd : List Pt := [(0, 10), (8, 20)]
def xe : List Pt := [(0, 10)]
def xf : List Pt := [(0, 8)]
theorem pts_lit (w : World) (l : List Pt) (n : Nat) (cs : Array Value) (t : TypeId) (hn : l.length = n) (hm : n ≤ maxLen) (hc : (cellsP l).toArray = cs) : Pts (w.alloc (.cells cs t)) (.slice (some ⟨w.heap.size, 0, none⟩) n n) l := by
  subst hc
  subst hn
  exact pts_of_row (World.ownsRow_lit (base := 0) (e := t) (size := 2) w (cellsP l).toArray l.length (Nat.zero_le _) hm (by simpa using cellsP_len l))
set_option maxRecDepth 100000 in
set_option maxHeartbeats 4000000 in
theorem awake_any (w : World) :
    Calls Try.prog 13 #[] w fun e w' => e = .returned (.bool true) ∧ Own w w' := by
  have hc : chkE xa = 0 := by decide +kernel
  have m0 : mV xa 0 = 0 := by decide +kernel
  have m4 : mV xa 4 = 40 := by decide +kernel
  have m6 : mV xa 6 = 80 := by decide +kernel
  have m8 : mV xa 8192 = 163800 := by decide +kernel
  have t5 : IsT xa 79 5 := ⟨by decide, by decide, by decide +kernel, fun _ => by decide +kernel⟩
  have t6 : IsT xa 80 6 := ⟨by decide, by decide, by decide +kernel, fun _ => by decide +kernel⟩
  have t8 : IsT xa 163800 8192 := ⟨by decide, by decide, by decide +kernel, fun h => absurd h (by decide)⟩
  have H1 := Lib.hid (show chkE xa = 0 ∧ ((0 : Int) ≤ 0 ∧ (0 : Int) ≤ 8192) ∧ mV xa 0 = 0 from ⟨hc, by decide, m0⟩)
  have H2 := Lib.hid (show chkE xa = 0 ∧ ((0 : Int) ≤ 4 ∧ (4 : Int) ≤ 8192) ∧ mV xa 4 = 40 from ⟨hc, by decide, m4⟩)
  have H3 := Lib.hid (show chkE xa = 0 ∧ ((0 : Int) ≤ 6 ∧ (6 : Int) ≤ 8192) ∧ mV xa 6 = 80 from ⟨hc, by decide, m6⟩)
  have H4 := Lib.hid (show chkE xa = 0 ∧ ((0 : Int) ≤ 8192 ∧ (8192 : Int) ≤ 8192) ∧ mV xa 8192 = 163800 from ⟨hc, by decide, m8⟩)
  have H5 := Lib.hid (show chkE xa = 0 ∧ ((0 : Int) ≤ 79 ∧ 79 ≤ mV xa 8192) ∧ IsT xa 79 5 from ⟨hc, by rw [m8]; decide, t5⟩)
  have H6 := Lib.hid (show chkE xa = 0 ∧ ((0 : Int) ≤ 80 ∧ 80 ≤ mV xa 8192) ∧ IsT xa 80 6 from ⟨hc, by rw [m8]; decide, t6⟩)
  have H7 := Lib.hid (show chkE xa = 0 ∧ ((0 : Int) ≤ 163800 ∧ 163800 ≤ mV xa 8192) ∧ IsT xa 163800 8192 from ⟨hc, by rw [m8]; decide, t8⟩)
  obtain ⟨N, hN⟩ : ∃ N, N = 8192 := ⟨8192, rfl⟩
  have HN := Lib.hid hN
  have H8 := Lib.hid (tk_no (l := xa) (m := 163801) N hc (by rw [m8]; decide))
  have H9 := Lib.hid (show rpE 0 2 4 10 20 = 0 ∧ rpV 0 2 4 10 20 = xb by decide +kernel)
  have H10 := Lib.hid (show chkE xc = 0 ∧ nmV xc = xd by decide +kernel)
  have H11 := Lib.hid (show scE xe 3 4 = 0 ∧ scV xe 3 4 = xf by decide +kernel)
  have g0 := Own.refl w
  have tok1 : True := trivial
  have tok2 : True := trivial
  clear hc m0 m4 m6 m8 t5 t6 t8 hN
  go_enter Try.func13, Try.ntmps13
  go_upto_region 2 with (fail)
  have hp := pts_lit w xa 2 #[.int .i64 0, .int .i64 10, .int .i64 4, .int .i64 20] 38 rfl (by decide) rfl
  replace g0 := g0.alloc (.cells #[.int .i64 0, .int .i64 10, .int .i64 4, .int .i64 20] 38)
  generalize w.alloc (.cells #[.int .i64 0, .int .i64 10, .int .i64 4, .int .i64 20] 38) = W1 at *
  have HB := Lib.hid hp
  clear hp
  go_upto_region 7 with (first
    | (go_at_call 26; (first | (with_reducible refine (when_at xa _ 0 0 _ HB H1).mono ?_) | (with_reducible refine (when_at xa _ 4 40 _ HB H2).mono ?_) | (with_reducible refine (when_at xa _ 6 80 _ HB H3).mono ?_) | (with_reducible refine (when_at xa _ 8192 163800 _ HB H4).mono ?_)); rintro e w2 ⟨rfl, hg⟩; replace HB := Lib.hid (HB.out.own hg); replace g0 : Own w w2 := g0.trans hg; clear hg)
    | (go_at_call 25; (first | (with_reducible refine (back_at xa _ 79 5 _ HB H5).mono ?_) | (with_reducible refine (back_at xa _ 80 6 _ HB H6).mono ?_) | (with_reducible refine (back_at xa _ 163800 8192 _ HB H7).mono ?_)); rintro e w2 ⟨rfl, hg⟩; replace HB := Lib.hid (HB.out.own hg); replace g0 : Own w w2 := g0.trans hg; clear hg)
    | (go_at_call 15; refine (pTick_at xa _ 163801 0 1 N _ HB HN H8).mono ?_; rintro e w3 ⟨rfl, hg⟩; replace g0 : Own w w3 := g0.trans hg; clear hg))
  clear HB
  go_upto_region 12 with (first
    | (go_at_call 20; refine (pramp_at 0 2 4 10 20 xb 0 _ H9).mono ?_; rintro e w4 ⟨sa, rfl, hr, hg⟩; have HX1 := Lib.hid (pts_of_row hr); replace g0 : Own w w4 := g0.trans hg; clear hg hr)
    | (go_at_call 16; refine (pnorm_at xc _ xd 0 _ (Lib.hid (pts_lit _ xc 3 _ 38 rfl (by decide) rfl)) H10).mono ?_; rintro e w5 ⟨sb, rfl, hr, hg⟩; have HX2 := Lib.hid (pts_of_row hr); replace hg := ((Own.refl w4).alloc _).trans hg; replace HX1 := Lib.hid (HX1.out.own hg); replace g0 : Own w w5 := g0.trans hg; clear hg hr)
    | (go_at_call 17; refine (pscaled_at xe _ 3 4 xf 0 _ (Lib.hid (pts_lit _ xe 1 _ 38 rfl (by decide) rfl)) H11).mono ?_; rintro e w6 ⟨sc, rfl, hr, hg⟩; have HX3 := Lib.hid (pts_of_row hr); replace hg := ((Own.refl w5).alloc _).trans hg; replace HX1 := Lib.hid (HX1.out.own hg); replace HX2 := Lib.hid (HX2.out.own hg); replace g0 : Own w w6 := g0.trans hg; clear hg hr))
  go_wp2_with (first
    | (go_at_call 22; have _t := tok1; refine (rsame_yes xb _ _ _ (Lib.hid (HX1.out.own ((Own.refl _).alloc _))) (Lib.hid (pts_lit _ xb 3 _ 38 rfl (by decide) rfl))).mono ?_; rintro e w7 ⟨rfl, hg⟩; replace hg := ((Own.refl w6).alloc _).trans hg; replace HX2 := Lib.hid (HX2.out.own hg); replace HX3 := Lib.hid (HX3.out.own hg); replace g0 : Own w w7 := g0.trans hg; clear hg HX1 tok1)
    | (go_at_call 22; have _t := tok2; refine (rsame_yes xd _ _ _ (Lib.hid (HX2.out.own ((Own.refl _).alloc _))) (Lib.hid (pts_lit _ xd 2 _ 38 rfl (by decide) rfl))).mono ?_; rintro e w8 ⟨rfl, hg⟩; replace hg := ((Own.refl w7).alloc _).trans hg; replace HX3 := Lib.hid (HX3.out.own hg); replace g0 : Own w w8 := g0.trans hg; clear hg HX2 tok2)
    | (go_at_call 22; refine (rsame_yes xf _ _ _ (Lib.hid (HX3.out.own ((Own.refl _).alloc _))) (Lib.hid (pts_lit _ xf 1 _ 38 rfl (by decide) rfl))).mono ?_; rintro e w9 ⟨rfl, hg⟩; replace hg := ((Own.refl w8).alloc _).trans hg; replace g0 : Own w w9 := g0.trans hg; clear hg HX3))
  go_ret
  exact ⟨rfl, g0⟩
end Go.Proofs.Ytpgeiflbmcjaaaa.TemW
