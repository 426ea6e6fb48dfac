/-
  Walk of the chapter's examples of geom. Condition: none.
-/
import Derived.Test.YtnakacflaaelnaaGeomH
namespace Go.Proofs.Ytnakacflaaelnaa.GeoW
open Go.ChangeShapes Go.WideShapes Go.ChangeAt Go.RowKit
open NumP NumW GeoP

def ex6 : List Pt := [(0, 0), (2, 0), (1, 1), (2, 2), (0, 2), (1, 0)]
def ex4 : List Pt := [(0, 0), (2, 0), (2, 2), (0, 2)]
theorem pts_lit (w : World) (l : List Pt) (n : Nat) (cs : Array Value) (t : TypeId) (hn : l.length = n) (hm : n ≤ maxLen) (hc : (cellsP l).toArray = cs) : Pts (w.alloc (.cells cs t)) (.slice (some ⟨w.heap.size, 0, none⟩) n n) l := by
  subst hc
  subst hn
  exact pts_of_row (World.ownsRow_lit (base := 0) (e := t) (size := 2) w (cellsP l).toArray l.length (Nat.zero_le _) hm (by simpa using cellsP_len l))
set_option maxRecDepth 100000 in
set_option maxHeartbeats 8000000 in
theorem awake_any (w : World) :
    Calls Try.prog 15 #[] w fun e w' => e = .returned (.bool true) ∧ Own w w' := by
  have H1 := Lib.hid (show distV (0, 0) (3, 4) = 25 ∧ distE (0, 0) (3, 4) = 0 by decide)
  have H2 := Lib.hid (show crossV (0, 0) (1, 0) (0, 1) = 1 ∧ crossE (0, 0) (1, 0) (0, 1) = 0 by decide)
  have N1 := Lib.hid (show nrV (0, 5) (-10, 0) (10, 0) 5 = true ∧ nrE (0, 5) (-10, 0) (10, 0) 5 = 0 by decide)
  have N2 := Lib.hid (show nrV (0, 5) (-10, 0) (10, 0) 4 = false ∧ nrE (0, 5) (-10, 0) (10, 0) 4 = 0 by decide)
  have N3 := Lib.hid (show nrV (13, 4) (-10, 0) (10, 0) 5 = true ∧ nrE (13, 4) (-10, 0) (10, 0) 5 = 0 by decide)
  have N4 := Lib.hid (show nrV (13, 4) (-10, 0) (10, 0) 4 = false ∧ nrE (13, 4) (-10, 0) (10, 0) 4 = 0 by decide)
  have T1 := Lib.hid (show touchV ⟨(0, 0), (0, 1000), 300⟩ ⟨(600, 1000), (600, 0), 300⟩ = false ∧ touchE ⟨(0, 0), (0, 1000), 300⟩ ⟨(600, 1000), (600, 0), 300⟩ = 0 by decide)
  have T2 := Lib.hid (show touchV ⟨(0, 0), (0, 1000), 300⟩ ⟨(599, 1000), (599, 0), 300⟩ = true ∧ touchE ⟨(0, 0), (0, 1000), 300⟩ ⟨(599, 1000), (599, 0), 300⟩ = 0 by decide)
  have HH := Lib.hid (show hullE ex6 = 0 ∧ hullL ex6 = ex4 by decide +kernel)
  have I1 := Lib.hid (show insideV (1, 0) ex6 = true ∧ insideE (1, 0) ex6 = 0 by decide +kernel)
  have I2 := Lib.hid (show insideV (3, 1) ex6 = false ∧ insideE (3, 1) ex6 = 0 by decide +kernel)
  have HS := Lib.hid (show decide (ex4 = ex4) = true by decide)
  go_enter Try.func15, Try.ntmps15
  go_upto_region 2 with (fail)
  have k0 : ((w.alloc (.cells #[.int .i64 (-10), .int .i64 0] 23)).alloc (.cells #[.int .i64 10, .int .i64 0] 23)).cell? ⟨w.heap.size, 0, none⟩ = some (.int .i64 (-10)) := by go_simp
  have k1 : ((w.alloc (.cells #[.int .i64 (-10), .int .i64 0] 23)).alloc (.cells #[.int .i64 10, .int .i64 0] 23)).cell? ⟨w.heap.size, 1, none⟩ = some (.int .i64 0) := by go_simp
  have k2 : ((w.alloc (.cells #[.int .i64 (-10), .int .i64 0] 23)).alloc (.cells #[.int .i64 10, .int .i64 0] 23)).cell? ⟨w.heap.size + 1, 0, none⟩ = some (.int .i64 10) := by go_simp
  have k3 : ((w.alloc (.cells #[.int .i64 (-10), .int .i64 0] 23)).alloc (.cells #[.int .i64 10, .int .i64 0] 23)).cell? ⟨w.heap.size + 1, 1, none⟩ = some (.int .i64 0) := by go_simp
  have g0 : Own w ((w.alloc (.cells #[.int .i64 (-10), .int .i64 0] 23)).alloc (.cells #[.int .i64 10, .int .i64 0] 23)) := (((Own.refl w).alloc _).alloc _)
  generalize hW : ((w.alloc (.cells #[.int .i64 (-10), .int .i64 0] 23)).alloc (.cells #[.int .i64 10, .int .i64 0] 23)) = W0 at *
  clear hW
  go_upto_region 16 with (first
    | (go_at_call 11; refine (pdist_at (0, 0) (3, 4) 25 0 _ H1).mono ?_; rintro e w1 ⟨rfl, hg⟩; replace k0 := hg.cell k0; replace k1 := hg.cell k1; replace k2 := hg.cell k2; replace k3 := hg.cell k3; replace g0 : Own w w1 := Own.trans (by first | exact g0 | exact Own.drewN g0 _) hg; clear hg)
    | (go_at_call 13; refine (pcross_at (0, 0) (1, 0) (0, 1) 1 0 _ H2).mono ?_; rintro e w1 ⟨rfl, hg⟩; replace k0 := hg.cell k0; replace k1 := hg.cell k1; replace k2 := hg.cell k2; replace k3 := hg.cell k3; replace g0 : Own w w1 := Own.trans (by first | exact g0 | exact Own.drewN g0 _) hg; clear hg)
    | (go_at_call 16; (first | (with_reducible refine (pnear_at (0, 5) (-10, 0) (10, 0) 5 true 0 _ N1).mono ?_) | (with_reducible refine (pnear_at (0, 5) (-10, 0) (10, 0) 4 false 0 _ N2).mono ?_) | (with_reducible refine (pnear_at (13, 4) (-10, 0) (10, 0) 5 true 0 _ N3).mono ?_) | (with_reducible refine (pnear_at (13, 4) (-10, 0) (10, 0) 4 false 0 _ N4).mono ?_)); rintro e w1 ⟨rfl, hg⟩; replace k0 := hg.cell k0; replace k1 := hg.cell k1; replace k2 := hg.cell k2; replace k3 := hg.cell k3; replace g0 : Own w w1 := Own.trans (by first | exact g0 | exact Own.drewN g0 _) hg; clear hg)
    | (go_at_call 35; refine (disc_at _ _ _ _ _).mono ?_; rintro e w1 ⟨rfl, hg⟩; replace k0 := hg.cell k0; replace k1 := hg.cell k1; replace k2 := hg.cell k2; replace k3 := hg.cell k3; replace g0 : Own w w1 := Own.trans (by first | exact g0 | exact Own.drewN g0 _) hg; clear hg)
    | (go_at_call 18; (first | (with_reducible refine (ptouch_at ⟨(0, 0), (0, 1000), 300⟩ ⟨(600, 1000), (600, 0), 300⟩ false 0 _ T1).mono ?_) | (with_reducible refine (ptouch_at ⟨(0, 0), (0, 1000), 300⟩ ⟨(599, 1000), (599, 0), 300⟩ true 0 _ T2).mono ?_)); rintro e w1 ⟨rfl, hg⟩; replace k0 := hg.cell k0; replace k1 := hg.cell k1; replace k2 := hg.cell k2; replace k3 := hg.cell k3; replace g0 : Own w w1 := Own.trans (by first | exact g0 | exact Own.drewN g0 _) hg; clear hg))
  clear k0 k1 k2 k3
  go_upto_region 17 with (fail)
  have hp := pts_lit w1 ex6 6 _ 23 rfl (by decide) (show (cellsP ex6).toArray = #[.int .i64 0, .int .i64 0, .int .i64 2, .int .i64 0, .int .i64 1, .int .i64 1, .int .i64 2, .int .i64 2, .int .i64 0, .int .i64 2, .int .i64 1, .int .i64 0] from rfl)
  replace g0 : Own w (w1.alloc (.cells #[.int .i64 0, .int .i64 0, .int .i64 2, .int .i64 0, .int .i64 1, .int .i64 1, .int .i64 2, .int .i64 2, .int .i64 0, .int .i64 2, .int .i64 1, .int .i64 0] 23)) := g0.alloc _
  generalize w1.alloc (.cells #[.int .i64 0, .int .i64 0, .int .i64 2, .int .i64 0, .int .i64 1, .int .i64 1, .int .i64 2, .int .i64 2, .int .i64 0, .int .i64 2, .int .i64 1, .int .i64 0] 23) = W1 at *
  generalize w1.heap.size = B at *
  have HP := Lib.hid hp
  clear hp
  go_wp2_with (go_at_call 20; refine (phull_at ex6 _ _ HP).mono ?_)
  rintro e w2 ⟨hv, rfl, hk, hg⟩
  rw [HH.out.1]
  rw [HH.out.2] at hk
  replace HP := Lib.hid (HP.out.own hg)
  replace g0 : Own w w2 := g0.trans hg
  have HK := Lib.hid hk
  clear hg hk HH
  go_upto_region 20 with (go_at_call 23; (first | (with_reducible refine (pinside_at (1, 0) ex6 _ true 0 _ HP I1).mono ?_) | (with_reducible refine (pinside_at (3, 1) ex6 _ false 0 _ HP I2).mono ?_)); rintro e w1 ⟨rfl, hg⟩; replace HP := Lib.hid (HP.out.own hg); replace HK := Lib.hid (HK.out.own hg); replace g0 : Own w w1 := g0.trans hg; clear hg)
  go_wp2_with (go_at_call 22; refine (rsame_at ex4 ex4 _ _ true _ (Lib.hid (HK.out.own ((Own.refl _).alloc _))) (Lib.hid (pts_lit _ ex4 4 _ _ rfl (by decide) rfl)) HS).mono ?_; rintro e w1 ⟨rfl, hg⟩; replace g0 : Own w w1 := (g0.alloc _).trans hg; clear hg)
  go_ret
  exact ⟨rfl, g0⟩
end Go.Proofs.Ytnakacflaaelnaa.GeoW
