/-
  Walks of the laws of package dir: DirChecks, DirRotates, DirNames, DirParses. Condition: the tables of words lie in memory (Wds).
-/
import Derived.Test.YtnkanndhmhdndaaDoorDirC
import Derived.Test.YtnkanndhmhdndaaDoorDirT
namespace Go.Proofs.YtnkanndhmhdndaaDoor.DirW
open Go.ChangeShapes Go.WideShapes Go.ChangeAt Go.RowKit
open PairW StrW DirP
set_option maxRecDepth 100000 in
set_option maxHeartbeats 2000000 in
theorem DirChecks_walk (d l : Int) (w : World) (HT : Hid (Wds w)) :
    Calls Tryd.prog 3 #[.int .i64 d, .int .i64 l] w fun e w' => e = .returned (.bool true) ∧ Own w w' := by
  obtain ⟨v, hv⟩ : ∃ x, mirV d = x := ⟨_, rfl⟩
  obtain ⟨e0, he0⟩ : ∃ x, dirE d = x := ⟨_, rfl⟩
  obtain ⟨x, hx⟩ : ∃ x, eigV d = x := ⟨_, rfl⟩
  obtain ⟨y, hy⟩ : ∃ x, eigE d = x := ⟨_, rfl⟩
  obtain ⟨c, hc⟩ : ∃ x, chk d l = x := ⟨_, rfl⟩
  have HM := Lib.hid (And.intro hv he0)
  have HE := Lib.hid (And.intro hx hy)
  have HC := Lib.hid hc
  clear hv he0 hx hy hc
  have d0 : (v == v) = true := beq_self_eq_true _
  have d1 : (e0 == e0) = true := beq_self_eq_true _
  have d2 : (x == x) = true := beq_self_eq_true _
  have d3 : (y == y) = true := beq_self_eq_true _
  have d4 : (c == c) = true := beq_self_eq_true _
  have g0 := Own.refl w
  go_enter Tryd.func3, Tryd.ntmps3
  go_wp2_with (first
    | (go_at_call 11; with_reducible refine (pmirror_at d v e0 _ HM).mono ?_; rintro e w1 ⟨rfl, rfl⟩)
    | (go_at_call 12; with_reducible refine (rmirror_at d v e0 _ HM).mono ?_; rintro e w1 ⟨rfl, rfl⟩)
    | (go_at_call 13; with_reducible refine (peighth_at d x y _ HE).mono ?_; rintro e w1 ⟨rfl, rfl⟩)
    | (go_at_call 14; with_reducible refine (reighth_at d x y _ HE).mono ?_; rintro e w1 ⟨rfl, rfl⟩)
    | (go_at_call 15; with_reducible refine (pcheck_at d l c _ HC).mono ?_; rintro e w1 ⟨rfl, rfl⟩)
    | (go_at_call 16; with_reducible refine (rcheck_at d l c _ HC).mono ?_; rintro e w1 ⟨rfl, rfl⟩)
    | (go_at_call 17; with_reducible refine (awake_at _ (Lib.hid (HT.out.own g0))).mono ?_; rintro e w9 ⟨rfl, hg⟩; replace g0 : Own w w9 := g0.trans hg; clear hg))
  go_ret
  exact ⟨rfl, g0⟩
set_option maxRecDepth 100000 in
set_option maxHeartbeats 2000000 in
theorem DirRotates_walk (d n : Int) (w : World) (HT : Hid (Wds w)) :
    Calls Tryd.prog 4 #[.int .i64 d, .int .i64 n] w fun e w' => e = .returned (.bool true) ∧ Own w w' := by
  obtain ⟨v, hv⟩ : ∃ x, rotV d n = x := ⟨_, rfl⟩
  obtain ⟨e0, he0⟩ : ∃ x, dirE d = x := ⟨_, rfl⟩
  have HM := Lib.hid (And.intro hv he0)
  clear hv he0
  have d0 : (v == v) = true := beq_self_eq_true _
  have d1 : (e0 == e0) = true := beq_self_eq_true _
  have g0 := Own.refl w
  go_enter Tryd.func4, Tryd.ntmps4
  go_wp2_with (first
    | (go_at_call 18; with_reducible refine (protate_at d n v e0 _ HM).mono ?_; rintro e w1 ⟨rfl, rfl⟩)
    | (go_at_call 19; with_reducible refine (rrotate_at d n v e0 _ HM).mono ?_; rintro e w1 ⟨rfl, rfl⟩)
    | (go_at_call 17; with_reducible refine (awake_at _ (Lib.hid (HT.out.own g0))).mono ?_; rintro e w9 ⟨rfl, hg⟩; replace g0 : Own w w9 := g0.trans hg; clear hg))
  go_ret
  exact ⟨rfl, g0⟩
set_option maxRecDepth 100000 in
set_option maxHeartbeats 2000000 in
theorem DirNames_walk (d l : Int) (w : World) (HT : Hid (Wds w)) :
    Calls Tryd.prog 5 #[.int .i64 d, .int .i64 l] w fun e w' => e = .returned (.bool true) ∧ Own w w' := by
  obtain ⟨c, hc⟩ : ∃ x, chk d l = x := ⟨_, rfl⟩
  obtain ⟨s, hs⟩ : ∃ x, namV d l = x := ⟨_, rfl⟩
  have HM := Lib.hid (And.intro hc hs)
  clear hc hs
  have d0 : (s.toList == s.toList) = true := beq_self_eq_true _
  have d1 : (c == c) = true := beq_self_eq_true _
  have g0 := Own.refl w
  go_enter Tryd.func5, Tryd.ntmps5
  go_wp2_with (first
    | (go_at_call 20; with_reducible refine (pname_at d l c s _ (Lib.hid (HT.out.own g0)) HM).mono ?_; rintro e w1 ⟨rfl, hg⟩; replace g0 : Own w w1 := g0.trans hg; clear hg)
    | (go_at_call 21; with_reducible refine (rname_at d l c s _ HM).mono ?_; rintro e w2 ⟨rfl, hg⟩; replace g0 : Own w w2 := g0.trans hg; clear hg)
    | (go_at_call 17; with_reducible refine (awake_at _ (Lib.hid (HT.out.own g0))).mono ?_; rintro e w9 ⟨rfl, hg⟩; replace g0 : Own w w9 := g0.trans hg; clear hg))
  go_ret
  exact ⟨rfl, g0⟩
set_option maxRecDepth 100000 in
set_option maxHeartbeats 2000000 in
theorem DirParses_walk (s : ByteArray) (w : World) (HT : Hid (Wds w)) :
    Calls Tryd.prog 6 #[.string s] w fun e w' => e = .returned (.bool true) ∧ Own w w' := by
  obtain ⟨d, l, e0, hp⟩ := prs_ex s
  have HP := Lib.hid hp
  clear hp
  have d0 : (d == d) = true := beq_self_eq_true _
  have d1 : (l == l) = true := beq_self_eq_true _
  have d2 : (e0 == e0) = true := beq_self_eq_true _
  have g0 := Own.refl w
  go_enter Tryd.func6, Tryd.ntmps6
  go_wp2_with (first
    | (go_at_call 22; with_reducible refine (pparse_at s d l e0 _ (Lib.hid (HT.out.own g0)) HP).mono ?_; rintro e w1 ⟨rfl, hg⟩; replace g0 : Own w w1 := g0.trans hg; clear hg)
    | (go_at_call 23; with_reducible refine (rparse_at s d l e0 _ HP).mono ?_; rintro e w2 ⟨rfl, hg⟩; replace g0 : Own w w2 := g0.trans hg; clear hg)
    | (go_at_call 17; with_reducible refine (awake_at _ (Lib.hid (HT.out.own g0))).mono ?_; rintro e w9 ⟨rfl, hg⟩; replace g0 : Own w w9 := g0.trans hg; clear hg))
  go_ret
  exact ⟨rfl, g0⟩
end Go.Proofs.YtnkanndhmhdndaaDoor.DirW
