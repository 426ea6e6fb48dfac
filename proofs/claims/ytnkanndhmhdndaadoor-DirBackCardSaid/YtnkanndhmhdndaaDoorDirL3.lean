/-
  Walks of the laws of package dir: DirBack. Condition: the tables of words lie in memory (Wds).
-/
import Derived.Test.YtnkanndhmhdndaaDoorDirT
namespace Go.Proofs.YtnkanndhmhdndaaDoor.DirW
open Go.ChangeShapes Go.WideShapes Go.ChangeAt Go.RowKit
open PairW StrW DirP
set_option maxRecDepth 100000 in
set_option maxHeartbeats 2000000 in
theorem DirBack_walk (d l : Int) (s : ByteArray) (w : World) (HT : Hid (Wds w)) :
    Calls Tryd.prog 9 #[.int .i64 d, .int .i64 l, .string s] w fun e w' => e = .returned (.bool true) ∧ Own w w' := by
  have g0 := Own.refl w
  obtain ⟨x, y, f, hp⟩ := prs_ex s
  have HP := Lib.hid hp
  obtain ⟨t, ht⟩ : ∃ t, namV d l = t := ⟨_, rfl⟩
  by_cases h : (0 ≤ d ∧ d ≤ 8) ∧ -1 ≤ l ∧ l ≤ 1
  · have hc : chk d l = 0 := if_pos h
    have HC := Lib.hid hc
    have HN := Lib.hid (And.intro hc ht)
    have HQ := Lib.hid (prs_of (And.intro hc ht))
    clear hc ht h
    rcases prs_err hp with rfl | rfl
    · have HK := Lib.hid (show chk x y = 0 ∧ namV x y = s from ⟨if_pos ⟨(nm_prs hp).1, (nm_prs hp).2.1⟩, by unfold namV; rw [if_pos ⟨(nm_prs hp).1, (nm_prs hp).2.1⟩]; exact (nm_prs hp).2.2⟩)
      clear hp
      go_enter Tryd.func9, Tryd.ntmps9
      go_wp2_with (first
        | (go_at_call 20; with_reducible refine (pname_at d l 0 t _ (Lib.hid (HT.out.own g0)) HN).mono ?_; rintro e w1 ⟨rfl, hg⟩; replace g0 : Own w w1 := g0.trans hg; clear hg)
        | (go_at_call 15; with_reducible refine (pcheck_at d l 0 _ HC).mono ?_; rintro e w1 ⟨rfl, rfl⟩)
        | (go_at_call 26; with_reducible refine (named_yes t d l _ (Lib.hid (HT.out.own g0)) HN HQ).mono ?_; rintro e w2 ⟨rfl, hg⟩; replace g0 : Own w w2 := g0.trans hg; clear hg)
        | (go_at_call 22; with_reducible refine (pparse_at s x y 0 _ (Lib.hid (HT.out.own g0)) HP).mono ?_; rintro e w3 ⟨rfl, hg⟩; replace g0 : Own w w3 := g0.trans hg; clear hg)
        | (go_at_call 26; with_reducible refine (named_yes s x y _ (Lib.hid (HT.out.own g0)) HK HP).mono ?_; rintro e w4 ⟨rfl, hg⟩; replace g0 : Own w w4 := g0.trans hg; clear hg)
        | (go_at_call 17; with_reducible refine (awake_at _ (Lib.hid (HT.out.own g0))).mono ?_; rintro e w9 ⟨rfl, hg⟩; replace g0 : Own w w9 := g0.trans hg; clear hg))
      go_ret
      exact ⟨rfl, g0⟩
    · clear hp
      go_enter Tryd.func9, Tryd.ntmps9
      go_wp2_with (first
        | (go_at_call 20; with_reducible refine (pname_at d l 0 t _ (Lib.hid (HT.out.own g0)) HN).mono ?_; rintro e w1 ⟨rfl, hg⟩; replace g0 : Own w w1 := g0.trans hg; clear hg)
        | (go_at_call 15; with_reducible refine (pcheck_at d l 0 _ HC).mono ?_; rintro e w1 ⟨rfl, rfl⟩)
        | (go_at_call 26; with_reducible refine (named_yes t d l _ (Lib.hid (HT.out.own g0)) HN HQ).mono ?_; rintro e w2 ⟨rfl, hg⟩; replace g0 : Own w w2 := g0.trans hg; clear hg)
        | (go_at_call 22; with_reducible refine (pparse_at s x y 8 _ (Lib.hid (HT.out.own g0)) HP).mono ?_; rintro e w3 ⟨rfl, hg⟩; replace g0 : Own w w3 := g0.trans hg; clear hg)
        | (go_at_call 17; with_reducible refine (awake_at _ (Lib.hid (HT.out.own g0))).mono ?_; rintro e w9 ⟨rfl, hg⟩; replace g0 : Own w w9 := g0.trans hg; clear hg))
      go_ret
      exact ⟨rfl, g0⟩
  · have hc : chk d l = 1 := if_neg h
    have HC := Lib.hid hc
    have HN := Lib.hid (And.intro hc ht)
    clear hc ht h
    rcases prs_err hp with rfl | rfl
    · have HK := Lib.hid (show chk x y = 0 ∧ namV x y = s from ⟨if_pos ⟨(nm_prs hp).1, (nm_prs hp).2.1⟩, by unfold namV; rw [if_pos ⟨(nm_prs hp).1, (nm_prs hp).2.1⟩]; exact (nm_prs hp).2.2⟩)
      clear hp
      go_enter Tryd.func9, Tryd.ntmps9
      go_wp2_with (first
        | (go_at_call 20; with_reducible refine (pname_at d l 1 t _ (Lib.hid (HT.out.own g0)) HN).mono ?_; rintro e w1 ⟨rfl, hg⟩; replace g0 : Own w w1 := g0.trans hg; clear hg)
        | (go_at_call 15; with_reducible refine (pcheck_at d l 1 _ HC).mono ?_; rintro e w1 ⟨rfl, rfl⟩)
        | (go_at_call 22; with_reducible refine (pparse_at s x y 0 _ (Lib.hid (HT.out.own g0)) HP).mono ?_; rintro e w3 ⟨rfl, hg⟩; replace g0 : Own w w3 := g0.trans hg; clear hg)
        | (go_at_call 26; with_reducible refine (named_yes s x y _ (Lib.hid (HT.out.own g0)) HK HP).mono ?_; rintro e w4 ⟨rfl, hg⟩; replace g0 : Own w w4 := g0.trans hg; clear hg)
        | (go_at_call 17; with_reducible refine (awake_at _ (Lib.hid (HT.out.own g0))).mono ?_; rintro e w9 ⟨rfl, hg⟩; replace g0 : Own w w9 := g0.trans hg; clear hg))
      go_ret
      exact ⟨rfl, g0⟩
    · clear hp
      go_enter Tryd.func9, Tryd.ntmps9
      go_wp2_with (first
        | (go_at_call 20; with_reducible refine (pname_at d l 1 t _ (Lib.hid (HT.out.own g0)) HN).mono ?_; rintro e w1 ⟨rfl, hg⟩; replace g0 : Own w w1 := g0.trans hg; clear hg)
        | (go_at_call 15; with_reducible refine (pcheck_at d l 1 _ HC).mono ?_; rintro e w1 ⟨rfl, rfl⟩)
        | (go_at_call 22; with_reducible refine (pparse_at s x y 8 _ (Lib.hid (HT.out.own g0)) HP).mono ?_; rintro e w3 ⟨rfl, hg⟩; replace g0 : Own w w3 := g0.trans hg; clear hg)
        | (go_at_call 17; with_reducible refine (awake_at _ (Lib.hid (HT.out.own g0))).mono ?_; rintro e w9 ⟨rfl, hg⟩; replace g0 : Own w w9 := g0.trans hg; clear hg))
      go_ret
      exact ⟨rfl, g0⟩
end Go.Proofs.YtnkanndhmhdndaaDoor.DirW
