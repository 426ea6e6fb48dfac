/-
  Walks of the laws of package dir: rotates, mirrors, named and awake. Condition: the tables of words lie in memory (Wds).
-/
import Derived.Test.YtnkanndhmhdndaaDoorDirPC
namespace Go.Proofs.YtnkanndhmhdndaaDoor.DirW
open Go.ChangeShapes Go.WideShapes Go.ChangeAt Go.RowKit
open PairW StrW DirP
theorem mirrors_yes (v d : Int) (w : World) (H : Hid (mirV d = v ∧ dirE d = 0)) :
    Calls Tryd.prog 25 #[.int .i64 v, .int .i64 d] w fun e w' => e = .returned (.bool true) ∧ w = w' := by
  go_enter Tryd.func25, Tryd.ntmps25
  go_wp2_with (go_at_call 11; with_reducible refine (pmirror_at _ v 0 _ H).mono ?_; rintro e w' ⟨rfl, rfl⟩)
  go_ret
  exact ⟨ret_bool (by simp), rfl⟩
theorem rotates_yes (v d n : Int) (w : World) (H : Hid (rotV d n = v ∧ dirE d = 0)) :
    Calls Tryd.prog 24 #[.int .i64 v, .int .i64 d, .int .i64 n] w fun e w' => e = .returned (.bool true) ∧ w = w' := by
  go_enter Tryd.func24, Tryd.ntmps24
  go_wp2_with (go_at_call 18; with_reducible refine (protate_at _ _ v 0 _ H).mono ?_; rintro e w' ⟨rfl, rfl⟩)
  go_ret
  exact ⟨ret_bool (by simp), rfl⟩
set_option maxRecDepth 100000 in
theorem named_yes (s : ByteArray) (d l : Int) (w : World) (HT : Hid (Wds w)) (H : Hid (chk d l = 0 ∧ namV d l = s)) (HP : Hid (Prs s d l 0)) :
    Calls Tryd.prog 26 #[.string s, .int .i64 d, .int .i64 l] w fun e w' => e = .returned (.bool true) ∧ Own w w' := by
  have d1 : (s.toList == s.toList) = true := beq_self_eq_true _
  have d2 : (d == d) = true := beq_self_eq_true _
  have d3 : (l == l) = true := beq_self_eq_true _
  have g0 := Own.refl w
  go_enter Tryd.func26, Tryd.ntmps26
  go_wp2_with (first
    | (go_at_call 20; with_reducible refine (pname_at _ _ 0 s _ (Lib.hid (HT.out.own g0)) H).mono ?_; rintro e w1 ⟨rfl, hg⟩; replace g0 : Own w w1 := g0.trans hg; clear hg)
    | (go_at_call 22; with_reducible refine (pparse_at s d l 0 _ (Lib.hid (HT.out.own g0)) HP).mono ?_; rintro e w2 ⟨rfl, hg⟩; replace g0 : Own w w2 := g0.trans hg; clear hg))
  go_ret
  exact ⟨ret_bool (by simp), g0⟩
def sUp : ByteArray := ⟨#[117, 112, 45, 104, 105, 103, 104]⟩
theorem up_none : ∀ p, p < 27 → pN p ≠ sUp := by decide +kernel
theorem nam_a : chk 6 1 = 0 ∧ namV 6 1 = ⟨#[98, 97, 99, 107, 45, 108, 101, 102, 116, 45, 104, 105, 103, 104]⟩ := by decide +kernel
theorem nam_b : chk 0 (-1) = 0 ∧ namV 0 (-1) = ⟨#[112, 108, 97, 99, 101, 45, 108, 111, 119]⟩ := by decide +kernel
theorem nam_c : chk 1 0 = 0 ∧ namV 1 0 = ⟨#[102, 111, 114, 119, 97, 114, 100, 45, 109, 105, 100, 100, 108, 101]⟩ := by decide +kernel
theorem prs_of {s : ByteArray} {d l : Int} (h : chk d l = 0 ∧ namV d l = s) : Prs s d l 0 := by
  obtain ⟨h1, rfl⟩ := h
  have h2 : (0 ≤ d ∧ d ≤ 8) ∧ -1 ≤ l ∧ l ≤ 1 := Decidable.byContradiction fun h => by unfold chk at h1; rw [if_neg h] at h1; exact absurd h1 (by decide)
  unfold namV
  rw [if_pos h2]
  exact prs_nm h2.1 h2.2
set_option maxRecDepth 100000 in
set_option maxHeartbeats 2000000 in
theorem awake_at (w : World) (HT : Hid (Wds w)) :
    Calls Tryd.prog 17 #[] w fun e w' => e = .returned (.bool true) ∧ Own w w' := by
  have M1 := Lib.hid (show mirV 2 = 8 ∧ dirE 2 = 0 from ⟨rfl, rfl⟩)
  have M2 := Lib.hid (show mirV 5 = 5 ∧ dirE 5 = 0 from ⟨rfl, rfl⟩)
  have R1 := Lib.hid (show rotV 7 3 = 2 ∧ dirE 7 = 0 from ⟨rfl, rfl⟩)
  have R2 := Lib.hid (show rotV 1 (-1) = 8 ∧ dirE 1 = 0 from ⟨rfl, rfl⟩)
  have E1 := Lib.hid (show eigV 5 = 4 ∧ eigE 5 = 0 from ⟨rfl, rfl⟩)
  have E2 := Lib.hid (show eigV 0 = 0 ∧ eigE 0 = 18 from ⟨rfl, rfl⟩)
  have C1 := Lib.hid (show chk 9 0 = 1 from rfl)
  have C2 := Lib.hid (show chk 8 (-1) = 0 from rfl)
  have U := Lib.hid (show Prs ⟨#[117, 112, 45, 104, 105, 103, 104]⟩ 0 0 8 from .inr ⟨up_none, rfl, rfl, rfl⟩)
  have N1 := Lib.hid nam_a
  have N2 := Lib.hid nam_b
  have N3 := Lib.hid nam_c
  have Q1 := Lib.hid (prs_of nam_a)
  have Q2 := Lib.hid (prs_of nam_b)
  have Q3 := Lib.hid (prs_of nam_c)
  have g0 := Own.refl w
  go_enter Tryd.func17, Tryd.ntmps17
  go_wp2_with (first
    | (go_at_call 25; with_reducible refine (mirrors_yes 8 2 _ M1).mono ?_; rintro e w1 ⟨rfl, rfl⟩)
    | (go_at_call 25; with_reducible refine (mirrors_yes 5 5 _ M2).mono ?_; rintro e w1 ⟨rfl, rfl⟩)
    | (go_at_call 24; with_reducible refine (rotates_yes 2 7 3 _ R1).mono ?_; rintro e w1 ⟨rfl, rfl⟩)
    | (go_at_call 24; with_reducible refine (rotates_yes 8 1 _ _ R2).mono ?_; rintro e w1 ⟨rfl, rfl⟩)
    | (go_at_call 13; with_reducible refine (peighth_at 5 4 0 _ E1).mono ?_; rintro e w1 ⟨rfl, rfl⟩)
    | (go_at_call 13; with_reducible refine (peighth_at 0 0 18 _ E2).mono ?_; rintro e w1 ⟨rfl, rfl⟩)
    | (go_at_call 22; with_reducible refine (pparse_at _ 0 0 8 _ (Lib.hid (HT.out.own g0)) U).mono ?_; rintro e w2 ⟨rfl, hg⟩; replace g0 : Own w w2 := g0.trans hg; clear hg)
    | (go_at_call 15; with_reducible refine (pcheck_at 9 0 1 _ C1).mono ?_; rintro e w3 ⟨rfl, rfl⟩)
    | (go_at_call 15; with_reducible refine (pcheck_at 8 _ 0 _ C2).mono ?_; rintro e w3 ⟨rfl, rfl⟩)
    | (go_at_call 26; with_reducible refine (named_yes _ 6 1 _ (Lib.hid (HT.out.own g0)) N1 Q1).mono ?_; rintro e w4 ⟨rfl, hg⟩; replace g0 : Own w w4 := g0.trans hg; clear hg)
    | (go_at_call 26; with_reducible refine (named_yes _ 0 _ _ (Lib.hid (HT.out.own g0)) N2 Q2).mono ?_; rintro e w5 ⟨rfl, hg⟩; replace g0 : Own w w5 := g0.trans hg; clear hg)
    | (go_at_call 26; with_reducible refine (named_yes _ 1 0 _ (Lib.hid (HT.out.own g0)) N3 Q3).mono ?_; rintro e w6 ⟨rfl, hg⟩; replace g0 : Own w w6 := g0.trans hg; clear hg))
  go_ret
  exact ⟨rfl, g0⟩
end Go.Proofs.YtnkanndhmhdndaaDoor.DirW
