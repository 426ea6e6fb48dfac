/-
  Walks of the program of package dir: Name, over the tables of words. Condition: the tables of words lie in memory (Wds), as the rows list them.
-/
import Derived.Test.YtnkanndhmhdndaaDoorDirPA
namespace Go.Proofs.YtnkanndhmhdndaaDoor.DirW
open Go.ChangeShapes Go.WideShapes Go.ChangeAt Go.RowKit
open PairW StrW DirP
/-- The tables' cells hold the words. -/
structure Wds (w : World) : Prop where
  dir : ∀ k : Nat, k < 9 → w.cell? ⟨0, k, none⟩ = some (.string (atS wds k))
  lev : ∀ k : Nat, k < 3 → w.cell? ⟨1, k, none⟩ = some (.string (atS lvs k))
theorem Wds.own {w w' : World} (h : Wds w) (hg : Own w w') : Wds w' := ⟨fun k hk => hg.cell (h.dir k hk), fun k hk => hg.cell (h.lev k hk)⟩
set_option maxRecDepth 100000 in
theorem pname_at (d l c : Int) (s : ByteArray) (w : World) (HT : Hid (Wds w)) (H : Hid (chk d l = c ∧ namV d l = s)) :
    Calls Tryd.prog 20 #[.int .i64 d, .int .i64 l] w fun e w' => e = .returned (.tuple #[.string s, .int .i64 c]) ∧ Own w w' := by
  obtain ⟨hc, hs⟩ := H.out
  clear H
  by_cases h : (0 ≤ d ∧ d ≤ 8) ∧ -1 ≤ l ∧ l ≤ 1
  · have HC := Lib.hid (show chk d l = 0 by unfold chk; rw [if_pos h])
    obtain rfl : 0 = c := HC.out.symm.trans hc
    obtain ⟨k, hk, rfl⟩ : ∃ k : Nat, k < 9 ∧ d = k := ⟨d.toNat, by omega, by omega⟩
    obtain ⟨j, hj, rfl⟩ : ∃ j : Nat, j < 3 ∧ l = (j : Int) - 1 := ⟨(l + 1).toNat, by omega, by omega⟩
    have hx := HT.out.dir k hk
    have hyy := HT.out.lev j hj
    have zx := wd_size k hk
    have zy := lv_size j hj
    have HS := Lib.hid (show atS wds k ++ hy ++ atS lvs j = s by
      rw [← hs]
      unfold namV nm wd lv
      rw [if_pos h, Int.toNat_natCast, Int.sub_add_cancel, Int.toNat_natCast])
    generalize atS wds k = x at *
    generalize atS lvs j = y at *
    have i1 : IntKind.i64.wrap ((j : Int) - 1 - -1) = (j : Int) := by rw [IntKind.wrap_i64]; omega
    have b1 : (k : Int) < 9 := by omega
    have b2 : (j : Int) < 3 := by omega
    clear h hc hs
    go_enter Tryd.func20, Tryd.ntmps20
    go_upto_region 4 with (go_at_call 15; with_reducible refine (pcheck_at _ _ 0 _ HC).mono ?_; rintro e w' ⟨rfl, rfl⟩)
    go_quiet (fail)
    go_wp2
    go_ret2
    exact ⟨by rw [HS.out]; rfl, (Own.refl _).drewN _⟩
  · have HC := Lib.hid (show chk d l = 1 by unfold chk; rw [if_neg h])
    obtain rfl : 1 = c := HC.out.symm.trans hc
    obtain rfl : ⟨#[]⟩ = s := by rw [← hs]; unfold namV; rw [if_neg h]
    clear h hc hs
    go_enter Tryd.func20, Tryd.ntmps20
    go_wp2_with (go_at_call 15; with_reducible refine (pcheck_at _ _ 1 _ HC).mono ?_; rintro e w' ⟨rfl, rfl⟩)
    go_ret2
    exact ⟨rfl, Own.refl _⟩
end Go.Proofs.YtnkanndhmhdndaaDoor.DirW
