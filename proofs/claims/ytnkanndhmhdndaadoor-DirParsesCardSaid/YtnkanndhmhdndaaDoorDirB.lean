/-
  Walks of the specification of package dir: word, Name. Condition: none.
-/
import Derived.Test.YtnkanndhmhdndaaDoorDirA
import Derived.Test.YtnkanndhmhdndaaDoorCells
namespace Go.Proofs.YtnkanndhmhdndaaDoor.DirW
open Go.ChangeShapes Go.WideShapes Go.ChangeAt Go.RowKit
open PairW StrW DirP
set_option maxRecDepth 100000 in
theorem wds_cell (w : World) (k : Nat) (hk : k < 9) : (w.alloc (.cells #[.string ⟨#[112, 108, 97, 99, 101]⟩, .string ⟨#[102, 111, 114, 119, 97, 114, 100]⟩, .string ⟨#[102, 111, 114, 119, 97, 114, 100, 45, 114, 105, 103, 104, 116]⟩, .string ⟨#[114, 105, 103, 104, 116]⟩, .string ⟨#[98, 97, 99, 107, 45, 114, 105, 103, 104, 116]⟩, .string ⟨#[98, 97, 99, 107]⟩, .string ⟨#[98, 97, 99, 107, 45, 108, 101, 102, 116]⟩, .string ⟨#[108, 101, 102, 116]⟩, .string ⟨#[102, 111, 114, 119, 97, 114, 100, 45, 108, 101, 102, 116]⟩] 9)).cell? ⟨w.heap.size, k, none⟩ = some (.string (atS wds k)) := by
  have h : Strs (w.alloc (.cells (cellsS wds).toArray 9)) (.slice (some ⟨w.heap.size, 0, none⟩) 9 9) wds :=
    strs_of_row (World.ownsRow_lit (base := 0) (e := 9) (size := 1) w (cellsS wds).toArray 9 (Nat.zero_le _) (by unfold maxLen; decide) (by decide))
  obtain ⟨A, cap, hv, _, _, h4⟩ := h
  injection hv with q1 _ _
  subst q1
  obtain ⟨b, off, h5, h6⟩ := h4 (by decide)
  injection h5 with h5
  injection h5 with e1 e2
  subst e1
  subst e2
  have := h6 k hk
  rw [Nat.zero_add] at this
  exact this
set_option maxRecDepth 100000 in
theorem rword_at (d : Int) (x : ByteArray) (w : World) (h : 0 ≤ d ∧ d ≤ 8) (H : Hid (wd d = x)) :
    Calls Tryd.prog 30 #[.int .i64 d] w fun e w' => e = .returned (.string x) ∧ Own w w' := by
  obtain ⟨k, hk, rfl⟩ : ∃ k : Nat, k < 9 ∧ d = k := ⟨d.toNat, by omega, by omega⟩
  have hx := wds_cell w k hk
  rw [show atS wds k = x by rw [← H.out]; unfold wd; rw [Int.toNat_natCast]] at hx
  have g0 : Own w (w.alloc (.cells #[.string ⟨#[112, 108, 97, 99, 101]⟩, .string ⟨#[102, 111, 114, 119, 97, 114, 100]⟩, .string ⟨#[102, 111, 114, 119, 97, 114, 100, 45, 114, 105, 103, 104, 116]⟩, .string ⟨#[114, 105, 103, 104, 116]⟩, .string ⟨#[98, 97, 99, 107, 45, 114, 105, 103, 104, 116]⟩, .string ⟨#[98, 97, 99, 107]⟩, .string ⟨#[98, 97, 99, 107, 45, 108, 101, 102, 116]⟩, .string ⟨#[108, 101, 102, 116]⟩, .string ⟨#[102, 111, 114, 119, 97, 114, 100, 45, 108, 101, 102, 116]⟩] 9)) := (Own.refl w).alloc _
  have b1 : (k : Int) < 9 := by omega
  clear h H
  go_enter Tryd.func30, Tryd.ntmps30
  go_upto_region 2 with (fail)
  generalize w.alloc (.cells #[.string ⟨#[112, 108, 97, 99, 101]⟩, .string ⟨#[102, 111, 114, 119, 97, 114, 100]⟩, .string ⟨#[102, 111, 114, 119, 97, 114, 100, 45, 114, 105, 103, 104, 116]⟩, .string ⟨#[114, 105, 103, 104, 116]⟩, .string ⟨#[98, 97, 99, 107, 45, 114, 105, 103, 104, 116]⟩, .string ⟨#[98, 97, 99, 107]⟩, .string ⟨#[98, 97, 99, 107, 45, 108, 101, 102, 116]⟩, .string ⟨#[108, 101, 102, 116]⟩, .string ⟨#[102, 111, 114, 119, 97, 114, 100, 45, 108, 101, 102, 116]⟩] 9) = W1 at *
  go_wp2
  go_ret
  exact ⟨rfl, g0⟩
set_option maxRecDepth 100000 in
theorem rname_at (d l c : Int) (s : ByteArray) (w : World) (H : Hid (chk d l = c ∧ namV d l = s)) :
    Calls Tryd.prog 21 #[.int .i64 d, .int .i64 l] w fun e w' => e = .returned (.tuple #[.string s, .int .i64 c]) ∧ Own w w' := by
  obtain ⟨hc, hs⟩ := H.out
  clear H
  by_cases h : (0 ≤ d ∧ d ≤ 8) ∧ -1 ≤ l ∧ l ≤ 1
  · have HC := Lib.hid (show chk d l = 0 by unfold chk; rw [if_pos h])
    obtain rfl : 0 = c := HC.out.symm.trans hc
    have hd := Lib.hid h.1
    have hnv : nm d l = s := by rw [← hs]; unfold namV; rw [if_pos h]
    obtain ⟨x, hx⟩ : ∃ x, wd d = x := ⟨_, rfl⟩
    have HX := Lib.hid hx
    have zx : x.size ≤ 13 := by rw [← hx]; exact wd_size _ (by omega)
    rcases (show l = -1 ∨ l = 0 ∨ l = 1 by omega) with rfl | rfl | rfl
    · rw [← nm_low h.1, hx] at hnv
      have HS := Lib.hid hnv
      clear h hc hs hx hnv
      go_enter Tryd.func21, Tryd.ntmps21
      go_wp2_with (first | (go_at_call 16; with_reducible refine (rcheck_at _ _ 0 _ HC).mono ?_; rintro e w' ⟨rfl, rfl⟩) | (go_at_call 30; with_reducible refine (rword_at d x _ hd.out HX).mono ?_; rintro e w' ⟨rfl, hg⟩))
      go_ret2
      exact ⟨by rw [HS.out]; rfl, hg⟩
    · rw [← nm_middle h.1, hx] at hnv
      have HS := Lib.hid hnv
      clear h hc hs hx hnv
      go_enter Tryd.func21, Tryd.ntmps21
      go_wp2_with (first | (go_at_call 16; with_reducible refine (rcheck_at _ _ 0 _ HC).mono ?_; rintro e w' ⟨rfl, rfl⟩) | (go_at_call 30; with_reducible refine (rword_at d x _ hd.out HX).mono ?_; rintro e w' ⟨rfl, hg⟩))
      go_ret2
      exact ⟨by rw [HS.out]; rfl, hg⟩
    · rw [← nm_high h.1, hx] at hnv
      have HS := Lib.hid hnv
      clear h hc hs hx hnv
      go_enter Tryd.func21, Tryd.ntmps21
      go_wp2_with (first | (go_at_call 16; with_reducible refine (rcheck_at _ _ 0 _ HC).mono ?_; rintro e w' ⟨rfl, rfl⟩) | (go_at_call 30; with_reducible refine (rword_at d x _ hd.out HX).mono ?_; rintro e w' ⟨rfl, hg⟩))
      go_ret2
      exact ⟨by rw [HS.out]; rfl, hg⟩
  · have HC := Lib.hid (show chk d l = 1 by unfold chk; rw [if_neg h])
    obtain rfl : 1 = c := HC.out.symm.trans hc
    obtain rfl : ⟨#[]⟩ = s := by rw [← hs]; unfold namV; rw [if_neg h]
    clear h hc hs
    go_enter Tryd.func21, Tryd.ntmps21
    go_wp2_with (go_at_call 16; with_reducible refine (rcheck_at _ _ 1 _ HC).mono ?_; rintro e w' ⟨rfl, rfl⟩)
    go_ret2
    exact ⟨rfl, Own.refl _⟩
end Go.Proofs.YtnkanndhmhdndaaDoor.DirW
