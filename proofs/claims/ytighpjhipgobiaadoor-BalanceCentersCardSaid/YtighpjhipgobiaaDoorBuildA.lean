/-
  Walks of the specification of layer build: in, Check. Condition: none.
-/
import Derived.Test.YtighpjhipgobiaaDoorBuildPA
namespace Go.Proofs.YtighpjhipgobiaaDoor.BuiW
open Go.ChangeShapes Go.WideShapes Go.ChangeAt Go.RowKit
open PairW BuiP
theorem rin_at (n l h : Int) (t : Bool) (w : World) (H : Hid (inB n l h = t)) :
    Calls Tryd.prog 77 #[.int .i64 n, .int .i64 l, .int .i64 h] w fun e w' => e = .returned (.bool t) ∧ w = w' := by
  have hi := H.out
  unfold inB at hi
  subst hi
  clear H
  by_cases c1 : l ≤ n
  · by_cases c2 : n ≤ h
    · go_enter Tryd.func77, Tryd.ntmps77
      go_wp2
      go_ret
      exact ⟨ret_bool (by simp [c1, c2]), rfl⟩
    · have d2 : decide (n ≤ h) = false := decide_eq_false c2
      go_enter Tryd.func77, Tryd.ntmps77
      go_wp2
      go_ret
      exact ⟨ret_bool (by simp), rfl⟩
  · have d1 : decide (l ≤ n) = false := decide_eq_false c1
    go_enter Tryd.func77, Tryd.ntmps77
    go_wp2
    go_ret
    exact ⟨ret_bool (by simp), rfl⟩
theorem lns_in {b : Bl} (h0 : inB (b 0) 400 1500 = true) (h1 : inB (b 1) 200 1000 = true) (h2 : inB (b 2) 50 500 = true) (h3 : inB (b 3) 200 1200 = true) (h4 : inB (b 4) 20 300 = true) (h5 : inB (b 5) 50 400 = true) (h6 : inB (b 6) 100 1200 = true) (h7 : inB (b 7) 0 200 = true) (h8 : inB (b 8) 0 200 = true) (h9 : inB (b 9) 20 300 = true) (h10 : inB (b 10) 100 1000 = true) : Lns b :=
  lns_of (inB_iff.1 h0) (inB_iff.1 h1) (inB_iff.1 h2) (inB_iff.1 h3) (inB_iff.1 h4) (inB_iff.1 h5) (inB_iff.1 h6) (inB_iff.1 h7) (inB_iff.1 h8) (inB_iff.1 h9) (inB_iff.1 h10)
set_option maxRecDepth 100000 in
set_option maxHeartbeats 2000000 in
theorem rcheck_at (b : Bl) (c : Int) (w : World) (H : Hid (chk b = c)) :
    Calls Tryd.prog 54 #[.agg #[.int .i64 (b 0), .int .i64 (b 1), .int .i64 (b 2), .int .i64 (b 3), .int .i64 (b 4), .int .i64 (b 5), .int .i64 (b 6), .int .i64 (b 7), .int .i64 (b 8), .int .i64 (b 9), .int .i64 (b 10), .int .i64 (b 11), .int .i64 (b 12), .int .i64 (b 13), .int .i64 (b 14)]] w fun e w' => e = .returned (.int .i64 c) ∧ Own w w' := by
  have hb := Bx.new w b
  have g0 : Own w (w.alloc (.cells #[.int .i64 (b 0), .int .i64 (b 1), .int .i64 (b 2), .int .i64 (b 3), .int .i64 (b 4), .int .i64 (b 5), .int .i64 (b 6), .int .i64 (b 7), .int .i64 (b 8), .int .i64 (b 9), .int .i64 (b 10), .int .i64 (b 11), .int .i64 (b 12), .int .i64 (b 13), .int .i64 (b 14)] 24)) := (Own.refl w).alloc _
  have HB := Lib.hid hb
  obtain ⟨k0, k1, k2, k3, k4, k5, k6, k7, k8, k9, k10, -, -, -, -⟩ := hb.cells
  clear hb
  cases h0 : inB (b 0) 400 1500
  · have hc := bad_len (b := b) (i := 0) (by omega) (inB_no.1 h0)
    rw [H.out] at hc
    subst hc
    have H0 := Lib.hid h0
    clear h0 H HB
    go_enter Tryd.func54, Tryd.ntmps54
    go_upto_region 1 with (fail)
    generalize w.alloc (.cells #[.int .i64 (b 0), .int .i64 (b 1), .int .i64 (b 2), .int .i64 (b 3), .int .i64 (b 4), .int .i64 (b 5), .int .i64 (b 6), .int .i64 (b 7), .int .i64 (b 8), .int .i64 (b 9), .int .i64 (b 10), .int .i64 (b 11), .int .i64 (b 12), .int .i64 (b 13), .int .i64 (b 14)] 24) = W0 at *
    generalize w.heap.size = B at *
    go_wp2_with (first | (go_at_call 77; with_reducible refine (rin_at (b 0) 400 1500 false _ H0).mono ?_; rintro e w1 ⟨rfl, rfl⟩))
    go_ret
    exact ⟨rfl, g0⟩
  have H0 := Lib.hid h0
  clear h0
  cases h1 : inB (b 1) 200 1000
  · have hc := bad_len (b := b) (i := 1) (by omega) (inB_no.1 h1)
    rw [H.out] at hc
    subst hc
    have H1 := Lib.hid h1
    clear h1 H HB
    go_enter Tryd.func54, Tryd.ntmps54
    go_upto_region 1 with (fail)
    generalize w.alloc (.cells #[.int .i64 (b 0), .int .i64 (b 1), .int .i64 (b 2), .int .i64 (b 3), .int .i64 (b 4), .int .i64 (b 5), .int .i64 (b 6), .int .i64 (b 7), .int .i64 (b 8), .int .i64 (b 9), .int .i64 (b 10), .int .i64 (b 11), .int .i64 (b 12), .int .i64 (b 13), .int .i64 (b 14)] 24) = W0 at *
    generalize w.heap.size = B at *
    go_wp2_with (first | (go_at_call 77; with_reducible refine (rin_at (b 0) 400 1500 true _ H0).mono ?_; rintro e w1 ⟨rfl, rfl⟩) | (go_at_call 77; with_reducible refine (rin_at (b 1) 200 1000 false _ H1).mono ?_; rintro e w1 ⟨rfl, rfl⟩))
    go_ret
    exact ⟨rfl, g0⟩
  have H1 := Lib.hid h1
  clear h1
  cases h2 : inB (b 2) 50 500
  · have hc := bad_len (b := b) (i := 2) (by omega) (inB_no.1 h2)
    rw [H.out] at hc
    subst hc
    have H2 := Lib.hid h2
    clear h2 H HB
    go_enter Tryd.func54, Tryd.ntmps54
    go_upto_region 1 with (fail)
    generalize w.alloc (.cells #[.int .i64 (b 0), .int .i64 (b 1), .int .i64 (b 2), .int .i64 (b 3), .int .i64 (b 4), .int .i64 (b 5), .int .i64 (b 6), .int .i64 (b 7), .int .i64 (b 8), .int .i64 (b 9), .int .i64 (b 10), .int .i64 (b 11), .int .i64 (b 12), .int .i64 (b 13), .int .i64 (b 14)] 24) = W0 at *
    generalize w.heap.size = B at *
    go_wp2_with (first | (go_at_call 77; with_reducible refine (rin_at (b 0) 400 1500 true _ H0).mono ?_; rintro e w1 ⟨rfl, rfl⟩) | (go_at_call 77; with_reducible refine (rin_at (b 1) 200 1000 true _ H1).mono ?_; rintro e w1 ⟨rfl, rfl⟩) | (go_at_call 77; with_reducible refine (rin_at (b 2) 50 500 false _ H2).mono ?_; rintro e w1 ⟨rfl, rfl⟩))
    go_ret
    exact ⟨rfl, g0⟩
  have H2 := Lib.hid h2
  clear h2
  cases h3 : inB (b 3) 200 1200
  · have hc := bad_len (b := b) (i := 3) (by omega) (inB_no.1 h3)
    rw [H.out] at hc
    subst hc
    have H3 := Lib.hid h3
    clear h3 H HB
    go_enter Tryd.func54, Tryd.ntmps54
    go_upto_region 1 with (fail)
    generalize w.alloc (.cells #[.int .i64 (b 0), .int .i64 (b 1), .int .i64 (b 2), .int .i64 (b 3), .int .i64 (b 4), .int .i64 (b 5), .int .i64 (b 6), .int .i64 (b 7), .int .i64 (b 8), .int .i64 (b 9), .int .i64 (b 10), .int .i64 (b 11), .int .i64 (b 12), .int .i64 (b 13), .int .i64 (b 14)] 24) = W0 at *
    generalize w.heap.size = B at *
    go_wp2_with (first | (go_at_call 77; with_reducible refine (rin_at (b 0) 400 1500 true _ H0).mono ?_; rintro e w1 ⟨rfl, rfl⟩) | (go_at_call 77; with_reducible refine (rin_at (b 1) 200 1000 true _ H1).mono ?_; rintro e w1 ⟨rfl, rfl⟩) | (go_at_call 77; with_reducible refine (rin_at (b 2) 50 500 true _ H2).mono ?_; rintro e w1 ⟨rfl, rfl⟩) | (go_at_call 77; with_reducible refine (rin_at (b 3) 200 1200 false _ H3).mono ?_; rintro e w1 ⟨rfl, rfl⟩))
    go_ret
    exact ⟨rfl, g0⟩
  have H3 := Lib.hid h3
  clear h3
  cases h4 : inB (b 4) 20 300
  · have hc := bad_len (b := b) (i := 4) (by omega) (inB_no.1 h4)
    rw [H.out] at hc
    subst hc
    have H4 := Lib.hid h4
    clear h4 H HB
    go_enter Tryd.func54, Tryd.ntmps54
    go_upto_region 1 with (fail)
    generalize w.alloc (.cells #[.int .i64 (b 0), .int .i64 (b 1), .int .i64 (b 2), .int .i64 (b 3), .int .i64 (b 4), .int .i64 (b 5), .int .i64 (b 6), .int .i64 (b 7), .int .i64 (b 8), .int .i64 (b 9), .int .i64 (b 10), .int .i64 (b 11), .int .i64 (b 12), .int .i64 (b 13), .int .i64 (b 14)] 24) = W0 at *
    generalize w.heap.size = B at *
    go_wp2_with (first | (go_at_call 77; with_reducible refine (rin_at (b 0) 400 1500 true _ H0).mono ?_; rintro e w1 ⟨rfl, rfl⟩) | (go_at_call 77; with_reducible refine (rin_at (b 1) 200 1000 true _ H1).mono ?_; rintro e w1 ⟨rfl, rfl⟩) | (go_at_call 77; with_reducible refine (rin_at (b 2) 50 500 true _ H2).mono ?_; rintro e w1 ⟨rfl, rfl⟩) | (go_at_call 77; with_reducible refine (rin_at (b 3) 200 1200 true _ H3).mono ?_; rintro e w1 ⟨rfl, rfl⟩) | (go_at_call 77; with_reducible refine (rin_at (b 4) 20 300 false _ H4).mono ?_; rintro e w1 ⟨rfl, rfl⟩))
    go_ret
    exact ⟨rfl, g0⟩
  have H4 := Lib.hid h4
  clear h4
  cases h5 : inB (b 5) 50 400
  · have hc := bad_len (b := b) (i := 5) (by omega) (inB_no.1 h5)
    rw [H.out] at hc
    subst hc
    have H5 := Lib.hid h5
    clear h5 H HB
    go_enter Tryd.func54, Tryd.ntmps54
    go_upto_region 1 with (fail)
    generalize w.alloc (.cells #[.int .i64 (b 0), .int .i64 (b 1), .int .i64 (b 2), .int .i64 (b 3), .int .i64 (b 4), .int .i64 (b 5), .int .i64 (b 6), .int .i64 (b 7), .int .i64 (b 8), .int .i64 (b 9), .int .i64 (b 10), .int .i64 (b 11), .int .i64 (b 12), .int .i64 (b 13), .int .i64 (b 14)] 24) = W0 at *
    generalize w.heap.size = B at *
    go_wp2_with (first | (go_at_call 77; with_reducible refine (rin_at (b 0) 400 1500 true _ H0).mono ?_; rintro e w1 ⟨rfl, rfl⟩) | (go_at_call 77; with_reducible refine (rin_at (b 1) 200 1000 true _ H1).mono ?_; rintro e w1 ⟨rfl, rfl⟩) | (go_at_call 77; with_reducible refine (rin_at (b 2) 50 500 true _ H2).mono ?_; rintro e w1 ⟨rfl, rfl⟩) | (go_at_call 77; with_reducible refine (rin_at (b 3) 200 1200 true _ H3).mono ?_; rintro e w1 ⟨rfl, rfl⟩) | (go_at_call 77; with_reducible refine (rin_at (b 4) 20 300 true _ H4).mono ?_; rintro e w1 ⟨rfl, rfl⟩) | (go_at_call 77; with_reducible refine (rin_at (b 5) 50 400 false _ H5).mono ?_; rintro e w1 ⟨rfl, rfl⟩))
    go_ret
    exact ⟨rfl, g0⟩
  have H5 := Lib.hid h5
  clear h5
  cases h6 : inB (b 6) 100 1200
  · have hc := bad_len (b := b) (i := 6) (by omega) (inB_no.1 h6)
    rw [H.out] at hc
    subst hc
    have H6 := Lib.hid h6
    clear h6 H HB
    go_enter Tryd.func54, Tryd.ntmps54
    go_upto_region 1 with (fail)
    generalize w.alloc (.cells #[.int .i64 (b 0), .int .i64 (b 1), .int .i64 (b 2), .int .i64 (b 3), .int .i64 (b 4), .int .i64 (b 5), .int .i64 (b 6), .int .i64 (b 7), .int .i64 (b 8), .int .i64 (b 9), .int .i64 (b 10), .int .i64 (b 11), .int .i64 (b 12), .int .i64 (b 13), .int .i64 (b 14)] 24) = W0 at *
    generalize w.heap.size = B at *
    go_wp2_with (first | (go_at_call 77; with_reducible refine (rin_at (b 0) 400 1500 true _ H0).mono ?_; rintro e w1 ⟨rfl, rfl⟩) | (go_at_call 77; with_reducible refine (rin_at (b 1) 200 1000 true _ H1).mono ?_; rintro e w1 ⟨rfl, rfl⟩) | (go_at_call 77; with_reducible refine (rin_at (b 2) 50 500 true _ H2).mono ?_; rintro e w1 ⟨rfl, rfl⟩) | (go_at_call 77; with_reducible refine (rin_at (b 3) 200 1200 true _ H3).mono ?_; rintro e w1 ⟨rfl, rfl⟩) | (go_at_call 77; with_reducible refine (rin_at (b 4) 20 300 true _ H4).mono ?_; rintro e w1 ⟨rfl, rfl⟩) | (go_at_call 77; with_reducible refine (rin_at (b 5) 50 400 true _ H5).mono ?_; rintro e w1 ⟨rfl, rfl⟩) | (go_at_call 77; with_reducible refine (rin_at (b 6) 100 1200 false _ H6).mono ?_; rintro e w1 ⟨rfl, rfl⟩))
    go_ret
    exact ⟨rfl, g0⟩
  have H6 := Lib.hid h6
  clear h6
  cases h7 : inB (b 7) 0 200
  · have hc := bad_len (b := b) (i := 7) (by omega) (inB_no.1 h7)
    rw [H.out] at hc
    subst hc
    have H7 := Lib.hid h7
    clear h7 H HB
    go_enter Tryd.func54, Tryd.ntmps54
    go_upto_region 1 with (fail)
    generalize w.alloc (.cells #[.int .i64 (b 0), .int .i64 (b 1), .int .i64 (b 2), .int .i64 (b 3), .int .i64 (b 4), .int .i64 (b 5), .int .i64 (b 6), .int .i64 (b 7), .int .i64 (b 8), .int .i64 (b 9), .int .i64 (b 10), .int .i64 (b 11), .int .i64 (b 12), .int .i64 (b 13), .int .i64 (b 14)] 24) = W0 at *
    generalize w.heap.size = B at *
    go_wp2_with (first | (go_at_call 77; with_reducible refine (rin_at (b 0) 400 1500 true _ H0).mono ?_; rintro e w1 ⟨rfl, rfl⟩) | (go_at_call 77; with_reducible refine (rin_at (b 1) 200 1000 true _ H1).mono ?_; rintro e w1 ⟨rfl, rfl⟩) | (go_at_call 77; with_reducible refine (rin_at (b 2) 50 500 true _ H2).mono ?_; rintro e w1 ⟨rfl, rfl⟩) | (go_at_call 77; with_reducible refine (rin_at (b 3) 200 1200 true _ H3).mono ?_; rintro e w1 ⟨rfl, rfl⟩) | (go_at_call 77; with_reducible refine (rin_at (b 4) 20 300 true _ H4).mono ?_; rintro e w1 ⟨rfl, rfl⟩) | (go_at_call 77; with_reducible refine (rin_at (b 5) 50 400 true _ H5).mono ?_; rintro e w1 ⟨rfl, rfl⟩) | (go_at_call 77; with_reducible refine (rin_at (b 6) 100 1200 true _ H6).mono ?_; rintro e w1 ⟨rfl, rfl⟩) | (go_at_call 77; with_reducible refine (rin_at (b 7) 0 200 false _ H7).mono ?_; rintro e w1 ⟨rfl, rfl⟩))
    go_ret
    exact ⟨rfl, g0⟩
  have H7 := Lib.hid h7
  clear h7
  cases h8 : inB (b 8) 0 200
  · have hc := bad_len (b := b) (i := 8) (by omega) (inB_no.1 h8)
    rw [H.out] at hc
    subst hc
    have H8 := Lib.hid h8
    clear h8 H HB
    go_enter Tryd.func54, Tryd.ntmps54
    go_upto_region 1 with (fail)
    generalize w.alloc (.cells #[.int .i64 (b 0), .int .i64 (b 1), .int .i64 (b 2), .int .i64 (b 3), .int .i64 (b 4), .int .i64 (b 5), .int .i64 (b 6), .int .i64 (b 7), .int .i64 (b 8), .int .i64 (b 9), .int .i64 (b 10), .int .i64 (b 11), .int .i64 (b 12), .int .i64 (b 13), .int .i64 (b 14)] 24) = W0 at *
    generalize w.heap.size = B at *
    go_wp2_with (first | (go_at_call 77; with_reducible refine (rin_at (b 0) 400 1500 true _ H0).mono ?_; rintro e w1 ⟨rfl, rfl⟩) | (go_at_call 77; with_reducible refine (rin_at (b 1) 200 1000 true _ H1).mono ?_; rintro e w1 ⟨rfl, rfl⟩) | (go_at_call 77; with_reducible refine (rin_at (b 2) 50 500 true _ H2).mono ?_; rintro e w1 ⟨rfl, rfl⟩) | (go_at_call 77; with_reducible refine (rin_at (b 3) 200 1200 true _ H3).mono ?_; rintro e w1 ⟨rfl, rfl⟩) | (go_at_call 77; with_reducible refine (rin_at (b 4) 20 300 true _ H4).mono ?_; rintro e w1 ⟨rfl, rfl⟩) | (go_at_call 77; with_reducible refine (rin_at (b 5) 50 400 true _ H5).mono ?_; rintro e w1 ⟨rfl, rfl⟩) | (go_at_call 77; with_reducible refine (rin_at (b 6) 100 1200 true _ H6).mono ?_; rintro e w1 ⟨rfl, rfl⟩) | (go_at_call 77; with_reducible refine (rin_at (b 7) 0 200 true _ H7).mono ?_; rintro e w1 ⟨rfl, rfl⟩) | (go_at_call 77; with_reducible refine (rin_at (b 8) 0 200 false _ H8).mono ?_; rintro e w1 ⟨rfl, rfl⟩))
    go_ret
    exact ⟨rfl, g0⟩
  have H8 := Lib.hid h8
  clear h8
  cases h9 : inB (b 9) 20 300
  · have hc := bad_len (b := b) (i := 9) (by omega) (inB_no.1 h9)
    rw [H.out] at hc
    subst hc
    have H9 := Lib.hid h9
    clear h9 H HB
    go_enter Tryd.func54, Tryd.ntmps54
    go_upto_region 1 with (fail)
    generalize w.alloc (.cells #[.int .i64 (b 0), .int .i64 (b 1), .int .i64 (b 2), .int .i64 (b 3), .int .i64 (b 4), .int .i64 (b 5), .int .i64 (b 6), .int .i64 (b 7), .int .i64 (b 8), .int .i64 (b 9), .int .i64 (b 10), .int .i64 (b 11), .int .i64 (b 12), .int .i64 (b 13), .int .i64 (b 14)] 24) = W0 at *
    generalize w.heap.size = B at *
    go_wp2_with (first | (go_at_call 77; with_reducible refine (rin_at (b 0) 400 1500 true _ H0).mono ?_; rintro e w1 ⟨rfl, rfl⟩) | (go_at_call 77; with_reducible refine (rin_at (b 1) 200 1000 true _ H1).mono ?_; rintro e w1 ⟨rfl, rfl⟩) | (go_at_call 77; with_reducible refine (rin_at (b 2) 50 500 true _ H2).mono ?_; rintro e w1 ⟨rfl, rfl⟩) | (go_at_call 77; with_reducible refine (rin_at (b 3) 200 1200 true _ H3).mono ?_; rintro e w1 ⟨rfl, rfl⟩) | (go_at_call 77; with_reducible refine (rin_at (b 4) 20 300 true _ H4).mono ?_; rintro e w1 ⟨rfl, rfl⟩) | (go_at_call 77; with_reducible refine (rin_at (b 5) 50 400 true _ H5).mono ?_; rintro e w1 ⟨rfl, rfl⟩) | (go_at_call 77; with_reducible refine (rin_at (b 6) 100 1200 true _ H6).mono ?_; rintro e w1 ⟨rfl, rfl⟩) | (go_at_call 77; with_reducible refine (rin_at (b 7) 0 200 true _ H7).mono ?_; rintro e w1 ⟨rfl, rfl⟩) | (go_at_call 77; with_reducible refine (rin_at (b 8) 0 200 true _ H8).mono ?_; rintro e w1 ⟨rfl, rfl⟩) | (go_at_call 77; with_reducible refine (rin_at (b 9) 20 300 false _ H9).mono ?_; rintro e w1 ⟨rfl, rfl⟩))
    go_ret
    exact ⟨rfl, g0⟩
  have H9 := Lib.hid h9
  clear h9
  cases h10 : inB (b 10) 100 1000
  · have hc := bad_len (b := b) (i := 10) (by omega) (inB_no.1 h10)
    rw [H.out] at hc
    subst hc
    have H10 := Lib.hid h10
    clear h10 H HB
    go_enter Tryd.func54, Tryd.ntmps54
    go_upto_region 1 with (fail)
    generalize w.alloc (.cells #[.int .i64 (b 0), .int .i64 (b 1), .int .i64 (b 2), .int .i64 (b 3), .int .i64 (b 4), .int .i64 (b 5), .int .i64 (b 6), .int .i64 (b 7), .int .i64 (b 8), .int .i64 (b 9), .int .i64 (b 10), .int .i64 (b 11), .int .i64 (b 12), .int .i64 (b 13), .int .i64 (b 14)] 24) = W0 at *
    generalize w.heap.size = B at *
    go_wp2_with (first | (go_at_call 77; with_reducible refine (rin_at (b 0) 400 1500 true _ H0).mono ?_; rintro e w1 ⟨rfl, rfl⟩) | (go_at_call 77; with_reducible refine (rin_at (b 1) 200 1000 true _ H1).mono ?_; rintro e w1 ⟨rfl, rfl⟩) | (go_at_call 77; with_reducible refine (rin_at (b 2) 50 500 true _ H2).mono ?_; rintro e w1 ⟨rfl, rfl⟩) | (go_at_call 77; with_reducible refine (rin_at (b 3) 200 1200 true _ H3).mono ?_; rintro e w1 ⟨rfl, rfl⟩) | (go_at_call 77; with_reducible refine (rin_at (b 4) 20 300 true _ H4).mono ?_; rintro e w1 ⟨rfl, rfl⟩) | (go_at_call 77; with_reducible refine (rin_at (b 5) 50 400 true _ H5).mono ?_; rintro e w1 ⟨rfl, rfl⟩) | (go_at_call 77; with_reducible refine (rin_at (b 6) 100 1200 true _ H6).mono ?_; rintro e w1 ⟨rfl, rfl⟩) | (go_at_call 77; with_reducible refine (rin_at (b 7) 0 200 true _ H7).mono ?_; rintro e w1 ⟨rfl, rfl⟩) | (go_at_call 77; with_reducible refine (rin_at (b 8) 0 200 true _ H8).mono ?_; rintro e w1 ⟨rfl, rfl⟩) | (go_at_call 77; with_reducible refine (rin_at (b 9) 20 300 true _ H9).mono ?_; rintro e w1 ⟨rfl, rfl⟩) | (go_at_call 77; with_reducible refine (rin_at (b 10) 100 1000 false _ H10).mono ?_; rintro e w1 ⟨rfl, rfl⟩))
    go_ret
    exact ⟨rfl, g0⟩
  have H10 := Lib.hid h10
  clear h10
  have HL := Lib.hid (lns_in H0.out H1.out H2.out H3.out H4.out H5.out H6.out H7.out H8.out H9.out H10.out)
  go_enter Tryd.func54, Tryd.ntmps54
  go_upto_region 1 with (fail)
  generalize w.alloc (.cells #[.int .i64 (b 0), .int .i64 (b 1), .int .i64 (b 2), .int .i64 (b 3), .int .i64 (b 4), .int .i64 (b 5), .int .i64 (b 6), .int .i64 (b 7), .int .i64 (b 8), .int .i64 (b 9), .int .i64 (b 10), .int .i64 (b 11), .int .i64 (b 12), .int .i64 (b 13), .int .i64 (b 14)] 24) = W0 at *
  generalize w.heap.size = B at *
  go_wp2_with (first | (go_at_call 77; with_reducible refine (rin_at (b 0) 400 1500 true _ H0).mono ?_; rintro e w1 ⟨rfl, rfl⟩) | (go_at_call 77; with_reducible refine (rin_at (b 1) 200 1000 true _ H1).mono ?_; rintro e w1 ⟨rfl, rfl⟩) | (go_at_call 77; with_reducible refine (rin_at (b 2) 50 500 true _ H2).mono ?_; rintro e w1 ⟨rfl, rfl⟩) | (go_at_call 77; with_reducible refine (rin_at (b 3) 200 1200 true _ H3).mono ?_; rintro e w1 ⟨rfl, rfl⟩) | (go_at_call 77; with_reducible refine (rin_at (b 4) 20 300 true _ H4).mono ?_; rintro e w1 ⟨rfl, rfl⟩) | (go_at_call 77; with_reducible refine (rin_at (b 5) 50 400 true _ H5).mono ?_; rintro e w1 ⟨rfl, rfl⟩) | (go_at_call 77; with_reducible refine (rin_at (b 6) 100 1200 true _ H6).mono ?_; rintro e w1 ⟨rfl, rfl⟩) | (go_at_call 77; with_reducible refine (rin_at (b 7) 0 200 true _ H7).mono ?_; rintro e w1 ⟨rfl, rfl⟩) | (go_at_call 77; with_reducible refine (rin_at (b 8) 0 200 true _ H8).mono ?_; rintro e w1 ⟨rfl, rfl⟩) | (go_at_call 77; with_reducible refine (rin_at (b 9) 20 300 true _ H9).mono ?_; rintro e w1 ⟨rfl, rfl⟩) | (go_at_call 77; with_reducible refine (rin_at (b 10) 100 1000 true _ H10).mono ?_; rintro e w1 ⟨rfl, rfl⟩))
  clear k0 k1 k2 k3 k4 k5 k6 k7 k8 k9 k10
  go_loopw [3] (fun vk wx => W0 = wx ∧ ∃ k : Nat, vk = .int .i64 (k : Int) ∧ k ≤ 4 ∧ (∀ i, i < k → 1 ≤ b (11 + i) ∧ b (11 + i) ≤ 200000)) (fun vk _ => 4 - (intOf vk).toNat)
  case atStart => exact ⟨rfl, 0, rfl, by omega, fun i hi => absurd hi (by omega)⟩
  case round =>
    obtain ⟨rfl, k, rfl, hk, hok⟩ := hrel
    by_cases hlt : k < 4
    · have e0 := HB.out.at (i := 11 + k) (by omega)
      have hkn : (k : Int) < 4 := by omega
      cases h : inB (b (11 + k)) 1 200000
      · have hc := bad_mass (b := b) hlt (inB_no.1 h)
        rw [H.out] at hc
        subst hc
        have HI := Lib.hid h
        clear h hok H HL HB
        generalize b (11 + k) = x at *
        go_wp2_with (go_at_call 77; with_reducible refine (rin_at x 1 200000 false _ HI).mono ?_; rintro e w1 ⟨rfl, rfl⟩)
        go_ret
        exact ⟨rfl, g0⟩
      · have HG := Lib.hid (show ∀ i, i < k + 1 → 1 ≤ b (11 + i) ∧ b (11 + i) ≤ 200000 from fun i hi => (Nat.lt_succ_iff_lt_or_eq.1 hi).elim (hok i) (fun e => e ▸ inB_iff.1 h))
        have HI := Lib.hid h
        clear h hok H
        generalize hx : b (11 + k) = x at e0 HI
        clear hx
        go_wp2_with (go_at_call 77; with_reducible refine (rin_at x 1 200000 true _ HI).mono ?_; rintro e w1 ⟨rfl, rfl⟩)
        go_roundw
        case rel => exact ⟨trivial, k + 1, by go_num, hlt, HG.out⟩
        case measure => simp [intOf]; omega
    · obtain rfl : k = 4 := by omega
      have hc := H.out.symm.trans (chk_yes ⟨HL.out, hok⟩)
      subst hc
      clear hok
      go_wp2
      go_ret
      exact ⟨rfl, g0⟩
end Go.Proofs.YtighpjhipgobiaaDoor.BuiW
