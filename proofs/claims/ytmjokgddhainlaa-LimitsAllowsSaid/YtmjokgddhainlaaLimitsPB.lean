/-
  Walks of the program of package limits: its small tests, isLimit, inSector, allows. Condition: none.
-/
import Derived.Test.YtmjokgddhainlaaLimitsMem
import Derived.Test.YtmjokgddhainlaaAngleF
namespace Go.Proofs.Ytmjokgddhainlaa.LimW
open Go.ChangeShapes Go.WideShapes Go.ChangeAt Go.RowKit
open PairW AimP AimW BlkW PrtW PstP PstW RegD LimP
def paB (d : Int) : Bool := decide (1 ≤ d) && decide (d ≤ 128)
theorem pa_iff (d : Int) : paB d = true ↔ 1 ≤ d ∧ d ≤ 128 := by unfold paB; rw [Bool.and_eq_true, decide_eq_true_eq, decide_eq_true_eq]
theorem pa_no (d : Int) : paB d = false ↔ d < 1 ∨ 128 < d := by rw [← Bool.not_eq_true, pa_iff]; omega
def aiB (d : Int) : Bool := decide (0 ≤ d) && decide (d ≤ 8192)
theorem ai_iff (d : Int) : aiB d = true ↔ 0 ≤ d ∧ d ≤ 8192 := by unfold aiB; rw [Bool.and_eq_true, decide_eq_true_eq, decide_eq_true_eq]
theorem ai_no (d : Int) : aiB d = false ↔ d < 0 ∨ 8192 < d := by rw [← Bool.not_eq_true, ai_iff]; omega
theorem lia_at (d : Int) (t : Bool) (w : World) (H : Hid (azB d = t)) :
    Calls Try.prog 49 #[.int .i64 d] w fun r w' => r = .returned (.bool t) ∧ w = w' := by
  have hi := az_iff d
  rw [H.out] at hi
  clear H
  by_cases h1 : 0 ≤ d
  · by_cases h2 : d ≤ 255
    · obtain rfl : t = true := hi.2 (by omega)
      clear hi
      go_enter Try.func49, Try.ntmps49
      go_wp2
      go_ret
      exact ⟨ret_bool (by simp), rfl⟩
    · obtain rfl : t = false := by cases t <;> simp at hi ⊢; omega
      clear hi
      go_enter Try.func49, Try.ntmps49
      go_wp2
      go_ret
      exact ⟨ret_bool (by simp), rfl⟩
  · obtain rfl : t = false := by cases t <;> simp at hi ⊢; omega
    clear hi
    go_enter Try.func49, Try.ntmps49
    go_wp2
    go_ret
    exact ⟨ret_bool (by simp), rfl⟩
theorem lib_at (d : Int) (t : Bool) (w : World) (H : Hid (beB d = t)) :
    Calls Try.prog 50 #[.int .i64 d] w fun r w' => r = .returned (.bool t) ∧ w = w' := by
  have hi := be_iff d
  rw [H.out] at hi
  clear H
  by_cases h1 : 0 ≤ d
  · by_cases h2 : d ≤ 6
    · obtain rfl : t = true := hi.2 (by omega)
      clear hi
      go_enter Try.func50, Try.ntmps50
      go_wp2
      go_ret
      exact ⟨ret_bool (by simp), rfl⟩
    · obtain rfl : t = false := by cases t <;> simp at hi ⊢; omega
      clear hi
      go_enter Try.func50, Try.ntmps50
      go_wp2
      go_ret
      exact ⟨ret_bool (by simp), rfl⟩
  · obtain rfl : t = false := by cases t <;> simp at hi ⊢; omega
    clear hi
    go_enter Try.func50, Try.ntmps50
    go_wp2
    go_ret
    exact ⟨ret_bool (by simp), rfl⟩
theorem lip_at (d : Int) (t : Bool) (w : World) (H : Hid (paB d = t)) :
    Calls Try.prog 33 #[.int .i64 d] w fun r w' => r = .returned (.bool t) ∧ w = w' := by
  have hi := pa_iff d
  rw [H.out] at hi
  clear H
  by_cases h1 : 1 ≤ d
  · by_cases h2 : d ≤ 128
    · obtain rfl : t = true := hi.2 (by omega)
      clear hi
      go_enter Try.func33, Try.ntmps33
      go_wp2
      go_ret
      exact ⟨ret_bool (by simp), rfl⟩
    · obtain rfl : t = false := by cases t <;> simp at hi ⊢; omega
      clear hi
      go_enter Try.func33, Try.ntmps33
      go_wp2
      go_ret
      exact ⟨ret_bool (by simp), rfl⟩
  · obtain rfl : t = false := by cases t <;> simp at hi ⊢; omega
    clear hi
    go_enter Try.func33, Try.ntmps33
    go_wp2
    go_ret
    exact ⟨ret_bool (by simp), rfl⟩
theorem lir_at (d : Int) (t : Bool) (w : World) (H : Hid (aiB d = t)) :
    Calls Try.prog 32 #[.int .i64 d] w fun r w' => r = .returned (.bool t) ∧ w = w' := by
  have hi := ai_iff d
  rw [H.out] at hi
  clear H
  by_cases h1 : 0 ≤ d
  · by_cases h2 : d ≤ 8192
    · obtain rfl : t = true := hi.2 (by omega)
      clear hi
      go_enter Try.func32, Try.ntmps32
      go_wp2
      go_ret
      exact ⟨ret_bool (by simp), rfl⟩
    · obtain rfl : t = false := by cases t <;> simp at hi ⊢; omega
      clear hi
      go_enter Try.func32, Try.ntmps32
      go_wp2
      go_ret
      exact ⟨ret_bool (by simp), rfl⟩
  · obtain rfl : t = false := by cases t <;> simp at hi ⊢; omega
    clear hi
    go_enter Try.func32, Try.ntmps32
    go_wp2
    go_ret
    exact ⟨ret_bool (by simp), rfl⟩
set_option maxRecDepth 100000 in
set_option maxHeartbeats 2000000 in
theorem lil_at (x : Vl) (t : Bool) (w : World) (H : Hid (decide (okX x) = t)) :
    Calls Try.prog 31 #[.agg (cz 6 x)] w fun r w' => r = .returned (.bool t) ∧ Own w w' := by
  by_cases h0 : -64 ≤ x 0
  · by_cases h1 : x 0 ≤ x 1
    · by_cases h2 : x 1 ≤ 64
      · by_cases h3 : 0 ≤ x 2 ∧ x 2 ≤ 255
        · by_cases h4 : 0 ≤ x 3 ∧ x 3 ≤ 255
          · by_cases h5 : 0 ≤ x 4 ∧ x 4 ≤ 6
            · by_cases h6 : 1 ≤ x 5 ∧ x 5 ≤ 128
              · obtain rfl : true = t := (decide_eq_true (show okX x from ⟨⟨h0, h1, h2⟩, h3, h4, h5, h6⟩)).symm.trans H.out
                clear H
                have H3 := Lib.hid ((az_iff (x 2)).2 h3)
                have H4 := Lib.hid ((az_iff (x 3)).2 h4)
                have H5 := Lib.hid ((be_iff (x 4)).2 h5)
                have H6 := Lib.hid ((pa_iff (x 5)).2 h6)
                clear h3 h4 h5 h6
                go_enter Try.func31, Try.ntmps31
                go_upto_region 1 with (fail)
                obtain ⟨W0, B, hW, hBq, hb, g0, hB0B⟩ := blk_new w (cz 6 x) 23
                rw [hW, hBq]
                have HB := Lib.hid hb
                have k0 := blk_num hb (i := 0) (by omega)
                have k1 := blk_num hb (i := 1) (by omega)
                have k2 := blk_num hb (i := 2) (by omega)
                have k3 := blk_num hb (i := 3) (by omega)
                have k4 := blk_num hb (i := 4) (by omega)
                have k5 := blk_num hb (i := 5) (by omega)
                clear hW hBq hb
                go_wp2_with (first | (go_at_call 49; with_reducible refine (lia_at (x 2) true _ H3).mono ?_; rintro r w1 ⟨rfl, rfl⟩) | (go_at_call 49; with_reducible refine (lia_at (x 3) true _ H4).mono ?_; rintro r w1 ⟨rfl, rfl⟩) | (go_at_call 50; with_reducible refine (lib_at (x 4) true _ H5).mono ?_; rintro r w1 ⟨rfl, rfl⟩) | (go_at_call 33; with_reducible refine (lip_at (x 5) true _ H6).mono ?_; rintro r w1 ⟨rfl, rfl⟩))
                go_ret
                exact ⟨rfl, g0⟩
              · obtain rfl : false = t := (decide_eq_false (fun h : okX x => h6 h.2.2.2.2)).symm.trans H.out
                clear H
                have H3 := Lib.hid ((az_iff (x 2)).2 h3)
                have H4 := Lib.hid ((az_iff (x 3)).2 h4)
                have H5 := Lib.hid ((be_iff (x 4)).2 h5)
                have H6 := Lib.hid ((pa_no (x 5)).2 (by omega))
                clear h3 h4 h5 h6
                go_enter Try.func31, Try.ntmps31
                go_upto_region 1 with (fail)
                obtain ⟨W0, B, hW, hBq, hb, g0, hB0B⟩ := blk_new w (cz 6 x) 23
                rw [hW, hBq]
                have HB := Lib.hid hb
                have k0 := blk_num hb (i := 0) (by omega)
                have k1 := blk_num hb (i := 1) (by omega)
                have k2 := blk_num hb (i := 2) (by omega)
                have k3 := blk_num hb (i := 3) (by omega)
                have k4 := blk_num hb (i := 4) (by omega)
                have k5 := blk_num hb (i := 5) (by omega)
                clear hW hBq hb
                go_wp2_with (first | (go_at_call 49; with_reducible refine (lia_at (x 2) true _ H3).mono ?_; rintro r w1 ⟨rfl, rfl⟩) | (go_at_call 49; with_reducible refine (lia_at (x 3) true _ H4).mono ?_; rintro r w1 ⟨rfl, rfl⟩) | (go_at_call 50; with_reducible refine (lib_at (x 4) true _ H5).mono ?_; rintro r w1 ⟨rfl, rfl⟩) | (go_at_call 33; with_reducible refine (lip_at (x 5) false _ H6).mono ?_; rintro r w1 ⟨rfl, rfl⟩))
                go_ret
                exact ⟨rfl, g0⟩
            · obtain rfl : false = t := (decide_eq_false (fun h : okX x => h5 h.2.2.2.1)).symm.trans H.out
              clear H
              have H3 := Lib.hid ((az_iff (x 2)).2 h3)
              have H4 := Lib.hid ((az_iff (x 3)).2 h4)
              have H5 := Lib.hid ((be_no (x 4)).2 (by omega))
              clear h3 h4 h5
              go_enter Try.func31, Try.ntmps31
              go_upto_region 1 with (fail)
              obtain ⟨W0, B, hW, hBq, hb, g0, hB0B⟩ := blk_new w (cz 6 x) 23
              rw [hW, hBq]
              have HB := Lib.hid hb
              have k0 := blk_num hb (i := 0) (by omega)
              have k1 := blk_num hb (i := 1) (by omega)
              have k2 := blk_num hb (i := 2) (by omega)
              have k3 := blk_num hb (i := 3) (by omega)
              have k4 := blk_num hb (i := 4) (by omega)
              have k5 := blk_num hb (i := 5) (by omega)
              clear hW hBq hb
              go_wp2_with (first | (go_at_call 49; with_reducible refine (lia_at (x 2) true _ H3).mono ?_; rintro r w1 ⟨rfl, rfl⟩) | (go_at_call 49; with_reducible refine (lia_at (x 3) true _ H4).mono ?_; rintro r w1 ⟨rfl, rfl⟩) | (go_at_call 50; with_reducible refine (lib_at (x 4) false _ H5).mono ?_; rintro r w1 ⟨rfl, rfl⟩))
              go_ret
              exact ⟨rfl, g0⟩
          · obtain rfl : false = t := (decide_eq_false (fun h : okX x => h4 h.2.2.1)).symm.trans H.out
            clear H
            have H3 := Lib.hid ((az_iff (x 2)).2 h3)
            have H4 := Lib.hid ((az_no (x 3)).2 (by omega))
            clear h3 h4
            go_enter Try.func31, Try.ntmps31
            go_upto_region 1 with (fail)
            obtain ⟨W0, B, hW, hBq, hb, g0, hB0B⟩ := blk_new w (cz 6 x) 23
            rw [hW, hBq]
            have HB := Lib.hid hb
            have k0 := blk_num hb (i := 0) (by omega)
            have k1 := blk_num hb (i := 1) (by omega)
            have k2 := blk_num hb (i := 2) (by omega)
            have k3 := blk_num hb (i := 3) (by omega)
            have k4 := blk_num hb (i := 4) (by omega)
            have k5 := blk_num hb (i := 5) (by omega)
            clear hW hBq hb
            go_wp2_with (first | (go_at_call 49; with_reducible refine (lia_at (x 2) true _ H3).mono ?_; rintro r w1 ⟨rfl, rfl⟩) | (go_at_call 49; with_reducible refine (lia_at (x 3) false _ H4).mono ?_; rintro r w1 ⟨rfl, rfl⟩))
            go_ret
            exact ⟨rfl, g0⟩
        · obtain rfl : false = t := (decide_eq_false (fun h : okX x => h3 h.2.1)).symm.trans H.out
          clear H
          have H3 := Lib.hid ((az_no (x 2)).2 (by omega))
          clear h3
          go_enter Try.func31, Try.ntmps31
          go_upto_region 1 with (fail)
          obtain ⟨W0, B, hW, hBq, hb, g0, hB0B⟩ := blk_new w (cz 6 x) 23
          rw [hW, hBq]
          have HB := Lib.hid hb
          have k0 := blk_num hb (i := 0) (by omega)
          have k1 := blk_num hb (i := 1) (by omega)
          have k2 := blk_num hb (i := 2) (by omega)
          have k3 := blk_num hb (i := 3) (by omega)
          have k4 := blk_num hb (i := 4) (by omega)
          have k5 := blk_num hb (i := 5) (by omega)
          clear hW hBq hb
          go_wp2_with (go_at_call 49; with_reducible refine (lia_at (x 2) false _ H3).mono ?_; rintro r w1 ⟨rfl, rfl⟩)
          go_ret
          exact ⟨rfl, g0⟩
      · obtain rfl : false = t := (decide_eq_false (fun h : okX x => h2 h.1.2.2)).symm.trans H.out
        clear H
        go_enter Try.func31, Try.ntmps31
        go_upto_region 1 with (fail)
        obtain ⟨W0, B, hW, hBq, hb, g0, hB0B⟩ := blk_new w (cz 6 x) 23
        rw [hW, hBq]
        have HB := Lib.hid hb
        have k0 := blk_num hb (i := 0) (by omega)
        have k1 := blk_num hb (i := 1) (by omega)
        have k2 := blk_num hb (i := 2) (by omega)
        have k3 := blk_num hb (i := 3) (by omega)
        have k4 := blk_num hb (i := 4) (by omega)
        have k5 := blk_num hb (i := 5) (by omega)
        clear hW hBq hb
        go_wp2_with (fail)
        go_ret
        exact ⟨rfl, g0⟩
    · obtain rfl : false = t := (decide_eq_false (fun h : okX x => h1 h.1.2.1)).symm.trans H.out
      clear H
      go_enter Try.func31, Try.ntmps31
      go_upto_region 1 with (fail)
      obtain ⟨W0, B, hW, hBq, hb, g0, hB0B⟩ := blk_new w (cz 6 x) 23
      rw [hW, hBq]
      have HB := Lib.hid hb
      have k0 := blk_num hb (i := 0) (by omega)
      have k1 := blk_num hb (i := 1) (by omega)
      have k2 := blk_num hb (i := 2) (by omega)
      have k3 := blk_num hb (i := 3) (by omega)
      have k4 := blk_num hb (i := 4) (by omega)
      have k5 := blk_num hb (i := 5) (by omega)
      clear hW hBq hb
      go_wp2_with (fail)
      go_ret
      exact ⟨rfl, g0⟩
  · obtain rfl : false = t := (decide_eq_false (fun h : okX x => h0 h.1.1)).symm.trans H.out
    clear H
    go_enter Try.func31, Try.ntmps31
    go_upto_region 1 with (fail)
    obtain ⟨W0, B, hW, hBq, hb, g0, hB0B⟩ := blk_new w (cz 6 x) 23
    rw [hW, hBq]
    have HB := Lib.hid hb
    have k0 := blk_num hb (i := 0) (by omega)
    have k1 := blk_num hb (i := 1) (by omega)
    have k2 := blk_num hb (i := 2) (by omega)
    have k3 := blk_num hb (i := 3) (by omega)
    have k4 := blk_num hb (i := 4) (by omega)
    have k5 := blk_num hb (i := 5) (by omega)
    clear hW hBq hb
    go_wp2_with (fail)
    go_ret
    exact ⟨rfl, g0⟩
set_option maxRecDepth 100000 in
theorem liv_at (z e b : Int) (t : Bool) (w : World) (H : Hid (poleB e = t)) :
    Calls Try.prog 56 #[.agg #[.int .i64 z, .int .i64 e, .int .i64 b]] w fun r w' => r = .returned (.bool t) ∧ Own w w' := by
  have hp := H.out
  clear H
  by_cases h1 : e = 64
  · obtain rfl : true = t := ((pole_iff e).2 (.inl h1)).symm.trans hp
    have c1 : (e == 64) = true := beq_iff_eq.2 h1
    clear hp h1
    go_enter Try.func56, Try.ntmps56
    go_wp2
    go_ret
    exact ⟨rfl, (Own.refl w).alloc _⟩
  · have c1 : (e == 64) = false := beq_eq_false_iff_ne.2 h1
    by_cases h2 : e = -64
    · obtain rfl : true = t := ((pole_iff e).2 (.inr h2)).symm.trans hp
      have c2 : (e == -64) = true := beq_iff_eq.2 h2
      clear hp h1 h2
      go_enter Try.func56, Try.ntmps56
      go_wp2
      go_ret
      exact ⟨rfl, (Own.refl w).alloc _⟩
    · obtain rfl : false = t := ((pole_no e).2 ⟨h1, h2⟩).symm.trans hp
      have c2 : (e == -64) = false := beq_eq_false_iff_ne.2 h2
      clear hp h1 h2
      go_enter Try.func56, Try.ntmps56
      go_wp2
      go_ret
      exact ⟨rfl, (Own.refl w).alloc _⟩
set_option maxRecDepth 100000 in
set_option maxHeartbeats 2000000 in
theorem lis_at (x : Vl) (z : Int) (t : Bool) (w : World) (hx : 0 ≤ x 2 ∧ x 2 ≤ 255) (hz : 0 ≤ z ∧ z ≤ 511) (H : Hid (inS x z = t)) :
    Calls Try.prog 57 #[.agg (cz 6 x), .int .i64 z] w fun r w' => r = .returned (.bool t) ∧ Own w w' := by
  have i1 : IntKind.i64.wrap (z - x 2) = z - x 2 := IntWalk.i64_in _ (by omega)
  obtain ⟨n, hn⟩ : ∃ n, (z - x 2) % 256 = n := ⟨_, rfl⟩
  have HN := Lib.hid hn
  have HD := Lib.hid (show decide (n ≤ x 3) = t by rw [← hn]; exact H.out)
  clear hn hx hz H
  go_enter Try.func57, Try.ntmps57
  go_upto_region 1 with (fail)
  obtain ⟨W0, B, hW, hBq, hb, g0, hB0B⟩ := blk_new w (cz 6 x) 23
  rw [hW, hBq]
  have HB := Lib.hid hb
  clear hW hBq hb
  refine RegD.region_duty [5, 6, 7, 8, 9, 10, 11, 12, 4] (RegI.upd (RegI.upd (RegI.upd (RegI.upd (RegI.upd (RegI.upd (RegI.upd (RegI.upd (RegI.upd (fun _ => undef) 5 (.int .i64 z)) 6 (.pointer (some ⟨B, 2, none⟩))) 7 (.int .i64 (x 2))) 8 (.int .i64 (z - x 2))) 9 (.int .i64 n)) 10 (.pointer (some ⟨B, 3, none⟩))) 11 (.int .i64 (x 3))) 12 (.bool (decide (n ≤ x 3)))) 4 (.bool (decide (n ≤ x 3)))) (by kernel_rfl) (by kernel_rfl) (by intro d hd; simp at hd; simp; omega) ?_
  simp only [RegD.FF, RegI.FX, RegI.upd, List.foldl_cons, List.foldl_nil, List.not_mem_nil, if_true, if_false, Nat.reduceEqDiff]
  simp only [List.setIfInBounds_toArray, List.set_cons_succ, List.set_cons_zero]
  refine And.intro ?hs1 ?he1
  case hs1 =>
    refine And.intro ?s1_0 (And.intro ?s1_1 (And.intro ?s1_2 (And.intro ?s1_3 (And.intro ?s1_4 (And.intro ?s1_5 (And.intro ?s1_6 (And.intro ?s1_7 (And.intro ?s1_8 (trivial)))))))))
    case s1_0 =>
      intro u w1 hO
      go_wp2
      exact ⟨rfl, rfl, rfl, Own.refl _⟩
    case s1_1 =>
      intro u w1 hO
      go_wp2
      exact ⟨rfl, rfl, rfl, Own.refl _⟩
    case s1_2 =>
      intro u w1 hO
      have kk := blk_num (HB.out.own hO) (i := 2) (by omega)
      go_wp2
      exact ⟨rfl, rfl, rfl, Own.refl _⟩
    case s1_3 =>
      intro u w1 hO
      go_wp2
      exact ⟨rfl, rfl, rfl, Own.refl _⟩
    case s1_4 =>
      intro u w1 hO
      go_wp2_with (go_at_call 47; with_reducible refine (AngW.norm_at _ n _ HN).mono ?_; rintro r w2 ⟨rfl, rfl⟩)
      exact ⟨rfl, rfl, rfl, Own.refl _⟩
    case s1_5 =>
      intro u w1 hO
      go_wp2
      exact ⟨rfl, rfl, rfl, Own.refl _⟩
    case s1_6 =>
      intro u w1 hO
      have kk := blk_num (HB.out.own hO) (i := 3) (by omega)
      go_wp2
      exact ⟨rfl, rfl, rfl, Own.refl _⟩
    case s1_7 =>
      intro u w1 hO
      go_wp2
      exact ⟨rfl, rfl, rfl, Own.refl _⟩
    case s1_8 =>
      intro u w1 hO
      go_wp2
      exact ⟨rfl, rfl, rfl, Own.refl _⟩
  intro u w9 hO
  replace g0 := g0.trans hO
  clear hO HB HN i1
  go_wp2
  go_ret
  exact ⟨ret_bool HD.out, g0⟩
set_option maxRecDepth 100000 in
set_option maxHeartbeats 2000000 in
theorem lal_at (x : Vl) (z e b : Int) (t : Bool) (w : World) (hx : 0 ≤ x 2 ∧ x 2 ≤ 255) (hz : 0 ≤ z ∧ z ≤ 511) (H : Hid (mayB x z e b = t)) :
    Calls Try.prog 37 #[.agg (cz 6 x), .agg #[.int .i64 z, .int .i64 e, .int .i64 b]] w fun r w' => r = .returned (.bool t) ∧ Own w w' := by
  by_cases h1 : x 0 ≤ e
  · by_cases h2 : e ≤ x 1
    · by_cases h3 : b ≤ x 4
      · by_cases hp : poleB e = true
        · obtain rfl : true = t := ((may_iff x z e b).2 ⟨⟨h1, h2, h3⟩, .inl ((pole_iff e).1 hp)⟩).symm.trans H.out
          have HP := Lib.hid hp
          clear H hp hx hz
          go_enter Try.func37, Try.ntmps37
          go_upto_region 1 with (fail)
          obtain ⟨W0, B, C, hW, hC, hB, hb, hc, g0, hB0B, hB0C, hneBC⟩ := two_new w (cz 6 x) 23 (#[.int .i64 z, .int .i64 e, .int .i64 b]) 34
          rw [hW, hC, hB]
          have HB := Lib.hid hb
          have HC := Lib.hid hc
          have k0 := blk_num hb (i := 0) (by omega)
          have k1 := blk_num hb (i := 1) (by omega)
          have k4 := blk_num hb (i := 4) (by omega)
          obtain ⟨m0, m1, m2⟩ := hc.three
          clear hW hC hB hb hc
          go_wp2_with (first | ((with_reducible show wpList _ _ _ (⟨_, .load 34 (.tmp 3), _, _, _, some _⟩ :: _) _ _); refine wpList_load_row_g rfl 34 (.tmp 3) rfl C rfl 34 _ (0, 0) _ HC.out.raw Try.underlying34 rfl infoA ?_) | (go_at_call 56; with_reducible refine (liv_at z e b true _ HP).mono ?_; rintro r w1 ⟨rfl, hg⟩; replace g0 := g0.trans hg; replace HB := Lib.hid (HB.out.own hg); replace HC := Lib.hid (HC.out.own hg); replace m0 := hg.cell m0; replace k0 := hg.cell k0; replace k1 := hg.cell k1; replace k4 := hg.cell k4; replace m1 := hg.cell m1; replace m2 := hg.cell m2; clear hg))
          go_ret
          exact ⟨rfl, g0⟩
        · have HP := Lib.hid (Bool.eq_false_iff.2 hp)
          have HS := Lib.hid (show inS x z = t by
            have := H.out
            unfold mayB at this
            rw [decide_eq_true h1, decide_eq_true h2, decide_eq_true h3, Bool.eq_false_iff.2 hp] at this
            simpa using this)
          clear H hp
          go_enter Try.func37, Try.ntmps37
          go_upto_region 1 with (fail)
          obtain ⟨W0, B, C, hW, hC, hB, hb, hc, g0, hB0B, hB0C, hneBC⟩ := two_new w (cz 6 x) 23 (#[.int .i64 z, .int .i64 e, .int .i64 b]) 34
          rw [hW, hC, hB]
          have HB := Lib.hid hb
          have HC := Lib.hid hc
          have k0 := blk_num hb (i := 0) (by omega)
          have k1 := blk_num hb (i := 1) (by omega)
          have k4 := blk_num hb (i := 4) (by omega)
          obtain ⟨m0, m1, m2⟩ := hc.three
          clear hW hC hB hb hc
          go_wp2_with (first | ((with_reducible show wpList _ _ _ (⟨_, .load 34 (.tmp 3), _, _, _, some _⟩ :: _) _ _); refine wpList_load_row_g rfl 34 (.tmp 3) rfl C rfl 34 _ (0, 0) _ HC.out.raw Try.underlying34 rfl infoA ?_) | ((with_reducible show wpList _ _ _ (⟨_, .load 23 (.tmp 2), _, _, _, some _⟩ :: _) _ _); refine wpList_load_row_g rfl 23 (.tmp 2) rfl B rfl 23 _ (0, 0) _ HB.out.raw Try.underlying23 rfl infoL ?_) | (go_at_call 56; with_reducible refine (liv_at z e b false _ HP).mono ?_; rintro r w1 ⟨rfl, hg⟩; replace g0 := g0.trans hg; replace HB := Lib.hid (HB.out.own hg); replace HC := Lib.hid (HC.out.own hg); replace m0 := hg.cell m0; replace k0 := hg.cell k0; replace k1 := hg.cell k1; replace k4 := hg.cell k4; replace m1 := hg.cell m1; replace m2 := hg.cell m2; clear hg) | (go_at_call 57; with_reducible refine (lis_at x z t _ hx hz HS).mono ?_; rintro r w2 ⟨rfl, hg⟩; replace g0 := g0.trans hg; clear hg))
          go_ret
          exact ⟨rfl, g0⟩
      · obtain rfl : false = t := (Bool.eq_false_iff.2 (fun h => h3 ((may_iff x z e b).1 h).1.2.2)).symm.trans H.out
        clear H hx hz
        go_enter Try.func37, Try.ntmps37
        go_upto_region 1 with (fail)
        obtain ⟨W0, B, C, hW, hC, hB, hb, hc, g0, hB0B, hB0C, hneBC⟩ := two_new w (cz 6 x) 23 (#[.int .i64 z, .int .i64 e, .int .i64 b]) 34
        rw [hW, hC, hB]
        have HB := Lib.hid hb
        have HC := Lib.hid hc
        have k0 := blk_num hb (i := 0) (by omega)
        have k1 := blk_num hb (i := 1) (by omega)
        have k4 := blk_num hb (i := 4) (by omega)
        obtain ⟨m0, m1, m2⟩ := hc.three
        clear hW hC hB hb hc
        go_wp2
        go_ret
        exact ⟨rfl, g0⟩
    · obtain rfl : false = t := (Bool.eq_false_iff.2 (fun h => h2 ((may_iff x z e b).1 h).1.2.1)).symm.trans H.out
      clear H hx hz
      go_enter Try.func37, Try.ntmps37
      go_upto_region 1 with (fail)
      obtain ⟨W0, B, C, hW, hC, hB, hb, hc, g0, hB0B, hB0C, hneBC⟩ := two_new w (cz 6 x) 23 (#[.int .i64 z, .int .i64 e, .int .i64 b]) 34
      rw [hW, hC, hB]
      have HB := Lib.hid hb
      have HC := Lib.hid hc
      have k0 := blk_num hb (i := 0) (by omega)
      have k1 := blk_num hb (i := 1) (by omega)
      have k4 := blk_num hb (i := 4) (by omega)
      obtain ⟨m0, m1, m2⟩ := hc.three
      clear hW hC hB hb hc
      go_wp2
      go_ret
      exact ⟨rfl, g0⟩
  · obtain rfl : false = t := (Bool.eq_false_iff.2 (fun h => h1 ((may_iff x z e b).1 h).1.1)).symm.trans H.out
    clear H hx hz
    go_enter Try.func37, Try.ntmps37
    go_upto_region 1 with (fail)
    obtain ⟨W0, B, C, hW, hC, hB, hb, hc, g0, hB0B, hB0C, hneBC⟩ := two_new w (cz 6 x) 23 (#[.int .i64 z, .int .i64 e, .int .i64 b]) 34
    rw [hW, hC, hB]
    have HB := Lib.hid hb
    have HC := Lib.hid hc
    have k0 := blk_num hb (i := 0) (by omega)
    have k1 := blk_num hb (i := 1) (by omega)
    have k4 := blk_num hb (i := 4) (by omega)
    obtain ⟨m0, m1, m2⟩ := hc.three
    clear hW hC hB hb hc
    go_wp2
    go_ret
    exact ⟨rfl, g0⟩
end Go.Proofs.Ytmjokgddhainlaa.LimW
