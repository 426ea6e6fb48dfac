/-
  Walk of a law of package limits: LimitsNarrow. Condition: none.
-/
import Derived.Test.YtmjokgddhainlaaLimitsU
namespace Go.Proofs.Ytmjokgddhainlaa.LimL
open Go.ChangeShapes Go.WideShapes Go.ChangeAt Go.RowKit
open LimW MovW PairW AimP AimW BlkW PrtW PstP PstW RegD LimP
theorem lie_turn {w : World} {D : Nat} {k z e u : Int} {T : TypeId} (h : Blk w D #[.int .i64 k, .int .i64 z, .int .i64 e, .int .i64 u] T) : Lie w D 1 #[.int .i64 z, .int .i64 e, .int .i64 u] := fun j v hv => by
  have hj : j < 3 := (Array.getElem?_eq_some_iff.1 hv).1
  have t : j = 0 ∨ j = 1 ∨ j = 2 := by omega
  rcases t with rfl | rfl | rfl
  · exact (h.cell 1).trans hv
  · exact (h.cell 2).trans hv
  · exact (h.cell 3).trans hv
set_option maxRecDepth 100000 in
set_option maxHeartbeats 16000000 in
theorem lnarrow_at (a b : Vl) (k z e u : Int) (w : World) :
    Calls Try.prog 6 #[.agg (lz a), .agg (lz b), .agg #[.int .i64 k, .int .i64 z, .int .i64 e, .int .i64 u]] w fun r w' => r = .returned (.bool true) ∧ Own w w' := by
  by_cases h1 : nwE a b = 0
  · obtain ⟨ha0, hb0, -, hv⟩ := nw_yes h1
    obtain ⟨r, hr⟩ : ∃ r, nwS a b = r := ⟨_, rfl⟩
    rw [hr] at hv
    have HNW := Lib.hid (show lz (nwV a b) = lz r ∧ nwE a b = 0 from ⟨congrArg lz hv, h1⟩)
    have hcr : chE r = 0 := by rw [← hv]; exact nw_chk h1
    have HCA := Lib.hid ha0
    have HCB := Lib.hid hb0
    have HCR := Lib.hid hcr
    have HOA := Lib.hid (ch_yes ha0).1
    have HOB := Lib.hid (ch_yes hb0).1
    have hr38 : r 38 = min (a 38) (b 38) := by rw [← hr]; rfl
    have hr39 : r 39 = min (a 39) (b 39) := by rw [← hr]; rfl
    have HR36 := Lib.hid (show decide (r 36 = 1) = (decide (a 36 = 1) && decide (b 36 = 1)) by rw [← hr]; exact both_is _ _)
    have HR37 := Lib.hid (show decide (r 37 = 1) = (decide (a 37 = 1) && decide (b 37 = 1)) by rw [← hr]; exact both_is _ _)
    have d1 : decide (a 38 < r 38) = false := decide_eq_false (by omega)
    have d2 : decide (b 38 < r 38) = false := decide_eq_false (by omega)
    have d3 : decide (a 39 < r 39) = false := decide_eq_false (by omega)
    have d4 : decide (b 39 < r 39) = false := decide_eq_false (by omega)
    have HMAY := Lib.hid (fun (hk : chk k z e u = 0) => nw_may h1 hk)
    rw [hv] at HMAY
    have HEX := Lib.hid (show alE r k z e u = chk k z e u ∧ alE a k z e u = chk k z e u ∧ alE b k z e u = chk k z e u from ⟨if_pos hcr, if_pos ha0, if_pos hb0⟩)
    clear ha0 hb0 hv hr hcr h1 hr38 hr39
    go_enter Try.func6, Try.ntmps6
    go_upto_region 1 with (fail)
    obtain ⟨W0, B, C, D, hW, hD, hC, hB, hb, hc, hd, g0, -⟩ := three_new w (lz a) 26 (lz b) 26 (#[.int .i64 k, .int .i64 z, .int .i64 e, .int .i64 u]) 41
    rw [hW, hD, hC, hB]
    have HB := Lib.hid hb
    have HC := Lib.hid hc
    have HD := Lib.hid hd
    clear hW hD hC hB hb hc hd
    go_upto_region 2 with (first | ((with_reducible show wpList _ _ _ (⟨_, .load 26 (.tmp 3), _, _, _, none⟩ :: _) _ _); refine wpList_load_row rfl 26 (.tmp 3) rfl B rfl 26 _ (0, 0) _ HB.out.raw Try.underlying26 rfl infoLs ?_) | ((with_reducible show wpList _ _ _ (⟨_, .load 26 (.tmp 4), _, _, _, none⟩ :: _) _ _); refine wpList_load_row rfl 26 (.tmp 4) rfl C rfl 26 _ (0, 0) _ HC.out.raw Try.underlying26 rfl infoLs ?_) | (go_at_call 19; with_reducible refine (lnw_at a b r 0 _ HNW).mono ?_; rintro r w1 ⟨rfl, hg⟩; replace g0 := g0.trans hg; replace HB := Lib.hid (HB.out.own hg); replace HC := Lib.hid (HC.out.own hg); replace HD := Lib.hid (HD.out.own hg); clear hg) | ((with_reducible show wpList _ _ _ (⟨_, .store 26 (.tmp 7) (.tmp 18), _, _, _, none⟩ :: _) _ _); refine wpList_store_row rfl 26 (.tmp 7) (.tmp 18) rfl _ (lz (r)) rfl rfl 26 _ (heap_new _ _) infoLs rfl (lz_one _) ?_; rw [World.setRow_alloc_new]))
    obtain ⟨w2, M, hW, hBq, hb, hg, Mg⟩ := blk_new w1 (lz r) 26
    rw [hW, hBq]
    have HM := Lib.hid hb
    replace g0 := g0.trans hg
    replace HB := Lib.hid (HB.out.own hg)
    replace HC := Lib.hid (HC.out.own hg)
    replace HD := Lib.hid (HD.out.own hg)
    clear hW hBq hb hg
    clear Mg
    have m38 := lb_num HM.out (i := 38) (by omega) (by omega)
    have m39 := lb_num HM.out (i := 39) (by omega) (by omega)
    have k38 := lb_num HB.out (i := 38) (by omega) (by omega)
    have k39 := lb_num HB.out (i := 39) (by omega) (by omega)
    have c38 := lb_num HC.out (i := 38) (by omega) (by omega)
    have c39 := lb_num HC.out (i := 39) (by omega) (by omega)
    go_upto_region 6 with (first | ((with_reducible show wpList _ _ _ (⟨_, .load 26 (.tmp 7), _, _, _, none⟩ :: _) _ _); refine wpList_load_row rfl 26 (.tmp 7) rfl M rfl 26 _ (0, 0) _ HM.out.raw Try.underlying26 rfl infoLs ?_) | ((with_reducible show wpList _ _ _ (⟨_, .load 26 (.tmp 3), _, _, _, none⟩ :: _) _ _); refine wpList_load_row rfl 26 (.tmp 3) rfl B rfl 26 _ (0, 0) _ HB.out.raw Try.underlying26 rfl infoLs ?_) | ((with_reducible show wpList _ _ _ (⟨_, .load 26 (.tmp 4), _, _, _, none⟩ :: _) _ _); refine wpList_load_row rfl 26 (.tmp 4) rfl C rfl 26 _ (0, 0) _ HC.out.raw Try.underlying26 rfl infoLs ?_) | ((with_reducible show wpList _ _ _ (⟨_, .load 26 (.tmp 4), _, _, _, some _⟩ :: _) _ _); refine wpList_load_row_g rfl 26 (.tmp 4) rfl C rfl 26 _ (0, 0) _ HC.out.raw Try.underlying26 rfl infoLs ?_) | ((with_reducible show wpList _ _ _ (⟨_, .load 26 (.tmp 7), _, _, _, some _⟩ :: _) _ _); refine wpList_load_row_g rfl 26 (.tmp 7) rfl M rfl 26 _ (0, 0) _ HM.out.raw Try.underlying26 rfl infoLs ?_) | (go_at_call 14; with_reducible refine (lck_at a 0 _ HCA).mono ?_; rintro r w5 ⟨rfl, hg⟩; replace g0 := g0.trans hg; replace HB := Lib.hid (HB.out.own hg); replace HC := Lib.hid (HC.out.own hg); replace HD := Lib.hid (HD.out.own hg); replace HM := Lib.hid (HM.out.own hg); replace m38 := hg.cell m38; replace m39 := hg.cell m39; replace k38 := hg.cell k38; replace k39 := hg.cell k39; replace c38 := hg.cell c38; replace c39 := hg.cell c39; clear hg) | (go_at_call 14; with_reducible refine (lck_at b 0 _ HCB).mono ?_; rintro r w5 ⟨rfl, hg⟩; replace g0 := g0.trans hg; replace HB := Lib.hid (HB.out.own hg); replace HC := Lib.hid (HC.out.own hg); replace HD := Lib.hid (HD.out.own hg); replace HM := Lib.hid (HM.out.own hg); replace m38 := hg.cell m38; replace m39 := hg.cell m39; replace k38 := hg.cell k38; replace k39 := hg.cell k39; replace c38 := hg.cell c38; replace c39 := hg.cell c39; clear hg) | (go_at_call 14; with_reducible refine (lck_at r 0 _ HCR).mono ?_; rintro r w5 ⟨rfl, hg⟩; replace g0 := g0.trans hg; replace HB := Lib.hid (HB.out.own hg); replace HC := Lib.hid (HC.out.own hg); replace HD := Lib.hid (HD.out.own hg); replace HM := Lib.hid (HM.out.own hg); replace m38 := hg.cell m38; replace m39 := hg.cell m39; replace k38 := hg.cell k38; replace k39 := hg.cell k39; replace c38 := hg.cell c38; replace c39 := hg.cell c39; clear hg))
    clear d1 d2 d3 d4 m38 m39 k38 k39 c38 c39
    go_cut [88] (fun s wx => s = .bool false ∧ w5 = wx)
    case first =>
      have m36 := lb_low HM.out
      have m37 := lb_rise HM.out
      have k36 := lb_low HB.out
      have k37 := lb_rise HB.out
      have c36 := lb_low HC.out
      have c37 := lb_rise HC.out
      rw [HR36.out] at m36
      rw [HR37.out] at m37
      clear HM HB HC HD
      by_cases h36 : a 36 = 1
      · by_cases h37 : a 37 = 1
        · rw [decide_eq_true h36, Bool.true_and] at m36
          rw [decide_eq_true h36] at k36
          rw [decide_eq_true h37, Bool.true_and] at m37
          rw [decide_eq_true h37] at k37
          generalize decide (b 36 = 1) = b36 at *
          generalize decide (b 37 = 1) = b37 at *
          clear h36 h37
          go_wp2
          all_goals (go_meet; first | exact ⟨rfl, rfl⟩ | exact ⟨by cases b36 <;> cases b37 <;> rfl, rfl⟩)
        · rw [decide_eq_true h36, Bool.true_and] at m36
          rw [decide_eq_true h36] at k36
          rw [decide_eq_false h37, Bool.false_and] at m37
          rw [decide_eq_false h37] at k37
          generalize decide (b 36 = 1) = b36 at *
          generalize decide (b 37 = 1) = b37 at *
          clear h36 h37
          go_wp2
          all_goals (go_meet; first | exact ⟨rfl, rfl⟩ | exact ⟨by cases b36 <;> cases b37 <;> rfl, rfl⟩)
      · by_cases h37 : a 37 = 1
        · rw [decide_eq_false h36, Bool.false_and] at m36
          rw [decide_eq_false h36] at k36
          rw [decide_eq_true h37, Bool.true_and] at m37
          rw [decide_eq_true h37] at k37
          generalize decide (b 36 = 1) = b36 at *
          generalize decide (b 37 = 1) = b37 at *
          clear h36 h37
          go_wp2
          all_goals (go_meet; first | exact ⟨rfl, rfl⟩ | exact ⟨by cases b36 <;> cases b37 <;> rfl, rfl⟩)
        · rw [decide_eq_false h36, Bool.false_and] at m36
          rw [decide_eq_false h36] at k36
          rw [decide_eq_false h37, Bool.false_and] at m37
          rw [decide_eq_false h37] at k37
          generalize decide (b 36 = 1) = b36 at *
          generalize decide (b 37 = 1) = b37 at *
          clear h36 h37
          go_wp2
          all_goals (go_meet; first | exact ⟨rfl, rfl⟩ | exact ⟨by cases b36 <;> cases b37 <;> rfl, rfl⟩)
    case rest =>
      obtain ⟨rfl, rfl⟩ := hcut
      clear HR36 HR37
      have t0 := HD.out.cell 0
      have HLT := Lib.hid (lie_turn HD.out)
      obtain ⟨x, hx⟩ : ∃ x, alV r k z e u = x := ⟨_, rfl⟩
      obtain ⟨y, hy⟩ : ∃ x, alV a k z e u = x := ⟨_, rfl⟩
      obtain ⟨v, hv⟩ : ∃ x, alV b k z e u = x := ⟨_, rfl⟩
      by_cases h2 : chk k z e u = 0
      · have hm := HMAY.out h2
        rw [hx, hy, hv] at hm
        obtain ⟨hk6, -⟩ := chk_yes h2
        obtain ⟨j, rfl⟩ : ∃ j : Nat, k = j := ⟨k.toNat, by omega⟩
        have hj6 : j < 6 := by omega
        have hj1 : (j : Int) < 6 := by omega
        have dj : decide ((j : Int) < 0) = false := decide_eq_false (by omega)
        have dj2 : decide ((6 : Int) ≤ (j : Int)) = false := decide_eq_false (by omega)
        rw [Int.toNat_natCast] at hm
        have hd : (0 : Int) = 0 := rfl
        obtain ⟨c, hrn⟩ : ∃ c, (rn (com (lim a j) (lim b j)) ((lim a j 3).toNat + 1) : Int) = c := ⟨_, rfl⟩
        have HAX := Lib.hid (show alV r j z e u = x ∧ alE r j z e u = 0 from ⟨hx, HEX.out.1.trans h2⟩)
        have HAY := Lib.hid (show alV a j z e u = y ∧ alE a j z e u = 0 from ⟨hy, HEX.out.2.1.trans h2⟩)
        have HAZ := Lib.hid (show alV b j z e u = v ∧ alE b j z e u = 0 from ⟨hv, HEX.out.2.2.trans h2⟩)
        clear hx hy hv h2 hk6 HMAY HEX hd
        cases y with
        | false =>
          obtain rfl : x = false := by
            cases x with
            | false => rfl
            | true => exact absurd (hm.1 rfl).1 Bool.false_ne_true
          clear hm hrn
          go_upto_region 13 with (first | ((with_reducible show wpList _ _ _ (⟨_, .load 34 (.tmp 93), _, _, _, none⟩ :: _) _ _); refine wpList_load_lie rfl 34 (.tmp 93) rfl D (1) rfl (#[.int .i64 z, .int .i64 e, .int .i64 u]) HLT.out _ Try.underlying34 rfl infoA ?_) | ((with_reducible show wpList _ _ _ (⟨_, .load 34 (.tmp 102), _, _, _, none⟩ :: _) _ _); refine wpList_load_lie rfl 34 (.tmp 102) rfl D (1) rfl (#[.int .i64 z, .int .i64 e, .int .i64 u]) HLT.out _ Try.underlying34 rfl infoA ?_) | ((with_reducible show wpList _ _ _ (⟨_, .load 34 (.tmp 111), _, _, _, none⟩ :: _) _ _); refine wpList_load_lie rfl 34 (.tmp 111) rfl D (1) rfl (#[.int .i64 z, .int .i64 e, .int .i64 u]) HLT.out _ Try.underlying34 rfl infoA ?_) | ((with_reducible show wpList _ _ _ (⟨_, .load 26 (.tmp 7), _, _, _, none⟩ :: _) _ _); refine wpList_load_row rfl 26 (.tmp 7) rfl M rfl 26 _ (0, 0) _ HM.out.raw Try.underlying26 rfl infoLs ?_) | ((with_reducible show wpList _ _ _ (⟨_, .load 26 (.tmp 3), _, _, _, none⟩ :: _) _ _); refine wpList_load_row rfl 26 (.tmp 3) rfl B rfl 26 _ (0, 0) _ HB.out.raw Try.underlying26 rfl infoLs ?_) | ((with_reducible show wpList _ _ _ (⟨_, .load 26 (.tmp 4), _, _, _, none⟩ :: _) _ _); refine wpList_load_row rfl 26 (.tmp 4) rfl C rfl 26 _ (0, 0) _ HC.out.raw Try.underlying26 rfl infoLs ?_) | (go_at_call 17; with_reducible refine (lal2_at r j z e u false 0 _ HAX).mono ?_; rintro r w6 ⟨rfl, hg⟩; replace g0 := g0.trans hg; replace HB := Lib.hid (HB.out.own hg); replace HC := Lib.hid (HC.out.own hg); replace HD := Lib.hid (HD.out.own hg); replace HM := Lib.hid (HM.out.own hg); replace HLT := Lib.hid (HLT.out.own hg); replace t0 := hg.cell t0; clear hg) | (go_at_call 17; with_reducible refine (lal2_at a j z e u false 0 _ HAY).mono ?_; rintro r w6 ⟨rfl, hg⟩; replace g0 := g0.trans hg; replace HB := Lib.hid (HB.out.own hg); replace HC := Lib.hid (HC.out.own hg); replace HD := Lib.hid (HD.out.own hg); replace HM := Lib.hid (HM.out.own hg); replace HLT := Lib.hid (HLT.out.own hg); replace t0 := hg.cell t0; clear hg) | (go_at_call 17; with_reducible refine (lal2_at b j z e u v 0 _ HAZ).mono ?_; rintro r w6 ⟨rfl, hg⟩; replace g0 := g0.trans hg; replace HB := Lib.hid (HB.out.own hg); replace HC := Lib.hid (HC.out.own hg); replace HD := Lib.hid (HD.out.own hg); replace HM := Lib.hid (HM.out.own hg); replace HLT := Lib.hid (HLT.out.own hg); replace t0 := hg.cell t0; clear hg))
          clear HLT t0
          (try go_frame)
          refine RegD.region_duty [135, 136, 137, 138, 139, 140, 141, 142, 143, 144, 145, 146, 147, 148, 149, 150, 151, 152, 153, 154, 155, 156, 157, 158, 159, 160, 161, 162, 163, 164, 165, 166, 167, 168] (RegI.upd (RegI.upd (RegI.upd (RegI.upd (RegI.upd (RegI.upd (RegI.upd (RegI.upd (RegI.upd (RegI.upd (RegI.upd (RegI.upd (RegI.upd (RegI.upd (RegI.upd (RegI.upd (RegI.upd (RegI.upd (RegI.upd (RegI.upd (RegI.upd (RegI.upd (RegI.upd (RegI.upd (RegI.upd (RegI.upd (RegI.upd (RegI.upd (RegI.upd (RegI.upd (RegI.upd (RegI.upd (RegI.upd (RegI.upd (fun _ => undef) 135 (.int .i64 0)) 136 (.bool false)) 137 (.bool false)) 138 (.pointer (some ⟨D, 0, none⟩))) 139 (.int .i64 (j : Int))) 140 (.bool false)) 141 (.bool false)) 142 (.bool false)) 143 (.pointer (some ⟨D, 0, none⟩))) 144 (.int .i64 (j : Int))) 145 (.bool false)) 146 (.bool false)) 147 (.bool false)) 148 (.bool false)) 149 (.bool true)) 150 (.bool true)) 151 (.bool true)) 152 (undef)) 153 (undef)) 154 (.bool true)) 155 (.bool true)) 156 (undef)) 157 (undef)) 158 (undef)) 159 (undef)) 160 (undef)) 161 (undef)) 162 (undef)) 163 (undef)) 164 (undef)) 165 (undef)) 166 (undef)) 167 (undef)) 168 (.bool true)) (by kernel_rfl) (by kernel_rfl) (by intro d hd; simp at hd; simp; omega) ?_
          simp only [RegD.FF, RegI.FX, RegI.upd, List.foldl_cons, List.foldl_nil, List.not_mem_nil, if_true, if_false, Nat.reduceEqDiff]
          simp only [List.setIfInBounds_toArray, List.set_cons_succ, List.set_cons_zero]
          refine And.intro ?hs1 ?he1
          case hs1 =>
            refine And.intro ?s1_0 (And.intro ?s1_1 (And.intro ?s1_2 (And.intro ?s1_3 (And.intro ?s1_4 (And.intro ?s1_5 (And.intro ?s1_6 (And.intro ?s1_7 (And.intro ?s1_8 (And.intro ?s1_9 (And.intro ?s1_10 (And.intro ?s1_11 (And.intro ?s1_12 (And.intro ?s1_13 (And.intro ?s1_14 (And.intro ?s1_15 (And.intro ?s1_16 (And.intro ?s1_17 (And.intro ?s1_18 (And.intro ?s1_19 (And.intro ?s1_20 (And.intro ?s1_21 (And.intro ?s1_22 (And.intro ?s1_23 (And.intro ?s1_24 (And.intro ?s1_25 (And.intro ?s1_26 (And.intro ?s1_27 (And.intro ?s1_28 (And.intro ?s1_29 (And.intro ?s1_30 (And.intro ?s1_31 (And.intro ?s1_32 (And.intro ?s1_33 (trivial))))))))))))))))))))))))))))))))))
            case s1_0 =>
              intro u w1 hO
              go_wp2
              exact ⟨rfl, rfl, rfl, Own.refl _⟩
            case s1_1 =>
              intro u w1 hO
              go_wp2
              exact ⟨rfl, rfl, rfl, Own.refl _⟩
            case s1_2 =>
              intro u w1 hO
              go_wp2
              exact ⟨rfl, rfl, rfl, Own.refl _⟩
            case s1_3 =>
              intro u w1 hO
              go_wp2
              exact ⟨rfl, rfl, rfl, Own.refl _⟩
            case s1_4 =>
              intro u w1 hO
              have kk := (HD.out.own hO).cell 0
              go_wp2
              exact ⟨rfl, rfl, rfl, Own.refl _⟩
            case s1_5 =>
              intro u w1 hO
              go_wp2
              exact ⟨rfl, rfl, rfl, Own.refl _⟩
            case s1_6 =>
              intro u w1 hO
              go_wp2
              exact ⟨rfl, rfl, rfl, Own.refl _⟩
            case s1_7 =>
              intro u w1 hO
              go_wp2
              exact ⟨rfl, rfl, rfl, Own.refl _⟩
            case s1_8 =>
              intro u w1 hO
              go_wp2
              exact ⟨rfl, rfl, rfl, Own.refl _⟩
            case s1_9 =>
              intro u w1 hO
              have kk := (HD.out.own hO).cell 0
              go_wp2
              exact ⟨rfl, rfl, rfl, Own.refl _⟩
            case s1_10 =>
              intro u w1 hO
              go_wp2
              exact ⟨rfl, rfl, rfl, Own.refl _⟩
            case s1_11 =>
              intro u w1 hO
              go_wp2
              exact ⟨rfl, rfl, rfl, Own.refl _⟩
            case s1_12 =>
              intro u w1 hO
              go_wp2
              exact ⟨rfl, rfl, rfl, Own.refl _⟩
            case s1_13 =>
              intro u w1 hO
              go_wp2
              exact ⟨rfl, rfl, rfl, Own.refl _⟩
            case s1_14 =>
              intro u w1 hO
              go_wp2
              exact ⟨rfl, rfl, rfl, Own.refl _⟩
            case s1_15 =>
              intro u w1 hO
              go_wp2
              exact ⟨rfl, rfl, rfl, Own.refl _⟩
            case s1_16 =>
              intro u w1 hO
              go_wp2
              exact ⟨rfl, rfl, rfl, Own.refl _⟩
            case s1_17 =>
              intro u w1 hO
              go_wp2
              exact ⟨rfl, rfl, rfl, Own.refl _⟩
            case s1_18 =>
              intro u w1 hO
              go_wp2
              exact ⟨rfl, rfl, rfl, Own.refl _⟩
            case s1_19 =>
              intro u w1 hO
              go_wp2
              exact ⟨rfl, rfl, rfl, Own.refl _⟩
            case s1_20 =>
              intro u w1 hO
              go_wp2
              exact ⟨rfl, rfl, rfl, Own.refl _⟩
            case s1_21 =>
              intro u w1 hO
              go_wp2
              exact ⟨rfl, rfl, rfl, Own.refl _⟩
            case s1_22 =>
              intro u w1 hO
              go_wp2
              exact ⟨rfl, rfl, rfl, Own.refl _⟩
            case s1_23 =>
              intro u w1 hO
              go_wp2
              exact ⟨rfl, rfl, rfl, Own.refl _⟩
            case s1_24 =>
              intro u w1 hO
              go_wp2
              exact ⟨rfl, rfl, rfl, Own.refl _⟩
            case s1_25 =>
              intro u w1 hO
              go_wp2
              exact ⟨rfl, rfl, rfl, Own.refl _⟩
            case s1_26 =>
              intro u w1 hO
              go_wp2
              exact ⟨rfl, rfl, rfl, Own.refl _⟩
            case s1_27 =>
              intro u w1 hO
              go_wp2
              exact ⟨rfl, rfl, rfl, Own.refl _⟩
            case s1_28 =>
              intro u w1 hO
              go_wp2
              exact ⟨rfl, rfl, rfl, Own.refl _⟩
            case s1_29 =>
              intro u w1 hO
              go_wp2
              exact ⟨rfl, rfl, rfl, Own.refl _⟩
            case s1_30 =>
              intro u w1 hO
              go_wp2
              exact ⟨rfl, rfl, rfl, Own.refl _⟩
            case s1_31 =>
              intro u w1 hO
              go_wp2
              exact ⟨rfl, rfl, rfl, Own.refl _⟩
            case s1_32 =>
              intro u w1 hO
              go_wp2
              exact ⟨rfl, rfl, rfl, Own.refl _⟩
            case s1_33 =>
              intro u w1 hO
              go_wp2
              exact ⟨rfl, rfl, rfl, Own.refl _⟩
          intro u9 w11 hO
          replace g0 := g0.trans hO
          clear hO HB HC HD HM
          go_wp2_with (go_at_call 16; with_reducible refine (awake_at _).mono ?_; rintro r w9 ⟨rfl, hg⟩; replace g0 := g0.trans hg; clear hg)
          go_ret
          exact ⟨rfl, g0⟩
        | true =>
          cases v with
          | false =>
            obtain rfl : x = false := by
              cases x with
              | false => rfl
              | true => exact absurd (hm.1 rfl).2 Bool.false_ne_true
            clear hm hrn
            go_upto_region 13 with (first | ((with_reducible show wpList _ _ _ (⟨_, .load 34 (.tmp 93), _, _, _, none⟩ :: _) _ _); refine wpList_load_lie rfl 34 (.tmp 93) rfl D (1) rfl (#[.int .i64 z, .int .i64 e, .int .i64 u]) HLT.out _ Try.underlying34 rfl infoA ?_) | ((with_reducible show wpList _ _ _ (⟨_, .load 34 (.tmp 102), _, _, _, none⟩ :: _) _ _); refine wpList_load_lie rfl 34 (.tmp 102) rfl D (1) rfl (#[.int .i64 z, .int .i64 e, .int .i64 u]) HLT.out _ Try.underlying34 rfl infoA ?_) | ((with_reducible show wpList _ _ _ (⟨_, .load 34 (.tmp 111), _, _, _, none⟩ :: _) _ _); refine wpList_load_lie rfl 34 (.tmp 111) rfl D (1) rfl (#[.int .i64 z, .int .i64 e, .int .i64 u]) HLT.out _ Try.underlying34 rfl infoA ?_) | ((with_reducible show wpList _ _ _ (⟨_, .load 26 (.tmp 7), _, _, _, none⟩ :: _) _ _); refine wpList_load_row rfl 26 (.tmp 7) rfl M rfl 26 _ (0, 0) _ HM.out.raw Try.underlying26 rfl infoLs ?_) | ((with_reducible show wpList _ _ _ (⟨_, .load 26 (.tmp 3), _, _, _, none⟩ :: _) _ _); refine wpList_load_row rfl 26 (.tmp 3) rfl B rfl 26 _ (0, 0) _ HB.out.raw Try.underlying26 rfl infoLs ?_) | ((with_reducible show wpList _ _ _ (⟨_, .load 26 (.tmp 4), _, _, _, none⟩ :: _) _ _); refine wpList_load_row rfl 26 (.tmp 4) rfl C rfl 26 _ (0, 0) _ HC.out.raw Try.underlying26 rfl infoLs ?_) | (go_at_call 17; with_reducible refine (lal2_at r j z e u false 0 _ HAX).mono ?_; rintro r w6 ⟨rfl, hg⟩; replace g0 := g0.trans hg; replace HB := Lib.hid (HB.out.own hg); replace HC := Lib.hid (HC.out.own hg); replace HD := Lib.hid (HD.out.own hg); replace HM := Lib.hid (HM.out.own hg); replace HLT := Lib.hid (HLT.out.own hg); replace t0 := hg.cell t0; clear hg) | (go_at_call 17; with_reducible refine (lal2_at a j z e u true 0 _ HAY).mono ?_; rintro r w6 ⟨rfl, hg⟩; replace g0 := g0.trans hg; replace HB := Lib.hid (HB.out.own hg); replace HC := Lib.hid (HC.out.own hg); replace HD := Lib.hid (HD.out.own hg); replace HM := Lib.hid (HM.out.own hg); replace HLT := Lib.hid (HLT.out.own hg); replace t0 := hg.cell t0; clear hg) | (go_at_call 17; with_reducible refine (lal2_at b j z e u false 0 _ HAZ).mono ?_; rintro r w6 ⟨rfl, hg⟩; replace g0 := g0.trans hg; replace HB := Lib.hid (HB.out.own hg); replace HC := Lib.hid (HC.out.own hg); replace HD := Lib.hid (HD.out.own hg); replace HM := Lib.hid (HM.out.own hg); replace HLT := Lib.hid (HLT.out.own hg); replace t0 := hg.cell t0; clear hg))
            clear HLT t0
            (try go_frame)
            refine RegD.region_duty [135, 136, 137, 138, 139, 140, 141, 142, 143, 144, 145, 146, 147, 148, 149, 150, 151, 152, 153, 154, 155, 156, 157, 158, 159, 160, 161, 162, 163, 164, 165, 166, 167, 168] (RegI.upd (RegI.upd (RegI.upd (RegI.upd (RegI.upd (RegI.upd (RegI.upd (RegI.upd (RegI.upd (RegI.upd (RegI.upd (RegI.upd (RegI.upd (RegI.upd (RegI.upd (RegI.upd (RegI.upd (RegI.upd (RegI.upd (RegI.upd (RegI.upd (RegI.upd (RegI.upd (RegI.upd (RegI.upd (RegI.upd (RegI.upd (RegI.upd (RegI.upd (RegI.upd (RegI.upd (RegI.upd (RegI.upd (RegI.upd (fun _ => undef) 135 (.int .i64 0)) 136 (.bool false)) 137 (.bool false)) 138 (.pointer (some ⟨D, 0, none⟩))) 139 (.int .i64 (j : Int))) 140 (.bool false)) 141 (.bool false)) 142 (.bool false)) 143 (.pointer (some ⟨D, 0, none⟩))) 144 (.int .i64 (j : Int))) 145 (.bool false)) 146 (.bool false)) 147 (.bool false)) 148 (.bool true)) 149 (.bool false)) 150 (.bool false)) 151 (.bool false)) 152 (.bool false)) 153 (.bool true)) 154 (.bool true)) 155 (.bool true)) 156 (undef)) 157 (undef)) 158 (undef)) 159 (undef)) 160 (undef)) 161 (undef)) 162 (undef)) 163 (undef)) 164 (undef)) 165 (undef)) 166 (undef)) 167 (undef)) 168 (.bool true)) (by kernel_rfl) (by kernel_rfl) (by intro d hd; simp at hd; simp; omega) ?_
            simp only [RegD.FF, RegI.FX, RegI.upd, List.foldl_cons, List.foldl_nil, List.not_mem_nil, if_true, if_false, Nat.reduceEqDiff]
            simp only [List.setIfInBounds_toArray, List.set_cons_succ, List.set_cons_zero]
            refine And.intro ?hs2 ?he2
            case hs2 =>
              refine And.intro ?s2_0 (And.intro ?s2_1 (And.intro ?s2_2 (And.intro ?s2_3 (And.intro ?s2_4 (And.intro ?s2_5 (And.intro ?s2_6 (And.intro ?s2_7 (And.intro ?s2_8 (And.intro ?s2_9 (And.intro ?s2_10 (And.intro ?s2_11 (And.intro ?s2_12 (And.intro ?s2_13 (And.intro ?s2_14 (And.intro ?s2_15 (And.intro ?s2_16 (And.intro ?s2_17 (And.intro ?s2_18 (And.intro ?s2_19 (And.intro ?s2_20 (And.intro ?s2_21 (And.intro ?s2_22 (And.intro ?s2_23 (And.intro ?s2_24 (And.intro ?s2_25 (And.intro ?s2_26 (And.intro ?s2_27 (And.intro ?s2_28 (And.intro ?s2_29 (And.intro ?s2_30 (And.intro ?s2_31 (And.intro ?s2_32 (And.intro ?s2_33 (trivial))))))))))))))))))))))))))))))))))
              case s2_0 =>
                intro u w1 hO
                go_wp2
                exact ⟨rfl, rfl, rfl, Own.refl _⟩
              case s2_1 =>
                intro u w1 hO
                go_wp2
                exact ⟨rfl, rfl, rfl, Own.refl _⟩
              case s2_2 =>
                intro u w1 hO
                go_wp2
                exact ⟨rfl, rfl, rfl, Own.refl _⟩
              case s2_3 =>
                intro u w1 hO
                go_wp2
                exact ⟨rfl, rfl, rfl, Own.refl _⟩
              case s2_4 =>
                intro u w1 hO
                have kk := (HD.out.own hO).cell 0
                go_wp2
                exact ⟨rfl, rfl, rfl, Own.refl _⟩
              case s2_5 =>
                intro u w1 hO
                go_wp2
                exact ⟨rfl, rfl, rfl, Own.refl _⟩
              case s2_6 =>
                intro u w1 hO
                go_wp2
                exact ⟨rfl, rfl, rfl, Own.refl _⟩
              case s2_7 =>
                intro u w1 hO
                go_wp2
                exact ⟨rfl, rfl, rfl, Own.refl _⟩
              case s2_8 =>
                intro u w1 hO
                go_wp2
                exact ⟨rfl, rfl, rfl, Own.refl _⟩
              case s2_9 =>
                intro u w1 hO
                have kk := (HD.out.own hO).cell 0
                go_wp2
                exact ⟨rfl, rfl, rfl, Own.refl _⟩
              case s2_10 =>
                intro u w1 hO
                go_wp2
                exact ⟨rfl, rfl, rfl, Own.refl _⟩
              case s2_11 =>
                intro u w1 hO
                go_wp2
                exact ⟨rfl, rfl, rfl, Own.refl _⟩
              case s2_12 =>
                intro u w1 hO
                go_wp2
                exact ⟨rfl, rfl, rfl, Own.refl _⟩
              case s2_13 =>
                intro u w1 hO
                go_wp2
                exact ⟨rfl, rfl, rfl, Own.refl _⟩
              case s2_14 =>
                intro u w1 hO
                go_wp2
                exact ⟨rfl, rfl, rfl, Own.refl _⟩
              case s2_15 =>
                intro u w1 hO
                go_wp2
                exact ⟨rfl, rfl, rfl, Own.refl _⟩
              case s2_16 =>
                intro u w1 hO
                go_wp2
                exact ⟨rfl, rfl, rfl, Own.refl _⟩
              case s2_17 =>
                intro u w1 hO
                go_wp2
                exact ⟨rfl, rfl, rfl, Own.refl _⟩
              case s2_18 =>
                intro u w1 hO
                go_wp2
                exact ⟨rfl, rfl, rfl, Own.refl _⟩
              case s2_19 =>
                intro u w1 hO
                go_wp2
                exact ⟨rfl, rfl, rfl, Own.refl _⟩
              case s2_20 =>
                intro u w1 hO
                go_wp2
                exact ⟨rfl, rfl, rfl, Own.refl _⟩
              case s2_21 =>
                intro u w1 hO
                go_wp2
                exact ⟨rfl, rfl, rfl, Own.refl _⟩
              case s2_22 =>
                intro u w1 hO
                go_wp2
                exact ⟨rfl, rfl, rfl, Own.refl _⟩
              case s2_23 =>
                intro u w1 hO
                go_wp2
                exact ⟨rfl, rfl, rfl, Own.refl _⟩
              case s2_24 =>
                intro u w1 hO
                go_wp2
                exact ⟨rfl, rfl, rfl, Own.refl _⟩
              case s2_25 =>
                intro u w1 hO
                go_wp2
                exact ⟨rfl, rfl, rfl, Own.refl _⟩
              case s2_26 =>
                intro u w1 hO
                go_wp2
                exact ⟨rfl, rfl, rfl, Own.refl _⟩
              case s2_27 =>
                intro u w1 hO
                go_wp2
                exact ⟨rfl, rfl, rfl, Own.refl _⟩
              case s2_28 =>
                intro u w1 hO
                go_wp2
                exact ⟨rfl, rfl, rfl, Own.refl _⟩
              case s2_29 =>
                intro u w1 hO
                go_wp2
                exact ⟨rfl, rfl, rfl, Own.refl _⟩
              case s2_30 =>
                intro u w1 hO
                go_wp2
                exact ⟨rfl, rfl, rfl, Own.refl _⟩
              case s2_31 =>
                intro u w1 hO
                go_wp2
                exact ⟨rfl, rfl, rfl, Own.refl _⟩
              case s2_32 =>
                intro u w1 hO
                go_wp2
                exact ⟨rfl, rfl, rfl, Own.refl _⟩
              case s2_33 =>
                intro u w1 hO
                go_wp2
                exact ⟨rfl, rfl, rfl, Own.refl _⟩
            intro u9 w11 hO
            replace g0 := g0.trans hO
            clear hO HB HC HD HM
            go_wp2_with (go_at_call 16; with_reducible refine (awake_at _).mono ?_; rintro r w9 ⟨rfl, hg⟩; replace g0 := g0.trans hg; clear hg)
            go_ret
            exact ⟨rfl, g0⟩
          | true =>
            by_cases hc1 : c = 1
            · subst hc1
              obtain rfl : x = true := hm.2 rfl rfl (by omega)
              clear hm
              go_upto_region 13 with (first | ((with_reducible show wpList _ _ _ (⟨_, .load 34 (.tmp 93), _, _, _, none⟩ :: _) _ _); refine wpList_load_lie rfl 34 (.tmp 93) rfl D (1) rfl (#[.int .i64 z, .int .i64 e, .int .i64 u]) HLT.out _ Try.underlying34 rfl infoA ?_) | ((with_reducible show wpList _ _ _ (⟨_, .load 34 (.tmp 102), _, _, _, none⟩ :: _) _ _); refine wpList_load_lie rfl 34 (.tmp 102) rfl D (1) rfl (#[.int .i64 z, .int .i64 e, .int .i64 u]) HLT.out _ Try.underlying34 rfl infoA ?_) | ((with_reducible show wpList _ _ _ (⟨_, .load 34 (.tmp 111), _, _, _, none⟩ :: _) _ _); refine wpList_load_lie rfl 34 (.tmp 111) rfl D (1) rfl (#[.int .i64 z, .int .i64 e, .int .i64 u]) HLT.out _ Try.underlying34 rfl infoA ?_) | ((with_reducible show wpList _ _ _ (⟨_, .load 26 (.tmp 7), _, _, _, none⟩ :: _) _ _); refine wpList_load_row rfl 26 (.tmp 7) rfl M rfl 26 _ (0, 0) _ HM.out.raw Try.underlying26 rfl infoLs ?_) | ((with_reducible show wpList _ _ _ (⟨_, .load 26 (.tmp 3), _, _, _, none⟩ :: _) _ _); refine wpList_load_row rfl 26 (.tmp 3) rfl B rfl 26 _ (0, 0) _ HB.out.raw Try.underlying26 rfl infoLs ?_) | ((with_reducible show wpList _ _ _ (⟨_, .load 26 (.tmp 4), _, _, _, none⟩ :: _) _ _); refine wpList_load_row rfl 26 (.tmp 4) rfl C rfl 26 _ (0, 0) _ HC.out.raw Try.underlying26 rfl infoLs ?_) | (go_at_call 17; with_reducible refine (lal2_at r j z e u true 0 _ HAX).mono ?_; rintro r w6 ⟨rfl, hg⟩; replace g0 := g0.trans hg; replace HB := Lib.hid (HB.out.own hg); replace HC := Lib.hid (HC.out.own hg); replace HD := Lib.hid (HD.out.own hg); replace HM := Lib.hid (HM.out.own hg); replace HLT := Lib.hid (HLT.out.own hg); replace t0 := hg.cell t0; clear hg) | (go_at_call 17; with_reducible refine (lal2_at a j z e u true 0 _ HAY).mono ?_; rintro r w6 ⟨rfl, hg⟩; replace g0 := g0.trans hg; replace HB := Lib.hid (HB.out.own hg); replace HC := Lib.hid (HC.out.own hg); replace HD := Lib.hid (HD.out.own hg); replace HM := Lib.hid (HM.out.own hg); replace HLT := Lib.hid (HLT.out.own hg); replace t0 := hg.cell t0; clear hg) | (go_at_call 17; with_reducible refine (lal2_at b j z e u true 0 _ HAZ).mono ?_; rintro r w6 ⟨rfl, hg⟩; replace g0 := g0.trans hg; replace HB := Lib.hid (HB.out.own hg); replace HC := Lib.hid (HC.out.own hg); replace HD := Lib.hid (HD.out.own hg); replace HM := Lib.hid (HM.out.own hg); replace HLT := Lib.hid (HLT.out.own hg); replace t0 := hg.cell t0; clear hg))
              have HLA := Lib.hid (lb_lim HB.out hj6)
              have HLB := Lib.hid (lb_lim HC.out hj6)
              have hlx := HOA.out j hj6
              have hly := HOB.out j hj6
              have HRN0 := Lib.hid hrn
              clear hrn
              generalize lim a j = lx at *
              generalize lim b j = ly at *
              have HRN := HRN0
              clear HLT t0
              (try go_frame)
              refine RegD.region_duty [135, 136, 137, 138, 139, 140, 141, 142, 143, 144, 145, 146, 147, 148, 149, 150, 151, 152, 153, 154, 155, 156, 157, 158, 159, 160, 161, 162, 163, 164, 165, 166, 167, 168] (RegI.upd (RegI.upd (RegI.upd (RegI.upd (RegI.upd (RegI.upd (RegI.upd (RegI.upd (RegI.upd (RegI.upd (RegI.upd (RegI.upd (RegI.upd (RegI.upd (RegI.upd (RegI.upd (RegI.upd (RegI.upd (RegI.upd (RegI.upd (RegI.upd (RegI.upd (RegI.upd (RegI.upd (RegI.upd (RegI.upd (RegI.upd (RegI.upd (RegI.upd (RegI.upd (RegI.upd (RegI.upd (RegI.upd (RegI.upd (fun _ => undef) 135 (.int .i64 0)) 136 (.bool false)) 137 (.bool false)) 138 (.pointer (some ⟨D, 0, none⟩))) 139 (.int .i64 (j : Int))) 140 (.bool false)) 141 (.bool false)) 142 (.bool false)) 143 (.pointer (some ⟨D, 0, none⟩))) 144 (.int .i64 (j : Int))) 145 (.bool false)) 146 (.bool false)) 147 (.bool false)) 148 (.bool true)) 149 (.bool false)) 150 (.bool false)) 151 (.bool false)) 152 (.bool true)) 153 (.bool false)) 154 (.bool false)) 155 (.bool false)) 156 (.pointer (some ⟨D, 0, none⟩))) 157 (.int .i64 (j : Int))) 158 (.pointer (some ⟨B, 0, none⟩))) 159 (.pointer (some ⟨B, j * 6, none⟩))) 160 (.agg (cz 6 lx))) 161 (.pointer (some ⟨D, 0, none⟩))) 162 (.int .i64 (j : Int))) 163 (.pointer (some ⟨C, 0, none⟩))) 164 (.pointer (some ⟨C, j * 6, none⟩))) 165 (.agg (cz 6 ly))) 166 (.int .i64 1)) 167 (.bool false)) 168 (.bool false)) (by kernel_rfl) (by kernel_rfl) (by intro d hd; simp at hd; simp; omega) ?_
              simp only [RegD.FF, RegI.FX, RegI.upd, List.foldl_cons, List.foldl_nil, List.not_mem_nil, if_true, if_false, Nat.reduceEqDiff]
              simp only [List.setIfInBounds_toArray, List.set_cons_succ, List.set_cons_zero]
              refine And.intro ?hs3 ?he3
              case hs3 =>
                refine And.intro ?s3_0 (And.intro ?s3_1 (And.intro ?s3_2 (And.intro ?s3_3 (And.intro ?s3_4 (And.intro ?s3_5 (And.intro ?s3_6 (And.intro ?s3_7 (And.intro ?s3_8 (And.intro ?s3_9 (And.intro ?s3_10 (And.intro ?s3_11 (And.intro ?s3_12 (And.intro ?s3_13 (And.intro ?s3_14 (And.intro ?s3_15 (And.intro ?s3_16 (And.intro ?s3_17 (And.intro ?s3_18 (And.intro ?s3_19 (And.intro ?s3_20 (And.intro ?s3_21 (And.intro ?s3_22 (And.intro ?s3_23 (And.intro ?s3_24 (And.intro ?s3_25 (And.intro ?s3_26 (And.intro ?s3_27 (And.intro ?s3_28 (And.intro ?s3_29 (And.intro ?s3_30 (And.intro ?s3_31 (And.intro ?s3_32 (And.intro ?s3_33 (trivial))))))))))))))))))))))))))))))))))
                case s3_0 =>
                  intro u w1 hO
                  go_wp2
                  exact ⟨rfl, rfl, rfl, Own.refl _⟩
                case s3_1 =>
                  intro u w1 hO
                  go_wp2
                  exact ⟨rfl, rfl, rfl, Own.refl _⟩
                case s3_2 =>
                  intro u w1 hO
                  go_wp2
                  exact ⟨rfl, rfl, rfl, Own.refl _⟩
                case s3_3 =>
                  intro u w1 hO
                  go_wp2
                  exact ⟨rfl, rfl, rfl, Own.refl _⟩
                case s3_4 =>
                  intro u w1 hO
                  have kk := (HD.out.own hO).cell 0
                  go_wp2
                  exact ⟨rfl, rfl, rfl, Own.refl _⟩
                case s3_5 =>
                  intro u w1 hO
                  go_wp2
                  exact ⟨rfl, rfl, rfl, Own.refl _⟩
                case s3_6 =>
                  intro u w1 hO
                  go_wp2
                  exact ⟨rfl, rfl, rfl, Own.refl _⟩
                case s3_7 =>
                  intro u w1 hO
                  go_wp2
                  exact ⟨rfl, rfl, rfl, Own.refl _⟩
                case s3_8 =>
                  intro u w1 hO
                  go_wp2
                  exact ⟨rfl, rfl, rfl, Own.refl _⟩
                case s3_9 =>
                  intro u w1 hO
                  have kk := (HD.out.own hO).cell 0
                  go_wp2
                  exact ⟨rfl, rfl, rfl, Own.refl _⟩
                case s3_10 =>
                  intro u w1 hO
                  go_wp2
                  exact ⟨rfl, rfl, rfl, Own.refl _⟩
                case s3_11 =>
                  intro u w1 hO
                  go_wp2
                  exact ⟨rfl, rfl, rfl, Own.refl _⟩
                case s3_12 =>
                  intro u w1 hO
                  go_wp2
                  exact ⟨rfl, rfl, rfl, Own.refl _⟩
                case s3_13 =>
                  intro u w1 hO
                  go_wp2
                  exact ⟨rfl, rfl, rfl, Own.refl _⟩
                case s3_14 =>
                  intro u w1 hO
                  go_wp2
                  exact ⟨rfl, rfl, rfl, Own.refl _⟩
                case s3_15 =>
                  intro u w1 hO
                  go_wp2
                  exact ⟨rfl, rfl, rfl, Own.refl _⟩
                case s3_16 =>
                  intro u w1 hO
                  go_wp2
                  exact ⟨rfl, rfl, rfl, Own.refl _⟩
                case s3_17 =>
                  intro u w1 hO
                  go_wp2
                  exact ⟨rfl, rfl, rfl, Own.refl _⟩
                case s3_18 =>
                  intro u w1 hO
                  go_wp2
                  exact ⟨rfl, rfl, rfl, Own.refl _⟩
                case s3_19 =>
                  intro u w1 hO
                  go_wp2
                  exact ⟨rfl, rfl, rfl, Own.refl _⟩
                case s3_20 =>
                  intro u w1 hO
                  go_wp2
                  exact ⟨rfl, rfl, rfl, Own.refl _⟩
                case s3_21 =>
                  intro u w1 hO
                  go_wp2
                  exact ⟨rfl, rfl, rfl, Own.refl _⟩
                case s3_22 =>
                  intro u w1 hO
                  have kk := (HD.out.own hO).cell 0
                  go_wp2
                  exact ⟨rfl, rfl, rfl, Own.refl _⟩
                case s3_23 =>
                  intro u w1 hO
                  go_wp2
                  exact ⟨rfl, rfl, rfl, Own.refl _⟩
                case s3_24 =>
                  intro u w1 hO
                  go_wp2
                  exact ⟨rfl, rfl, rfl, Own.refl _⟩
                case s3_25 =>
                  intro u w1 hO
                  have HB9 := Lib.hid (HLA.out.own hO)
                  go_wp2_with ((with_reducible show wpList _ _ _ (⟨_, .load 23 (.tmp 159), _, _, _, some _⟩ :: _) _ _); refine wpList_load_lie_g rfl 23 (.tmp 159) rfl B (j * 6) rfl (cz 6 lx) HB9.out _ Try.underlying23 rfl infoL ?_)
                  exact ⟨rfl, rfl, rfl, Own.refl _⟩
                case s3_26 =>
                  intro u w1 hO
                  go_wp2
                  exact ⟨rfl, rfl, rfl, Own.refl _⟩
                case s3_27 =>
                  intro u w1 hO
                  have kk := (HD.out.own hO).cell 0
                  go_wp2
                  exact ⟨rfl, rfl, rfl, Own.refl _⟩
                case s3_28 =>
                  intro u w1 hO
                  go_wp2
                  exact ⟨rfl, rfl, rfl, Own.refl _⟩
                case s3_29 =>
                  intro u w1 hO
                  go_wp2
                  exact ⟨rfl, rfl, rfl, Own.refl _⟩
                case s3_30 =>
                  intro u w1 hO
                  have HB9 := Lib.hid (HLB.out.own hO)
                  go_wp2_with ((with_reducible show wpList _ _ _ (⟨_, .load 23 (.tmp 164), _, _, _, some _⟩ :: _) _ _); refine wpList_load_lie_g rfl 23 (.tmp 164) rfl C (j * 6) rfl (cz 6 ly) HB9.out _ Try.underlying23 rfl infoL ?_)
                  exact ⟨rfl, rfl, rfl, Own.refl _⟩
                case s3_31 =>
                  intro u w1 hO
                  go_wp2_with (go_at_call 21; with_reducible refine (lrn_at lx ly 1 _ hlx hly HRN).mono ?_; rintro r w2 ⟨rfl, hg⟩)
                  exact ⟨rfl, rfl, rfl, hg⟩
                case s3_32 =>
                  intro u w1 hO
                  go_wp2
                  exact ⟨rfl, rfl, rfl, Own.refl _⟩
                case s3_33 =>
                  intro u w1 hO
                  go_wp2
                  exact ⟨rfl, rfl, rfl, Own.refl _⟩
              intro u9 w11 hO
              replace g0 := g0.trans hO
              clear hO HB HC HD HM
              go_wp2_with (go_at_call 16; with_reducible refine (awake_at _).mono ?_; rintro r w9 ⟨rfl, hg⟩; replace g0 := g0.trans hg; clear hg)
              go_ret
              exact ⟨rfl, g0⟩
            · clear hm
              cases x with
              | false =>
                go_upto_region 13 with (first | ((with_reducible show wpList _ _ _ (⟨_, .load 34 (.tmp 93), _, _, _, none⟩ :: _) _ _); refine wpList_load_lie rfl 34 (.tmp 93) rfl D (1) rfl (#[.int .i64 z, .int .i64 e, .int .i64 u]) HLT.out _ Try.underlying34 rfl infoA ?_) | ((with_reducible show wpList _ _ _ (⟨_, .load 34 (.tmp 102), _, _, _, none⟩ :: _) _ _); refine wpList_load_lie rfl 34 (.tmp 102) rfl D (1) rfl (#[.int .i64 z, .int .i64 e, .int .i64 u]) HLT.out _ Try.underlying34 rfl infoA ?_) | ((with_reducible show wpList _ _ _ (⟨_, .load 34 (.tmp 111), _, _, _, none⟩ :: _) _ _); refine wpList_load_lie rfl 34 (.tmp 111) rfl D (1) rfl (#[.int .i64 z, .int .i64 e, .int .i64 u]) HLT.out _ Try.underlying34 rfl infoA ?_) | ((with_reducible show wpList _ _ _ (⟨_, .load 26 (.tmp 7), _, _, _, none⟩ :: _) _ _); refine wpList_load_row rfl 26 (.tmp 7) rfl M rfl 26 _ (0, 0) _ HM.out.raw Try.underlying26 rfl infoLs ?_) | ((with_reducible show wpList _ _ _ (⟨_, .load 26 (.tmp 3), _, _, _, none⟩ :: _) _ _); refine wpList_load_row rfl 26 (.tmp 3) rfl B rfl 26 _ (0, 0) _ HB.out.raw Try.underlying26 rfl infoLs ?_) | ((with_reducible show wpList _ _ _ (⟨_, .load 26 (.tmp 4), _, _, _, none⟩ :: _) _ _); refine wpList_load_row rfl 26 (.tmp 4) rfl C rfl 26 _ (0, 0) _ HC.out.raw Try.underlying26 rfl infoLs ?_) | (go_at_call 17; with_reducible refine (lal2_at r j z e u false 0 _ HAX).mono ?_; rintro r w6 ⟨rfl, hg⟩; replace g0 := g0.trans hg; replace HB := Lib.hid (HB.out.own hg); replace HC := Lib.hid (HC.out.own hg); replace HD := Lib.hid (HD.out.own hg); replace HM := Lib.hid (HM.out.own hg); replace HLT := Lib.hid (HLT.out.own hg); replace t0 := hg.cell t0; clear hg) | (go_at_call 17; with_reducible refine (lal2_at a j z e u true 0 _ HAY).mono ?_; rintro r w6 ⟨rfl, hg⟩; replace g0 := g0.trans hg; replace HB := Lib.hid (HB.out.own hg); replace HC := Lib.hid (HC.out.own hg); replace HD := Lib.hid (HD.out.own hg); replace HM := Lib.hid (HM.out.own hg); replace HLT := Lib.hid (HLT.out.own hg); replace t0 := hg.cell t0; clear hg) | (go_at_call 17; with_reducible refine (lal2_at b j z e u true 0 _ HAZ).mono ?_; rintro r w6 ⟨rfl, hg⟩; replace g0 := g0.trans hg; replace HB := Lib.hid (HB.out.own hg); replace HC := Lib.hid (HC.out.own hg); replace HD := Lib.hid (HD.out.own hg); replace HM := Lib.hid (HM.out.own hg); replace HLT := Lib.hid (HLT.out.own hg); replace t0 := hg.cell t0; clear hg))
                have HLA := Lib.hid (lb_lim HB.out hj6)
                have HLB := Lib.hid (lb_lim HC.out hj6)
                have hlx := HOA.out j hj6
                have hly := HOB.out j hj6
                have HRN0 := Lib.hid hrn
                clear hrn
                generalize lim a j = lx at *
                generalize lim b j = ly at *
                have HRN := HRN0
                have kc : (c != 1) = true := bne_iff_ne.2 hc1
                clear HLT t0
                (try go_frame)
                refine RegD.region_duty [135, 136, 137, 138, 139, 140, 141, 142, 143, 144, 145, 146, 147, 148, 149, 150, 151, 152, 153, 154, 155, 156, 157, 158, 159, 160, 161, 162, 163, 164, 165, 166, 167, 168] (RegI.upd (RegI.upd (RegI.upd (RegI.upd (RegI.upd (RegI.upd (RegI.upd (RegI.upd (RegI.upd (RegI.upd (RegI.upd (RegI.upd (RegI.upd (RegI.upd (RegI.upd (RegI.upd (RegI.upd (RegI.upd (RegI.upd (RegI.upd (RegI.upd (RegI.upd (RegI.upd (RegI.upd (RegI.upd (RegI.upd (RegI.upd (RegI.upd (RegI.upd (RegI.upd (RegI.upd (RegI.upd (RegI.upd (RegI.upd (fun _ => undef) 135 (.int .i64 0)) 136 (.bool false)) 137 (.bool false)) 138 (.pointer (some ⟨D, 0, none⟩))) 139 (.int .i64 (j : Int))) 140 (.bool false)) 141 (.bool false)) 142 (.bool false)) 143 (.pointer (some ⟨D, 0, none⟩))) 144 (.int .i64 (j : Int))) 145 (.bool false)) 146 (.bool false)) 147 (.bool false)) 148 (.bool true)) 149 (.bool false)) 150 (.bool false)) 151 (.bool false)) 152 (.bool true)) 153 (.bool false)) 154 (.bool false)) 155 (.bool false)) 156 (.pointer (some ⟨D, 0, none⟩))) 157 (.int .i64 (j : Int))) 158 (.pointer (some ⟨B, 0, none⟩))) 159 (.pointer (some ⟨B, j * 6, none⟩))) 160 (.agg (cz 6 lx))) 161 (.pointer (some ⟨D, 0, none⟩))) 162 (.int .i64 (j : Int))) 163 (.pointer (some ⟨C, 0, none⟩))) 164 (.pointer (some ⟨C, j * 6, none⟩))) 165 (.agg (cz 6 ly))) 166 (.int .i64 c)) 167 (.bool true)) 168 (.bool true)) (by kernel_rfl) (by kernel_rfl) (by intro d hd; simp at hd; simp; omega) ?_
                simp only [RegD.FF, RegI.FX, RegI.upd, List.foldl_cons, List.foldl_nil, List.not_mem_nil, if_true, if_false, Nat.reduceEqDiff]
                simp only [List.setIfInBounds_toArray, List.set_cons_succ, List.set_cons_zero]
                refine And.intro ?hs4 ?he4
                case hs4 =>
                  refine And.intro ?s4_0 (And.intro ?s4_1 (And.intro ?s4_2 (And.intro ?s4_3 (And.intro ?s4_4 (And.intro ?s4_5 (And.intro ?s4_6 (And.intro ?s4_7 (And.intro ?s4_8 (And.intro ?s4_9 (And.intro ?s4_10 (And.intro ?s4_11 (And.intro ?s4_12 (And.intro ?s4_13 (And.intro ?s4_14 (And.intro ?s4_15 (And.intro ?s4_16 (And.intro ?s4_17 (And.intro ?s4_18 (And.intro ?s4_19 (And.intro ?s4_20 (And.intro ?s4_21 (And.intro ?s4_22 (And.intro ?s4_23 (And.intro ?s4_24 (And.intro ?s4_25 (And.intro ?s4_26 (And.intro ?s4_27 (And.intro ?s4_28 (And.intro ?s4_29 (And.intro ?s4_30 (And.intro ?s4_31 (And.intro ?s4_32 (And.intro ?s4_33 (trivial))))))))))))))))))))))))))))))))))
                  case s4_0 =>
                    intro u w1 hO
                    go_wp2
                    exact ⟨rfl, rfl, rfl, Own.refl _⟩
                  case s4_1 =>
                    intro u w1 hO
                    go_wp2
                    exact ⟨rfl, rfl, rfl, Own.refl _⟩
                  case s4_2 =>
                    intro u w1 hO
                    go_wp2
                    exact ⟨rfl, rfl, rfl, Own.refl _⟩
                  case s4_3 =>
                    intro u w1 hO
                    go_wp2
                    exact ⟨rfl, rfl, rfl, Own.refl _⟩
                  case s4_4 =>
                    intro u w1 hO
                    have kk := (HD.out.own hO).cell 0
                    go_wp2
                    exact ⟨rfl, rfl, rfl, Own.refl _⟩
                  case s4_5 =>
                    intro u w1 hO
                    go_wp2
                    exact ⟨rfl, rfl, rfl, Own.refl _⟩
                  case s4_6 =>
                    intro u w1 hO
                    go_wp2
                    exact ⟨rfl, rfl, rfl, Own.refl _⟩
                  case s4_7 =>
                    intro u w1 hO
                    go_wp2
                    exact ⟨rfl, rfl, rfl, Own.refl _⟩
                  case s4_8 =>
                    intro u w1 hO
                    go_wp2
                    exact ⟨rfl, rfl, rfl, Own.refl _⟩
                  case s4_9 =>
                    intro u w1 hO
                    have kk := (HD.out.own hO).cell 0
                    go_wp2
                    exact ⟨rfl, rfl, rfl, Own.refl _⟩
                  case s4_10 =>
                    intro u w1 hO
                    go_wp2
                    exact ⟨rfl, rfl, rfl, Own.refl _⟩
                  case s4_11 =>
                    intro u w1 hO
                    go_wp2
                    exact ⟨rfl, rfl, rfl, Own.refl _⟩
                  case s4_12 =>
                    intro u w1 hO
                    go_wp2
                    exact ⟨rfl, rfl, rfl, Own.refl _⟩
                  case s4_13 =>
                    intro u w1 hO
                    go_wp2
                    exact ⟨rfl, rfl, rfl, Own.refl _⟩
                  case s4_14 =>
                    intro u w1 hO
                    go_wp2
                    exact ⟨rfl, rfl, rfl, Own.refl _⟩
                  case s4_15 =>
                    intro u w1 hO
                    go_wp2
                    exact ⟨rfl, rfl, rfl, Own.refl _⟩
                  case s4_16 =>
                    intro u w1 hO
                    go_wp2
                    exact ⟨rfl, rfl, rfl, Own.refl _⟩
                  case s4_17 =>
                    intro u w1 hO
                    go_wp2
                    exact ⟨rfl, rfl, rfl, Own.refl _⟩
                  case s4_18 =>
                    intro u w1 hO
                    go_wp2
                    exact ⟨rfl, rfl, rfl, Own.refl _⟩
                  case s4_19 =>
                    intro u w1 hO
                    go_wp2
                    exact ⟨rfl, rfl, rfl, Own.refl _⟩
                  case s4_20 =>
                    intro u w1 hO
                    go_wp2
                    exact ⟨rfl, rfl, rfl, Own.refl _⟩
                  case s4_21 =>
                    intro u w1 hO
                    go_wp2
                    exact ⟨rfl, rfl, rfl, Own.refl _⟩
                  case s4_22 =>
                    intro u w1 hO
                    have kk := (HD.out.own hO).cell 0
                    go_wp2
                    exact ⟨rfl, rfl, rfl, Own.refl _⟩
                  case s4_23 =>
                    intro u w1 hO
                    go_wp2
                    exact ⟨rfl, rfl, rfl, Own.refl _⟩
                  case s4_24 =>
                    intro u w1 hO
                    go_wp2
                    exact ⟨rfl, rfl, rfl, Own.refl _⟩
                  case s4_25 =>
                    intro u w1 hO
                    have HB9 := Lib.hid (HLA.out.own hO)
                    go_wp2_with ((with_reducible show wpList _ _ _ (⟨_, .load 23 (.tmp 159), _, _, _, some _⟩ :: _) _ _); refine wpList_load_lie_g rfl 23 (.tmp 159) rfl B (j * 6) rfl (cz 6 lx) HB9.out _ Try.underlying23 rfl infoL ?_)
                    exact ⟨rfl, rfl, rfl, Own.refl _⟩
                  case s4_26 =>
                    intro u w1 hO
                    go_wp2
                    exact ⟨rfl, rfl, rfl, Own.refl _⟩
                  case s4_27 =>
                    intro u w1 hO
                    have kk := (HD.out.own hO).cell 0
                    go_wp2
                    exact ⟨rfl, rfl, rfl, Own.refl _⟩
                  case s4_28 =>
                    intro u w1 hO
                    go_wp2
                    exact ⟨rfl, rfl, rfl, Own.refl _⟩
                  case s4_29 =>
                    intro u w1 hO
                    go_wp2
                    exact ⟨rfl, rfl, rfl, Own.refl _⟩
                  case s4_30 =>
                    intro u w1 hO
                    have HB9 := Lib.hid (HLB.out.own hO)
                    go_wp2_with ((with_reducible show wpList _ _ _ (⟨_, .load 23 (.tmp 164), _, _, _, some _⟩ :: _) _ _); refine wpList_load_lie_g rfl 23 (.tmp 164) rfl C (j * 6) rfl (cz 6 ly) HB9.out _ Try.underlying23 rfl infoL ?_)
                    exact ⟨rfl, rfl, rfl, Own.refl _⟩
                  case s4_31 =>
                    intro u w1 hO
                    go_wp2_with (go_at_call 21; with_reducible refine (lrn_at lx ly c _ hlx hly HRN).mono ?_; rintro r w2 ⟨rfl, hg⟩)
                    exact ⟨rfl, rfl, rfl, hg⟩
                  case s4_32 =>
                    intro u w1 hO
                    go_wp2
                    exact ⟨rfl, rfl, rfl, Own.refl _⟩
                  case s4_33 =>
                    intro u w1 hO
                    go_wp2
                    exact ⟨rfl, rfl, rfl, Own.refl _⟩
                intro u9 w11 hO
                replace g0 := g0.trans hO
                clear hO HB HC HD HM
                go_wp2_with (go_at_call 16; with_reducible refine (awake_at _).mono ?_; rintro r w9 ⟨rfl, hg⟩; replace g0 := g0.trans hg; clear hg)
                go_ret
                exact ⟨rfl, g0⟩
              | true =>
                go_upto_region 13 with (first | ((with_reducible show wpList _ _ _ (⟨_, .load 34 (.tmp 93), _, _, _, none⟩ :: _) _ _); refine wpList_load_lie rfl 34 (.tmp 93) rfl D (1) rfl (#[.int .i64 z, .int .i64 e, .int .i64 u]) HLT.out _ Try.underlying34 rfl infoA ?_) | ((with_reducible show wpList _ _ _ (⟨_, .load 34 (.tmp 102), _, _, _, none⟩ :: _) _ _); refine wpList_load_lie rfl 34 (.tmp 102) rfl D (1) rfl (#[.int .i64 z, .int .i64 e, .int .i64 u]) HLT.out _ Try.underlying34 rfl infoA ?_) | ((with_reducible show wpList _ _ _ (⟨_, .load 34 (.tmp 111), _, _, _, none⟩ :: _) _ _); refine wpList_load_lie rfl 34 (.tmp 111) rfl D (1) rfl (#[.int .i64 z, .int .i64 e, .int .i64 u]) HLT.out _ Try.underlying34 rfl infoA ?_) | ((with_reducible show wpList _ _ _ (⟨_, .load 26 (.tmp 7), _, _, _, none⟩ :: _) _ _); refine wpList_load_row rfl 26 (.tmp 7) rfl M rfl 26 _ (0, 0) _ HM.out.raw Try.underlying26 rfl infoLs ?_) | ((with_reducible show wpList _ _ _ (⟨_, .load 26 (.tmp 3), _, _, _, none⟩ :: _) _ _); refine wpList_load_row rfl 26 (.tmp 3) rfl B rfl 26 _ (0, 0) _ HB.out.raw Try.underlying26 rfl infoLs ?_) | ((with_reducible show wpList _ _ _ (⟨_, .load 26 (.tmp 4), _, _, _, none⟩ :: _) _ _); refine wpList_load_row rfl 26 (.tmp 4) rfl C rfl 26 _ (0, 0) _ HC.out.raw Try.underlying26 rfl infoLs ?_) | (go_at_call 17; with_reducible refine (lal2_at r j z e u true 0 _ HAX).mono ?_; rintro r w6 ⟨rfl, hg⟩; replace g0 := g0.trans hg; replace HB := Lib.hid (HB.out.own hg); replace HC := Lib.hid (HC.out.own hg); replace HD := Lib.hid (HD.out.own hg); replace HM := Lib.hid (HM.out.own hg); replace HLT := Lib.hid (HLT.out.own hg); replace t0 := hg.cell t0; clear hg) | (go_at_call 17; with_reducible refine (lal2_at a j z e u true 0 _ HAY).mono ?_; rintro r w6 ⟨rfl, hg⟩; replace g0 := g0.trans hg; replace HB := Lib.hid (HB.out.own hg); replace HC := Lib.hid (HC.out.own hg); replace HD := Lib.hid (HD.out.own hg); replace HM := Lib.hid (HM.out.own hg); replace HLT := Lib.hid (HLT.out.own hg); replace t0 := hg.cell t0; clear hg) | (go_at_call 17; with_reducible refine (lal2_at b j z e u true 0 _ HAZ).mono ?_; rintro r w6 ⟨rfl, hg⟩; replace g0 := g0.trans hg; replace HB := Lib.hid (HB.out.own hg); replace HC := Lib.hid (HC.out.own hg); replace HD := Lib.hid (HD.out.own hg); replace HM := Lib.hid (HM.out.own hg); replace HLT := Lib.hid (HLT.out.own hg); replace t0 := hg.cell t0; clear hg))
                have HLA := Lib.hid (lb_lim HB.out hj6)
                have HLB := Lib.hid (lb_lim HC.out hj6)
                have hlx := HOA.out j hj6
                have hly := HOB.out j hj6
                have HRN0 := Lib.hid hrn
                clear hrn
                generalize lim a j = lx at *
                generalize lim b j = ly at *
                have HRN := HRN0
                have kc : (c != 1) = true := bne_iff_ne.2 hc1
                clear HLT t0
                (try go_frame)
                refine RegD.region_duty [135, 136, 137, 138, 139, 140, 141, 142, 143, 144, 145, 146, 147, 148, 149, 150, 151, 152, 153, 154, 155, 156, 157, 158, 159, 160, 161, 162, 163, 164, 165, 166, 167, 168] (RegI.upd (RegI.upd (RegI.upd (RegI.upd (RegI.upd (RegI.upd (RegI.upd (RegI.upd (RegI.upd (RegI.upd (RegI.upd (RegI.upd (RegI.upd (RegI.upd (RegI.upd (RegI.upd (RegI.upd (RegI.upd (RegI.upd (RegI.upd (RegI.upd (RegI.upd (RegI.upd (RegI.upd (RegI.upd (RegI.upd (RegI.upd (RegI.upd (RegI.upd (RegI.upd (RegI.upd (RegI.upd (RegI.upd (RegI.upd (fun _ => undef) 135 (.int .i64 0)) 136 (.bool false)) 137 (.bool false)) 138 (.pointer (some ⟨D, 0, none⟩))) 139 (.int .i64 (j : Int))) 140 (.bool false)) 141 (.bool false)) 142 (.bool false)) 143 (.pointer (some ⟨D, 0, none⟩))) 144 (.int .i64 (j : Int))) 145 (.bool false)) 146 (.bool false)) 147 (.bool false)) 148 (.bool true)) 149 (.bool false)) 150 (.bool false)) 151 (.bool false)) 152 (.bool true)) 153 (.bool false)) 154 (.bool false)) 155 (.bool false)) 156 (.pointer (some ⟨D, 0, none⟩))) 157 (.int .i64 (j : Int))) 158 (.pointer (some ⟨B, 0, none⟩))) 159 (.pointer (some ⟨B, j * 6, none⟩))) 160 (.agg (cz 6 lx))) 161 (.pointer (some ⟨D, 0, none⟩))) 162 (.int .i64 (j : Int))) 163 (.pointer (some ⟨C, 0, none⟩))) 164 (.pointer (some ⟨C, j * 6, none⟩))) 165 (.agg (cz 6 ly))) 166 (.int .i64 c)) 167 (.bool true)) 168 (.bool true)) (by kernel_rfl) (by kernel_rfl) (by intro d hd; simp at hd; simp; omega) ?_
                simp only [RegD.FF, RegI.FX, RegI.upd, List.foldl_cons, List.foldl_nil, List.not_mem_nil, if_true, if_false, Nat.reduceEqDiff]
                simp only [List.setIfInBounds_toArray, List.set_cons_succ, List.set_cons_zero]
                refine And.intro ?hs5 ?he5
                case hs5 =>
                  refine And.intro ?s5_0 (And.intro ?s5_1 (And.intro ?s5_2 (And.intro ?s5_3 (And.intro ?s5_4 (And.intro ?s5_5 (And.intro ?s5_6 (And.intro ?s5_7 (And.intro ?s5_8 (And.intro ?s5_9 (And.intro ?s5_10 (And.intro ?s5_11 (And.intro ?s5_12 (And.intro ?s5_13 (And.intro ?s5_14 (And.intro ?s5_15 (And.intro ?s5_16 (And.intro ?s5_17 (And.intro ?s5_18 (And.intro ?s5_19 (And.intro ?s5_20 (And.intro ?s5_21 (And.intro ?s5_22 (And.intro ?s5_23 (And.intro ?s5_24 (And.intro ?s5_25 (And.intro ?s5_26 (And.intro ?s5_27 (And.intro ?s5_28 (And.intro ?s5_29 (And.intro ?s5_30 (And.intro ?s5_31 (And.intro ?s5_32 (And.intro ?s5_33 (trivial))))))))))))))))))))))))))))))))))
                  case s5_0 =>
                    intro u w1 hO
                    go_wp2
                    exact ⟨rfl, rfl, rfl, Own.refl _⟩
                  case s5_1 =>
                    intro u w1 hO
                    go_wp2
                    exact ⟨rfl, rfl, rfl, Own.refl _⟩
                  case s5_2 =>
                    intro u w1 hO
                    go_wp2
                    exact ⟨rfl, rfl, rfl, Own.refl _⟩
                  case s5_3 =>
                    intro u w1 hO
                    go_wp2
                    exact ⟨rfl, rfl, rfl, Own.refl _⟩
                  case s5_4 =>
                    intro u w1 hO
                    have kk := (HD.out.own hO).cell 0
                    go_wp2
                    exact ⟨rfl, rfl, rfl, Own.refl _⟩
                  case s5_5 =>
                    intro u w1 hO
                    go_wp2
                    exact ⟨rfl, rfl, rfl, Own.refl _⟩
                  case s5_6 =>
                    intro u w1 hO
                    go_wp2
                    exact ⟨rfl, rfl, rfl, Own.refl _⟩
                  case s5_7 =>
                    intro u w1 hO
                    go_wp2
                    exact ⟨rfl, rfl, rfl, Own.refl _⟩
                  case s5_8 =>
                    intro u w1 hO
                    go_wp2
                    exact ⟨rfl, rfl, rfl, Own.refl _⟩
                  case s5_9 =>
                    intro u w1 hO
                    have kk := (HD.out.own hO).cell 0
                    go_wp2
                    exact ⟨rfl, rfl, rfl, Own.refl _⟩
                  case s5_10 =>
                    intro u w1 hO
                    go_wp2
                    exact ⟨rfl, rfl, rfl, Own.refl _⟩
                  case s5_11 =>
                    intro u w1 hO
                    go_wp2
                    exact ⟨rfl, rfl, rfl, Own.refl _⟩
                  case s5_12 =>
                    intro u w1 hO
                    go_wp2
                    exact ⟨rfl, rfl, rfl, Own.refl _⟩
                  case s5_13 =>
                    intro u w1 hO
                    go_wp2
                    exact ⟨rfl, rfl, rfl, Own.refl _⟩
                  case s5_14 =>
                    intro u w1 hO
                    go_wp2
                    exact ⟨rfl, rfl, rfl, Own.refl _⟩
                  case s5_15 =>
                    intro u w1 hO
                    go_wp2
                    exact ⟨rfl, rfl, rfl, Own.refl _⟩
                  case s5_16 =>
                    intro u w1 hO
                    go_wp2
                    exact ⟨rfl, rfl, rfl, Own.refl _⟩
                  case s5_17 =>
                    intro u w1 hO
                    go_wp2
                    exact ⟨rfl, rfl, rfl, Own.refl _⟩
                  case s5_18 =>
                    intro u w1 hO
                    go_wp2
                    exact ⟨rfl, rfl, rfl, Own.refl _⟩
                  case s5_19 =>
                    intro u w1 hO
                    go_wp2
                    exact ⟨rfl, rfl, rfl, Own.refl _⟩
                  case s5_20 =>
                    intro u w1 hO
                    go_wp2
                    exact ⟨rfl, rfl, rfl, Own.refl _⟩
                  case s5_21 =>
                    intro u w1 hO
                    go_wp2
                    exact ⟨rfl, rfl, rfl, Own.refl _⟩
                  case s5_22 =>
                    intro u w1 hO
                    have kk := (HD.out.own hO).cell 0
                    go_wp2
                    exact ⟨rfl, rfl, rfl, Own.refl _⟩
                  case s5_23 =>
                    intro u w1 hO
                    go_wp2
                    exact ⟨rfl, rfl, rfl, Own.refl _⟩
                  case s5_24 =>
                    intro u w1 hO
                    go_wp2
                    exact ⟨rfl, rfl, rfl, Own.refl _⟩
                  case s5_25 =>
                    intro u w1 hO
                    have HB9 := Lib.hid (HLA.out.own hO)
                    go_wp2_with ((with_reducible show wpList _ _ _ (⟨_, .load 23 (.tmp 159), _, _, _, some _⟩ :: _) _ _); refine wpList_load_lie_g rfl 23 (.tmp 159) rfl B (j * 6) rfl (cz 6 lx) HB9.out _ Try.underlying23 rfl infoL ?_)
                    exact ⟨rfl, rfl, rfl, Own.refl _⟩
                  case s5_26 =>
                    intro u w1 hO
                    go_wp2
                    exact ⟨rfl, rfl, rfl, Own.refl _⟩
                  case s5_27 =>
                    intro u w1 hO
                    have kk := (HD.out.own hO).cell 0
                    go_wp2
                    exact ⟨rfl, rfl, rfl, Own.refl _⟩
                  case s5_28 =>
                    intro u w1 hO
                    go_wp2
                    exact ⟨rfl, rfl, rfl, Own.refl _⟩
                  case s5_29 =>
                    intro u w1 hO
                    go_wp2
                    exact ⟨rfl, rfl, rfl, Own.refl _⟩
                  case s5_30 =>
                    intro u w1 hO
                    have HB9 := Lib.hid (HLB.out.own hO)
                    go_wp2_with ((with_reducible show wpList _ _ _ (⟨_, .load 23 (.tmp 164), _, _, _, some _⟩ :: _) _ _); refine wpList_load_lie_g rfl 23 (.tmp 164) rfl C (j * 6) rfl (cz 6 ly) HB9.out _ Try.underlying23 rfl infoL ?_)
                    exact ⟨rfl, rfl, rfl, Own.refl _⟩
                  case s5_31 =>
                    intro u w1 hO
                    go_wp2_with (go_at_call 21; with_reducible refine (lrn_at lx ly c _ hlx hly HRN).mono ?_; rintro r w2 ⟨rfl, hg⟩)
                    exact ⟨rfl, rfl, rfl, hg⟩
                  case s5_32 =>
                    intro u w1 hO
                    go_wp2
                    exact ⟨rfl, rfl, rfl, Own.refl _⟩
                  case s5_33 =>
                    intro u w1 hO
                    go_wp2
                    exact ⟨rfl, rfl, rfl, Own.refl _⟩
                intro u9 w11 hO
                replace g0 := g0.trans hO
                clear hO HB HC HD HM
                go_wp2_with (go_at_call 16; with_reducible refine (awake_at _).mono ?_; rintro r w9 ⟨rfl, hg⟩; replace g0 := g0.trans hg; clear hg)
                go_ret
                exact ⟨rfl, g0⟩
      · obtain ⟨d, hd⟩ : ∃ d, chk k z e u = d := ⟨_, rfl⟩
        have hd0 : d ≠ 0 := by rw [← hd]; exact h2
        obtain ⟨q1, q2, q3⟩ := HEX.out
        rw [hd] at q1 q2 q3
        have HAX := Lib.hid (show alV r k z e u = false ∧ alE r k z e u = d from ⟨al_no (by rw [q1]; exact hd0), q1⟩)
        have HAY := Lib.hid (show alV a k z e u = false ∧ alE a k z e u = d from ⟨al_no (by rw [q2]; exact hd0), q2⟩)
        have HAZ := Lib.hid (show alV b k z e u = false ∧ alE b k z e u = d from ⟨al_no (by rw [q3]; exact hd0), q3⟩)
        have kd : (d != 0) = true := bne_iff_ne.2 hd0
        clear q1 q2 q3 hd hd0 h2 HMAY HEX hx hy hv
        go_upto_region 13 with (first | ((with_reducible show wpList _ _ _ (⟨_, .load 34 (.tmp 93), _, _, _, none⟩ :: _) _ _); refine wpList_load_lie rfl 34 (.tmp 93) rfl D (1) rfl (#[.int .i64 z, .int .i64 e, .int .i64 u]) HLT.out _ Try.underlying34 rfl infoA ?_) | ((with_reducible show wpList _ _ _ (⟨_, .load 34 (.tmp 102), _, _, _, none⟩ :: _) _ _); refine wpList_load_lie rfl 34 (.tmp 102) rfl D (1) rfl (#[.int .i64 z, .int .i64 e, .int .i64 u]) HLT.out _ Try.underlying34 rfl infoA ?_) | ((with_reducible show wpList _ _ _ (⟨_, .load 34 (.tmp 111), _, _, _, none⟩ :: _) _ _); refine wpList_load_lie rfl 34 (.tmp 111) rfl D (1) rfl (#[.int .i64 z, .int .i64 e, .int .i64 u]) HLT.out _ Try.underlying34 rfl infoA ?_) | ((with_reducible show wpList _ _ _ (⟨_, .load 26 (.tmp 7), _, _, _, none⟩ :: _) _ _); refine wpList_load_row rfl 26 (.tmp 7) rfl M rfl 26 _ (0, 0) _ HM.out.raw Try.underlying26 rfl infoLs ?_) | ((with_reducible show wpList _ _ _ (⟨_, .load 26 (.tmp 3), _, _, _, none⟩ :: _) _ _); refine wpList_load_row rfl 26 (.tmp 3) rfl B rfl 26 _ (0, 0) _ HB.out.raw Try.underlying26 rfl infoLs ?_) | ((with_reducible show wpList _ _ _ (⟨_, .load 26 (.tmp 4), _, _, _, none⟩ :: _) _ _); refine wpList_load_row rfl 26 (.tmp 4) rfl C rfl 26 _ (0, 0) _ HC.out.raw Try.underlying26 rfl infoLs ?_) | (go_at_call 17; with_reducible refine (lal2_at r k z e u false d _ HAX).mono ?_; rintro r w6 ⟨rfl, hg⟩; replace g0 := g0.trans hg; replace HB := Lib.hid (HB.out.own hg); replace HC := Lib.hid (HC.out.own hg); replace HD := Lib.hid (HD.out.own hg); replace HM := Lib.hid (HM.out.own hg); replace HLT := Lib.hid (HLT.out.own hg); replace t0 := hg.cell t0; clear hg) | (go_at_call 17; with_reducible refine (lal2_at a k z e u false d _ HAY).mono ?_; rintro r w6 ⟨rfl, hg⟩; replace g0 := g0.trans hg; replace HB := Lib.hid (HB.out.own hg); replace HC := Lib.hid (HC.out.own hg); replace HD := Lib.hid (HD.out.own hg); replace HM := Lib.hid (HM.out.own hg); replace HLT := Lib.hid (HLT.out.own hg); replace t0 := hg.cell t0; clear hg) | (go_at_call 17; with_reducible refine (lal2_at b k z e u false d _ HAZ).mono ?_; rintro r w6 ⟨rfl, hg⟩; replace g0 := g0.trans hg; replace HB := Lib.hid (HB.out.own hg); replace HC := Lib.hid (HC.out.own hg); replace HD := Lib.hid (HD.out.own hg); replace HM := Lib.hid (HM.out.own hg); replace HLT := Lib.hid (HLT.out.own hg); replace t0 := hg.cell t0; clear hg))
        clear HLT t0
        (try go_frame)
        refine RegD.region_duty [135, 136, 137, 138, 139, 140, 141, 142, 143, 144, 145, 146, 147, 148, 149, 150, 151, 152, 153, 154, 155, 156, 157, 158, 159, 160, 161, 162, 163, 164, 165, 166, 167, 168] (RegI.upd (RegI.upd (RegI.upd (RegI.upd (RegI.upd (RegI.upd (RegI.upd (RegI.upd (RegI.upd (RegI.upd (RegI.upd (RegI.upd (RegI.upd (RegI.upd (RegI.upd (RegI.upd (RegI.upd (RegI.upd (RegI.upd (RegI.upd (RegI.upd (RegI.upd (RegI.upd (RegI.upd (RegI.upd (RegI.upd (RegI.upd (RegI.upd (RegI.upd (RegI.upd (RegI.upd (RegI.upd (RegI.upd (RegI.upd (fun _ => undef) 135 (.int .i64 d)) 136 (.bool true)) 137 (.bool true)) 138 (undef)) 139 (undef)) 140 (undef)) 141 (.bool true)) 142 (.bool true)) 143 (undef)) 144 (undef)) 145 (undef)) 146 (.bool true)) 147 (.bool true)) 148 (undef)) 149 (undef)) 150 (.bool true)) 151 (.bool true)) 152 (undef)) 153 (undef)) 154 (.bool true)) 155 (.bool true)) 156 (undef)) 157 (undef)) 158 (undef)) 159 (undef)) 160 (undef)) 161 (undef)) 162 (undef)) 163 (undef)) 164 (undef)) 165 (undef)) 166 (undef)) 167 (undef)) 168 (.bool true)) (by kernel_rfl) (by kernel_rfl) (by intro d hd; simp at hd; simp; omega) ?_
        simp only [RegD.FF, RegI.FX, RegI.upd, List.foldl_cons, List.foldl_nil, List.not_mem_nil, if_true, if_false, Nat.reduceEqDiff]
        simp only [List.setIfInBounds_toArray, List.set_cons_succ, List.set_cons_zero]
        refine And.intro ?hs6 ?he6
        case hs6 =>
          refine And.intro ?s6_0 (And.intro ?s6_1 (And.intro ?s6_2 (And.intro ?s6_3 (And.intro ?s6_4 (And.intro ?s6_5 (And.intro ?s6_6 (And.intro ?s6_7 (And.intro ?s6_8 (And.intro ?s6_9 (And.intro ?s6_10 (And.intro ?s6_11 (And.intro ?s6_12 (And.intro ?s6_13 (And.intro ?s6_14 (And.intro ?s6_15 (And.intro ?s6_16 (And.intro ?s6_17 (And.intro ?s6_18 (And.intro ?s6_19 (And.intro ?s6_20 (And.intro ?s6_21 (And.intro ?s6_22 (And.intro ?s6_23 (And.intro ?s6_24 (And.intro ?s6_25 (And.intro ?s6_26 (And.intro ?s6_27 (And.intro ?s6_28 (And.intro ?s6_29 (And.intro ?s6_30 (And.intro ?s6_31 (And.intro ?s6_32 (And.intro ?s6_33 (trivial))))))))))))))))))))))))))))))))))
          case s6_0 =>
            intro u w1 hO
            go_wp2
            exact ⟨rfl, rfl, rfl, Own.refl _⟩
          case s6_1 =>
            intro u w1 hO
            go_wp2
            exact ⟨rfl, rfl, rfl, Own.refl _⟩
          case s6_2 =>
            intro u w1 hO
            go_wp2
            exact ⟨rfl, rfl, rfl, Own.refl _⟩
          case s6_3 =>
            intro u w1 hO
            go_wp2
            exact ⟨rfl, rfl, rfl, Own.refl _⟩
          case s6_4 =>
            intro u w1 hO
            go_wp2
            exact ⟨rfl, rfl, rfl, Own.refl _⟩
          case s6_5 =>
            intro u w1 hO
            go_wp2
            exact ⟨rfl, rfl, rfl, Own.refl _⟩
          case s6_6 =>
            intro u w1 hO
            go_wp2
            exact ⟨rfl, rfl, rfl, Own.refl _⟩
          case s6_7 =>
            intro u w1 hO
            go_wp2
            exact ⟨rfl, rfl, rfl, Own.refl _⟩
          case s6_8 =>
            intro u w1 hO
            go_wp2
            exact ⟨rfl, rfl, rfl, Own.refl _⟩
          case s6_9 =>
            intro u w1 hO
            go_wp2
            exact ⟨rfl, rfl, rfl, Own.refl _⟩
          case s6_10 =>
            intro u w1 hO
            go_wp2
            exact ⟨rfl, rfl, rfl, Own.refl _⟩
          case s6_11 =>
            intro u w1 hO
            go_wp2
            exact ⟨rfl, rfl, rfl, Own.refl _⟩
          case s6_12 =>
            intro u w1 hO
            go_wp2
            exact ⟨rfl, rfl, rfl, Own.refl _⟩
          case s6_13 =>
            intro u w1 hO
            go_wp2
            exact ⟨rfl, rfl, rfl, Own.refl _⟩
          case s6_14 =>
            intro u w1 hO
            go_wp2
            exact ⟨rfl, rfl, rfl, Own.refl _⟩
          case s6_15 =>
            intro u w1 hO
            go_wp2
            exact ⟨rfl, rfl, rfl, Own.refl _⟩
          case s6_16 =>
            intro u w1 hO
            go_wp2
            exact ⟨rfl, rfl, rfl, Own.refl _⟩
          case s6_17 =>
            intro u w1 hO
            go_wp2
            exact ⟨rfl, rfl, rfl, Own.refl _⟩
          case s6_18 =>
            intro u w1 hO
            go_wp2
            exact ⟨rfl, rfl, rfl, Own.refl _⟩
          case s6_19 =>
            intro u w1 hO
            go_wp2
            exact ⟨rfl, rfl, rfl, Own.refl _⟩
          case s6_20 =>
            intro u w1 hO
            go_wp2
            exact ⟨rfl, rfl, rfl, Own.refl _⟩
          case s6_21 =>
            intro u w1 hO
            go_wp2
            exact ⟨rfl, rfl, rfl, Own.refl _⟩
          case s6_22 =>
            intro u w1 hO
            go_wp2
            exact ⟨rfl, rfl, rfl, Own.refl _⟩
          case s6_23 =>
            intro u w1 hO
            go_wp2
            exact ⟨rfl, rfl, rfl, Own.refl _⟩
          case s6_24 =>
            intro u w1 hO
            go_wp2
            exact ⟨rfl, rfl, rfl, Own.refl _⟩
          case s6_25 =>
            intro u w1 hO
            go_wp2
            exact ⟨rfl, rfl, rfl, Own.refl _⟩
          case s6_26 =>
            intro u w1 hO
            go_wp2
            exact ⟨rfl, rfl, rfl, Own.refl _⟩
          case s6_27 =>
            intro u w1 hO
            go_wp2
            exact ⟨rfl, rfl, rfl, Own.refl _⟩
          case s6_28 =>
            intro u w1 hO
            go_wp2
            exact ⟨rfl, rfl, rfl, Own.refl _⟩
          case s6_29 =>
            intro u w1 hO
            go_wp2
            exact ⟨rfl, rfl, rfl, Own.refl _⟩
          case s6_30 =>
            intro u w1 hO
            go_wp2
            exact ⟨rfl, rfl, rfl, Own.refl _⟩
          case s6_31 =>
            intro u w1 hO
            go_wp2
            exact ⟨rfl, rfl, rfl, Own.refl _⟩
          case s6_32 =>
            intro u w1 hO
            go_wp2
            exact ⟨rfl, rfl, rfl, Own.refl _⟩
          case s6_33 =>
            intro u w1 hO
            go_wp2
            exact ⟨rfl, rfl, rfl, Own.refl _⟩
        intro u9 w11 hO
        replace g0 := g0.trans hO
        clear hO HB HC HD HM
        go_wp2_with (go_at_call 16; with_reducible refine (awake_at _).mono ?_; rintro r w9 ⟨rfl, hg⟩; replace g0 := g0.trans hg; clear hg)
        go_ret
        exact ⟨rfl, g0⟩
  · obtain ⟨c, hc⟩ : ∃ c, nwE a b = c := ⟨_, rfl⟩
    have HNW := Lib.hid (show lz (nwV a b) = lz nul ∧ nwE a b = c from ⟨congrArg lz (nw_nul h1), hc⟩)
    rw [hc] at h1
    have kc : (c != 0) = true := bne_iff_ne.2 h1
    clear h1 hc
    go_enter Try.func6, Try.ntmps6
    go_upto_region 1 with (fail)
    obtain ⟨W0, B, C, D, hW, hD, hC, hB, hb, hc, hd, g0, -⟩ := three_new w (lz a) 26 (lz b) 26 (#[.int .i64 k, .int .i64 z, .int .i64 e, .int .i64 u]) 41
    rw [hW, hD, hC, hB]
    have HB := Lib.hid hb
    have HC := Lib.hid hc
    have HD := Lib.hid hd
    clear hW hD hC hB hb hc hd
    go_upto_region 2 with (first | ((with_reducible show wpList _ _ _ (⟨_, .load 26 (.tmp 3), _, _, _, none⟩ :: _) _ _); refine wpList_load_row rfl 26 (.tmp 3) rfl B rfl 26 _ (0, 0) _ HB.out.raw Try.underlying26 rfl infoLs ?_) | ((with_reducible show wpList _ _ _ (⟨_, .load 26 (.tmp 4), _, _, _, none⟩ :: _) _ _); refine wpList_load_row rfl 26 (.tmp 4) rfl C rfl 26 _ (0, 0) _ HC.out.raw Try.underlying26 rfl infoLs ?_) | (go_at_call 19; with_reducible refine (lnw_at a b nul c _ HNW).mono ?_; rintro r w1 ⟨rfl, hg⟩; replace g0 := g0.trans hg; replace HB := Lib.hid (HB.out.own hg); replace HC := Lib.hid (HC.out.own hg); replace HD := Lib.hid (HD.out.own hg); clear hg) | ((with_reducible show wpList _ _ _ (⟨_, .store 26 (.tmp 7) (.tmp 18), _, _, _, none⟩ :: _) _ _); refine wpList_store_row rfl 26 (.tmp 7) (.tmp 18) rfl _ (lz (nul)) rfl rfl 26 _ (heap_new _ _) infoLs rfl (lz_one _) ?_; rw [World.setRow_alloc_new]))
    obtain ⟨w2, M, hW, hBq, hb, hg, Mg⟩ := blk_new w1 (lz nul) 26
    rw [hW, hBq]
    have HM := Lib.hid hb
    replace g0 := g0.trans hg
    replace HB := Lib.hid (HB.out.own hg)
    replace HC := Lib.hid (HC.out.own hg)
    replace HD := Lib.hid (HD.out.own hg)
    clear hW hBq hb hg
    clear Mg
    go_wp2_with (first | ((with_reducible show wpList _ _ _ (⟨_, .load 26 (.tmp 7), _, _, _, none⟩ :: _) _ _); refine wpList_load_row rfl 26 (.tmp 7) rfl M rfl 26 _ (0, 0) _ HM.out.raw Try.underlying26 rfl infoLs ?_) | (go_at_call 16; with_reducible refine (awake_at _).mono ?_; rintro r w9 ⟨rfl, hg⟩; replace g0 := g0.trans hg; clear hg))
    go_ret
    exact ⟨rfl, g0⟩
end Go.Proofs.Ytmjokgddhainlaa.LimL
