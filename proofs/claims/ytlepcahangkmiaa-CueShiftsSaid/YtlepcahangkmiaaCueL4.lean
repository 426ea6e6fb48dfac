/-
  Walk of the law CueShifts. Condition: none.
-/
import Derived.Test.YtlepcahangkmiaaCueT
import Derived.Deep.AppendLies
import Derived.Deep.RegionHeld3
namespace Go.Proofs.Ytlepcahangkmiaa.CueW
open Go.ChangeShapes Go.WideShapes Go.ChangeAt Go.RowKit
open PairW CelW CueP
set_option maxRecDepth 100000 in
set_option maxHeartbeats 4000000 in
theorem lshifts_at (l t : List Pt) (sv sw : Value) (y : Int) (w : World) (HP : Hid (Pts w sv l)) (HT : Hid (Pts w sw t)) :
    Calls Try.prog 8 #[sv, sw, .int .i64 y] w fun e w' => e = .returned (.bool true) ∧ PairW.Own w w' := by
  obtain ⟨i0, hi, hz0, hz1, hz2⟩ := info_parts (show (Try.prog.info? 40).map (fun i => (i.zero, i.size, i.bytes)) = some (some (.agg #[.int .i64 0, .int .i64 0]), 2, 16) by kernel_rfl)
  have HI := Lib.hid hi
  have HZ0 := Lib.hid hz0
  have HZ1 := Lib.hid hz1
  have HZ2 := Lib.hid hz2
  clear hi hz0 hz1 hz2
  obtain ⟨A, cap, rfl, ha1, ha2, ha⟩ := HP.out.open
  obtain ⟨A2, cap2, rfl, hb1, hb2, _⟩ := HT.out.open
  unfold maxLen at ha2 hb2
  obtain ⟨n, hn⟩ : ∃ n, l.length = n := ⟨_, rfl⟩
  obtain ⟨n2, hn2⟩ : ∃ n, t.length = n := ⟨_, rfl⟩
  have HN := Lib.hid hn
  rw [hn] at ha1 ha HP ⊢
  rw [hn2] at hb1 HT ⊢
  have HA := Lib.hid ha
  have g0 := PairW.Own.refl w
  clear hn hn2 ha
  by_cases hbad : 80 < n ∨ ¬ 80 < n ∧ 80 < n2 ∨ ¬ 80 < n ∧ ¬ 80 < n2 ∧ y < 0 ∨ ¬ 80 < n ∧ ¬ 80 < n2 ∧ ¬ y < 0 ∧ 1099511627776 < y
  · have hb' : (80 : Int) < n ∨ ¬ (80 : Int) < n ∧ (80 : Int) < n2 ∨ ¬ (80 : Int) < n ∧ ¬ (80 : Int) < n2 ∧ y < 0 ∨ ¬ (80 : Int) < n ∧ ¬ (80 : Int) < n2 ∧ ¬ y < 0 ∧ 1099511627776 < y := by omega
    clear hbad
    rcases hb' with x1 | ⟨x1, x2⟩ | ⟨x1, x2, x3⟩ | ⟨x1, x2, x3, x4⟩
    all_goals
      go_enter Try.func8, Try.ntmps8
      go_wp2_with (go_at_call 12; refine (awake_at _).mono ?_; rintro e w1 ⟨rfl, hg⟩; replace g0 : PairW.Own w w1 := g0.trans hg; clear hg)
      go_ret
      exact ⟨rfl, g0⟩
  have d1 : ¬ (80 : Int) < n := by omega
  have d2 : ¬ (80 : Int) < n2 := by omega
  have d3 : ¬ y < 0 := by omega
  have d4 : ¬ 1099511627776 < y := by omega
  obtain ⟨lim, hlim⟩ : ∃ z, 1099511627776 - y = z := ⟨_, rfl⟩
  have j1 : IntKind.i64.wrap (1099511627776 - y) = lim := (IntWalk.i64_in _ (by omega)).trans hlim
  have hlb : 0 ≤ lim := by omega
  have hlb2 : lim ≤ 1099511627776 := by omega
  have hly : lim + y ≤ 1099511627776 := by omega
  have HLIM := Lib.hid hlim
  obtain ⟨c, hc⟩ : ∃ c, fiE l = c := ⟨_, rfl⟩
  obtain ⟨M, hM⟩ : ∃ c, fiV l = c := ⟨_, rfl⟩
  obtain ⟨c2, hc2⟩ : ∃ c, drE l t = c := ⟨_, rfl⟩
  obtain ⟨D, hD⟩ : ∃ c, drV l t = c := ⟨_, rfl⟩
  have HF := Lib.hid (And.intro hc hM)
  have HD := Lib.hid (And.intro hc2 hD)
  have dc : (c == c) = true := beq_self_eq_true c
  have dc2 : (c2 == c2) = true := beq_self_eq_true c2
  clear hbad hlim hc hM hc2 hD
  go_enter Try.func8, Try.ntmps8
  go_wp2
  go_loopw [7, 8] (fun v7 v8 wr => ∃ (k : Nat) (A : Option Addr) (c : Nat), v8 = .int .i64 (k : Int) ∧ k ≤ n ∧ v7 = .slice A k c ∧ wr.ownsRow w.heap.size 40 2 (.slice A k c) k (cellsP (sh y (l.take k))) ∧ PairW.Own w wr ∧ ∀ j, j < k → 0 ≤ (at' l j).2 ∧ (at' l j).2 ≤ lim) (fun _ v8 _ => n - (intOf v8).toNat)
  case atStart => exact ⟨0, none, 0, rfl, Nat.zero_le _, rfl, World.ownsRow_nil _ _ _ _, g0, fun j hj => absurd hj (Nat.not_lt_zero _)⟩
  case round =>
    obtain ⟨k, A1, c1, rfl, hk, rfl, hrow, q0, hok⟩ := hrel
    have HR := Lib.hid hrow
    have HOK := Lib.hid hok
    clear hrow hok g0
    by_cases hlt : k < n
    · obtain ⟨sb, so, rfl, hcc⟩ := HA.out (by omega)
      have F0 := Lib.hid (hcc k hlt).1
      have F1 := Lib.hid (hcc k hlt).2
      have HSN := Lib.hid (sh_snoc y (l := l) (k := k) (by rw [HN.out]; exact hlt))
      obtain ⟨⟨x, u⟩, hx⟩ : ∃ p, at' l k = p := ⟨_, rfl⟩
      have HXY := Lib.hid hx
      rw [hx] at F0 F1 HSN
      simp only at F0 F1 HSN
      have e0 := q0.cell F0.out
      have e1 := q0.cell F1.out
      have hkn : (k : Int) < n := by omega
      clear hx hcc
      by_cases hu : u < 0 ∨ ¬ u < 0 ∧ lim < u
      · rcases hu with x1 | ⟨x1, x2⟩
        all_goals
          go_wp2_with (go_at_call 12; refine (awake_at _).mono ?_; rintro e w1 ⟨rfl, hg⟩; replace q0 : PairW.Own w w1 := q0.trans hg; clear hg)
          go_ret
          exact ⟨rfl, q0⟩
      have x1 : ¬ u < 0 := by omega
      have x2 : ¬ lim < u := by omega
      obtain ⟨v, hv⟩ : ∃ v, u + y = v := ⟨_, rfl⟩
      have j2 : IntKind.i64.wrap (u + y) = v := (IntWalk.i64_in _ (by omega)).trans hv
      have HS2 := Lib.hid (show cellsP (sh y (l.take (k + 1))) = cellsP (sh y (l.take k)) ++ [.int .i64 x, .int .i64 v] by rw [HSN.out, cellsP_snoc, hv])
      have HSZ := Lib.hid (q0.alloc (.cells #[.int .i64 x, .int .i64 v] 40)).size
      clear hu hv
      go_upto_region 9 with (fail)
      go_region_held3 (fun w' => w'.cell? ⟨sb, so + k * 2, none⟩ = some (.int .i64 x) ∧ w'.cell? ⟨sb, so + k * 2 + 1, none⟩ = some (.int .i64 u)) (first | go_keep | (exact ⟨q4.cell F0.out, q4.cell F1.out⟩) | (exact ⟨((q0.drew).alloc _).cell F0.out, ((q0.drew).alloc _).cell F1.out⟩) | (exact ⟨((q0.alloc _).drew).cell F0.out, ((q0.alloc _).drew).cell F1.out⟩))
          ((refine step_append_lies _ (by rfl) _ _ _ (by rfl) w.heap.size 40 i0 (.agg #[.int .i64 0, .int .i64 0]) 2 16 Try.underlying22 HI.out HZ0.out HZ1.out HZ2.out rfl (by omega) _ _ _ (by rfl) ((HR.out.alloc _).drew) ⟨wr.heap.size, 0, none⟩ 1 1 [.int .i64 x, .int .i64 v] (by rfl) (by rfl) (World.news_of_block (cs := #[.int .i64 x, .int .i64 v]) (t := 40) (fr := (0, 0)) (heap_alloc_new wr _)) (by simp [Value.oneCell']) (by omega) (by unfold maxLen; omega) (by omega) HSZ.out _ rfl ?_; intro gg cap4 w4 hown hgrow hat hlt4; have q4 : PairW.Own w w4 := PairW.Own.grown ((q0.alloc _).drew) hgrow (fun jj hj => (HR.out.lt jj hj).1); have HOWN := Lib.hid hown; clear hown hgrow hat hlt4))
      go_wp2
      go_roundw
      case rel => exact ⟨k + 1, _, _, by go_num, hlt, rfl, by rw [HS2.out]; exact HOWN.out, q4, fun j hj => by
        by_cases e : j = k
        · rw [e, HXY.out]; exact ⟨by show 0 ≤ u; omega, by show u ≤ lim; omega⟩
        · exact HOK.out j (by omega)⟩
      case measure => simp [intOf]; omega
    · obtain rfl : k = n := by omega
      have hr : ∀ i, i < l.length → 0 ≤ (at' l i).2 ∧ (at' l i).2 ≤ 1099511627776 - y := fun i hi => by
        have := HOK.out i (by rw [← HN.out]; exact hi)
        have := HLIM.out
        omega
      have hfi := sh_fi (l := l) (y := y) (by omega) hr
      have hdr := sh_dr (l := l) (y := y) t (by omega) hr
      rw [HF.out.1, HF.out.2] at hfi
      rw [HD.out.1, HD.out.2] at hdr
      have HF2 := Lib.hid hfi
      have HD2 := Lib.hid hdr
      have hrow := HR.out
      rw [List.take_of_length_le (by rw [HN.out]; exact Nat.le_refl _)] at hrow
      have HX := Lib.hid (pts_of_row (l := sh y l) (by rw [sh_len, HN.out]; exact hrow))
      clear hr hfi hdr hrow HR
      go_wp2_with (first
        | (go_at_call 13; first | (with_reducible refine (pfit_at l _ M c _ (Lib.hid (HP.out.own q0)) HF).mono ?_; rintro e w1 ⟨s1, rfl, hr, hg⟩; have HM1 := Lib.hid (pts_of_row hr); replace HX := Lib.hid (HX.out.own hg); replace q0 : PairW.Own w w1 := q0.trans hg; clear hg hr) | (with_reducible refine (pfit_at (sh y l) _ M c _ HX HF2).mono ?_; rintro e w2 ⟨s2, rfl, hr, hg⟩; have HM2 := Lib.hid (pts_of_row hr); replace HX := Lib.hid (HX.out.own hg); replace HM1 := Lib.hid (HM1.out.own hg); replace q0 : PairW.Own w w2 := q0.trans hg; clear hg hr))
        | (go_at_call 16; first | (with_reducible refine (pdrift_at l t _ _ D c2 _ (Lib.hid (HP.out.own q0)) (Lib.hid (HT.out.own q0)) HD).mono ?_; rintro e w3 ⟨s3, rfl, hr, hg⟩; have HD3 := Lib.hid (cel_of_row hr); replace HX := Lib.hid (HX.out.own hg); replace HM1 := Lib.hid (HM1.out.own hg); replace HM2 := Lib.hid (HM2.out.own hg); replace q0 : PairW.Own w w3 := q0.trans hg; clear hg hr) | (with_reducible refine (pdrift_at (sh y l) t _ _ D c2 _ HX (Lib.hid (HT.out.own q0)) HD2).mono ?_; rintro e w4 ⟨s4, rfl, hr, hg⟩; have HD4 := Lib.hid (cel_of_row hr); replace HM1 := Lib.hid (HM1.out.own hg); replace HM2 := Lib.hid (HM2.out.own hg); replace HD3 := Lib.hid (HD3.out.own hg); replace q0 : PairW.Own w w4 := q0.trans hg; clear hg hr))
        | (go_at_call 15; refine (rtempos_yes M _ _ _ HM1 HM2).mono ?_; rintro e w5 ⟨rfl, hg⟩; replace HD3 := Lib.hid (HD3.out.own hg); replace HD4 := Lib.hid (HD4.out.own hg); replace q0 : PairW.Own w w5 := q0.trans hg; clear hg)
        | (go_at_call 20; refine (rints_yes D _ _ _ HD3 HD4).mono ?_; rintro e w6 ⟨rfl, hg⟩; replace q0 : PairW.Own w w6 := q0.trans hg; clear hg)
        | (go_at_call 12; refine (awake_at _).mono ?_; rintro e w7 ⟨rfl, hg⟩; replace q0 : PairW.Own w w7 := q0.trans hg; clear hg))
      go_ret
      exact ⟨rfl, q0⟩
end Go.Proofs.Ytlepcahangkmiaa.CueW
