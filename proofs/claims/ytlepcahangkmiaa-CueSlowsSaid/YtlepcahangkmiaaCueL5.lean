/-
  Walk of the law CueSlows. Condition: none.
-/
import Derived.Test.YtlepcahangkmiaaCueT
import Derived.Deep.AppendLies
import Derived.Deep.RegionHeld3
namespace Go.Proofs.Ytlepcahangkmiaa.CueW
open Go.ChangeShapes Go.WideShapes Go.ChangeAt Go.RowKit
open PairW CelW CueP
open TemP (mV Map)
set_option maxRecDepth 100000 in
set_option maxHeartbeats 4000000 in
theorem lslows_at (l t : List Pt) (sv sw : Value) (w : World) (HP : Hid (Pts w sv l)) (HT : Hid (Pts w sw t)) (HB : Hid (∀ i, i < t.length → -9223372036854775808 ≤ (at' t i).2)) :
    Calls Try.prog 9 #[sv, sw] w fun e w' => e = .returned (.bool true) ∧ PairW.Own w w' := by
  obtain ⟨i0, hi, hz0, hz1, hz2⟩ := info_parts (show (Try.prog.info? 45).map (fun i => (i.zero, i.size, i.bytes)) = some (some (.agg #[.int .i64 0, .int .i64 0]), 2, 16) by kernel_rfl)
  have HI := Lib.hid hi
  have HZ0 := Lib.hid hz0
  have HZ1 := Lib.hid hz1
  have HZ2 := Lib.hid hz2
  clear hi hz0 hz1 hz2
  obtain ⟨A, cap, rfl, ha1, ha2, ha⟩ := HP.out.open
  obtain ⟨A2, cap2, rfl, hb1, hb2, hb⟩ := HT.out.open
  unfold maxLen at ha2 hb2
  obtain ⟨n, hn⟩ : ∃ n, l.length = n := ⟨_, rfl⟩
  obtain ⟨n2, hn2⟩ : ∃ n, t.length = n := ⟨_, rfl⟩
  have HN := Lib.hid hn
  have HN2 := Lib.hid hn2
  rw [hn] at ha1 ha HP ⊢
  rw [hn2] at hb1 hb HT HB ⊢
  have HA := Lib.hid ha
  have HTA := Lib.hid hb
  have g0 := PairW.Own.refl w
  clear hn hn2 ha hb
  by_cases hbad : 80 < n ∨ ¬ 80 < n ∧ 80 < n2
  · have hb' : (80 : Int) < n ∨ ¬ (80 : Int) < n ∧ (80 : Int) < n2 := by omega
    clear hbad
    rcases hb' with x1 | ⟨x1, x2⟩
    all_goals
      go_enter Try.func9, Try.ntmps9
      go_wp2_with (go_at_call 12; refine (awake_at _).mono ?_; rintro e w1 ⟨rfl, hg⟩; replace g0 : PairW.Own w w1 := g0.trans hg; clear hg)
      go_ret
      exact ⟨rfl, g0⟩
  have d1 : ¬ (80 : Int) < n := by omega
  have d2 : ¬ (80 : Int) < n2 := by omega
  obtain ⟨c2, hc2⟩ : ∃ c, drE l t = c := ⟨_, rfl⟩
  obtain ⟨D, hD⟩ : ∃ c, drV l t = c := ⟨_, rfl⟩
  obtain ⟨c3, hc3⟩ : ∃ c, drE l (sl t) = c := ⟨_, rfl⟩
  obtain ⟨D3, hD3⟩ : ∃ c, drV l (sl t) = c := ⟨_, rfl⟩
  have HD := Lib.hid (And.intro hc2 hD)
  have HD2 := Lib.hid (And.intro hc3 hD3)
  clear hbad hc2 hD hc3 hD3
  go_enter Try.func9, Try.ntmps9
  go_wp2
  go_loopw [5, 6] (fun v5 v6 wr => ∃ (k : Nat) (A : Option Addr) (c : Nat), v6 = .int .i64 (k : Int) ∧ k ≤ n2 ∧ v5 = .slice A k c ∧ wr.ownsRow w.heap.size 45 2 (.slice A k c) k (cellsP (sl (t.take k))) ∧ PairW.Own w wr ∧ ∀ j, j < k → (at' t j).2 < 4194304) (fun _ v6 _ => n2 - (intOf v6).toNat)
  case atStart => exact ⟨0, none, 0, rfl, Nat.zero_le _, rfl, World.ownsRow_nil _ _ _ _, g0, fun j hj => absurd hj (Nat.not_lt_zero _)⟩
  case round =>
    obtain ⟨k, A1, c1, rfl, hk, rfl, hrow, q0, hok⟩ := hrel
    have HR := Lib.hid hrow
    have HOK := Lib.hid hok
    clear hrow hok g0
    by_cases hlt : k < n2
    · obtain ⟨sb, so, rfl, hcc⟩ := HTA.out (by omega)
      have F0 := Lib.hid (hcc k hlt).1
      have F1 := Lib.hid (hcc k hlt).2
      have hlow := HB.out k hlt
      have HSN := Lib.hid (sl_snoc (t := t) (k := k) (by rw [HN2.out]; exact hlt))
      obtain ⟨⟨x, u⟩, hx⟩ : ∃ p, at' t k = p := ⟨_, rfl⟩
      have HXY := Lib.hid hx
      rw [hx] at F0 F1 HSN hlow
      simp only at F0 F1 HSN hlow
      have e0 := q0.cell F0.out
      have e1 := q0.cell F1.out
      have hkn : (k : Int) < n2 := by omega
      clear hx hcc
      by_cases hu : 4194304 ≤ u
      · go_wp2_with (go_at_call 12; refine (awake_at _).mono ?_; rintro e w1 ⟨rfl, hg⟩; replace q0 : PairW.Own w w1 := q0.trans hg; clear hg)
        go_ret
        exact ⟨rfl, q0⟩
      have x2 : decide (4194304 ≤ u) = false := decide_eq_false hu
      obtain ⟨v, hv⟩ : ∃ v, u + 1 = v := ⟨_, rfl⟩
      have j2 : IntKind.i64.wrap (u + 1) = v := (IntWalk.i64_in _ (by omega)).trans hv
      have HS2 := Lib.hid (show cellsP (sl (t.take (k + 1))) = cellsP (sl (t.take k)) ++ [.int .i64 x, .int .i64 v] by rw [HSN.out, cellsP_snoc, hv])
      have HSZ := Lib.hid (q0.alloc (.cells #[.int .i64 x, .int .i64 v] 45)).size
      have HU := Lib.hid (show u < 4194304 by omega)
      clear hu hv hlow
      go_upto_region 9 with (fail)
      go_region_held3 (fun w' => w'.cell? ⟨sb, so + k * 2, none⟩ = some (.int .i64 x) ∧ w'.cell? ⟨sb, so + k * 2 + 1, none⟩ = some (.int .i64 u)) (first | go_keep | (exact ⟨q4.cell F0.out, q4.cell F1.out⟩) | (exact ⟨((q0.drew).alloc _).cell F0.out, ((q0.drew).alloc _).cell F1.out⟩) | (exact ⟨((q0.alloc _).drew).cell F0.out, ((q0.alloc _).drew).cell F1.out⟩))
          ((refine step_append_lies _ (by rfl) _ _ _ (by rfl) w.heap.size 45 i0 (.agg #[.int .i64 0, .int .i64 0]) 2 16 Try.underlying27 HI.out HZ0.out HZ1.out HZ2.out rfl (by omega) _ _ _ (by rfl) ((HR.out.alloc _).drew) ⟨wr.heap.size, 0, none⟩ 1 1 [.int .i64 x, .int .i64 v] (by rfl) (by rfl) (World.news_of_block (cs := #[.int .i64 x, .int .i64 v]) (t := 45) (fr := (0, 0)) (heap_alloc_new wr _)) (by simp [Value.oneCell']) (by omega) (by unfold maxLen; omega) (by omega) HSZ.out _ rfl ?_; intro gg cap4 w4 hown hgrow hat hlt4; have q4 : PairW.Own w w4 := PairW.Own.grown ((q0.alloc _).drew) hgrow (fun jj hj => (HR.out.lt jj hj).1); have HOWN := Lib.hid hown; clear hown hgrow hat hlt4))
      go_wp2
      go_roundw
      case rel => exact ⟨k + 1, _, _, by go_num, hlt, rfl, by rw [HS2.out]; exact HOWN.out, q4, fun j hj => by
        by_cases e : j = k
        · rw [e, HXY.out]; exact HU.out
        · exact HOK.out j (by omega)⟩
      case measure => simp [intOf]; omega
    · obtain rfl : k = n2 := by omega
      have hrow := HR.out
      rw [List.take_of_length_le (by rw [HN2.out]; exact Nat.le_refl _)] at hrow
      have HX := Lib.hid (pts_of_row (l := sl t) (by rw [sl_len, HN2.out]; exact hrow))
      have HOKT := Lib.hid (show ∀ i, i < t.length → (at' t i).2 < 4194304 by rw [HN2.out]; exact HOK.out)
      clear hrow HR HOK
      by_cases h2 : c2 = 0
      case neg =>
        have x2 : (c2 != 0) = true := bne_iff_ne.2 h2
        obtain rfl : [] = D := by rw [← HD.out.2, (dr_none (by rw [HD.out.1]; exact h2)).1]
        clear h2
        go_wp2_with (first
          | (go_at_call 16; first | (with_reducible refine (pdrift_at l t _ _ [] c2 _ (Lib.hid (HP.out.own q0)) (Lib.hid (HT.out.own q0)) HD).mono ?_; rintro e w3 ⟨s3, rfl, hr, hg⟩; obtain ⟨A3, c4, rfl⟩ := rows_shape hr; replace HX := Lib.hid (HX.out.own hg); replace q0 : PairW.Own w w3 := q0.trans hg; clear hg hr) | (with_reducible refine (pdrift_at l (sl t) _ _ D3 c3 _ (Lib.hid (HP.out.own q0)) HX HD2).mono ?_; rintro e w4 ⟨s4, rfl, hr, hg⟩; replace q0 : PairW.Own w w4 := q0.trans hg; clear hg hr))
          | (go_at_call 12; refine (awake_at _).mono ?_; rintro e w7 ⟨rfl, hg⟩; replace q0 : PairW.Own w w7 := q0.trans hg; clear hg))
        go_ret
        exact ⟨rfl, q0⟩
      subst h2
      obtain ⟨f1, f2⟩ := sl_dr HD.out.1 HOKT.out
      obtain ⟨hm, hmt⟩ := dr_parts HD.out.1
      have HM := Lib.hid hm
      have HDB := Lib.hid (fun i (h : i < l.length) => (drF_bd hm hmt h).2.2)
      have HF2 := Lib.hid f2
      obtain rfl : 0 = c3 := f1.symm.trans HD2.out.1
      obtain rfl : mp (drF l t) n = D := by rw [← HD.out.2, (dr_some HD.out.1).1, HN.out]
      obtain rfl : mp (drF l (sl t)) n = D3 := by rw [← HD2.out.2, (dr_some f1).1, HN.out]
      obtain ⟨F, hF⟩ : ∃ F, drF l t = F := ⟨_, rfl⟩
      obtain ⟨F3, hF3⟩ : ∃ F, drF l (sl t) = F := ⟨_, rfl⟩
      rw [hF] at HD HDB HF2
      rw [hF3] at HD2 HF2
      have hn0 : 2 ≤ n := by rw [← HN.out]; exact hm.n0
      obtain ⟨lb, lo, rfl, hlc⟩ := HA.out (by omega)
      have HLC := Lib.hid hlc
      clear f1 f2 hm hmt hF hF3 hlc
      go_wp2_with (go_at_call 16; first | (with_reducible refine (pdrift_at l t _ _ _ 0 _ (Lib.hid (HP.out.own q0)) (Lib.hid (HT.out.own q0)) HD).mono ?_; rintro e w3 ⟨s3, rfl, hr, hg⟩; rw [mp_len] at hr; have HY := Lib.hid (cel_of_row hr); obtain ⟨A3, c4, rfl⟩ := rows_shape hr; replace HX := Lib.hid (HX.out.own hg); replace q0 : PairW.Own w w3 := q0.trans hg; clear hg hr) | (with_reducible refine (pdrift_at l (sl t) _ _ _ 0 _ (Lib.hid (HP.out.own q0)) HX HD2).mono ?_; rintro e w4 ⟨s4, rfl, hr, hg⟩; rw [mp_len] at hr; have HZ := Lib.hid (cel_of_row hr); obtain ⟨A4, c5, rfl⟩ := rows_shape hr; replace HY := Lib.hid (HY.out.own hg); replace q0 : PairW.Own w w4 := q0.trans hg; clear hg hr))
      obtain ⟨b3, o3, rfl, h3⟩ := ints_at HY.out (by omega)
      obtain ⟨b4, o4, rfl, h4⟩ := ints_at HZ.out (by omega)
      have H3 := Lib.hid h3
      have H4 := Lib.hid h4
      obtain ⟨wq, hwq⟩ : ∃ wq, w4 = wq := ⟨_, rfl⟩
      rw [hwq] at H3 H4 q0 ⊢
      clear hwq h3 h4 HY HZ HX
      go_loopw [11] (fun vi wr => ∃ k : Nat, vi = .int .i64 (k : Int) ∧ k ≤ n ∧ PairW.Own wq wr) (fun vi _ => n - (intOf vi).toNat)
      case atStart => exact ⟨0, rfl, Nat.zero_le _, PairW.Own.refl wq⟩
      case round =>
        obtain ⟨i, rfl, hi, g1⟩ := hrel
        have q1 := q0.trans g1
        by_cases hlt : i < n
        · have hil : i < l.length := by rw [HN.out]; exact hlt
          have hb := HM.out.bd hil
          have hfb := HDB.out i hil
          have hff := HF2.out i hil
          have z0 := q1.cell (HLC.out i hlt).1
          have z1 := g1.cell (H3.out i hlt)
          have z2 := g1.cell (H4.out i hlt)
          obtain ⟨⟨x, u⟩, hx⟩ : ∃ p, at' l i = p := ⟨_, rfl⟩
          rw [hx] at hb hff z0
          simp only at hb hff z0
          obtain ⟨p, hp⟩ : ∃ p, F i = p := ⟨_, rfl⟩
          obtain ⟨q, hq⟩ : ∃ p, F3 i = p := ⟨_, rfl⟩
          rw [hp] at hfb hff z1
          rw [hq] at hff z2
          obtain ⟨⟨p1, p2⟩, _⟩ := hb
          obtain ⟨p3, p4⟩ := hfb
          have j1 : IntKind.i64.wrap (p + x) = q := (IntWalk.i64_in _ (by omega)).trans hff.symm
          have j2 : (q != q) = false := by simp
          have hkn : (i : Int) < n := by omega
          clear hx hp hq hff hil
          go_upto_region 19 with (fail)
          go_quiet (fail)
          go_wp2
          go_roundw
          case rel => exact ⟨i + 1, by go_num, hlt, g1.drewN _⟩
          case measure => simp [intOf]; omega
        · obtain rfl : i = n := by omega
          go_wp2_with (go_at_call 12; refine (awake_at _).mono ?_; rintro e w1 ⟨rfl, hg⟩; replace q1 : PairW.Own w w1 := q1.trans hg; clear hg)
          go_ret
          exact ⟨rfl, q1⟩
end Go.Proofs.Ytlepcahangkmiaa.CueW
