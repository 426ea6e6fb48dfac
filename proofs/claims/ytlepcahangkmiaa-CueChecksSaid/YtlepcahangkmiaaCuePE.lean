/-
  Walks of the program's Drift and Worst of package cue. Condition: none.
-/
import Derived.Test.YtlepcahangkmiaaCuePA
import Derived.Test.YtlepcahangkmiaaCueB
import Derived.Test.YtlepcahangkmiaaTempoPD
namespace Go.Proofs.Ytlepcahangkmiaa.CueW
open Go.ChangeShapes Go.WideShapes Go.ChangeAt Go.RowKit
open PairW CelW CueP
open TemP (mV Map whE whV)
open TemW (st st_eq st_ne)
set_option maxRecDepth 100000 in
set_option maxHeartbeats 1000000 in
theorem pdriftc_at (t : List Pt) (A2 : Option Addr) (n2 cap2 : Nat) (x u m f v y z0 : Int) (Bt Bl sb so n cap : Nat) (w : World) (hbt : w.cell? ⟨Bt, 0, none⟩ = some (.slice A2 n2 cap2)) (hbl : w.cell? ⟨Bl, 0, none⟩ = some (.slice (some ⟨sb, so, none⟩) n cap)) (hz : w.cell? ⟨sb, so + 1, none⟩ = some (.int .i64 z0)) (hn : 0 < n)
    (HT : Hid (Pts w (.slice A2 n2 cap2) t)) (HW : Hid (whE t x = f ∧ whV t x = m)) (hv : IntKind.i64.wrap (u - z0) = y) (hv2 : IntKind.i64.wrap (m - y) = v) :
    Calls Try.prog 26 #[.agg #[.int .i64 x, .int .i64 u], .pointer (some ⟨Bt, 0, none⟩), .pointer (some ⟨Bl, 0, none⟩)] w fun e w' => e = .returned (.tuple #[.int .i64 v, .int .i64 f]) ∧ Own w w' := by
  obtain ⟨k0, k1, _, _⟩ := pt_new w x u 40
  have g0 : Own w (w.alloc (.cells #[.int .i64 x, .int .i64 u] 40)) := (Own.refl w).alloc _
  replace hbt := g0.cell hbt
  have E1 := Lib.hid (g0.cell hbl)
  have E2 := Lib.hid (g0.cell hz)
  have HT2 := Lib.hid (HT.out.own g0)
  have hnn : (0 : Int) < n := by omega
  clear hbl hz HT
  go_enter Try.func26, Try.ntmps26
  go_upto_region 1 with (fail)
  generalize w.alloc (.cells #[.int .i64 x, .int .i64 u] 40) = W0 at *
  obtain ⟨B, hB⟩ : ∃ B, w.heap.size = B := ⟨_, rfl⟩
  rw [hB] at k0 k1
  try simp only [hB]
  clear hB
  go_upto_region 2 with (go_at_call 21; refine (TemW.pWhen_at t _ x m f _ HT2 HW).mono ?_; rintro e w1 ⟨rfl, hg⟩; replace g0 := g0.trans hg; replace k1 := hg.cell k1; have e1 := hg.cell E1.out; have e2 := hg.cell E2.out; clear hg)
  go_quiet (fail)
  go_wp2
  go_ret2
  exact ⟨rfl, g0.drewN _⟩
/-- A row of integers, cell by cell, as a list. -/
theorem row_ints {w : World} {g n : Nat} {F : Nat → Value} {D : Nat → Int} (h : TemW.Fn w g g n 3 1 F) (hd : ∀ j, j < n → F j = .int .i64 (D j)) : w.ownsRow g 3 1 (.slice (some ⟨g, 0, none⟩) n n) n (cellsI (mp D n)) := by
  have h2 := h.to (f' := fun j => .int .i64 (D j)) (fun j hj => hd j (by omega))
  unfold TemW.Fn at h2
  rw [Nat.mul_one] at h2
  unfold cellsI mp
  rw [List.map_map]
  exact h2
set_option maxRecDepth 100000 in
set_option maxHeartbeats 2000000 in
theorem pdrift_at (l t : List Pt) (sv sw : Value) (M : List Int) (f : Int) (w : World) (HP : Hid (Pts w sv l)) (HT : Hid (Pts w sw t)) (H : Hid (drE l t = f ∧ drV l t = M)) :
    Calls Try.prog 16 #[sv, sw] w fun e w' => ∃ s', e = .returned (.tuple #[s', .int .i64 f]) ∧ w'.ownsRow w.heap.size 3 1 s' M.length (cellsI M) ∧ Own w w' := by
  obtain ⟨i0, hi, hz0, hz1, hz2⟩ := info_parts (show (Try.prog.info? 3).map (fun i => (i.zero, i.size, i.bytes)) = some (some (.int .i64 0), 1, 8) by kernel_rfl)
  have HI := Lib.hid hi
  have HZ0 := Lib.hid hz0
  have HZ1 := Lib.hid hz1
  obtain ⟨A, cap, rfl, ha1, ha2, ha⟩ := HP.out.open
  obtain ⟨A2, cap2, rfl, hb1, hb2, _⟩ := HT.out.open
  obtain ⟨n, hn⟩ : ∃ n, l.length = n := ⟨_, rfl⟩
  obtain ⟨n2, hn2⟩ : ∃ n, t.length = n := ⟨_, rfl⟩
  have HN := Lib.hid hn
  rw [hn] at ha ha1 HP ⊢
  rw [hn2] at hb1 HT ⊢
  unfold maxLen at ha2 hb2
  have HA := Lib.hid ha
  obtain ⟨B, hB⟩ : ∃ B, w.heap.size = B := ⟨_, rfl⟩
  have HB := Lib.hid hB
  have b0 : (w.alloc (.cells #[.slice A n cap] 22)).cell? ⟨w.heap.size, 0, none⟩ = some (.slice A n cap) := by go_simp
  have b1 : ((w.alloc (.cells #[.slice A n cap] 22)).alloc (.cells #[.slice A2 n2 cap2] 27)).cell? ⟨w.heap.size + 1, 0, none⟩ = some (.slice A2 n2 cap2) := by go_simp
  have q0 : Own w (w.alloc (.cells #[.slice A n cap] 22)) := (Own.refl w).alloc _
  have q1 : Own (w.alloc (.cells #[.slice A n cap] 22)) ((w.alloc (.cells #[.slice A n cap] 22)).alloc (.cells #[.slice A2 n2 cap2] 27)) := (Own.refl _).alloc _
  replace b0 := q1.cell b0
  have g0 := q0.trans q1
  rw [hB] at b0 b1
  obtain ⟨c0, hc⟩ : ∃ c, ccE l = c := ⟨_, rfl⟩
  have HC := Lib.hid hc
  clear q0 q1 hn hn2 ha hi hz0 hz1
  by_cases h0 : c0 = 0
  case neg =>
    have e := dr_bad t (l := l) (by rw [hc]; exact h0)
    obtain rfl : c0 = f := by rw [← H.out.1, e, hc]
    obtain rfl : [] = M := by rw [← H.out.2, (dr_none (by rw [e, hc]; exact h0)).1]
    have d0 : (c0 != 0) = true := bne_iff_ne.2 h0
    clear H hc e
    go_enter Try.func16, Try.ntmps16
    go_upto_region 1 with (fail)
    generalize (w.alloc (.cells #[.slice A n cap] 22)).alloc (.cells #[.slice A2 n2 cap2] 27) = W0 at *
    try simp only [hB]
    go_wp2_with (go_at_call 10; refine (pcheck_at l _ c0 _ (Lib.hid (HP.out.own g0)) HC).mono ?_; rintro e w1 ⟨rfl, hg⟩; replace g0 : Own w w1 := g0.trans hg; clear hg)
    go_ret2
    exact ⟨_, rfl, World.ownsRow_nil _ _ _ _, g0⟩
  subst h0
  have hm := cc_cues.1 hc
  have HM := Lib.hid hm
  have n0 : 2 ≤ n := by rw [← HN.out]; exact hm.n0
  have n1 : n ≤ 64 := by rw [← HN.out]; exact hm.n1
  have e := dr_map t hc
  have HTC := Lib.hid (e.symm.trans H.out.1)
  obtain ⟨sb, so, rfl, hcc⟩ := HA.out (by omega)
  have HCC := Lib.hid hcc
  obtain ⟨z0, hz0⟩ : ∃ z, (at' l 0).2 = z := ⟨_, rfl⟩
  have HZ := Lib.hid hz0
  have E0 := Lib.hid (show w.cell? ⟨sb, so + 1, none⟩ = some (.int .i64 z0) by have := (hcc 0 (by omega)).2; rw [hz0] at this; simpa using this)
  have HBY := Lib.hid (show i0.bytes * n ≤ 281474976710656 by rw [hz2]; omega)
  have HMX := Lib.hid (show n ≤ maxLen by unfold maxLen; omega)
  have hnn : (0 : Int) ≤ n := by omega
  clear hcc hz0 hm e hc HA hz2
  go_enter Try.func16, Try.ntmps16
  go_upto_region 1 with (fail)
  generalize (w.alloc (.cells #[.slice (some ⟨sb, so, none⟩) n cap] 22)).alloc (.cells #[.slice A2 n2 cap2] 27) = W0 at *
  try simp only [hB]
  go_upto_region 5 with (go_at_call 10; refine (pcheck_at l _ 0 _ (Lib.hid (HP.out.own g0)) HC).mono ?_; rintro e w1 ⟨rfl, hg⟩; replace g0 : Own w w1 := g0.trans hg; replace b0 := hg.cell b0; replace b1 := hg.cell b1; clear hg)
  have hsz1 := g0.size
  have hBG : B + 1 < w1.heap.size := block_lt_of_cell b1
  go_wp2_with (at_make; refine wpList_make_full _ rfl _ _ 31 rfl w1.heap.size 3 i0 (.int .i64 0) 1 Try.underlying31 HI.out HZ0.out HZ1.out _ _ _ _ n rfl rfl rfl rfl HBY.out HMX.out (Nat.le_refl _) ?_; intro w3 hown3 hg3; have hq3 : Own w1 w3 := (Own.refl w1).grown hg3 (by simp); replace b0 := hq3.cell b0; replace b1 := hq3.cell b1; replace g0 := g0.trans hq3)
  have HROW := Lib.hid (TemW.Fn.made (v := .int .i64 0) (fun i => by show (#[Value.int .i64 0] : Array Value)[i % 1]! = _; rw [Nat.mod_one]; rfl) hown3)
  obtain ⟨G, hG⟩ : ∃ G, w1.heap.size = G := ⟨_, rfl⟩
  have HWG := Lib.hid (show w.heap.size ≤ G by rw [← hG]; exact hsz1)
  rw [hG] at HROW hBG
  try simp only [hG]
  clear hown3 hg3 hG hq3
  by_cases hf : f = 0
  case neg =>
    obtain rfl : [] = M := by rw [← H.out.2, (dr_none (by rw [H.out.1]; exact hf)).1]
    have d0 : (f != 0) = true := bne_iff_ne.2 hf
    have hw0 := TemP.wh_bad (l := t) (at' l 0).1 (by rw [HTC.out]; exact hf)
    rw [HTC.out] at hw0
    have c0 := g0.cell (HCC.out 0 (by omega)).1
    have c1 := g0.cell (HCC.out 0 (by omega)).2
    obtain ⟨⟨x, u⟩, hx⟩ : ∃ p, at' l 0 = p := ⟨_, rfl⟩
    rw [hx] at c0 c1 hw0
    simp only [Nat.zero_mul, Nat.add_zero] at c0 c1 hw0
    have HW := Lib.hid hw0
    have hn0 : 0 < n := by omega
    have hni : (0 : Int) < n := by omega
    obtain ⟨y, hy⟩ : ∃ y, IntKind.i64.wrap (u - z0) = y := ⟨_, rfl⟩
    obtain ⟨v, hv⟩ : ∃ v, IntKind.i64.wrap (0 - y) = v := ⟨_, rfl⟩
    have HY := Lib.hid hy
    have HV := Lib.hid hv
    clear H hx hw0 hy hv hsz1 HROW
    go_loopw [24] (fun vi wr => vi = .int .i64 0 ∧ wr = w3) (fun _ _ => 0)
    case atStart => exact ⟨rfl, rfl⟩
    case round =>
      obtain ⟨rfl, rfl⟩ := hrel
      obtain ⟨k0, k1, _, _⟩ := pt_new wr x u 40
      have g1 : Own wr (wr.alloc (.cells #[.int .i64 x, .int .i64 u] 40)) := (Own.refl wr).alloc _
      go_upto_region 9 with (fail)
      generalize wr.alloc (.cells #[.int .i64 x, .int .i64 u] 40) = W1 at *
      go_wp2_with (go_at_call 26; refine (pdriftc_at t A2 n2 cap2 x u 0 f v y z0 (B + 1) B sb so n cap _ (g1.cell b1) (g1.cell b0) ((g0.trans g1).cell E0.out) hn0 (Lib.hid (HT.out.own (g0.trans g1))) HW HY.out HV.out).mono ?_; rintro e w5 ⟨rfl, hg⟩; replace g1 := g1.trans hg; clear hg)
      go_ret2
      exact ⟨_, rfl, World.ownsRow_nil _ _ _ _, g0.trans g1⟩
  subst hf
  have hmt := TemP.chk_map.1 HTC.out
  have HMT := Lib.hid hmt
  have HMM := Lib.hid (show mp (drF l t) n = M by rw [← H.out.2, (dr_some H.out.1).1, HN.out])
  clear H hmt hsz1
  go_loopw [24] (fun vi wr => ∃ (k : Nat) (F : Nat → Value), vi = .int .i64 (k : Int) ∧ k ≤ n ∧ Own w wr ∧ wr.cell? ⟨B, 0, none⟩ = some (.slice (some ⟨sb, so, none⟩) n cap) ∧ wr.cell? ⟨B + 1, 0, none⟩ = some (.slice A2 n2 cap2) ∧ TemW.Fn wr G G n 3 1 F ∧ ∀ j, j < k → F j = .int .i64 (drF l t j)) (fun vi _ => n - (intOf vi).toNat)
  case atStart => exact ⟨0, _, rfl, Nat.zero_le _, g0, b0, b1, HROW.out, fun j hj => absurd hj (Nat.not_lt_zero _)⟩
  case round =>
    obtain ⟨k, F, rfl, hk, q0, d0, d1, hrow, hF⟩ := hrel
    have HR := Lib.hid hrow
    have HF := Lib.hid hF
    clear hrow hF g0 b0 b1 HROW
    by_cases hlt : k < n
    · have hkl : k < l.length := by rw [HN.out]; exact hlt
      have hb := HM.out.bd hkl
      have hd := drF_bd HM.out HMT.out hkl
      have c0 := q0.cell (HCC.out k hlt).1
      have c1 := q0.cell (HCC.out k hlt).2
      have hdr : drF l t k = mV t (at' l k).1 - ((at' l k).2 - (at' l 0).2) := rfl
      obtain ⟨⟨x, u⟩, hx⟩ : ∃ p, at' l k = p := ⟨_, rfl⟩
      rw [hx] at c0 c1 hb hd hdr
      simp only at c0 c1 hb hd hdr
      rw [HZ.out] at hd hdr
      obtain ⟨m, hmm⟩ : ∃ m, mV t x = m := ⟨_, rfl⟩
      have HW := Lib.hid (show whE t x = 0 ∧ whV t x = m by have := TemP.wh_ok (l := t) (t := x) HTC.out hb.1; rw [hmm] at this; exact this)
      rw [hmm] at hd hdr
      obtain ⟨y, hy⟩ : ∃ y, u - z0 = y := ⟨_, rfl⟩
      rw [hy] at hd hdr
      obtain ⟨v, hv⟩ : ∃ v, m - y = v := ⟨_, rfl⟩
      rw [hv] at hdr
      rw [hdr] at hd
      obtain ⟨⟨p1, p2⟩, p3, p4⟩ := hb
      obtain ⟨⟨p5, p6⟩, ⟨p7, p8⟩, p9, p10⟩ := hd
      have HY := Lib.hid (show IntKind.i64.wrap (u - z0) = y from (IntWalk.i64_in _ (by omega)).trans hy)
      have HV := Lib.hid (show IntKind.i64.wrap (m - y) = v from (IntWalk.i64_in _ (by omega)).trans hv)
      have HDR := Lib.hid hdr
      have hkn : (k : Int) < n := by omega
      have hn0 : 0 < n := by omega
      clear hx hmm hy hv hdr hkl p5 p6 p7 p8 p9 p10
      obtain ⟨k0, k1, _, _⟩ := pt_new wr x u 40
      have g1 : Own wr (wr.alloc (.cells #[.int .i64 x, .int .i64 u] 40)) := (Own.refl wr).alloc _
      go_upto_region 9 with (fail)
      generalize wr.alloc (.cells #[.int .i64 x, .int .i64 u] 40) = W1 at *
      go_upto_region 12 with (go_at_call 26; refine (pdriftc_at t A2 n2 cap2 x u m 0 v y z0 (B + 1) B sb so n cap _ (g1.cell d1) (g1.cell d0) ((q0.trans g1).cell E0.out) hn0 (Lib.hid (HT.out.own (q0.trans g1))) HW HY.out HV.out).mono ?_; rintro e w5 ⟨rfl, hg⟩; replace g1 := g1.trans hg; clear hg)
      replace d0 := g1.cell d0
      replace d1 := g1.cell d1
      have hr5 := HR.out.own g1
      have q5 := q0.trans g1
      have f5 := hr5.frozen k
      have c5 := hr5.cell (j := k) (by omega)
      have HR5 := Lib.hid hr5
      clear hr5 c0 c1 k0 k1
      have hwg := HWG.out
      have n0' : B ≠ G := by omega
      have n1' : B + 1 ≠ G := by omega
      go_wp2
      have hr6 := HR5.out.put k (.int .i64 v)
      have d0' : (w5.setCell ⟨G, k, none⟩ (.int .i64 v)).cell? ⟨B, 0, none⟩ = some (.slice (some ⟨sb, so, none⟩) n cap) := by rw [World.cell?_of_block (w := w5) (Below.heap_setCell _ _ _ _ (by show B ≠ G; omega))]; exact d0
      have d1' : (w5.setCell ⟨G, k, none⟩ (.int .i64 v)).cell? ⟨B + 1, 0, none⟩ = some (.slice A2 n2 cap2) := by rw [World.cell?_of_block (w := w5) (Below.heap_setCell _ _ _ _ (by show B + 1 ≠ G; omega))]; exact d1
      have q6 := q5.setCell (p := ⟨G, k, none⟩) hwg (.int .i64 v)
      go_roundw
      case rel => exact ⟨k + 1, _, by go_num, hlt, q6, d0', d1', hr6, fun j hj => by
        by_cases e : j = k
        · rw [e, st_eq rfl, HDR.out]
        · rw [st_ne e]; exact HF.out j (by omega)⟩
      case measure => simp [intOf]; omega
    · obtain rfl : k = n := by omega
      obtain rfl := HMM.out
      go_wp2
      go_ret2
      exact ⟨_, rfl, by rw [mp_len]; exact row_down (row_ints HR.out HF.out) (by have := HWG.out; have := HB.out; omega), q0⟩
set_option maxRecDepth 100000 in
set_option maxHeartbeats 2000000 in
theorem pworst_at (l t : List Pt) (sv st : Value) (v f : Int) (w : World) (HP : Hid (Pts w sv l)) (HT : Hid (Pts w st t)) (H : Hid (drE l t = f ∧ woV l t = v)) :
    Calls Try.prog 18 #[sv, st] w fun e w' => e = .returned (.tuple #[.int .i64 v, .int .i64 f]) ∧ Own w w' := by
  have hdr := pdrift_at l t sv st (drV l t) f w HP HT (Lib.hid ⟨H.out.1, rfl⟩)
  have HDR := Lib.hid hdr
  clear hdr
  by_cases h1 : f = 0
  case neg =>
    obtain rfl : 0 = v := by rw [← H.out.2, (dr_none (by rw [H.out.1]; exact h1)).2]
    have d0 : (f != 0) = true := bne_iff_ne.2 h1
    clear H
    go_enter Try.func18, Try.ntmps18
    go_wp2_with (go_at_call 16; refine HDR.out.mono ?_; rintro e w1 ⟨s', rfl, hr, hg⟩)
    go_ret2
    exact ⟨rfl, hg⟩
  subst h1
  obtain ⟨e1, e2⟩ := dr_some H.out.1
  obtain ⟨hm, hmt⟩ := dr_parts H.out.1
  have HB := Lib.hid (fun i (h : i < l.length) => (drF_bd hm hmt h).2.2)
  have HV := Lib.hid (show wsF (drF l t) l.length = v by rw [← e2]; exact H.out.2)
  have n1 := hm.n1
  rw [e1] at HDR
  obtain ⟨F, hF⟩ : ∃ F, drF l t = F := ⟨_, rfl⟩
  obtain ⟨n, hn⟩ : ∃ n, l.length = n := ⟨_, rfl⟩
  rw [hF, hn] at HDR HV HB
  rw [hn] at n1
  clear hF hn e1 e2 hm hmt H
  go_enter Try.func18, Try.ntmps18
  go_wp2_with (go_at_call 16; refine HDR.out.mono ?_; rintro e w1 ⟨s', rfl, hr, hg⟩; rw [mp_len] at hr; have HR := Lib.hid (cel_of_row hr); obtain ⟨A, c, rfl⟩ := rows_shape hr; clear hr)
  have HC := Lib.hid (show 0 < n → ∃ b off : Nat, A = some ⟨b, off, none⟩ ∧ ∀ k, k < n → w1.cell? ⟨b, off + k, none⟩ = some (.int .i64 (F k)) from fun h0 => by
    obtain ⟨A', c', hv, _, _, h4⟩ := HR.out
    injection hv with q1 q2 q3
    subst q1
    obtain ⟨b, off, h5, h6⟩ := h4 (by rw [cellsI_len, mp_len]; exact h0)
    exact ⟨b, off, h5, fun k hk => h6 k _ (by unfold cellsI; rw [List.getElem?_map, mp_at hk]; rfl)⟩)
  clear HR HDR
  obtain ⟨wq, hwq⟩ : ∃ wq, w1 = wq := ⟨_, rfl⟩
  rw [hwq] at HC hg ⊢
  clear hwq
  go_loopw [8, 22] (fun v8 v9 wr => ∃ (k : Nat) (s : Int), v9 = .int .i64 (k : Int) ∧ k ≤ n ∧ v8 = .int .i64 s ∧ wsF F k = s ∧ Own wq wr) (fun _ v9 _ => n - (intOf v9).toNat)
  case atStart => exact ⟨0, 0, rfl, Nat.zero_le _, rfl, rfl, Own.refl wq⟩
  case round =>
    obtain ⟨k, s, rfl, hk, rfl, hs, q0⟩ := hrel
    by_cases hlt : k < n
    · obtain ⟨ab, ao, rfl, hc⟩ := HC.out (by omega)
      have e0 := q0.cell (hc k hlt)
      have hb := HB.out k hlt
      have hsb := wsF_bd (f := F) (B := 1099511627776) (by omega) (n := k) (fun i hi => HB.out i (by omega))
      rw [hs] at hsb
      have HS := Lib.hid (show wsF F (k + 1) = mx s (F k) by show mx (wsF F k) (F k) = _; rw [hs])
      obtain ⟨y, hy⟩ : ∃ y, F k = y := ⟨_, rfl⟩
      rw [hy] at e0 hb HS
      have hmx := fun (w : World) (ts : Array TypeId) (ty : TypeId) => max3_at (P := Try.prog) s y w ts ty
      obtain ⟨z, hz⟩ : ∃ z, mx s y = z := ⟨_, rfl⟩
      rw [hz] at hmx HS
      have i1 : IntKind.i64.wrap (-y) = -y := IntWalk.i64_in _ (by omega)
      have i2 : Go.RowKit.wrap64 (-y) = -y := by unfold Go.RowKit.wrap64; omega
      have hkn : (k : Int) < n := by omega
      clear hc hy hz hs
      go_wp2
      go_roundw
      case rel => exact ⟨k + 1, z, by go_num, hlt, rfl, HS.out, q0⟩
      case measure => simp [intOf]; omega
    · obtain rfl : k = n := by omega
      obtain rfl : s = v := by rw [← hs]; exact HV.out
      go_wp2
      go_ret2
      exact ⟨rfl, hg.trans q0⟩
end Go.Proofs.Ytlepcahangkmiaa.CueW
