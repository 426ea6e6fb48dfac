/-
  Walk of the function of the specification that finds the next corner of a hull. Condition: none.
-/
import Derived.Test.YtnakacflaaelnaaGeomD
namespace Go.Proofs.Ytnakacflaaelnaa.GeoW
open Go.ChangeShapes Go.WideShapes Go.ChangeAt Go.RowKit
open NumP NumW GeoP

theorem take_at {l : List Pt} {k : Nat} (h : k < l.length) : l.take (k + 1) = l.take k ++ [at' l k] := by
  rw [List.take_succ_eq_append_getElem h]
  unfold at'
  rw [List.getD_eq_getElem?_getD, List.getElem?_eq_getElem h]
  rfl
theorem fold_step {l : List Pt} {k : Nat} (h : k < l.length) (c : Pt) : (l.take (k + 1)).foldl (nstep c) c = nstep c ((l.take k).foldl (nstep c) c) (at' l k) := by
  rw [take_at h, List.foldl_append]
  rfl
theorem fold_ok {c : Pt} (hc : okP c = true) : ∀ (l : List Pt) (o : Pt), okP o = true → (∀ q ∈ l, okP q = true) → okP (l.foldl (nstep c) o) = true
  | [], o, ho, _ => ho
  | q :: l, o, ho, hl => by
    refine fold_ok hc l _ ?_ (fun p hp => hl p (List.mem_cons_of_mem _ hp))
    have hq := hl q (List.mem_cons_self ..)
    unfold nstep
    split
    · exact ho
    · split
      · exact hq
      · exact ho
theorem held6 {wr wc w1 : World} {a0 a1 a2 a3 a4 a5 : Addr} {v0 v1 v2 v3 v4 v5 : Value} (hg : Own wc w1) (h : wc.cell? a0 = some v0 ∧ wc.cell? a1 = some v1 ∧ wc.cell? a2 = some v2 ∧ wc.cell? a3 = some v3 ∧ wc.cell? a4 = some v4 ∧ wc.cell? a5 = some v5 ∧ Own wr wc) :
    w1.cell? a0 = some v0 ∧ w1.cell? a1 = some v1 ∧ w1.cell? a2 = some v2 ∧ w1.cell? a3 = some v3 ∧ w1.cell? a4 = some v4 ∧ w1.cell? a5 = some v5 ∧ Own wr w1 :=
  ⟨hg.cell h.1, hg.cell h.2.1, hg.cell h.2.2.1, hg.cell h.2.2.2.1, hg.cell h.2.2.2.2.1, hg.cell h.2.2.2.2.2.1, h.2.2.2.2.2.2.trans hg⟩
theorem frozen_kept {w w' : World} (h : Own w w') {p : Addr} {v : Value} (hc : w.cell? p = some v) (hz : w.frozen? p = false) : w'.frozen? p = false := by
  rw [h.frozen (block_lt_of_cell hc)]
  exact hz
theorem own_cell {w w' : World} (h : Own w w') {p : Addr} {v : Value} (hc : w.cell? p = some v) : w'.cell? p = some v := h.cell hc
set_option maxRecDepth 100000 in
set_option maxHeartbeats 8000000 in
theorem rnext_core (l : List Pt) (c : Pt) (b off cap : Nat) (w : World) (hn : l.length ≤ 16) (hcap : l.length ≤ cap) (hc : okP c = true) (hl : ∀ q ∈ l, okP q = true)
    (h0 : ∀ i, i < l.length → w.cell? ⟨b, off + i * 2, none⟩ = some (.int .i64 (at' l i).1)) (h1 : ∀ i, i < l.length → w.cell? ⟨b, off + i * 2 + 1, none⟩ = some (.int .i64 (at' l i).2)) :
    Calls Try.prog 45 #[.slice (some ⟨b, off, none⟩) l.length cap, .agg #[.int .i64 c.1, .int .i64 c.2]] w fun e w' => e = .returned (.agg #[.int .i64 (nxt l c).1, .int .i64 (nxt l c).2]) ∧ Own w w' := by
  have hfo : ∀ k, okP ((l.take k).foldl (nstep c) c) = true := fun k => fold_ok hc _ _ hc (fun q hq => hl q (List.mem_of_mem_take hq))
  have hst := fun k (h : k < l.length) => fold_step h c
  have hend : (l.take l.length).foldl (nstep c) c = nxt l c := by rw [List.take_length]; rfl
  have hpo : ∀ i, i < l.length → okP (at' l i) = true := fun i hi => hl _ (at_mem hi)
  have sc := small_of hc
  obtain ⟨cx, cy⟩ := c
  have H0 := Lib.hid h0
  have H1 := Lib.hid h1
  have HFO := Lib.hid hfo
  have HST := Lib.hid hst
  have HPO := Lib.hid hpo
  have HEND := Lib.hid hend
  clear h0 h1 hfo hst hpo hend hl hc
  obtain ⟨n, hl⟩ : ∃ n, l.length = n := ⟨_, rfl⟩
  rw [hl] at hn hcap H0 H1 HST HPO HEND ⊢
  clear hl
  go_enter Try.func45, Try.ntmps45
  go_wp2
  go_loopw [6] (fun i wr => ∃ k : Nat, i = .int .i64 k ∧ k ≤ n ∧ Own w wr ∧
      wr.cell? ⟨w.heap.size, 0, none⟩ = some (.int .i64 cx) ∧ wr.cell? ⟨w.heap.size, 1, none⟩ = some (.int .i64 cy) ∧
      wr.cell? ⟨w.heap.size + 1, 0, none⟩ = some (.int .i64 0) ∧ wr.cell? ⟨w.heap.size + 1, 1, none⟩ = some (.int .i64 0) ∧
      wr.cell? ⟨w.heap.size + 1 + 1, 0, none⟩ = some (.int .i64 ((l.take k).foldl (nstep (cx, cy)) (cx, cy)).1) ∧ wr.cell? ⟨w.heap.size + 1 + 1, 1, none⟩ = some (.int .i64 ((l.take k).foldl (nstep (cx, cy)) (cx, cy)).2) ∧
      wr.frozen? ⟨w.heap.size + 1, 0, none⟩ = false ∧ wr.frozen? ⟨w.heap.size + 1, 1, none⟩ = false ∧ wr.frozen? ⟨w.heap.size + 1 + 1, 0, none⟩ = false ∧ wr.frozen? ⟨w.heap.size + 1 + 1, 1, none⟩ = false) (fun i _ => n - (intOf i).toNat)
  case atStart =>
    refine ⟨0, rfl, Nat.zero_le _, by repeat (first | exact Own.refl _ | apply Own.alloc | refine Own.setCell ?_ (by simp; try omega) _), ?_⟩
    refine ⟨by go_simp, by go_simp, by go_simp, by go_simp, by go_simp, by go_simp, by go_simp, by go_simp, by go_simp, by go_simp⟩
  case round =>
    obtain ⟨k, rfl, hk, g0, k0, k1, k2, k3, k4, k5, z0, z1, z2, z3⟩ := hrel
    by_cases hlt : k < n
    · have sp := small_of (HPO.out k hlt)
      have so := small_of (HFO.out k)
      have st := HST.out k hlt
      obtain ⟨⟨px, py⟩, hp⟩ : ∃ p, at' l k = p := ⟨_, rfl⟩
      obtain ⟨⟨ox, oy⟩, ho⟩ : ∃ p, (l.take k).foldl (nstep (cx, cy)) (cx, cy) = p := ⟨_, rfl⟩
      have e0 := g0.cell (H0.out k hlt)
      have e1 := g0.cell (H1.out k hlt)
      rw [hp] at e0 e1 st sp
      rw [ho] at k4 k5 st so
      simp only at e0 e1 k4 k5
      clear hp ho
      by_cases hc : ((px, py) : Pt) = (cx, cy)
      · have hb1 := ptB_yes hc
        have HS := Lib.hid (show (l.take (k + 1)).foldl (nstep (cx, cy)) (cx, cy) = (ox, oy) by rw [st]; unfold nstep; rw [if_pos hc])
        clear hc st
        go_upto_region 5 with (fail)
        go_quiet (fail)
        go_wp2
        go_roundw
        case rel => exact ⟨k + 1, by go_num, hlt, g0.drewN _, k0, k1, k2, k3, by rw [HS.out]; exact k4, by rw [HS.out]; exact k5, z0, z1, z2, z3⟩
        case measure => simp [intOf]; omega
      have hb1 := ptB_no hc
      obtain ⟨x, hx⟩ : ∃ x, cr (cx, cy) (ox, oy) (px, py) = x := ⟨_, rfl⟩
      have hxb := cr_in sc so sp
      rw [hx] at hxb
      have HX := Lib.hid hx
      have hbi := better_iff (cx, cy) (ox, oy) (px, py)
      rw [hx] at hbi
      have hst2 : (l.take (k + 1)).foldl (nstep (cx, cy)) (cx, cy) = if better (cx, cy) (ox, oy) (px, py) = true then (px, py) else (ox, oy) := by rw [st]; unfold nstep; rw [if_neg hc]
      clear hc hx st
      have HBI := Lib.hid hbi
      have HST2 := Lib.hid hst2
      clear hbi hst2
      go_upto_region 5 with (fail)
      go_quiet (fail)
      go_upto_region 6 with (fail)
      replace k0 : (wr.drewN nq).cell? _ = _ := k0
      replace k1 : (wr.drewN nq).cell? _ = _ := k1
      replace k2 : (wr.drewN nq).cell? _ = _ := k2
      replace k3 : (wr.drewN nq).cell? _ = _ := k3
      replace k4 : (wr.drewN nq).cell? _ = _ := k4
      replace k5 : (wr.drewN nq).cell? _ = _ := k5
      replace e0 : (wr.drewN nq).cell? _ = _ := e0
      replace e1 : (wr.drewN nq).cell? _ = _ := e1
      replace z0 : (wr.drewN nq).frozen? _ = _ := z0
      replace z1 : (wr.drewN nq).frozen? _ = _ := z1
      replace z2 : (wr.drewN nq).frozen? _ = _ := z2
      replace z3 : (wr.drewN nq).frozen? _ = _ := z3
      replace g0 : Own w (wr.drewN nq) := g0.drewN nq
      generalize wr.drewN nq = wa at *
      have f0 := Own.refl wa
      have f1 := (Own.refl wa).drew
      go_region_held3 (fun w' => w'.cell? ⟨w.heap.size, 0, none⟩ = some (.int .i64 cx) ∧ w'.cell? ⟨w.heap.size, 1, none⟩ = some (.int .i64 cy) ∧ w'.cell? ⟨w.heap.size + 1 + 1, 0, none⟩ = some (.int .i64 ox) ∧ w'.cell? ⟨w.heap.size + 1 + 1, 1, none⟩ = some (.int .i64 oy) ∧ w'.cell? ⟨b, off + k * 2, none⟩ = some (.int .i64 px) ∧ w'.cell? ⟨b, off + k * 2 + 1, none⟩ = some (.int .i64 py) ∧ Own wa w') (go_keep)
        ((go_at_call 34; refine (rcr_at (cx, cy) (ox, oy) (px, py) x _ HX sc so sp).mono ?_; rintro e w1 ⟨rfl, hg⟩; obtain ⟨c0, c1, c2, c3, c4, c5, c6⟩ := held6 hg (by with_reducible assumption); clear hg))
      replace z0 : w1.frozen? _ = _ := frozen_kept c6 k2 z0
      replace z1 : w1.frozen? _ = _ := frozen_kept c6 k3 z1
      replace k2 := c6.cell k2
      replace k3 := c6.cell k3
      replace z2 : w1.frozen? _ = _ := frozen_kept c6 k4 z2
      replace z3 : w1.frozen? _ = _ := frozen_kept c6 k5 z3
      replace g0 := g0.trans c6
      clear k0 k1 k4 k5 e0 e1 f0 f1 c6
      go_upto_region 7 with (fail)
      by_cases d1 : ((ox, oy) : Pt) = (cx, cy)
      · have hb2 := ptB_yes d1
        have HS := Lib.hid (show (l.take (k + 1)).foldl (nstep (cx, cy)) (cx, cy) = (px, py) by rw [HST2.out, if_pos (HBI.out.2 (Or.inl d1))])
        clear d1
        go_quiet (fail)
        go_wp2
        go_roundw
        case rel =>
          refine ⟨k + 1, by go_num, hlt, by repeat (first | exact g0 | apply Own.drewN | refine Own.setCell ?_ (by simp; try omega) _), ?_⟩
          rw [HS.out]
          refine ⟨by go_simp, by go_simp, by go_simp, by go_simp, by go_simp, by go_simp, by go_simp, by go_simp, by go_simp, by go_simp⟩
        case measure => simp [intOf]; omega
      have hb2 := ptB_no d1
      by_cases d2 : x < 0
      · have HS := Lib.hid (show (l.take (k + 1)).foldl (nstep (cx, cy)) (cx, cy) = (px, py) by rw [HST2.out, if_pos (HBI.out.2 (Or.inr (Or.inl d2)))])
        clear d1
        go_quiet (fail)
        go_wp2
        go_roundw
        case rel =>
          refine ⟨k + 1, by go_num, hlt, by repeat (first | exact g0 | apply Own.drewN | refine Own.setCell ?_ (by simp; try omega) _), ?_⟩
          rw [HS.out]
          refine ⟨by go_simp, by go_simp, by go_simp, by go_simp, by go_simp, by go_simp, by go_simp, by go_simp, by go_simp, by go_simp⟩
        case measure => simp [intOf]; omega
      by_cases d3 : x = 0
      · subst d3
        have i1 := sq_in sc sp
        have i2 := sq_in sc so
        obtain ⟨s1, hs1⟩ : ∃ s, sq (cx, cy) (px, py) = s := ⟨_, rfl⟩
        obtain ⟨s2, hs2⟩ : ∃ s, sq (cx, cy) (ox, oy) = s := ⟨_, rfl⟩
        rw [hs1] at i1
        rw [hs2] at i2
        have hbi := HBI.out
        rw [hs1, hs2] at hbi
        have HBT := Lib.hid (show s2 < s1 → (l.take (k + 1)).foldl (nstep (cx, cy)) (cx, cy) = (px, py) from fun d4 => by rw [HST2.out, if_pos (hbi.2 (Or.inr (Or.inr ⟨rfl, d4⟩)))])
        have HBF := Lib.hid (show ¬ s2 < s1 → (l.take (k + 1)).foldl (nstep (cx, cy)) (cx, cy) = (ox, oy) from fun d4 => by rw [HST2.out, if_neg (fun h => (hbi.1 h).elim d1 (fun h => h.elim d2 (fun h => d4 h.2)))])
        have HA := Lib.hid hs1
        have HC := Lib.hid hs2
        clear hbi hs1 hs2 d1 HBI
        have f0 := Own.refl w1
        have f1 := (Own.refl w1).drew
        generalize w1 = wa at *
        have y2 := c2
        have y3 := c3
        go_region_held3 (fun w' => w'.cell? ⟨w.heap.size, 0, none⟩ = some (.int .i64 cx) ∧ w'.cell? ⟨w.heap.size, 1, none⟩ = some (.int .i64 cy) ∧ w'.cell? ⟨w.heap.size + 1 + 1, 0, none⟩ = some (.int .i64 ox) ∧ w'.cell? ⟨w.heap.size + 1 + 1, 1, none⟩ = some (.int .i64 oy) ∧ w'.cell? ⟨b, off + k * 2, none⟩ = some (.int .i64 px) ∧ w'.cell? ⟨b, off + k * 2 + 1, none⟩ = some (.int .i64 py) ∧ Own wa w') (go_keep)
          ((go_at_call 32; (first | (with_reducible refine (rsq_at (cx, cy) (px, py) s1 _ HA sc sp).mono ?_) | (with_reducible refine (rsq_at (cx, cy) (ox, oy) s2 _ HC sc so).mono ?_)); rintro e w1 ⟨rfl, hg⟩; obtain ⟨c0, c1, c2, c3, c4, c5, c6⟩ := held6 hg (by with_reducible assumption); clear hg))
        replace z0 : w1.frozen? _ = _ := frozen_kept c6 k2 z0
        replace z1 : w1.frozen? _ = _ := frozen_kept c6 k3 z1
        replace z2 : w1.frozen? _ = _ := frozen_kept c6 y2 z2
        replace z3 : w1.frozen? _ = _ := frozen_kept c6 y3 z3
        replace k2 := c6.cell k2
        replace k3 := c6.cell k3
        replace g0 := g0.trans c6
        clear y2 y3 f0 f1 c6
        by_cases d4 : s2 < s1
        · have HS := Lib.hid (HBT.out (by omega))
          go_wp2
          go_roundw
          case rel =>
            refine ⟨k + 1, by go_num, hlt, by repeat (first | exact g0 | apply Own.drewN | refine Own.setCell ?_ (by simp; try omega) _), ?_⟩
            rw [HS.out]
            refine ⟨by go_simp, by go_simp, by go_simp, by go_simp, by go_simp, by go_simp, by go_simp, by go_simp, by go_simp, by go_simp⟩
          case measure => simp [intOf]; omega
        · have HS := Lib.hid (HBF.out (by omega))
          go_wp2
          go_roundw
          case rel =>
            refine ⟨k + 1, by go_num, hlt, by repeat (first | exact g0 | apply Own.drewN | refine Own.setCell ?_ (by simp; try omega) _), ?_⟩
            rw [HS.out]
            refine ⟨by go_simp, by go_simp, by go_simp, by go_simp, by go_simp, by go_simp, by go_simp, by go_simp, by go_simp, by go_simp⟩
          case measure => simp [intOf]; omega
      · have HS := Lib.hid (show (l.take (k + 1)).foldl (nstep (cx, cy)) (cx, cy) = (ox, oy) by rw [HST2.out, if_neg (fun h => (HBI.out.1 h).elim d1 (fun h => h.elim d2 (fun h => d3 h.1)))])
        have d4 : (x == 0) = false := beq_eq_false_iff_ne.2 d3
        clear d1 d3
        go_quiet (fail)
        go_wp2
        go_roundw
        case rel =>
          refine ⟨k + 1, by go_num, hlt, by repeat (first | exact g0 | apply Own.drewN | refine Own.setCell ?_ (by simp; try omega) _), ?_⟩
          rw [HS.out]
          refine ⟨by go_simp, by go_simp, by go_simp, by go_simp, by go_simp, by go_simp, by go_simp, by go_simp, by go_simp, by go_simp⟩
        case measure => simp [intOf]; omega
    · obtain rfl : k = n := by omega
      clear hk
      have HE := Lib.hid HEND.out
      rw [HEND.out] at k4 k5
      clear HEND
      obtain ⟨⟨ox, oy⟩, ho⟩ : ∃ p, nxt l (cx, cy) = p := ⟨_, rfl⟩
      rw [ho] at k4 k5
      simp only at k4 k5
      have HN := Lib.hid ho
      clear ho
      go_wp2
      exact bodyPost_ret (v := .agg #[.int .i64 ox, .int .i64 oy]) (by simp [results, Try.results45, go_sem, k2, k3]) rfl ⟨by rw [HN.out], (g0.setCell (by simp) _).setCell (by simp) _⟩
end Go.Proofs.Ytnakacflaaelnaa.GeoW
