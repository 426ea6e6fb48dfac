/-
  Walk of the law GeomCorners: it returns true for every input. Condition: none.
-/
import Derived.Test.YtnakacflaaelnaaGeomI
namespace Go.Proofs.Ytnakacflaaelnaa.GeoW
open Go.ChangeShapes Go.WideShapes Go.ChangeAt Go.RowKit
open NumP NumW GeoP

theorem Pts.at {w : World} {A : Option Addr} {n cap : Nat} {l : List Pt} (h : Pts w (.slice A n cap) l) : l.length = n ∧ (0 < n → ∃ b off : Nat, A = some ⟨b, off, none⟩ ∧
    ∀ i, i < n → w.cell? ⟨b, off + i * 2, none⟩ = some (.int .i64 (at' l i).1) ∧ w.cell? ⟨b, off + i * 2 + 1, none⟩ = some (.int .i64 (at' l i).2)) := by
  obtain ⟨A2, cap2, he, _, _, hop⟩ := h.open
  injection he with h1 h2 h3
  subst h1
  rw [← h2] at hop
  exact ⟨h2.symm, hop⟩
theorem pts_held {wr wc : World} {a0 a1 a2 a3 : Addr} {v0 v1 v2 v3 sv : Value} {l : List Pt} (h : Pts wr sv l) (hh : wc.cell? a0 = some v0 ∧ wc.cell? a1 = some v1 ∧ wc.cell? a2 = some v2 ∧ wc.cell? a3 = some v3 ∧ Own wr wc) : Pts wc sv l := h.own hh.2.2.2.2
set_option maxRecDepth 100000 in
set_option maxHeartbeats 8000000 in
theorem GeomCorners_walk (l : List Pt) (p : Pt) (sv : Value) (w : World) (HP : Hid (Pts w sv l)) :
    Calls Try.prog 9 #[sv, .agg #[.int .i64 p.1, .int .i64 p.2]] w fun e w' => e = .returned (.bool true) ∧ Own w w' := by
  obtain ⟨A, cap, hsv, hc1, hc2, hopl⟩ := HP.out.open
  obtain ⟨n, hn⟩ : ∃ n, l.length = n := ⟨_, rfl⟩
  rw [hn] at hsv hc1 hopl
  unfold maxLen at hc2
  have HNL := Lib.hid hn
  clear hn
  subst hsv
  have HOL := Lib.hid hopl
  clear hopl
  obtain ⟨px, py⟩ := p
  by_cases h : 20 < n
  · have h2 : decide ((20 : Int) < n) = true := decide_eq_true (by omega)
    have g0 := (Own.refl w).alloc (.cells #[.int .i64 px, .int .i64 py] 23)
    go_enter Try.func9, Try.ntmps9
    go_wp2_with (go_at_call 15; refine (awake_any _).mono ?_; rintro e w1 ⟨rfl, hg⟩; replace g0 : Own w w1 := g0.trans hg; clear hg)
    go_ret
    exact ⟨rfl, g0⟩
  obtain ⟨f, hf⟩ : ∃ f, hullE l = f := ⟨_, rfl⟩
  have HF := Lib.hid hf
  have hnh : ((20 : Int) < n) = False := by simp; omega
  go_enter Try.func9, Try.ntmps9
  clear hnh
  go_upto_region 1 with (fail)
  have k0 : (w.alloc (.cells #[.int .i64 px, .int .i64 py] 23)).cell? ⟨w.heap.size, 0, none⟩ = some (.int .i64 px) := by go_simp
  have k1 : (w.alloc (.cells #[.int .i64 px, .int .i64 py] 23)).cell? ⟨w.heap.size, 1, none⟩ = some (.int .i64 py) := by go_simp
  have g0 : Own w (w.alloc (.cells #[.int .i64 px, .int .i64 py] 23)) := (Own.refl w).alloc _
  replace HP := Lib.hid (HP.out.own g0)
  generalize (w.alloc (.cells #[.int .i64 px, .int .i64 py] 23)) = W0 at *
  by_cases hz : f = 0
  · subst hz
    have hpl : hullL l = hull l := by unfold hullL; rw [if_pos hf]
    have hag := hullL_again hf
    have hge := hullE_hull hf
    have hia := inside_again (px, py) hf
    have hown := fun q (hq : q ∈ l) => inside_own hf hq
    have hside := fun q (hq : q ∈ l) k (hk : k < (hull l).length) => side_left hf hq hk
    have hfirst := fun k (h0 : 0 < k) (hk : k < (hull l).length) => first_least hf h0 hk
    have hsub := hull_sub ((hullE_zero l).1 hf).2
    have hokl := ((hullE_zero l).1 hf).2
    obtain ⟨t, ht⟩ : ∃ t, insideV (px, py) l = t := ⟨_, rfl⟩
    obtain ⟨fi, hfi⟩ : ∃ t, insideE (px, py) l = t := ⟨_, rfl⟩
    rw [ht, hfi] at hia
    have HI := Lib.hid (And.intro ht hfi)
    have HI2 := Lib.hid (And.intro hia.2 hia.1)
    have HOWN := Lib.hid hown
    have HSIDE := Lib.hid hside
    have HFIRST := Lib.hid hfirst
    have HSUB := Lib.hid hsub
    have HOKL := Lib.hid hokl
    have HAG := Lib.hid (And.intro hge hag)
    have HPL := Lib.hid hpl
    clear hf hag hge hia hown hside hfirst hsub hokl ht hfi hpl
    go_wp2_with (go_at_call 20; refine (phull_at l _ _ HP).mono ?_)
    rintro e w2 ⟨hv, rfl, hk, hg⟩
    rw [HF.out]
    rw [HPL.out] at hk
    have HK := Lib.hid hk
    replace k0 := hg.cell k0
    replace k1 := hg.cell k1
    replace HP := Lib.hid (HP.out.own hg)
    replace g0 : Own w w2 := g0.trans hg
    clear hg hk HPL HF
    generalize hull l = hs at *
    obtain ⟨B, caph, hsh, hd1, hd2, hoph⟩ := HK.out.open
    unfold maxLen at hd2
    obtain ⟨m, hm⟩ : ∃ m, hs.length = m := ⟨_, rfl⟩
    rw [hm] at hsh hd1 hoph
    subst hsh
    have hmn : m ≤ n := by have := HSUB.out.2.1; rw [hm, HNL.out] at this; exact this
    have HMN := Lib.hid (show 0 < n → 0 < m from fun h0 => by rw [← hm]; exact HSUB.out.2.2 (fun e => by have := HNL.out; rw [e] at this; simp at this; omega))
    have HMH := Lib.hid hm
    clear hm hoph
    go_upto_region 7 with (go_at_call 20; refine (phull_at hs _ _ HK).mono ?_; rintro e w3 ⟨hv2, rfl, hk, hg⟩; rw [HAG.out.1]; rw [HAG.out.2] at hk; have HK2 := Lib.hid hk; replace k0 := hg.cell k0; replace k1 := hg.cell k1; replace HP := Lib.hid (HP.out.own hg); replace HK := Lib.hid (HK.out.own hg); replace g0 : Own w w3 := g0.trans hg; clear hg hk)
    go_upto_region 9 with (go_at_call 23; (first | (with_reducible refine (pinside_at (px, py) l _ t fi _ HP HI).mono ?_) | (with_reducible refine (pinside_at (px, py) hs _ t fi _ HK HI2).mono ?_)); rintro e w1 ⟨rfl, hg⟩; replace k0 := hg.cell k0; replace k1 := hg.cell k1; replace HP := Lib.hid (HP.out.own hg); replace HK := Lib.hid (HK.out.own hg); replace HK2 := Lib.hid (HK2.out.own hg); replace g0 : Own w w1 := g0.trans hg; clear hg)
    clear k0 k1
    go_cut [88] (fun s wx => s = .bool false ∧ Own w1 wx)
    case first =>
      have q0 := Own.refl w1
      have hnm : decide (n < m) = false := decide_eq_false (by omega)
      by_cases hn0 : 0 < n
      · have hm0 : ((m : Int) == 0) = false := beq_eq_false_iff_ne.2 (by have := HMN.out hn0; omega)
        go_wp2_with (go_at_call 22; refine (rsame_at hs hs _ _ true _ HK HK2 (Lib.hid (decide_eq_true rfl))).mono ?_; rintro e w4 ⟨rfl, hg⟩; replace q0 : Own w1 w4 := q0.trans hg; clear hg)
        go_meet
        exact ⟨rfl, q0⟩
      · obtain rfl : n = 0 := by omega
        go_wp2_with (go_at_call 22; refine (rsame_at hs hs _ _ true _ HK HK2 (Lib.hid (decide_eq_true rfl))).mono ?_; rintro e w4 ⟨rfl, hg⟩; replace q0 : Own w1 w4 := q0.trans hg; clear hg)
        go_meet
        exact ⟨rfl, q0⟩
    case rest =>
      obtain ⟨rfl, hg⟩ := hcut
      replace HP := Lib.hid (HP.out.own hg)
      replace HK := Lib.hid (HK.out.own hg)
      replace g0 : Own w wc := g0.trans hg
      clear hg HK2 HAG HI HI2 HMN
      go_wp2_with (fail)
      go_loopw [13] (fun i wr => ∃ k : Nat, i = .int .i64 k ∧ k ≤ n ∧ Own wc wr) (fun i _ => n - (intOf i).toNat)
      case atStart => exact ⟨0, rfl, Nat.zero_le _, Own.refl wc⟩
      case round =>
        obtain ⟨k, rfl, hk, q0⟩ := hrel
        by_cases hlt : k < n
        · obtain ⟨b, off, rfl, hc⟩ := HOL.out (by omega)
          have hqm := at_mem (h := l) (k := k) (by rw [HNL.out]; exact hlt)
          have e0 := g0.cell (hc k hlt).1
          have e1 := g0.cell (hc k hlt).2
          replace e0 := q0.cell e0
          replace e1 := q0.cell e1
          have hin := HOWN.out _ hqm
          have hsd := HSIDE.out _ hqm
          have hqk := small_of (HOKL.out _ hqm)
          have hqo := HOKL.out _ hqm
          obtain ⟨⟨qx, qy⟩, hq⟩ : ∃ p, at' l k = p := ⟨_, rfl⟩
          rw [hq] at e0 e1 hin hsd hqk hqo
          simp only at e0 e1
          have HIN := Lib.hid (And.intro hin.2 hin.1)
          have HSD := Lib.hid hsd
          have HQO := Lib.hid hqo
          have HP2 := Lib.hid (HP.out.own q0)
          clear hin hsd hq hqm hqo hc
          go_wp2_with (go_at_call 23; refine (pinside_at (qx, qy) l _ true 0 _ HP2 HIN).mono ?_; rintro e w1 ⟨rfl, hg⟩; replace e0 := hg.cell e0; replace e1 := hg.cell e1; replace q0 : Own wc w1 := q0.trans hg; clear hg HP2)
          go_loopw [16] (fun i wr => ∃ j : Nat, i = .int .i64 j ∧ j ≤ m ∧ Own w1 wr) (fun i _ => m - (intOf i).toNat)
          case atStart => exact ⟨0, rfl, Nat.zero_le _, Own.refl w1⟩
          case round =>
            obtain ⟨j, rfl, hj, q2⟩ := hrel
            by_cases hjm : j < m
            · by_cases h1m : 1 < m
              · obtain ⟨b2, off2, rfl, hd⟩ := HK.out.at.2 (by omega)
                have hm : (j + 1) % m < m := Nat.mod_lt _ (by omega)
                have hmi : ((j : Int) + 1).tmod m = (((j + 1) % m : Nat) : Int) := by rw [Int.tmod_eq_emod_of_nonneg (by omega)]; simp
                have hsj := HSD.out j (by rw [HMH.out]; exact hjm)
                rw [HMH.out] at hsj
                have m0 := HSUB.out.1 _ (at_mem (h := hs) (k := j) (by rw [HMH.out]; exact hjm))
                have m1 := HSUB.out.1 _ (at_mem (h := hs) (k := (j + 1) % m) (by rw [HMH.out]; exact hm))
                have o0 := HOKL.out _ m0
                have o1 := HOKL.out _ m1
                obtain ⟨u, hu⟩ : ∃ u, (j + 1) % m = u := ⟨_, rfl⟩
                rw [hu] at hm hmi hsj o1
                have c0 := q2.cell (q0.cell (hd j hjm).1)
                have c1 := q2.cell (q0.cell (hd j hjm).2)
                have c2 := q2.cell (q0.cell (hd u hm).1)
                have c3 := q2.cell (q0.cell (hd u hm).2)
                have c4 := q2.cell e0
                have c5 := q2.cell e1
                obtain ⟨⟨ax, ay⟩, ha⟩ : ∃ p, at' hs j = p := ⟨_, rfl⟩
                obtain ⟨⟨bx, by1⟩, hb⟩ : ∃ p, at' hs u = p := ⟨_, rfl⟩
                rw [ha] at c0 c1 hsj o0
                rw [hb] at c2 c3 hsj o1
                simp only at c0 c1 c2 c3
                obtain ⟨c, hcr⟩ : ∃ c, cr (ax, ay) (bx, by1) (qx, qy) = c := ⟨_, rfl⟩
                rw [hcr] at hsj
                have HR := Lib.hid (show crossV (ax, ay) (bx, by1) (qx, qy) = c ∧ crossE (ax, ay) (bx, by1) (qx, qy) = 0 by
                  unfold crossV crossE
                  rw [o0, o1, HQO.out]
                  exact ⟨hcr, rfl⟩)
                clear ha hb hcr hu hd m0 m1 o0 o1
                go_upto_region 20 with (fail)
                have f0 := Own.refl wr
                have f1 := (Own.refl wr).drew
                have i1 : IntKind.i64.wrap ((j : Int) + 1) = (j : Int) + 1 := IntWalk.i64_in _ (by omega)
                have i2 : 0 ≤ (j : Int) + 1 := by omega
                have i3 : (0 : Int) ≤ (u : Int) := by omega
                have i4 : (u : Int) < m := by omega
                have i5 : ¬ (m : Int) = 0 := by omega
                have i6 : ¬ m = 0 := by omega
                go_region_held3 (fun w' => w'.cell? ⟨b2, off2 + j * 2, none⟩ = some (.int .i64 ax) ∧ w'.cell? ⟨b2, off2 + j * 2 + 1, none⟩ = some (.int .i64 ay) ∧ w'.cell? ⟨b2, off2 + u * 2, none⟩ = some (.int .i64 bx) ∧ w'.cell? ⟨b2, off2 + u * 2 + 1, none⟩ = some (.int .i64 by1) ∧ w'.cell? ⟨b, off + k * 2, none⟩ = some (.int .i64 qx) ∧ w'.cell? ⟨b, off + k * 2 + 1, none⟩ = some (.int .i64 qy) ∧ Own wr w') (go_keep)
                  ((go_at_call 13; refine (pcross_at (ax, ay) (bx, by1) (qx, qy) c 0 _ HR).mono ?_; rintro e w2 ⟨rfl, hg⟩; obtain ⟨d0, d1, d2, d3, d4, d5, d6⟩ := held6 hg (by with_reducible assumption); clear hg))
                clear i1 hmi
                go_wp2
                go_roundw
                case rel => exact ⟨j + 1, by go_num, hjm, q2.trans d6⟩
                case measure => simp [intOf]; omega
              · have hmd : decide (1 < m) = false := decide_eq_false h1m
                go_wp2
                go_roundw
                case rel => exact ⟨k + 1, by go_num, hlt, q0.trans q2⟩
                case measure => simp [intOf]; omega
            · go_wp2
              go_roundw
              case rel => exact ⟨k + 1, by go_num, hlt, q0.trans q2⟩
              case measure => simp [intOf]; omega
        · obtain rfl : k = n := by omega
          clear hk hlt
          replace HP := Lib.hid (HP.out.own q0)
          replace HK := Lib.hid (HK.out.own q0)
          replace g0 : Own w wr := g0.trans q0
          clear q0
          generalize wr = wz at *
          go_wp2_with (fail)
          go_loopw [19] (fun i wr => ∃ j : Nat, i = .int .i64 j ∧ j ≤ m ∧ Own wz wr) (fun i _ => m - (intOf i).toNat)
          case atStart => exact ⟨0, rfl, Nat.zero_le _, Own.refl wz⟩
          case round =>
            obtain ⟨j, rfl, hj, q2⟩ := hrel
            by_cases hjm : j < m
            · obtain ⟨b2, off2, rfl, hd⟩ := HK.out.at.2 (by omega)
              have hmem := HSUB.out.1 _ (at_mem (h := hs) (k := j) (by rw [HMH.out]; exact hjm))
              have c0 := q2.cell (hd j hjm).1
              have c1 := q2.cell (hd j hjm).2
              have c2 := q2.cell (hd 0 (by omega)).1
              have c3 := q2.cell (hd 0 (by omega)).2
              rw [Nat.zero_mul, Nat.add_zero] at c2 c3
              have hfl : 0 < j → _ := fun h0 => HFIRST.out j h0 (by rw [HMH.out]; exact hjm)
              obtain ⟨⟨ax, ay⟩, ha⟩ : ∃ p, at' hs j = p := ⟨_, rfl⟩
              obtain ⟨⟨zx, zy⟩, hb⟩ : ∃ p, at' hs 0 = p := ⟨_, rfl⟩
              rw [ha] at c0 c1 hmem
              rw [hb] at c2 c3
              rw [ha, hb] at hfl
              simp only at c0 c1 c2 c3 hfl
              have HMEM := Lib.hid hmem
              have HFL := Lib.hid hfl
              have HP3 := Lib.hid (HP.out.own q2)
              have hmp : 0 < m := by omega
              clear ha hb hd hmem hfl
              by_cases hj0 : 0 < j
              · have hji : (0 : Int) < j := by omega
                rcases HFL.out hj0 with hx | ⟨hx, hy⟩
                · have hxe : (ax == zx) = false := beq_eq_false_iff_ne.2 (by omega)
                  have hxl : decide (ax < zx) = false := decide_eq_false (by omega)
                  have hxf : decide (ax = zx) = false := decide_eq_false (by omega)
                  have hxn : ¬ ax = zx := by omega
                  clear hx
                  go_upto_region 26 with (fail)
                  have c0d : ∀ x : After wr, x.w.cell? ⟨b2, off2 + j * 2, none⟩ = some (.int .i64 ax) := fun x => x.o.cell c0
                  have c1d : ∀ x : After wr, x.w.cell? ⟨b2, off2 + j * 2 + 1, none⟩ = some (.int .i64 ay) := fun x => x.o.cell c1
                  have c2d : ∀ x : After wr, x.w.cell? ⟨b2, off2, none⟩ = some (.int .i64 zx) := fun x => x.o.cell c2
                  have c3d : ∀ x : After wr, x.w.cell? ⟨b2, off2 + 1, none⟩ = some (.int .i64 zy) := fun x => x.o.cell c3
                  clear c0 c1 c2 c3
                  refine region_after wr (by kernel_rfl) (by kernel_rfl) ?_
                  repeat (first
                    | go_big_quiet_step (((go_at_call 25; refine (has_at l (ax, ay) _ _ (Lib.hid (HP3.out.own (After.o _))) HMEM).mono ?_; rintro e w2 ⟨rfl, hg⟩; exact ⟨rfl, ⟨w2, (After.o _).trans hg⟩, rfl⟩)))
                    | quiet_step (((go_at_call 25; refine (has_at l (ax, ay) _ _ (Lib.hid (HP3.out.own (After.o _))) HMEM).mono ?_; rintro e w2 ⟨rfl, hg⟩; exact ⟨rfl, ⟨w2, (After.o _).trans hg⟩, rfl⟩))))
                  refine wpQuiet_nil ?_
                  rintro _ ⟨x, rfl⟩
                  clear c0d c1d c2d c3d
                  have d4 := x.o
                  generalize x.w = w2 at *
                  go_wp2
                  go_roundw
                  case rel => exact ⟨j + 1, by go_num, hjm, q2.trans d4⟩
                  case measure => simp [intOf]; omega
                · have hxx : ax = zx := hx.symm
                  clear hx HFL
                  subst hxx
                  have hyl : ¬ ay ≤ zy := by omega
                  have hyd : decide (ay ≤ zy) = false := decide_eq_false (by omega)
                  go_upto_region 26 with (fail)
                  have c0d : ∀ x : After wr, x.w.cell? ⟨b2, off2 + j * 2, none⟩ = some (.int .i64 ax) := fun x => x.o.cell c0
                  have c1d : ∀ x : After wr, x.w.cell? ⟨b2, off2 + j * 2 + 1, none⟩ = some (.int .i64 ay) := fun x => x.o.cell c1
                  have c2d : ∀ x : After wr, x.w.cell? ⟨b2, off2, none⟩ = some (.int .i64 ax) := fun x => x.o.cell c2
                  have c3d : ∀ x : After wr, x.w.cell? ⟨b2, off2 + 1, none⟩ = some (.int .i64 zy) := fun x => x.o.cell c3
                  clear c0 c1 c2 c3
                  refine region_after wr (by kernel_rfl) (by kernel_rfl) ?_
                  repeat (first
                    | go_big_quiet_step (((go_at_call 25; refine (has_at l (ax, ay) _ _ (Lib.hid (HP3.out.own (After.o _))) HMEM).mono ?_; rintro e w2 ⟨rfl, hg⟩; exact ⟨rfl, ⟨w2, (After.o _).trans hg⟩, rfl⟩)))
                    | quiet_step (((go_at_call 25; refine (has_at l (ax, ay) _ _ (Lib.hid (HP3.out.own (After.o _))) HMEM).mono ?_; rintro e w2 ⟨rfl, hg⟩; exact ⟨rfl, ⟨w2, (After.o _).trans hg⟩, rfl⟩))))
                  refine wpQuiet_nil ?_
                  rintro _ ⟨x, rfl⟩
                  clear c0d c1d c2d c3d
                  have d4 := x.o
                  generalize x.w = w2 at *
                  go_wp2
                  go_roundw
                  case rel => exact ⟨j + 1, by go_num, hjm, q2.trans d4⟩
                  case measure => simp [intOf]; omega
              · have hji : ¬ (0 : Int) < j := by omega
                have hjd : decide ((0 : Int) < j) = false := decide_eq_false (by omega)
                go_upto_region 26 with (fail)
                have c0d : ∀ x : After wr, x.w.cell? ⟨b2, off2 + j * 2, none⟩ = some (.int .i64 ax) := fun x => x.o.cell c0
                have c1d : ∀ x : After wr, x.w.cell? ⟨b2, off2 + j * 2 + 1, none⟩ = some (.int .i64 ay) := fun x => x.o.cell c1
                have c2d : ∀ x : After wr, x.w.cell? ⟨b2, off2, none⟩ = some (.int .i64 zx) := fun x => x.o.cell c2
                have c3d : ∀ x : After wr, x.w.cell? ⟨b2, off2 + 1, none⟩ = some (.int .i64 zy) := fun x => x.o.cell c3
                clear c0 c1 c2 c3
                refine region_after wr (by kernel_rfl) (by kernel_rfl) ?_
                repeat (first
                  | go_big_quiet_step (((go_at_call 25; refine (has_at l (ax, ay) _ _ (Lib.hid (HP3.out.own (After.o _))) HMEM).mono ?_; rintro e w2 ⟨rfl, hg⟩; exact ⟨rfl, ⟨w2, (After.o _).trans hg⟩, rfl⟩)))
                  | quiet_step (((go_at_call 25; refine (has_at l (ax, ay) _ _ (Lib.hid (HP3.out.own (After.o _))) HMEM).mono ?_; rintro e w2 ⟨rfl, hg⟩; exact ⟨rfl, ⟨w2, (After.o _).trans hg⟩, rfl⟩))))
                refine wpQuiet_nil ?_
                rintro _ ⟨x, rfl⟩
                clear c0d c1d c2d c3d
                have d4 := x.o
                generalize x.w = w2 at *
                go_wp2
                go_roundw
                case rel => exact ⟨j + 1, by go_num, hjm, q2.trans d4⟩
                case measure => simp [intOf]; omega
            · replace g0 := g0.trans q2
              go_wp2_with (go_at_call 15; refine (awake_any _).mono ?_; rintro e w1 ⟨rfl, hg⟩; replace g0 : Own w w1 := g0.trans hg; clear hg)
              go_ret
              exact ⟨rfl, g0⟩
  · have hpl : hullL l = [] := by unfold hullL; rw [if_neg (by rw [hf]; exact hz)]
    have HPL := Lib.hid hpl
    have hne : (f != 0) = true := bne_iff_ne.2 hz
    clear hpl hz hf
    go_wp2_with (go_at_call 20; refine (phull_at l _ _ HP).mono ?_)
    rintro e w2 ⟨hv, rfl, hk, hg⟩
    rw [HF.out]
    rw [HPL.out] at hk
    replace g0 : Own w w2 := g0.trans hg
    obtain ⟨B, caph, hsh, hd1, hd2, _⟩ := hk.open
    subst hsh
    clear hk hg HF HPL
    go_wp2_with (go_at_call 15; refine (awake_any _).mono ?_; rintro e w1 ⟨rfl, hg⟩; replace g0 : Own w w1 := g0.trans hg; clear hg)
    go_ret
    exact ⟨rfl, g0⟩
end Go.Proofs.Ytnakacflaaelnaa.GeoW
