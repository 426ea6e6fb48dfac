/-
  Walks of Same and Inside of the specification of package geom. Condition: none.
-/
import Derived.Test.YtnakacflaaelnaaGeomF
namespace Go.Proofs.Ytnakacflaaelnaa.GeoW
open Go.ChangeShapes Go.WideShapes Go.ChangeAt Go.RowKit
open NumP NumW GeoP

/-- A slice of points, nil let in: its address is asked for where it has a point. -/
theorem Pts.open {w : World} {sv : Value} {l : List Pt} (h : Pts w sv l) : ∃ (A : Option Addr) (cap : Nat), sv = .slice A l.length cap ∧ l.length ≤ cap ∧ cap ≤ maxLen ∧
    (0 < l.length → ∃ b off : Nat, A = some ⟨b, off, none⟩ ∧ ∀ i, i < l.length → w.cell? ⟨b, off + i * 2, none⟩ = some (.int .i64 (at' l i).1) ∧ w.cell? ⟨b, off + i * 2 + 1, none⟩ = some (.int .i64 (at' l i).2)) := h
theorem lists_eq {a b : List Pt} (h : a.length = b.length) (he : ∀ i, i < a.length → at' a i = at' b i) : a = b := by
  refine List.ext_getElem h fun i h1 h2 => ?_
  have := he i h1
  unfold at' at this
  rw [List.getD_eq_getElem?_getD, List.getD_eq_getElem?_getD, List.getElem?_eq_getElem h1, List.getElem?_eq_getElem h2] at this
  exact this
theorem not_same {a b : List Pt} {i : Nat} {t : Bool} (h : at' a i ≠ at' b i) (ht : decide (a = b) = t) : t = false := by
  rw [← ht]; exact decide_eq_false (fun e => h (by rw [e]))
/-- Inside, case by case. -/
theorem inside_cases (p : Pt) (l : List Pt) (h : hullE l = 0) : (okP p = false → insideV p l = false ∧ insideE p l = 1) ∧ (okP p = true → insideV p l = inB p (hull l) ∧ insideE p l = 0) := by
  refine ⟨fun hp => ?_, fun hp => ?_⟩
  · have e : insideE p l = 1 := by unfold insideE; rw [if_pos h, hp]; rfl
    refine ⟨?_, e⟩
    unfold insideV
    rw [e]
    rfl
  · have e : insideE p l = 0 := by unfold insideE; rw [if_pos h, hp]; rfl
    refine ⟨?_, e⟩
    unfold insideV
    rw [e]
    rfl
theorem inside_err {p : Pt} {l : List Pt} (h : hullE l ≠ 0) : insideV p l = false ∧ insideE p l = hullE l := by
  have e : insideE p l = hullE l := by unfold insideE; rw [if_neg h]
  refine ⟨?_, e⟩
  unfold insideV
  rw [e, decide_eq_false h]
  rfl
set_option maxRecDepth 100000 in
set_option maxHeartbeats 2000000 in
theorem rsame_at (la lb : List Pt) (sa sb : Value) (t : Bool) (w : World) (HA : Hid (Pts w sa la)) (HB : Hid (Pts w sb lb)) (H : Hid (decide (la = lb) = t)) :
    Calls Try.prog 22 #[sa, sb] w fun e w' => e = .returned (.bool t) ∧ Own w w' := by
  obtain ⟨A, ca, rfl, ha1, ha2, ha⟩ := HA.out.open
  obtain ⟨B, cb, rfl, hb1, hb2, hb⟩ := HB.out.open
  clear HA HB
  unfold maxLen at ha2 hb2
  have HA := Lib.hid ha
  have HB := Lib.hid hb
  clear ha hb
  obtain ⟨n, hn⟩ : ∃ n, la.length = n := ⟨_, rfl⟩
  obtain ⟨m, hm⟩ : ∃ m, lb.length = m := ⟨_, rfl⟩
  rw [hn] at HA ha1 ⊢
  rw [hm] at HB hb1 ⊢
  by_cases hl : n = m
  · subst hl
    have HN := Lib.hid hn
    have HM := Lib.hid hm
    clear hn hm
    go_enter Try.func22, Try.ntmps22
    go_wp2
    go_loopw [5] (fun i wr => ∃ k : Nat, i = .int .i64 k ∧ k ≤ n ∧ Own w wr ∧ ∀ j, j < k → at' la j = at' lb j) (fun i _ => n - (intOf i).toNat)
    case atStart => exact ⟨0, rfl, Nat.zero_le _, Own.refl w, fun j hj => absurd hj (Nat.not_lt_zero _)⟩
    case round =>
      obtain ⟨k, rfl, hk, g0, heq⟩ := hrel
      have HE := Lib.hid heq
      clear heq
      by_cases hlt : k < n
      · obtain ⟨b, off, rfl, hc⟩ := HA.out (by omega)
        obtain ⟨b', off', rfl, hc'⟩ := HB.out (by omega)
        have e0 := g0.cell (hc k hlt).1
        have e1 := g0.cell (hc k hlt).2
        have e2 := g0.cell (hc' k hlt).1
        have e3 := g0.cell (hc' k hlt).2
        clear hc hc'
        by_cases hs : at' la k = at' lb k
        · have HS := Lib.hid hs
          rw [hs] at e0 e1
          obtain ⟨⟨x, y⟩, hp⟩ : ∃ p, at' lb k = p := ⟨_, rfl⟩
          rw [hp] at e0 e1 e2 e3
          simp only at e0 e1 e2 e3
          clear hs hp
          have hb1 : ptB x y x y = true := ptB_yes rfl
          go_upto_region 6 with (fail)
          go_quiet (fail)
          go_wp2
          go_roundw
          case rel => exact ⟨k + 1, by go_num, hlt, g0.drewN _, fun j hj => by
              by_cases e : j = k
              · rw [e]; exact HS.out
              · exact HE.out j (by omega)⟩
          case measure => simp [intOf]; omega
        · have ht := not_same hs H.out
          subst ht
          obtain ⟨⟨x, y⟩, hp⟩ : ∃ p, at' la k = p := ⟨_, rfl⟩
          obtain ⟨⟨x2, y2⟩, hp2⟩ : ∃ p, at' lb k = p := ⟨_, rfl⟩
          rw [hp] at e0 e1 hs
          rw [hp2] at e2 e3 hs
          simp only at e0 e1 e2 e3
          have hb1 := ptB_no hs
          clear hs hp hp2
          go_upto_region 6 with (fail)
          go_quiet (fail)
          go_wp2
          go_ret
          exact ⟨rfl, g0.drewN _⟩
      · obtain rfl : k = n := by omega
        have ht : t = true := by rw [← H.out]; exact decide_eq_true (lists_eq (HN.out.trans HM.out.symm) (by rw [HN.out]; exact HE.out))
        subst ht
        go_wp2
        go_ret
        exact ⟨rfl, g0⟩
  · have ht : t = false := by rw [← H.out]; exact decide_eq_false (fun e => hl (by rw [← hn, ← hm, e]))
    subst ht
    have hne : ((n : Int) != (m : Int)) = true := bne_iff_ne.2 (by omega)
    clear hn hm hl
    go_enter Try.func22, Try.ntmps22
    go_wp2
    go_ret
    exact ⟨rfl, Own.refl w⟩
set_option maxRecDepth 100000 in
set_option maxHeartbeats 4000000 in
theorem rinside_at (p : Pt) (l : List Pt) (sv : Value) (t : Bool) (f : Int) (w : World) (HP : Hid (Pts w sv l)) (H : Hid (insideV p l = t ∧ insideE p l = f)) :
    Calls Try.prog 24 #[.agg #[.int .i64 p.1, .int .i64 p.2], sv] w fun e w' => e = .returned (.tuple #[.bool t, .int .i64 f]) ∧ Own w w' := by
  have HC := Lib.hid (inside_cases p l)
  obtain ⟨px, py⟩ := p
  go_enter Try.func24, Try.ntmps24
  go_upto_region 1 with (fail)
  have k0 : (w.alloc (.cells #[.int .i64 px, .int .i64 py] 23)).cell? ⟨w.heap.size, 0, none⟩ = some (.int .i64 px) := by go_simp
  have k1 : (w.alloc (.cells #[.int .i64 px, .int .i64 py] 23)).cell? ⟨w.heap.size, 1, none⟩ = some (.int .i64 py) := by go_simp
  have g0 : Own w (w.alloc (.cells #[.int .i64 px, .int .i64 py] 23)) := ((Own.refl w).alloc _)
  generalize hW : (w.alloc (.cells #[.int .i64 px, .int .i64 py] 23)) = W0 at *
  clear hW
  go_wp2_with (go_at_call 21; refine (rhull_at l sv _ (Lib.hid (HP.out.own g0))).mono ?_)
  rintro e w1 ⟨hv, rfl, hp, hg⟩
  replace k0 := hg.cell k0
  replace k1 := hg.cell k1
  replace g0 : Own w w1 := g0.trans hg
  clear hg HP
  obtain ⟨he, hhe⟩ : ∃ e, hullE l = e := ⟨_, rfl⟩
  rw [hhe]
  by_cases hz : he = 0
  · subst hz
    have HH := Lib.hid (show hullL l = hull l by unfold hullL; rw [if_pos hhe])
    rw [HH.out] at hp
    have HE := Lib.hid hhe
    clear hhe
    obtain ⟨tv, htv⟩ : ∃ t, okP (px, py) = t := ⟨_, rfl⟩
    have HV := Lib.hid htv
    have HC2 := Lib.hid (HC.out HE.out)
    clear htv HC
    cases tv
    · have hr := HC2.out.1 HV.out
      rw [H.out.1, H.out.2] at hr
      obtain ⟨rfl, rfl⟩ := hr
      go_wp2_with (go_at_call 31; refine (rvalid_at (px, py) false _ HV).mono ?_; rintro e w1 ⟨rfl, hg⟩; replace k0 := hg.cell k0; replace k1 := hg.cell k1; replace g0 : Own w w1 := Own.trans (by first | exact g0 | exact Own.drewN g0 _) hg; replace hp := hp.own hg; clear hg)
      go_ret2
      exact ⟨rfl, g0⟩
    have hr := HC2.out.2 HV.out
    rw [H.out.1, H.out.2] at hr
    obtain ⟨hr1, rfl⟩ := hr
    have HT := Lib.hid hr1
    clear hr1 HC2
    have hsm := small_of HV.out
    have HOK := Lib.hid (fun i (hi : i < (hull l).length) => ((hullE_zero l).1 HE.out).2 _ ((hull_sub ((hullE_zero l).1 HE.out).2).1 _ (at_mem hi)))
    generalize hull l = h at *
    clear HH HE
    obtain ⟨A, cap, rfl, hc1, hc2, hop⟩ := hp.open
    unfold maxLen at hc2
    have HO := Lib.hid hop
    clear hop
    have HPW := Lib.hid hp
    clear hp
    obtain ⟨n, hn⟩ : ∃ n, h.length = n := ⟨_, rfl⟩
    rw [hn] at hc1 HO HOK HPW ⊢
    have HN := Lib.hid hn
    by_cases hn0 : n = 0
    · subst hn0
      have ht : t = false := by rw [HT.out]; unfold inB; rw [if_pos hn]
      subst ht
      clear hn
      go_wp2_with (go_at_call 31; refine (rvalid_at (px, py) true _ HV).mono ?_; rintro e w1 ⟨rfl, hg⟩; replace g0 : Own w w1 := g0.trans hg; clear hg)
      go_ret2
      exact ⟨rfl, g0⟩
    have hn1 : ((n : Int) == 0) = false := beq_eq_false_iff_ne.2 (by omega)
    have hnp : 0 < n := by omega
    have hnq : (0 : Int) < n := by omega
    obtain ⟨b, off, rfl, hc⟩ := HO.out (by omega)
    have HCE := Lib.hid hc
    clear hc HO
    by_cases hn3 : n < 3
    · have hin : nearB (px, py) (at' h 0) (at' h (n - 1)) 0 = t := by rw [HT.out]; unfold inB; rw [hn, if_neg hn0, if_pos hn3]
      have ok0 := HOK.out 0 (by omega)
      have ok1 := HOK.out (n - 1) (by omega)
      have e0 := (HCE.out 0 (by omega)).1
      have e1 := (HCE.out 0 (by omega)).2
      have e2 := (HCE.out (n - 1) (by omega)).1
      have e3 := (HCE.out (n - 1) (by omega)).2
      rw [Nat.zero_mul, Nat.add_zero] at e0 e1
      obtain ⟨⟨ax, ay⟩, ha⟩ : ∃ p, at' h 0 = p := ⟨_, rfl⟩
      obtain ⟨⟨bx, by1⟩, hb⟩ : ∃ p, at' h (n - 1) = p := ⟨_, rfl⟩
      rw [ha] at e0 e1 hin ok0
      rw [hb] at e2 e3 hin ok1
      simp only at e0 e1 e2 e3
      have hnr : nrV (px, py) (ax, ay) (bx, by1) 0 = t ∧ nrE (px, py) (ax, ay) (bx, by1) 0 = 0 := by
        have hok : nearOk (px, py) (ax, ay) (bx, by1) 0 = true := by unfold nearOk; rw [HV.out, ok0, ok1]; rfl
        unfold nrV nrE
        rw [hok, if_pos rfl, hin]
        exact ⟨rfl, rfl⟩
      have HR := Lib.hid hnr
      clear hnr hin ok0 ok1 ha hb hn hn0
      go_upto_region 9 with (go_at_call 31; refine (rvalid_at (px, py) true _ HV).mono ?_; rintro e w1 ⟨rfl, hg⟩; replace k0 := hg.cell k0; replace k1 := hg.cell k1; replace e0 := hg.cell e0; replace e1 := hg.cell e1; replace e2 := hg.cell e2; replace e3 := hg.cell e3; replace g0 : Own w w1 := g0.trans hg; clear hg)
      have f0 := Own.refl w1
      have f1 := (Own.refl w1).drew
      have i1 : IntKind.i64.wrap ((n : Int) - 1) = (n : Int) - 1 := IntWalk.i64_in _ (by omega)
      have i2 : 0 ≤ (n : Int) - 1 := by omega
      have i3 : ((n : Int) - 1).toNat = n - 1 := by omega
      have i4 : n - 1 < n := by omega
      have i5 : (n : Int) - 1 < n := by omega
      have i6 : (1 : Int) ≤ n := by omega
      have i7 : 1 ≤ n := by omega
      go_region_held3 (fun w' => w'.cell? ⟨w.heap.size, 0, none⟩ = some (.int .i64 px) ∧ w'.cell? ⟨w.heap.size, 1, none⟩ = some (.int .i64 py) ∧ w'.cell? ⟨b, off, none⟩ = some (.int .i64 ax) ∧ w'.cell? ⟨b, off + 1, none⟩ = some (.int .i64 ay) ∧ w'.cell? ⟨b, off + (n - 1) * 2, none⟩ = some (.int .i64 bx) ∧ w'.cell? ⟨b, off + (n - 1) * 2 + 1, none⟩ = some (.int .i64 by1) ∧ Own w1 w') (go_keep)
        ((go_at_call 17; refine (rnear_at (px, py) (ax, ay) (bx, by1) 0 t 0 _ HR).mono ?_; rintro e w2 ⟨rfl, hg⟩; obtain ⟨c0, c1, c2, c3, c4, c5, c6⟩ := held6 hg (by with_reducible assumption); clear hg))
      go_wp2
      go_ret2
      exact ⟨rfl, g0.trans c6⟩
    · have hin : (List.range n).all (fun i => decide (0 ≤ cr (at' h i) (at' h ((i + 1) % n)) (px, py))) = t := by rw [HT.out]; unfold inB; rw [hn, if_neg hn0, if_neg hn3]
      have HIN := Lib.hid hin
      clear hin hn hn0 HT
      go_wp2_with (go_at_call 31; refine (rvalid_at (px, py) true _ HV).mono ?_; rintro e w1 ⟨rfl, hg⟩; replace k0 := hg.cell k0; replace k1 := hg.cell k1; replace HCE := Lib.hid (fun i hi => And.intro (hg.cell (HCE.out i hi).1) (hg.cell (HCE.out i hi).2)); replace g0 : Own w w1 := g0.trans hg; clear hg HPW)
      go_loopw [8] (fun i wr => ∃ k : Nat, i = .int .i64 k ∧ k ≤ n ∧ Own w1 wr ∧ ∀ j, j < k → 0 ≤ cr (at' h j) (at' h ((j + 1) % n)) (px, py)) (fun i _ => n - (intOf i).toNat)
      case atStart => exact ⟨0, rfl, Nat.zero_le _, Own.refl w1, fun j hj => absurd hj (Nat.not_lt_zero _)⟩
      case round =>
        obtain ⟨k, rfl, hk, g1, hall⟩ := hrel
        have HA := Lib.hid hall
        clear hall
        by_cases hlt : k < n
        · have hm : (k + 1) % n < n := Nat.mod_lt _ (by omega)
          have hmi : ((k : Int) + 1).tmod n = (((k + 1) % n : Nat) : Int) := by rw [Int.tmod_eq_emod_of_nonneg (by omega)]; simp
          obtain ⟨m, hm2⟩ : ∃ m, (k + 1) % n = m := ⟨_, rfl⟩
          have HK := Lib.hid (HOK.out k hlt)
          have HM := Lib.hid (HOK.out m (by omega))
          have e0 := g1.cell (HCE.out k hlt).1
          have e1 := g1.cell (HCE.out k hlt).2
          have e2 := g1.cell (HCE.out m (by omega)).1
          have e3 := g1.cell (HCE.out m (by omega)).2
          have q0 := g1.cell k0
          have q1 := g1.cell k1
          rw [hm2] at hm hmi
          obtain ⟨c, hc⟩ : ∃ c, cr (at' h k) (at' h m) (px, py) = c := ⟨_, rfl⟩
          have HCM := Lib.hid (show cr (at' h k) (at' h ((k + 1) % n)) (px, py) = c by rw [hm2]; exact hc)
          obtain ⟨⟨ax, ay⟩, ha⟩ : ∃ p, at' h k = p := ⟨_, rfl⟩
          obtain ⟨⟨bx, by1⟩, hb⟩ : ∃ p, at' h m = p := ⟨_, rfl⟩
          have s1 : Small (ax, ay) := by rw [← ha]; exact small_of HK.out
          have s2 : Small (bx, by1) := by rw [← hb]; exact small_of HM.out
          rw [ha] at e0 e1 hc
          rw [hb] at e2 e3 hc
          simp only at e0 e1 e2 e3
          have HR := Lib.hid hc
          clear hc ha hb hm2 HK HM
          go_upto_region 13 with (fail)
          have f0 := Own.refl wr
          have f1 := (Own.refl wr).drew
          have i1 : IntKind.i64.wrap ((k : Int) + 1) = (k : Int) + 1 := IntWalk.i64_in _ (by omega)
          have i2 : 0 ≤ (k : Int) + 1 := by omega
          have i3 : (0 : Int) ≤ (m : Int) := by omega
          have i4 : (m : Int) < n := by omega
          have i5 : ¬ (n : Int) = 0 := by omega
          have i6 : ¬ n = 0 := by omega
          go_region_held3 (fun w' => w'.cell? ⟨w.heap.size, 0, none⟩ = some (.int .i64 px) ∧ w'.cell? ⟨w.heap.size, 1, none⟩ = some (.int .i64 py) ∧ w'.cell? ⟨b, off + k * 2, none⟩ = some (.int .i64 ax) ∧ w'.cell? ⟨b, off + k * 2 + 1, none⟩ = some (.int .i64 ay) ∧ w'.cell? ⟨b, off + m * 2, none⟩ = some (.int .i64 bx) ∧ w'.cell? ⟨b, off + m * 2 + 1, none⟩ = some (.int .i64 by1) ∧ Own wr w') (go_keep)
            ((go_at_call 34; refine (rcr_at (ax, ay) (bx, by1) (px, py) c _ HR s1 s2 hsm).mono ?_; rintro e w2 ⟨rfl, hg⟩; obtain ⟨c0, c1, c2, c3, c4, c5, c6⟩ := held6 hg (by with_reducible assumption); clear hg))
          clear i1 hmi
          by_cases hneg : c < 0
          · have ht : t = false := by
              rw [← HIN.out]
              refine Bool.of_not_eq_true fun hx => ?_
              have hy := List.all_eq_true.1 hx k (List.mem_range.2 hlt)
              rw [decide_eq_true_eq, HCM.out] at hy
              omega
            subst ht
            go_wp2
            go_ret2
            exact ⟨rfl, g0.trans (g1.trans c6)⟩
          · go_wp2
            go_roundw
            case rel => exact ⟨k + 1, by go_num, hlt, g1.trans c6, fun j hj => by
              by_cases e : j = k
              · rw [e, HCM.out]; omega
              · exact HA.out j (by omega)⟩
            case measure => simp [intOf]; omega
        · obtain rfl : k = n := by omega
          have ht : t = true := by
            rw [← HIN.out, List.all_eq_true]
            intro i hi
            exact decide_eq_true (HA.out i (List.mem_range.1 hi))
          subst ht
          go_wp2
          go_ret2
          exact ⟨rfl, g0.trans g1⟩
  · have hr := inside_err (p := (px, py)) (l := l) (by rw [hhe]; exact hz)
    rw [H.out.1, H.out.2, hhe] at hr
    obtain ⟨rfl, rfl⟩ := hr
    have hne : (f != 0) = true := bne_iff_ne.2 hz
    clear hz HC hhe
    go_wp2
    go_ret2
    exact ⟨rfl, g0⟩
end Go.Proofs.Ytnakacflaaelnaa.GeoW
