/-
  Walk of the law MeterBeats. Condition: none.
-/
import Derived.Test.YtmmgidchgoligaaMeterT
namespace Go.Proofs.Ytmmgidchgoligaa.MetW
open Go.ChangeShapes Go.WideShapes Go.ChangeAt Go.RowKit
open PairW CelW MetP
/-- The number of beats of measures. -/
def sB (l : List Pt) : Int := (l.map fun p => p.1).sum
theorem sB_take {l : List Pt} {k : Nat} (h : k < l.length) : sB (l.take (k + 1)) = sB (l.take k) + (at' l k).1 := by
  rw [take_at h]
  unfold sB
  rw [List.map_append, List.sum_append]
  simp
theorem sB_le {l : List Pt} (h : Ok l) (k : Nat) : 0 ≤ sB (l.take k) ∧ sB (l.take k) ≤ 16 * (k : Int) := by
  induction k with
  | zero => simp [sB]
  | succ k ih =>
    by_cases hk : k < l.length
    · have := ok_at h hk
      rw [sB_take hk]
      omega
    · rw [List.take_of_length_le (by omega)]
      rw [List.take_of_length_le (by omega)] at ih
      omega
theorem mem_take_succ {M : List Int} {t : Int} {j : Nat} (hj : j < M.length) : t ∈ M.take (j + 1) ↔ t ∈ M.take j ∨ t = M[j] := by
  rw [List.take_succ_eq_append_getElem hj, List.mem_append, List.mem_singleton]
set_option maxRecDepth 100000 in
set_option maxHeartbeats 8000000 in
theorem lbeats_at (l : List Pt) (sv : Value) (s1 s2 t : Int) (w : World) (HP : Hid (Pts w sv l)) :
    Calls Try.prog 7 #[sv, .agg #[.int .i64 s1, .int .i64 s2], .int .i64 t] w fun e w' => e = .returned (.bool true) ∧ Own w w' := by
  obtain ⟨c, hc⟩ : ∃ c, bE l (s1, s2) = c := ⟨_, rfl⟩
  obtain ⟨M, hM⟩ : ∃ M, bV l (s1, s2) = M := ⟨_, rfl⟩
  have HB := Lib.hid (And.intro hc hM)
  obtain ⟨k0, k1, _, _⟩ := pt_new w s1 s2 30
  have g0 : Own w (w.alloc (.cells #[.int .i64 s1, .int .i64 s2] 30)) := (Own.refl w).alloc _
  by_cases h0 : c = 0
  · subst h0
    obtain ⟨hch, hs1, hs2, hs3⟩ := bE_zero.1 hc
    simp only at hs1 hs2 hs3
    obtain ⟨v, hv⟩ : ∃ v, tot l = v := ⟨_, rfl⟩
    rw [hv] at hs3
    have HL := Lib.hid (show chkE l = 0 ∧ lenV l = v from ⟨hch, by rw [lenV_ok hch, hv]⟩)
    obtain ⟨_, hl, ho, _⟩ := chk_zero.1 hch
    have HO := Lib.hid ho
    have HMM := Lib.hid (fun x => by have := bV_mem (t := x) hc; rw [hM] at this; exact this)
    have HAS := Lib.hid (show M.Pairwise (· < ·) by rw [← hM]; exact bV_asc)
    have hml : M.length ≤ 8192 := by rw [← hM]; exact bV_len
    obtain ⟨MA, hMA⟩ : ∃ M, bV l (0, v) = M := ⟨_, rfl⟩
    obtain ⟨ha1, ha2⟩ := bV_all hch
    rw [hv] at ha1 ha2
    rw [hMA] at ha2
    have HA2 := Lib.hid (And.intro ha1 hMA)
    have HSB := Lib.hid (show sB l = (MA.length : Int) from ha2.symm)
    have HLN := Lib.hid hl
    obtain ⟨Al, capl, rfl, l1, l2, l3⟩ := HP.out.open
    unfold maxLen at l2
    have HA := Lib.hid l3
    obtain ⟨n, hn⟩ : ∃ n, l.length = n := ⟨_, rfl⟩
    have HNN := Lib.hid hn
    rw [hn] at HA l1 HP hl ⊢
    clear hM hMA ha1 ha2 ho hch hv hc l3 hn
    go_enter Try.func7, Try.ntmps7
    go_upto_region 1 with (fail)
    generalize w.alloc (.cells #[.int .i64 s1, .int .i64 s2] 30) = W0 at *
    generalize w.heap.size = B0 at *
    go_upto_region 2 with (go_at_call 19; refine (pbeats_at l _ s1 s2 M 0 _ (Lib.hid (HP.out.own g0)) HB).mono ?_; rintro e w1 ⟨vb, rfl, hr, hg⟩; have HX := Lib.hid (cel_of_row hr); replace g0 : Own w w1 := g0.trans hg; replace k0 := hg.cell k0; replace k1 := hg.cell k1; clear hg hr)
    obtain ⟨A, cap, rfl, a1, a2, a3⟩ := cel_ints HX.out
    unfold maxLen at a2
    have HXC := Lib.hid a3
    obtain ⟨m, hm⟩ : ∃ m, M.length = m := ⟨_, rfl⟩
    have HML := Lib.hid hm
    rw [hm] at a1 hml
    simp only [hm]
    clear a3 HX hm HB
    have d1 : decide (s1 < 0) = false := decide_eq_false (by omega)
    have d2 : decide (s2 < s1) = false := decide_eq_false (by omega)
    have d3 : decide (v < s2) = false := decide_eq_false (by omega)
    go_upto_region 7 with (go_at_call 10; refine (plength_at l _ v 0 _ (Lib.hid (HP.out.own g0)) HL).mono ?_; rintro e w2 ⟨rfl, hg⟩; replace g0 : Own w w2 := g0.trans hg; replace k0 := hg.cell k0; replace k1 := hg.cell k1; have HG12 := Lib.hid hg; clear hg)
    clear d1 d2 d3
    go_wp2
    go_loopw [10, 11] (fun v10 v11 wr => ∃ (j : Nat) (fb : Bool), v11 = .int .i64 (j : Int) ∧ v10 = .bool fb ∧ j ≤ m ∧ Own w2 wr ∧ (fb = true ↔ t ∈ M.take j)) (fun _ v11 _ => m - (intOf v11).toNat)
    case atStart => exact ⟨0, false, rfl, rfl, Nat.zero_le _, Own.refl w2, by simp⟩
    case round =>
      obtain ⟨j, fb, rfl, rfl, hj, q0, hfb⟩ := hrel
      have HFB := Lib.hid hfb
      clear hfb
      by_cases hlt : j < m
      · have hjl : j < M.length := by rw [HML.out]; exact hlt
        obtain ⟨g, off, rfl, hcl⟩ := HXC.out (by omega)
        have e0 := (HG12.out.trans q0).cell (hcl j hjl)
        have hmem := (HMM.out M[j]).1 (List.getElem_mem hjl)
        have HTK := Lib.hid (mem_take_succ (t := t) hjl)
        obtain ⟨x, hx⟩ : ∃ x, M[j] = x := ⟨_, rfl⟩
        have HXX := Lib.hid hx
        rw [hx] at e0 hmem HTK
        obtain ⟨hw1, hw2, hx1, hx2⟩ := hmem
        obtain ⟨⟨ka, ba, ra⟩, hwv⟩ : ∃ p, wV l x = p := ⟨_, rfl⟩
        rw [hwv] at hw2
        have hra : ra = 0 := hw2
        subst hra
        have HW := Lib.hid (And.intro hw1 hwv)
        have hjn : (j : Int) < m := by omega
        have d1 : decide (x < s1) = false := decide_eq_false (by omega)
        have d2 : decide (s2 ≤ x) = false := decide_eq_false (by omega)
        clear hw1 hw2 hwv hx
        have b0 := q0.cell k0
        have b1 := q0.cell k1
        have hprev : j = 0 ∨ ∃ (jm : Nat) (z : Int), jm + 1 = j ∧ w1.cell? ⟨g, off + jm, none⟩ = some (.int .i64 z) ∧ z < x := by
          rcases Nat.eq_zero_or_pos j with e | e
          · exact .inl e
          · refine .inr ⟨j - 1, M[j - 1], by omega, hcl (j - 1) (by omega), ?_⟩
            rw [← HXX.out]
            exact List.pairwise_iff_getElem.1 HAS.out (j - 1) j (by omega) hjl (by omega)
        clear hcl
        go_upto_region 12 with (go_at_call 17; refine (pwhere_at l _ x ka ba 0 0 _ (Lib.hid (HP.out.own (g0.trans q0))) HW).mono ?_; rintro e w3 ⟨rfl, hg⟩; replace q0 : Own w2 w3 := q0.trans hg; replace e0 := hg.cell e0; replace b0 := hg.cell b0; replace b1 := hg.cell b1; clear hg)
        rcases hprev with hj0 | ⟨jm, z, hjm, f0, hzx⟩
        · subst hj0
          have d3 : decide ((0 : Int) < ((0 : Nat) : Int)) = false := rfl
          replace e0 : w3.cell? ⟨g, off, none⟩ = some (.int .i64 x) := e0
          go_quiet (fail)
          have e5 : (w3.drewN nq).cell? ⟨g, off, none⟩ = some (.int .i64 x) := e0
          have q5 : Own w2 (w3.drewN nq) := q0.drewN _
          generalize w3.drewN nq = w5 at *
          clear e0 b0 b1 q0
          cases fb with
          | true => exact absurd (HFB.out.1 rfl) (by simp)
          | false =>
            by_cases hxt : x = t
            · have t1 : (x == t) = true := beq_iff_eq.2 hxt
              go_wp2
              go_roundw
              case rel => exact ⟨0 + 1, true, by go_num, by first | rfl | trivial, hlt, q5, iff_of_true rfl (HTK.out.2 (.inr hxt.symm))⟩
              case measure => simp [intOf]; omega
            · have t1 : (x == t) = false := beq_eq_false_iff_ne.2 hxt
              go_wp2
              go_roundw
              case rel => exact ⟨0 + 1, false, by go_num, by first | rfl | trivial, hlt, q5, iff_of_false (by simp) (fun h => (HTK.out.1 h).elim (fun h => by simp at h) (fun h => hxt h.symm))⟩
              case measure => simp [intOf]; omega
        · replace f0 := ((HG12.out.trans q0)).cell f0
          have hj0 : 0 < j := by omega
          have d3 : decide ((0 : Int) < (j : Int)) = true := decide_eq_true (by omega)
          have d3' : decide (0 < j) = true := decide_eq_true hj0
          have i1 : IntKind.i64.wrap ((j : Int) - 1) = (jm : Int) := by rw [IntWalk.i64_in _ (by omega)]; omega
          have i2 : 0 ≤ (jm : Int) := by omega
          have i3 : (jm : Int) < m := by omega
          have d4 : decide (x ≤ z) = false := decide_eq_false (by omega)
          go_quiet (fail)
          have e5 : (w3.drewN nq).cell? ⟨g, off + j, none⟩ = some (.int .i64 x) := e0
          have q5 : Own w2 (w3.drewN nq) := q0.drewN _
          generalize w3.drewN nq = w5 at *
          clear e0 b0 b1 q0 f0
          cases fb with
          | true =>
            go_wp2
            go_roundw
            case rel => exact ⟨j + 1, true, by go_num, by first | rfl | trivial, hlt, q5, iff_of_true rfl (HTK.out.2 (.inl (HFB.out.1 rfl)))⟩
            case measure => simp [intOf]; omega
          | false =>
            by_cases hxt : x = t
            · have t1 : (x == t) = true := beq_iff_eq.2 hxt
              go_wp2
              go_roundw
              case rel => exact ⟨j + 1, true, by go_num, by first | rfl | trivial, hlt, q5, iff_of_true rfl (HTK.out.2 (.inr hxt.symm))⟩
              case measure => simp [intOf]; omega
            · have t1 : (x == t) = false := beq_eq_false_iff_ne.2 hxt
              go_wp2
              go_roundw
              case rel => exact ⟨j + 1, false, by go_num, by first | rfl | trivial, hlt, q5, iff_of_false (by simp) (fun h => (HTK.out.1 h).elim (fun h => by have := HFB.out.2 h; cases this) (fun h => hxt h.symm))⟩
              case measure => simp [intOf]; omega
      · obtain rfl : j = m := by omega
        have hfm : fb = true ↔ t ∈ M := by have := HFB.out; rwa [List.take_of_length_le (by rw [HML.out]; exact Nat.le_refl _)] at this
        obtain ⟨d, hd⟩ : ∃ c, wE l t = c := ⟨_, rfl⟩
        obtain ⟨⟨a, b, r⟩, hw⟩ : ∃ v, wV l t = v := ⟨_, rfl⟩
        have HW := Lib.hid (And.intro hd hw)
        have hmt := HMM.out t
        rw [hd, hw] at hmt
        have HT := Lib.hid (hfm.trans hmt)
        clear hd hw hfm hmt HFB HMM HXC HAS
        have b0 := q0.cell k0
        have b1 := q0.cell k1
        go_upto_region 16 with (go_at_call 17; refine (pwhere_at l _ t a b r d _ (Lib.hid (HP.out.own (g0.trans q0))) HW).mono ?_; rintro e w3 ⟨rfl, hg⟩; replace q0 : Own w2 w3 := q0.trans hg; replace b0 := hg.cell b0; replace b1 := hg.cell b1; clear hg)
        go_cut [154] (fun v154 wx => v154 = .bool false ∧ Own w2 wx)
        case first =>
          by_cases c1 : d = 0
          · subst c1
            by_cases c2 : r = 0
            · subst c2
              by_cases c3 : s1 ≤ t
              · by_cases c4 : t < s2
                · obtain rfl : fb = true := HT.out.2 ⟨rfl, rfl, c3, c4⟩
                  have d3 : decide (s1 ≤ t) = true := decide_eq_true c3
                  have d4 : decide (t < s2) = true := decide_eq_true c4
                  go_wp2
                  go_meet
                  case rel => exact ⟨rfl, q0⟩
                · obtain rfl : fb = false := Bool.of_not_eq_true fun h => c4 (HT.out.1 h).2.2.2
                  have d3 : decide (s1 ≤ t) = true := decide_eq_true c3
                  have d4 : decide (t < s2) = false := decide_eq_false c4
                  go_wp2
                  go_meet
                  case rel => exact ⟨rfl, q0⟩
              · obtain rfl : fb = false := Bool.of_not_eq_true fun h => c3 (HT.out.1 h).2.2.1
                have d3 : decide (s1 ≤ t) = false := decide_eq_false c3
                go_wp2
                go_meet
                case rel => exact ⟨rfl, q0⟩
            · obtain rfl : fb = false := Bool.of_not_eq_true fun h => c2 (HT.out.1 h).2.1
              have d3 : (r == 0) = false := beq_eq_false_iff_ne.2 c2
              go_wp2
              go_meet
              case rel => exact ⟨rfl, q0⟩
          · obtain rfl : fb = false := Bool.of_not_eq_true fun h => c1 (HT.out.1 h).1
            have d3 : (d == 0) = false := beq_eq_false_iff_ne.2 c1
            go_wp2
            go_meet
            case rel => exact ⟨rfl, q0⟩
        case rest =>
          obtain ⟨rfl, q1⟩ := hcut
          go_upto_region 19 with (go_at_call 19; refine (pbeats_at l _ 0 v MA 0 _ (Lib.hid (HP.out.own (g0.trans q1))) HA2).mono ?_; rintro e w6 ⟨va, rfl, hr, hg⟩; obtain ⟨A6, c6, rfl⟩ := rows_shape hr; have g6 : Own w w6 := (g0.trans q1).trans hg; clear hg hr)
          clear g0 q1 q0 b0 b1
          go_wp2
          go_loopw [20, 21] (fun v20 v21 wr => ∃ k : Nat, v21 = .int .i64 (k : Int) ∧ v20 = .int .i64 (sB (l.take k)) ∧ k ≤ n ∧ Own w6 wr) (fun _ v21 _ => n - (intOf v21).toNat)
          case atStart => exact ⟨0, rfl, rfl, Nat.zero_le _, Own.refl w6⟩
          case round =>
            obtain ⟨k, rfl, rfl, hk, q7⟩ := hrel
            by_cases hlt : k < n
            · obtain ⟨bb, off, rfl, hcl⟩ := HA.out (by omega)
              have e0 := (g6.trans q7).cell (hcl k hlt).1
              have hst := sB_take (l := l) (k := k) (by rw [HNN.out]; exact hlt)
              have hle := sB_le HO.out k
              have hat := ok_at HO.out (k := k) (by rw [HNN.out]; exact hlt)
              clear hcl
              generalize (at' l k).1 = x at *
              have HST := Lib.hid hst
              generalize sB (l.take k) = S at *
              have hkn : (k : Int) < n := by omega
              have i1 : IntKind.i64.wrap (S + x) = S + x := IntWalk.i64_in _ (by omega)
              clear hst
              go_wp2
              go_roundw
              case rel => exact ⟨k + 1, by go_num, by rw [HST.out], hlt, q7⟩
              case measure => simp [intOf]; omega
            · obtain rfl : k = n := by omega
              have hsb : sB (l.take k) = (MA.length : Int) := by rw [List.take_of_length_le (by rw [HNN.out]; exact Nat.le_refl _)]; exact HSB.out
              rw [hsb]
              clear hsb
              go_wp2_with (go_at_call 14; refine (awake_any _).mono ?_; rintro e w8 ⟨rfl, hg⟩; have g8 : Own w w8 := (g6.trans q7).trans hg; clear hg)
              go_ret
              exact ⟨rfl, g8⟩
  · obtain rfl : [] = M := by rw [← hM, bV_none (by rw [hc]; exact h0)]
    have d0 : (c != 0) = true := bne_iff_ne.2 h0
    clear hc hM
    go_enter Try.func7, Try.ntmps7
    go_upto_region 1 with (fail)
    generalize w.alloc (.cells #[.int .i64 s1, .int .i64 s2] 30) = W0 at *
    go_upto_region 2 with (go_at_call 19; refine (pbeats_at l _ s1 s2 [] c _ (Lib.hid (HP.out.own g0)) HB).mono ?_; rintro e w1 ⟨vb, rfl, hr, hg⟩; obtain ⟨A, cap, rfl⟩ := rows_shape hr; replace g0 : Own w w1 := g0.trans hg; clear hg hr)
    go_wp2_with (go_at_call 14; refine (awake_any _).mono ?_; rintro e w1 ⟨rfl, hg⟩; replace g0 : Own w w1 := g0.trans hg; clear hg)
    go_ret
    exact ⟨rfl, g0⟩
end Go.Proofs.Ytmmgidchgoligaa.MetW
