/-
  Walk of the law TempoInverse. Condition: none.
-/
import Derived.Test.YtpgeiflbmcjaaaaTempoT
namespace Go.Proofs.Ytpgeiflbmcjaaaa.TemW
open Go.ChangeShapes Go.WideShapes Go.ChangeAt Go.RowKit
open PairW CelW TemP
set_option maxRecDepth 100000 in
set_option maxHeartbeats 2000000 in
theorem linverse_at (l : List Pt) (sv : Value) (t p : Int) (w : World) (HP : Hid (Pts w sv l)) :
    Calls Try.prog 8 #[sv, .int .i64 t, .int .i64 p] w fun e w' => e = .returned (.bool true) ∧ Own w w' := by
  obtain ⟨c, hc⟩ : ∃ c, chkE l = c := ⟨_, rfl⟩
  have HC := Lib.hid hc
  have g0 := Own.refl w
  by_cases h0 : c = 0
  case neg =>
    have d0 : (c != 0) = true := bne_iff_ne.2 h0
    clear hc
    go_enter Try.func8, Try.ntmps8
    go_wp2_with (first
      | (go_at_call 12; refine (pcheck_at l _ c _ (Lib.hid (HP.out.own g0)) HC).mono ?_; rintro e w1 ⟨rfl, hg⟩; replace g0 : Own w w1 := g0.trans hg; clear hg)
      | (go_at_call 13; refine (awake_any _).mono ?_; rintro e w1 ⟨rfl, hg⟩; replace g0 : Own w w1 := g0.trans hg; clear hg))
    go_ret
    exact ⟨rfl, g0⟩
  subst h0
  by_cases h1 : t < 0
  case pos =>
    clear hc
    go_enter Try.func8, Try.ntmps8
    go_wp2_with (first
      | (go_at_call 12; refine (pcheck_at l _ 0 _ (Lib.hid (HP.out.own g0)) HC).mono ?_; rintro e w1 ⟨rfl, hg⟩; replace g0 : Own w w1 := g0.trans hg; clear hg)
      | (go_at_call 13; refine (awake_any _).mono ?_; rintro e w1 ⟨rfl, hg⟩; replace g0 : Own w w1 := g0.trans hg; clear hg))
    go_ret
    exact ⟨rfl, g0⟩
  by_cases h2 : 8192 ≤ t
  case pos =>
    clear hc
    go_enter Try.func8, Try.ntmps8
    go_wp2_with (first
      | (go_at_call 12; refine (pcheck_at l _ 0 _ (Lib.hid (HP.out.own g0)) HC).mono ?_; rintro e w1 ⟨rfl, hg⟩; replace g0 : Own w w1 := g0.trans hg; clear hg)
      | (go_at_call 13; refine (awake_any _).mono ?_; rintro e w1 ⟨rfl, hg⟩; replace g0 : Own w w1 := g0.trans hg; clear hg))
    go_ret
    exact ⟨rfl, g0⟩
  have hm := chk_map.1 hc
  have h1' : 0 ≤ t := by omega
  obtain ⟨m, hmm⟩ : ∃ m, mV l t = m := ⟨_, rfl⟩
  obtain ⟨n, hnn⟩ : ∃ n, mV l (t + 1) = n := ⟨_, rfl⟩
  obtain ⟨E, hE⟩ : ∃ E, mV l 8192 = E := ⟨_, rfl⟩
  obtain ⟨o, ho⟩ : ∃ o, ofF l t = o := ⟨_, rfl⟩
  have s1 := mV_step hm h1'
  have s2 := ofV_bound hm h1'
  have s3 := mV_bound hm h1'
  have s4 := mV_le hm (t := t + 1) (u := 8192) (by omega) (by omega)
  have s5 := mV_bound hm (t := 8192) (by omega)
  rw [ofV_ofF hm h1', ho, hmm, hnn] at s1
  rw [ofV_ofF hm h1', ho] at s2
  rw [hmm] at s3
  rw [hnn, hE] at s4
  rw [hE] at s5
  have HW1 := Lib.hid (show whE l t = 0 ∧ whV l t = m by have := wh_ok (t := t) hc (by omega); rw [hmm] at this; exact this)
  have HW2 := Lib.hid (show whE l (t + 1) = 0 ∧ whV l (t + 1) = n by have := wh_ok (t := t + 1) hc (by omega); rw [hnn] at this; exact this)
  have HW3 := Lib.hid (show whE l 8192 = 0 ∧ whV l 8192 = E by have := wh_ok (t := 8192) hc (by omega); rw [hE] at this; exact this)
  have HB1 := Lib.hid (show chkE l = 0 ∧ (0 ≤ m ∧ m ≤ mV l 8192) ∧ IsT l m t from ⟨hc, by rw [hE]; omega, by have := isT_self hm h1' (by omega); rw [hmm] at this; exact this⟩)
  have HB2 := Lib.hid (show chkE l = 0 ∧ (0 ≤ n ∧ n ≤ mV l 8192) ∧ IsT l n (t + 1) from ⟨hc, by rw [hE]; omega, by have := isT_self (t := t + 1) hm (by omega) (by omega); rw [hnn] at this; exact this⟩)
  have hpart : ∀ x, 0 ≤ x → x < o → chkE l = 0 ∧ (0 ≤ m + x ∧ m + x ≤ mV l 8192) ∧ IsT l (m + x) t := fun x x0 x1 => ⟨hc, by rw [hE]; omega, by have := isT_part (l := l) (t := t) (p := x) h1' (by omega) x0 (by rw [hnn, hmm]; omega); rw [hmm] at this; exact this⟩
  have HB3 := Lib.hid (show chkE l = 0 ∧ (0 ≤ n - 1 ∧ n - 1 ≤ mV l 8192) ∧ IsT l (n - 1) t by have := hpart (o - 1) (by omega) (by omega); rw [show m + (o - 1) = n - 1 by omega] at this; exact this)
  have HB4 := Lib.hid (show chkE l = 0 ∧ (0 ≤ E ∧ E ≤ mV l 8192) ∧ IsT l E 8192 from ⟨hc, by rw [hE]; omega, by have := isT_self (t := 8192) hm (by omega) (by omega); rw [hE] at this; exact this⟩)
  have HPART := Lib.hid hpart
  have HZ0 := Lib.hid (show chkE l = 0 ∧ ((0 : Int) ≤ 0 ∧ (0 : Int) ≤ 8192) ∧ mV l 0 = 0 from ⟨hc, by decide, mV_zero hm⟩)
  have i1 : IntKind.i64.wrap (t + 1) = t + 1 := IntWalk.i64_in _ (by omega)
  have i2 : IntKind.i64.wrap (n - m) = o := (IntWalk.i64_in _ (by omega)).trans (by omega)
  have i3 : IntKind.i64.wrap (n - 1) = n - 1 := IntWalk.i64_in _ (by omega)
  have x1 : ¬ m < 0 := by omega
  have x2 : ¬ n ≤ m := by omega
  have x3 : ¬ E < n := by omega
  have x4 : ¬ 4194304 < o := by omega
  have x5 : (o != o) = false := by simp
  have y1 : decide (n ≤ m) = false := decide_eq_false x2
  have HS := Lib.hid (And.intro s3 (And.intro s4 s5))
  obtain ⟨A, cap, rfl, ha1, ha2, ha⟩ := HP.out.open
  obtain ⟨b, off, rfl, hcc⟩ := ha hm.n0
  unfold maxLen at ha2
  obtain ⟨K, hK⟩ : ∃ K, l.length = K := ⟨_, rfl⟩
  have HT := Lib.hid (fun k (hk : k < K) => ofF_take (l := l) (k := k) (by rw [hK]; exact hk) t)
  have HV := Lib.hid (show ofF (l.take K) t = o by rw [← hK, List.take_length]; exact ho)
  rw [hK] at hcc ha1 HP ⊢
  have HCC := Lib.hid hcc
  clear hc hm hmm hnn hE ho s1 s2 s3 s4 s5 hpart ha hcc hK
  go_enter Try.func8, Try.ntmps8
  go_wp2_with (first
    | (go_at_call 12; refine (pcheck_at l _ 0 _ (Lib.hid (HP.out.own g0)) HC).mono ?_; rintro e w1 ⟨rfl, hg⟩; replace g0 : Own w w1 := g0.trans hg; clear hg)
    | (go_at_call 14; (first | (with_reducible refine (pWhen_at l _ t m 0 _ (Lib.hid (HP.out.own g0)) HW1).mono ?_) | (with_reducible refine (pWhen_at l _ (t + 1) n 0 _ (Lib.hid (HP.out.own g0)) HW2).mono ?_) | (with_reducible refine (pWhen_at l _ 8192 E 0 _ (Lib.hid (HP.out.own g0)) HW3).mono ?_)); rintro e w1 ⟨rfl, hg⟩; replace g0 : Own w w1 := g0.trans hg; clear hg))
  go_loopw [13, 14] (fun vn vi wr => ∃ k : Nat, vi = .int .i64 (k : Int) ∧ vn = .int .i64 (ofF (l.take k) t) ∧ k ≤ K ∧ Own w wr) (fun _ vi _ => K - (intOf vi).toNat)
  case atStart => exact ⟨0, rfl, rfl, Nat.zero_le _, g0⟩
  case round =>
    obtain ⟨k, rfl, rfl, hk, q0⟩ := hrel
    by_cases hlt : k < K
    · have e0 := q0.cell (HCC.out k hlt).1
      have e1 := q0.cell (HCC.out k hlt).2
      have ht := HT.out k hlt
      obtain ⟨⟨x, y⟩, hp⟩ : ∃ p, at' l k = p := ⟨_, rfl⟩
      rw [hp] at e0 e1 ht
      simp only at e0 e1 ht
      have HT1 := Lib.hid ht
      clear hp ht
      generalize ofF (l.take k) t = s at *
      have hkn : (k : Int) < K := by omega
      by_cases hx : x ≤ t
      · go_wp2
        go_roundw
        case rel => exact ⟨k + 1, by go_num, by rw [HT1.out, if_pos hx], hlt, q0⟩
        case measure => simp [intOf]; omega
      · have HX := Lib.hid hx
        have hx2 : decide (x ≤ t) = false := decide_eq_false hx
        clear hx
        go_wp2
        go_roundw
        case rel => exact ⟨k + 1, by go_num, by rw [HT1.out, if_neg HX.out], hlt, q0⟩
        case measure => simp [intOf]; omega
    · obtain rfl : k = K := by omega
      have hv := HV.out
      generalize ofF (l.take k) t = s at *
      subst hv
      by_cases hp0 : 0 ≤ p
      · by_cases hp1 : p < s
        · have HB5 := Lib.hid (HPART.out p hp0 hp1)
          have i4 : IntKind.i64.wrap (m + p) = m + p := IntWalk.i64_in _ (by have := HS.out; omega)
          go_wp2_with (first
            | (go_at_call 25; (first | (with_reducible refine (back_at l _ m t _ (Lib.hid (HP.out.own q0)) HB1).mono ?_) | (with_reducible refine (back_at l _ n (t + 1) _ (Lib.hid (HP.out.own q0)) HB2).mono ?_) | (with_reducible refine (back_at l _ (n - 1) t _ (Lib.hid (HP.out.own q0)) HB3).mono ?_) | (with_reducible refine (back_at l _ E 8192 _ (Lib.hid (HP.out.own q0)) HB4).mono ?_) | (with_reducible refine (back_at l _ (m + p) t _ (Lib.hid (HP.out.own q0)) HB5).mono ?_)); rintro e w1 ⟨rfl, hg⟩; replace q0 : Own w w1 := q0.trans hg; clear hg)
            | (go_at_call 26; refine (when_at l _ 0 0 _ (Lib.hid (HP.out.own q0)) HZ0).mono ?_; rintro e w1 ⟨rfl, hg⟩; replace q0 : Own w w1 := q0.trans hg; clear hg)
            | (go_at_call 13; refine (awake_any _).mono ?_; rintro e w1 ⟨rfl, hg⟩; replace q0 : Own w w1 := q0.trans hg; clear hg))
          go_ret
          exact ⟨rfl, q0⟩
        · have hp2 : decide (p < s) = false := decide_eq_false hp1
          go_wp2_with (first
            | (go_at_call 25; (first | (with_reducible refine (back_at l _ m t _ (Lib.hid (HP.out.own q0)) HB1).mono ?_) | (with_reducible refine (back_at l _ n (t + 1) _ (Lib.hid (HP.out.own q0)) HB2).mono ?_) | (with_reducible refine (back_at l _ (n - 1) t _ (Lib.hid (HP.out.own q0)) HB3).mono ?_) | (with_reducible refine (back_at l _ E 8192 _ (Lib.hid (HP.out.own q0)) HB4).mono ?_)); rintro e w1 ⟨rfl, hg⟩; replace q0 : Own w w1 := q0.trans hg; clear hg)
            | (go_at_call 26; refine (when_at l _ 0 0 _ (Lib.hid (HP.out.own q0)) HZ0).mono ?_; rintro e w1 ⟨rfl, hg⟩; replace q0 : Own w w1 := q0.trans hg; clear hg)
            | (go_at_call 13; refine (awake_any _).mono ?_; rintro e w1 ⟨rfl, hg⟩; replace q0 : Own w w1 := q0.trans hg; clear hg))
          go_ret
          exact ⟨rfl, q0⟩
      · have hp3 : decide (0 ≤ p) = false := decide_eq_false hp0
        go_wp2_with (first
          | (go_at_call 25; (first | (with_reducible refine (back_at l _ m t _ (Lib.hid (HP.out.own q0)) HB1).mono ?_) | (with_reducible refine (back_at l _ n (t + 1) _ (Lib.hid (HP.out.own q0)) HB2).mono ?_) | (with_reducible refine (back_at l _ (n - 1) t _ (Lib.hid (HP.out.own q0)) HB3).mono ?_) | (with_reducible refine (back_at l _ E 8192 _ (Lib.hid (HP.out.own q0)) HB4).mono ?_)); rintro e w1 ⟨rfl, hg⟩; replace q0 : Own w w1 := q0.trans hg; clear hg)
          | (go_at_call 26; refine (when_at l _ 0 0 _ (Lib.hid (HP.out.own q0)) HZ0).mono ?_; rintro e w1 ⟨rfl, hg⟩; replace q0 : Own w w1 := q0.trans hg; clear hg)
          | (go_at_call 13; refine (awake_any _).mono ?_; rintro e w1 ⟨rfl, hg⟩; replace q0 : Own w w1 := q0.trans hg; clear hg))
        go_ret
        exact ⟨rfl, q0⟩
end Go.Proofs.Ytpgeiflbmcjaaaa.TemW
