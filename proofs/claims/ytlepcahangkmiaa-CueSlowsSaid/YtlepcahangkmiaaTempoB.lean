/-
  Walks of the specification of package tempo: moment, When, Tick. Condition: none.
-/
import Derived.Test.YtlepcahangkmiaaTempoA
namespace Go.Proofs.Ytlepcahangkmiaa.TemW
open Go.ChangeShapes Go.WideShapes Go.ChangeAt Go.RowKit
open PairW TemP
/-- What a moment has come to, at the tempo i. -/
def Sm (l : List Pt) (t : Int) (i : Nat) (s : Int) : Prop := (i < l.length ∧ (at' l i).1 ≤ t ∧ s = mo l i) ∨ (s = mV l t ∧ (i < l.length → t ≤ (at' l i).1))
theorem sm_start {l : List Pt} (h : Map l) {t : Int} (h0 : 0 ≤ t) : Sm l t 0 0 := .inl ⟨h.n0, by rw [h.first]; exact h0, rfl⟩
theorem sm_end {l : List Pt} (h : Map l) {t s : Int} {i : Nat} (hs : Sm l t i s) (hi : i < l.length → t ≤ (at' l i).1) : s = mV l t := by
  rcases hs with ⟨h1, h2, h3⟩ | ⟨h1, _⟩
  · have e : t = (at' l i).1 := by have := hi h1; omega
    rw [h3, mV_to h h1 h2 (fun x => by have := h.asc i x; omega), e, dl_self]
  · exact h1
theorem sm_more {l : List Pt} {t s : Int} {i : Nat} (hs : Sm l t i s) (h1 : i + 1 < l.length) (h2 : (at' l i).1 < t) (h3 : (at' l (i + 1)).1 < t) : s = mo l i ∧ Sm l t (i + 1) (s + ((at' l (i + 1)).1 - (at' l i).1) * (at' l i).2) := by
  rcases hs with ⟨_, _, h6⟩ | ⟨_, h5⟩
  · exact ⟨h6, .inl ⟨h1, by omega, by rw [h6]; rfl⟩⟩
  · have := h5 (by omega); omega
theorem sm_last {l : List Pt} (h : Map l) {t s : Int} {i : Nat} (hs : Sm l t i s) (h1 : i < l.length) (h2 : (at' l i).1 < t) (h3 : i + 1 < l.length → t ≤ (at' l (i + 1)).1) : s = mo l i ∧ Sm l t (i + 1) (s + (t - (at' l i).1) * (at' l i).2) := by
  rcases hs with ⟨_, _, h6⟩ | ⟨_, h5⟩
  · exact ⟨h6, .inr ⟨by rw [h6, mV_to h h1 (by omega) h3]; rfl, h3⟩⟩
  · have := h5 h1; omega
set_option maxRecDepth 100000 in
set_option maxHeartbeats 1000000 in
theorem rmoment_at (l : List Pt) (sv : Value) (t v : Int) (w : World) (HP : Hid (Pts w sv l)) (HM : Hid (Map l)) (h0 : 0 ≤ t) (h1 : t ≤ 8192) (H : Hid (mV l t = v)) :
    Calls Try.prog 37 #[sv, .int .i64 t] w fun e w' => e = .returned (.int .i64 v) ∧ Own w w' := by
  obtain ⟨A, cap, rfl, ha1, ha2, ha⟩ := HP.out.open
  obtain ⟨b, off, rfl, hcc⟩ := ha HM.out.n0
  unfold maxLen at ha2
  obtain ⟨n, hn⟩ : ∃ n, l.length = n := ⟨_, rfl⟩
  have hn1 : n ≤ 64 := by rw [← hn]; exact HM.out.n1
  have HN := Lib.hid hn
  rw [hn] at hcc ha1 ⊢
  have HC := Lib.hid hcc
  have HS0 := Lib.hid (sm_start HM.out h0)
  clear hn hcc ha HP
  go_enter Try.func37, Try.ntmps37
  go_wp2
  go_loopw [5, 6] (fun vn vi wr => ∃ k : Nat, ∃ s, vi = .int .i64 (k : Int) ∧ vn = .int .i64 s ∧ k ≤ n ∧ Own w wr ∧ Sm l t k s) (fun _ vi _ => n - (intOf vi).toNat)
  case atStart => exact ⟨0, 0, rfl, rfl, Nat.zero_le _, Own.refl w, HS0.out⟩
  case round =>
    obtain ⟨k, s, rfl, rfl, hk, g0, hs⟩ := hrel
    have HS := Lib.hid hs
    clear hs HS0
    by_cases hlt : k < n
    · have e0 := g0.cell (HC.out k hlt).1
      have e1 := g0.cell (HC.out k hlt).2
      have hkn : (k : Int) < n := by omega
      obtain ⟨⟨x, y⟩, hp⟩ : ∃ p, at' l k = p := ⟨_, rfl⟩
      have HXY := Lib.hid hp
      have hkl : k < l.length := by rw [HN.out]; exact hlt
      have ho := ok_at HM.out.ok hkl
      have hb := mo_bound HM.out k hkl
      rw [hp] at e0 e1 ho hb
      simp only at e0 e1 ho hb
      clear hp
      by_cases hxt : x < t
      · by_cases hk1 : k + 1 < n
        · have e2 := g0.cell (HC.out (k + 1) hk1).1
          obtain ⟨z, hz⟩ : ∃ z, (at' l (k + 1)).1 = z := ⟨_, rfl⟩
          have HZ := Lib.hid hz
          have ho2 := ok_at HM.out.ok (k := k + 1) (by rw [HN.out]; exact hk1)
          have ha := HM.out.asc k (by rw [HN.out]; exact hk1)
          rw [hz] at e2 ho2 ha
          rw [HXY.out] at ha
          simp only at ha
          clear hz
          have d1 : (k : Int) + 1 < n := by omega
          have d2 : (0 : Int) ≤ (k : Int) + 1 := by omega
          have d3 : ((k : Int) + 1).toNat = k + 1 := by omega
          have d4 : IntKind.i64.wrap ((k : Int) + 1) = (k : Int) + 1 := IntWalk.i64_in _ (by omega)
          by_cases hzt : z < t
          · obtain ⟨q1, q2⟩ := sm_more HS.out (by rw [HN.out]; exact hk1) (by rw [HXY.out]; exact hxt) (by rw [HZ.out]; exact hzt)
            rw [HXY.out, HZ.out] at q2
            simp only at q2
            have b1 := TemP.mul_bd (a := z - x) (b := y) (m := 4194304) (by omega) ho.2.1 ho.2.2
            have HQ := Lib.hid q2
            rw [← q1] at hb
            have i1 : IntKind.i64.wrap (z - x) = z - x := IntWalk.i64_in _ (by omega)
            have i2 : IntKind.i64.wrap ((z - x) * y) = (z - x) * y := IntWalk.i64_in _ (by omega)
            have i3 : IntKind.i64.wrap (s + (z - x) * y) = s + (z - x) * y := IntWalk.i64_in _ (by omega)
            clear b1 q1 q2 ho ho2 ha hb
            go_upto_region 8 with (fail)
            go_quiet (fail)
            go_wp2
            go_roundw
            case rel => exact ⟨k + 1, _, by go_num, rfl, hlt, g0.drewN _, HQ.out⟩
            case measure => simp [intOf]; omega
          · have hzt2 : decide (z < t) = false := decide_eq_false hzt
            obtain ⟨q1, q2⟩ := sm_last HM.out HS.out hkl (by rw [HXY.out]; exact hxt) (fun _ => by rw [HZ.out]; omega)
            rw [HXY.out] at q2
            simp only at q2
            have b1 := TemP.mul_bd (a := t - x) (b := y) (m := 4194304) (by omega) ho.2.1 ho.2.2
            have HQ := Lib.hid q2
            rw [← q1] at hb
            have i1 : IntKind.i64.wrap (t - x) = t - x := IntWalk.i64_in _ (by omega)
            have i2 : IntKind.i64.wrap ((t - x) * y) = (t - x) * y := IntWalk.i64_in _ (by omega)
            have i3 : IntKind.i64.wrap (s + (t - x) * y) = s + (t - x) * y := IntWalk.i64_in _ (by omega)
            clear b1 q1 q2 ho ho2 ha hb
            go_upto_region 8 with (fail)
            go_quiet (fail)
            go_wp2
            go_roundw
            case rel => exact ⟨k + 1, _, by go_num, rfl, hlt, g0.drewN _, HQ.out⟩
            case measure => simp [intOf]; omega
        · obtain ⟨q1, q2⟩ := sm_last HM.out HS.out hkl (by rw [HXY.out]; exact hxt) (fun h => by rw [HN.out] at h; exact absurd h hk1)
          rw [HXY.out] at q2
          simp only at q2
          have b1 := TemP.mul_bd (a := t - x) (b := y) (m := 4194304) (by omega) ho.2.1 ho.2.2
          have HQ := Lib.hid q2
          rw [← q1] at hb
          have d1 : ¬ (k : Int) + 1 < n := by omega
          have d4 : IntKind.i64.wrap ((k : Int) + 1) = (k : Int) + 1 := IntWalk.i64_in _ (by omega)
          have i1 : IntKind.i64.wrap (t - x) = t - x := IntWalk.i64_in _ (by omega)
          have i2 : IntKind.i64.wrap ((t - x) * y) = (t - x) * y := IntWalk.i64_in _ (by omega)
          have i3 : IntKind.i64.wrap (s + (t - x) * y) = s + (t - x) * y := IntWalk.i64_in _ (by omega)
          clear b1 q1 q2 ho hb
          go_upto_region 8 with (fail)
          go_quiet (fail)
          go_wp2
          go_roundw
          case rel => exact ⟨k + 1, _, by go_num, rfl, hlt, g0.drewN _, HQ.out⟩
          case measure => simp [intOf]; omega
      · have hv := sm_end HM.out HS.out (fun _ => by rw [HXY.out]; simp only; omega)
        rw [H.out] at hv
        subst hv
        have hxt2 : decide (x < t) = false := decide_eq_false hxt
        clear ho hb
        go_wp2
        go_ret
        exact ⟨rfl, g0⟩
    · obtain rfl : k = n := by omega
      have hv := sm_end HM.out HS.out (fun h => by rw [HN.out] at h; omega)
      rw [H.out] at hv
      subst hv
      go_wp2
      go_ret
      exact ⟨rfl, g0⟩
set_option maxRecDepth 100000 in
set_option maxHeartbeats 1000000 in
theorem rWhen_at (l : List Pt) (sv : Value) (t v f : Int) (w : World) (HP : Hid (Pts w sv l)) (H : Hid (whE l t = f ∧ whV l t = v)) :
    Calls Try.prog 28 #[sv, .int .i64 t] w fun e w' => e = .returned (.tuple #[.int .i64 v, .int .i64 f]) ∧ Own w w' := by
  obtain ⟨c, hc⟩ : ∃ c, chkE l = c := ⟨_, rfl⟩
  have HC := Lib.hid hc
  have g0 := Own.refl w
  by_cases h0 : c = 0
  · subst h0
    by_cases hin : 0 ≤ t ∧ t ≤ 8192
    · have e := wh_ok hc hin
      have HM := Lib.hid (chk_map.1 hc)
      obtain rfl : 0 = f := by rw [← H.out.1, e.1]
      have HV := Lib.hid (show mV l t = v by rw [← H.out.2, e.2])
      obtain ⟨h1, h2⟩ := hin
      have x1 : ¬ t < 0 := by omega
      have x2 : ¬ 8192 < t := by omega
      clear hc H e
      go_enter Try.func28, Try.ntmps28
      go_wp2_with (first
        | (go_at_call 27; refine (rcheck_at l _ 0 _ HP HC).mono ?_; rintro e w1 ⟨rfl, hg⟩; replace g0 : Own w w1 := g0.trans hg; clear hg)
        | (go_at_call 37; refine (rmoment_at l _ t v _ (Lib.hid (HP.out.own g0)) HM h1 h2 HV).mono ?_; rintro e w2 ⟨rfl, hg⟩; replace g0 : Own w w2 := g0.trans hg; clear hg))
      go_ret2
      exact ⟨rfl, g0⟩
    · have e := wh_no hc hin
      obtain rfl : 1 = f := by rw [← H.out.1, e.1]
      obtain rfl : 0 = v := by rw [← H.out.2, e.2]
      have hno : t < 0 ∨ ¬ t < 0 ∧ 8192 < t := by omega
      clear hc H e hin
      rcases hno with h | ⟨h, h1⟩
      all_goals
        go_enter Try.func28, Try.ntmps28
        go_wp2_with (go_at_call 27; refine (rcheck_at l _ 0 _ HP HC).mono ?_; rintro e w1 ⟨rfl, hg⟩; replace g0 : Own w w1 := g0.trans hg; clear hg)
        go_ret2
        exact ⟨rfl, g0⟩
  · have e := wh_bad t (show chkE l ≠ 0 by rw [hc]; exact h0)
    obtain rfl : c = f := by rw [← H.out.1, e.1, hc]
    obtain rfl : 0 = v := by rw [← H.out.2, e.2]
    have d0 : (c != 0) = true := bne_iff_ne.2 h0
    clear hc H e
    go_enter Try.func28, Try.ntmps28
    go_wp2_with (go_at_call 27; refine (rcheck_at l _ c _ HP HC).mono ?_; rintro e w1 ⟨rfl, hg⟩; replace g0 : Own w w1 := g0.trans hg)
    go_ret2
    exact ⟨rfl, g0⟩
end Go.Proofs.Ytlepcahangkmiaa.TemW
