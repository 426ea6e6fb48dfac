/-
  Walk of Where of the program of package meter. Condition: none.
-/
import Derived.Test.YtmmgidchgoligaaMeterPA
namespace Go.Proofs.Ytmmgidchgoligaa.MetW
open Go.ChangeShapes Go.WideShapes Go.ChangeAt Go.RowKit
open PairW MetP
set_option maxRecDepth 100000 in
set_option maxHeartbeats 1000000 in
theorem pwhere_at (l : List Pt) (sv : Value) (t a b r : Int) (f : Int) (w : World) (HP : Hid (Pts w sv l)) (H : Hid (wE l t = f ∧ wV l t = (a, b, r))) :
    Calls Try.prog 17 #[sv, .int .i64 t] w fun e w' => e = .returned (.tuple #[.int .i64 a, .int .i64 b, .int .i64 r, .int .i64 f]) ∧ Own w w' := by
  obtain ⟨c, hc⟩ : ∃ c, chkE l = c := ⟨_, rfl⟩
  obtain ⟨v, hv⟩ : ∃ v, lenV l = v := ⟨_, rfl⟩
  have HC := Lib.hid (And.intro hc hv)
  by_cases h0 : c = 0
  · subst h0
    rw [lenV_ok hc] at hv
    by_cases h1 : 0 ≤ t ∧ t < v
    · obtain ⟨_, hl, ho, h4⟩ := chk_zero.1 hc
      obtain ⟨k1, b1, r1, hw, his⟩ := wV_is (wE_ok hc (by rw [hv]; exact h1))
      obtain rfl : 0 = f := by rw [← H.out.1, wE_ok hc (by rw [hv]; exact h1)]
      obtain ⟨rfl, rfl, rfl⟩ : (k1 : Int) = a ∧ b1 = b ∧ r1 = r := by
        have := hw.symm.trans H.out.2
        injection this with e1 e2
        injection e2 with e2 e3
        exact ⟨e1, e2, e3⟩
      have HIS := Lib.hid his
      have HU := Lib.hid (fun k b r (w : IsW l t k b r) => isW_uniq ho his w)
      have HO := Lib.hid ho
      have HTT := Lib.hid (fun k (hk : k < l.length) => tot_take hk)
      have HAT := Lib.hid (fun k (hk : k < l.length) => ok_at ho hk)
      have HLE := Lib.hid (fun k => tot_le ho k)
      obtain ⟨A, cap, rfl, ha1, ha2, ha⟩ := HP.out.open
      unfold maxLen at ha2
      have HA := Lib.hid ha
      obtain ⟨n, hn⟩ : ∃ n, l.length = n := ⟨_, rfl⟩
      rw [hn] at HA ha1 HP hl HTT HAT ⊢
      have HN := Lib.hid hn
      have HV := Lib.hid hv
      have d1 : ¬ t < 0 := by omega
      have d2 : decide (v ≤ t) = false := decide_eq_false (by omega)
      have hv2 : v ≤ 8192 := by omega
      clear hc hv hw his ho ha hn h4 H
      go_enter Try.func17, Try.ntmps17
      go_upto_region 1 with (fail)
      refine wp_scope_straight ?_
      go_upto_region 6 with (go_at_call 10; refine (plength_at l _ v 0 _ HP HC).mono ?_; rintro e w1 ⟨rfl, g0⟩)
      go_wp2
      try go_step3
      try go_wp2
      go_loopw [12, 34] (fun v12 v34 wr => ∃ k : Nat, v34 = .int .i64 (k : Int) ∧ v12 = .int .i64 (t - tot (l.take k)) ∧ k ≤ k1 ∧ Own w1 wr) (fun _ v34 _ => n - (intOf v34).toNat)
      case atStart => exact ⟨0, rfl, by rw [show tot (l.take 0) = 0 from rfl, Int.sub_zero], Nat.zero_le _, Own.refl w1⟩
      case round =>
        obtain ⟨k, rfl, rfl, hk, q0⟩ := hrel
        have hk1 : k1 < n := by have := HIS.out.hk; rw [HN.out] at this; exact this
        have hlt : k < n := by omega
        obtain ⟨bb, off, rfl, hcl⟩ := HA.out (by omega)
        have e0 := (g0.trans q0).cell (hcl k hlt).1
        have e1 := (g0.trans q0).cell (hcl k hlt).2
        have ht := HTT.out k hlt
        have hat := HAT.out k hlt
        have hle := HLE.out k
        have hin := isW_in HO.out HIS.out
        have hmon := tot_mono HO.out hk
        rw [HV.out] at hle
        clear hcl
        obtain ⟨⟨x, y⟩, hp⟩ : ∃ p, at' l k = p := ⟨_, rfl⟩
        have HPP := Lib.hid hp
        rw [hp] at e0 e1 ht hat
        simp only at e0 e1 ht hat
        have HT1 := Lib.hid ht
        obtain ⟨s, hs⟩ : ∃ s, tot (l.take k) = s := ⟨_, rfl⟩
        have HSS := Lib.hid hs
        rw [hs] at hle hmon ⊢
        have hst : s ≤ t := by omega
        clear hp ht hs hin hmon
        have hkn : (k : Int) < n := by omega
        obtain ⟨k0, k2, _, _⟩ := pt_new wr x y 45
        have g1 : Own wr (wr.alloc (.cells #[.int .i64 x, .int .i64 y] 45)) := (Own.refl wr).alloc _
        go_upto_region 10 with (fail)
        generalize wr.heap.size = B at *
        generalize wr.alloc (.cells #[.int .i64 x, .int .i64 y] 45) = W0 at *
        go_wp2
        obtain ⟨ρ0, hρ⟩ : ∃ r, t - s = r := ⟨_, rfl⟩
        have HR0 := Lib.hid hρ
        rw [hρ]
        have hρ0 : 0 ≤ ρ0 := by omega
        have hρ1 : ρ0 ≤ v := by omega
        have HQ := Lib.hid ((g0.trans q0).trans g1)
        have HQ1 := Lib.hid (q0.trans g1)
        clear hρ hst hle g1 e0 e1 q0
        go_loopw [12, 41] (fun v12 v41 wx => ∃ (j : Nat) (ρ : Int), v41 = .int .i64 (j : Int) ∧ v12 = .int .i64 ρ ∧ (j : Int) ≤ x ∧ 0 ≤ ρ ∧ ρ ≤ v ∧ ρ = ρ0 - (j : Int) * y ∧ wx = W0) (fun _ v41 _ => x.toNat - (intOf v41).toNat)
        case atStart => exact ⟨0, ρ0, rfl, rfl, by show (0 : Int) ≤ x; omega, hρ0, hρ1, by simp, rfl⟩
        case round =>
          obtain ⟨j, ρ, rfl, rfl, hj, hr0, hr1, hr, rfl⟩ := hrel
          have HR := Lib.hid hr
          clear hr
          by_cases hlt2 : (j : Int) < x
          · by_cases hry : ρ < y
            · obtain ⟨rfl, rfl, rfl⟩ := HU.out k (j : Int) ρ ⟨by rw [HN.out]; exact hlt, by omega, by rw [HPP.out]; exact hlt2, hr0, by rw [HPP.out]; exact hry, by have h1 := HR.out; have h2 := HR0.out; have h3 := HSS.out; rw [HPP.out]; simp only; omega⟩
              go_wp2
              rw [Exit.noGoto_ret]
              exact bodyPost_ret (v := .tuple #[.int .i64 (k1 : Int), .int .i64 (j : Int), .int .i64 r1, .int .i64 0]) (by simp [results, Try.results17, go_sem]) rfl ⟨rfl, HQ.out⟩
            · have i1 : IntKind.i64.wrap (ρ - y) = ρ - y := IntWalk.i64_in _ (by omega)
              go_wp2
              go_roundw
              case rel => exact ⟨j + 1, ρ - y, by go_num, rfl, by omega, by omega, by omega, by have h1 := HR.out; rw [Int.natCast_add, Int.add_mul]; simp only [Int.one_mul, Int.cast_ofNat_Int]; omega, trivial⟩
              case measure => simp [intOf]; omega
          · have hjx : (j : Int) = x := by omega
            have hkk : k < k1 := by
              rcases Nat.lt_or_eq_of_le hk with e | e
              · exact e
              · subst e
                have w1 := HIS.out.hb
                have w2 := HIS.out.hr
                have w3 := HIS.out.ht
                have h1 := HR.out
                have h2 := HR0.out
                have h3 := HSS.out
                rw [HPP.out] at w1 w2 w3
                have := beat_in w1 w2 (by simp only; omega)
                rw [hjx] at h1
                simp only at this w3
                omega
            go_wp2
            go_roundw
            case rel => exact ⟨k + 1, by go_num, by have h1 := HR.out; have h2 := HR0.out; have h3 := HSS.out; have h4 := HT1.out; rw [h4, h3]; rw [hjx] at h1; congr 1; omega, by omega, HQ1.out⟩
            case measure => simp [intOf]; omega
    · obtain rfl : 1 = f := by rw [← H.out.1, wE_no hc (by rw [hv]; exact h1)]
      obtain ⟨rfl, rfl, rfl⟩ : 0 = a ∧ 0 = b ∧ 0 = r := by
        have := (wV_none (l := l) (i := t) (by rw [H.out.1]; decide)).symm.trans H.out.2
        injection this with e1 e2
        injection e2 with e2 e3
        exact ⟨e1, e2, e3⟩
      have hno : t < 0 ∨ ¬ t < 0 ∧ v ≤ t := by omega
      clear hc hv h1 H
      go_enter Try.func17, Try.ntmps17
      go_upto_region 1 with (fail)
      refine wp_scope_straight ?_
      go_upto_region 4 with (go_at_call 10; refine (plength_at l _ v 0 _ HP HC).mono ?_; rintro e w1 ⟨rfl, g0⟩)
      rcases hno with h | ⟨h, h1⟩
      all_goals
        go_wp2
        rw [Exit.noGoto_ret]
        exact bodyPost_ret (v := .tuple #[.int .i64 0, .int .i64 0, .int .i64 0, .int .i64 1]) (by simp [results, Try.results17, go_sem]) rfl ⟨rfl, g0⟩
  · obtain rfl : c = f := by rw [← H.out.1, wE_bad t (by rw [hc]; exact h0), hc]
    obtain ⟨rfl, rfl, rfl⟩ : 0 = a ∧ 0 = b ∧ 0 = r := by
      have := (wV_none (l := l) (i := t) (by rw [H.out.1]; exact h0)).symm.trans H.out.2
      injection this with e1 e2
      injection e2 with e2 e3
      exact ⟨e1, e2, e3⟩
    have d0 : (c != 0) = true := bne_iff_ne.2 h0
    clear hc hv H
    go_enter Try.func17, Try.ntmps17
    go_upto_region 1 with (fail)
    refine wp_scope_straight ?_
    go_wp2_with (go_at_call 10; refine (plength_at l _ v c _ HP HC).mono ?_; rintro e w1 ⟨rfl, g0⟩)
    rw [Exit.noGoto_ret]
    exact bodyPost_ret (v := .tuple #[.int .i64 0, .int .i64 0, .int .i64 0, .int .i64 c]) (by simp [results, Try.results17, go_sem]) rfl ⟨rfl, g0⟩
end Go.Proofs.Ytmmgidchgoligaa.MetW
