/-
  Package match: the law MatchValids walked. Condition: none.
-/
import Derived.Test.YtdgahlojdllkbaaMatchT
namespace Go.Proofs.Ytdgahlojdllkbaa.MchW
open Go.ChangeShapes Go.WideShapes Go.ChangeAt Go.RowKit
open PairW CelW TabW MchP
/-- The first j elements may stand in a matching. -/
structure VK (l : List (List Bool)) (m : List Int) (j : Nat) : Prop where
  ok : ∀ (i : Nat) x, i < j → m[i]? = some x → x = -1 ∨ ∃ c : Nat, x = (c : Int) ∧ at2 l i c = true
  one : ∀ i k c : Nat, i < j → k < j → m[i]? = some (c : Int) → m[k]? = some (c : Int) → i = k
theorem vk_zero (l : List (List Bool)) (m : List Int) : VK l m 0 := ⟨fun _ _ h => absurd h (Nat.not_lt_zero _), fun _ _ _ h => absurd h (Nat.not_lt_zero _)⟩
theorem VK.none {l : List (List Bool)} {m : List Int} {j : Nat} (h : VK l m j) (hx : m[j]? = some (-1)) : VK l m (j + 1) := by
  have key : ∀ i c : Nat, i < j + 1 → m[i]? = some (c : Int) → i < j := fun i c hi hc => by
    by_cases e : i = j
    · rw [e, hx] at hc
      injection hc with hc
      omega
    · omega
  refine ⟨fun i x hi hc => ?_, fun i k c hi hk h1 h2 => h.one i k c (key i c hi h1) (key k c hk h2) h1 h2⟩
  by_cases e : i = j
  · rw [e, hx] at hc
    injection hc with hc
    exact .inl hc.symm
  · exact h.ok i x (by omega) hc
theorem VK.more {l : List (List Bool)} {m : List Int} {j c : Nat} (h : VK l m j) (hx : m[j]? = some (c : Int)) (hp : at2 l j c = true) (hno : ∀ i : Nat, i < j → m[i]? ≠ some (c : Int)) : VK l m (j + 1) := by
  refine ⟨fun i x hi hc => ?_, fun i k d hi hk h1 h2 => ?_⟩
  · by_cases e : i = j
    · rw [e, hx] at hc
      injection hc with hc
      exact .inr ⟨c, hc.symm, by rw [e]; exact hp⟩
    · exact h.ok i x (by omega) hc
  · by_cases e1 : i = j
    · by_cases e2 : k = j
      · rw [e1, e2]
      · rw [e1, hx] at h1
        injection h1 with h1
        rw [← h1] at h2
        exact absurd h2 (hno k (by omega))
    · by_cases e2 : k = j
      · rw [e2, hx] at h2
        injection h2 with h2
        rw [← h2] at h1
        exact absurd h1 (hno i (by omega))
      · exact h.one i k d (by omega) (by omega) h1 h2
theorem VK.fin {l : List (List Bool)} {m : List Int} (h : VK l m m.length) : IsP l m :=
  ⟨fun i x hx => h.ok i x (List.getElem?_eq_some_iff.1 hx).1 hx, fun i j c h1 h2 => h.one i j c (List.getElem?_eq_some_iff.1 h1).1 (List.getElem?_eq_some_iff.1 h2).1 h1 h2⟩
set_option maxRecDepth 100000 in
set_option maxHeartbeats 4000000 in
theorem lvalids_at (l : List (List Bool)) (m : List Int) (vl vm : Value) (w : World) (HT : Hid (Cels w vl (cellsB l))) (HM : Hid (Cel w vm (cellsI m))) :
    Calls Try.prog 6 #[vl, vm] w fun e w' => e = .returned (.bool true) ∧ Own w w' := by
  have HK := Lib.hid (show ∀ w, Calls Try.prog 15 #[] w fun e w' => e = .returned (.bool true) ∧ Own w w' from awake_at)
  obtain ⟨f, hf⟩ : ∃ f, chkE l = f := ⟨_, rfl⟩
  have HF := Lib.hid hf
  clear hf
  obtain ⟨Am, cm, rfl, t1, t2, hmo⟩ := cel_int HM.out
  obtain ⟨AL, capl, rfl, s1, s2, _⟩ := tb_open HT.out
  unfold maxLen at t2 s2
  obtain ⟨k, hk⟩ : ∃ k, m.length = k := ⟨_, rfl⟩
  obtain ⟨R, hR⟩ : ∃ R, l.length = R := ⟨_, rfl⟩
  rw [hk] at t1 HM hmo ⊢
  rw [hR] at s1 HT ⊢
  have HMO := Lib.hid hmo
  have HL := Lib.hid hk
  have HR := Lib.hid hR
  clear hk hR hmo
  have hcall := pcheck_at l (.slice AL R capl) f w HT HF
  have HFIN := Lib.hid (show ∀ (t : Bool) (w3 : World), Own w w3 → (t = true ↔ VOk l m) → Calls Try.prog 20 #[.slice AL R capl, .slice Am k cm] w3 fun e w' => e = .returned (.bool t) ∧ Own w3 w' from fun t w3 q h => pvalid_at l m _ _ t w3 (Lib.hid (HT.out.own q)) (Lib.hid (HM.out.own q)) (Lib.hid h))
  by_cases h0 : f = 0
  · subst h0
    by_cases hkR : k = R
    · subst hkR
      obtain ⟨b1, b2, b3⟩ := chk_ok HF.out
      obtain ⟨W, hW⟩ : ∃ W, wd l = W := ⟨_, rfl⟩
      rw [HR.out] at b1
      rw [hW] at b2
      have HS := Lib.hid b3
      have HW := Lib.hid hW
      clear b3 hW
      have HVZ := Lib.hid (vk_zero l m)
      go_enter Try.func6, Try.ntmps6
      go_wp2_with (go_at_call 13; refine hcall.mono ?_; rintro e w1 ⟨rfl, rfl⟩)
      go_loopw [5, 6, 7] (fun vo vi _ wr => ∃ (j : Nat) (t : Bool), vi = .int .i64 (j : Int) ∧ vo = .bool t ∧ j ≤ k ∧ Own w wr ∧ (t = true → VK l m j) ∧ (t = false → ¬ VOk l m)) (fun _ vi _ _ => k - (intOf vi).toNat)
      case atStart => exact ⟨0, true, rfl, rfl, Nat.zero_le _, Own.refl w, fun _ => HVZ.out, fun e => absurd e (by simp)⟩
      case round =>
        clear HVZ hcall
        obtain ⟨j, t, rfl, rfl, hj, q, ht1, ht2⟩ := hrel
        have HQ := Lib.hid q
        clear q
        cases t with
        | false =>
          have HNO := Lib.hid (ht2 rfl)
          clear ht1 ht2
          have hv := HFIN.out false wr HQ.out (iff_f HNO.out)
          go_wp2_with (first
            | (go_at_call 20; refine hv.mono ?_; rintro e w4 ⟨rfl, q4⟩; have HQ4 := Lib.hid q4; clear q4)
            | (go_at_call 15; with_reducible refine (HK.out _).mono ?_; rintro e w5 ⟨rfl, q5⟩; have HQ5 := Lib.hid q5; clear q5))
          go_ret
          exact ⟨rfl, (HQ.out.trans HQ4.out).trans HQ5.out⟩
        | true =>
          have HVK := Lib.hid (ht1 rfl)
          clear ht1 ht2
          by_cases hlt : j < k
          · have hjz : (j : Int) < k := by omega
            obtain ⟨gm, om, rfl, hm⟩ := HMO.out (by omega)
            obtain ⟨x, hx⟩ : ∃ x, m[j]? = some x := ⟨_, List.getElem?_eq_getElem (by rw [HL.out]; exact hlt)⟩
            have e0 := HQ.out.cell (hm j x hx)
            have HX := Lib.hid hx
            have HMC := Lib.hid hm
            clear hx hm
            by_cases hx1 : x = -1
            · subst hx1
              have HN := Lib.hid (HVK.out.none HX.out)
              go_wp2
              go_roundw
              case rel => exact ⟨j + 1, true, by go_num, rfl, hlt, HQ.out, fun _ => HN.out, fun e => absurd e (by simp)⟩
              case measure => simp [intOf]; omega
            · have d1 : (x == -1) = false := beq_eq_false_iff_ne.2 hx1
              obtain ⟨gl, ol, cpl, A2, cr, he, _, _, e1, h4, h5, hrow⟩ := tb_row HT.out HS.out HR.out HW.out hlt
              injection he with ea eb ec
              subst ea
              subst ec
              replace e1 := HQ.out.cell e1
              unfold maxLen at h5
              clear eb
              have HE0 := Lib.hid e0
              go_upto_region 6 with (fail)
              go_cut [5] (fun s wx => ∃ t, s = .bool t ∧ Own wr wx ∧ (t = true → ∃ c : Nat, x = (c : Int) ∧ at2 l j c = true) ∧ (t = false → ¬ VOk l m))
              case first =>
                by_cases hx0 : x < 0
                · have c1 : decide ((0 : Int) ≤ x) = false := decide_eq_false (by omega)
                  have HNV := Lib.hid (show ¬ VOk l m from fun h => by
                    rcases h.2.2.ok j x HX.out with e | ⟨c, e, _⟩ <;> omega)
                  go_quiet (fail)
                  go_wp2
                  go_meet
                  exact ⟨false, rfl, (Own.refl wr).drewN _, fun e => absurd e (by simp), fun _ => HNV.out⟩
                · obtain ⟨c, rfl⟩ : ∃ c : Nat, x = (c : Int) := ⟨x.toNat, by omega⟩
                  have c1 : decide ((0 : Int) ≤ (c : Int)) = true := decide_eq_true (by omega)
                  by_cases hcW : c < W
                  · have c2 : decide ((c : Int) < (W : Int)) = true := decide_eq_true (by omega)
                    have c3 : (c : Int) < W := by omega
                    have c4 : decide (c < W) = true := decide_eq_true hcW
                    obtain ⟨g2, og, rfl, e2⟩ := hrow c hcW
                    replace e2 := HQ.out.cell e2
                    cases hp : at2 l j c with
                    | false =>
                      rw [hp] at e2
                      have HNV := Lib.hid (show ¬ VOk l m from fun h => by
                        rcases h.2.2.ok j _ HX.out with e | ⟨d, e, hd⟩
                        · omega
                        · obtain rfl : c = d := by omega
                          rw [hp] at hd
                          cases hd)
                      clear hp hrow
                      go_quiet (fail)
                      go_wp2
                      go_meet
                      exact ⟨false, rfl, (Own.refl wr).drewN _, fun e => absurd e (by simp), fun _ => HNV.out⟩
                    | true =>
                      rw [hp] at e2
                      have HPP := Lib.hid hp
                      clear hp hrow
                      go_quiet (fail)
                      go_wp2
                      go_meet
                      exact ⟨true, rfl, (Own.refl wr).drewN _, fun _ => ⟨c, rfl, HPP.out⟩, fun e => absurd e (by simp)⟩
                  · have c2 : decide ((c : Int) < (W : Int)) = false := decide_eq_false (by omega)
                    have c4 : decide (c < W) = false := decide_eq_false hcW
                    have HNV := Lib.hid (show ¬ VOk l m from fun h => by
                      rcases h.2.2.ok j _ HX.out with e | ⟨d, e, hd⟩
                      · omega
                      · obtain rfl : c = d := by omega
                        have := at2_col HS.out hd
                        rw [HW.out] at this
                        omega)
                    clear hrow
                    go_quiet (fail)
                    go_wp2
                    go_meet
                    exact ⟨false, rfl, (Own.refl wr).drewN _, fun e => absurd e (by simp), fun _ => HNV.out⟩
              case rest =>
                obtain ⟨t, rfl, qx, ht1, ht2⟩ := hcut
                have HQX := Lib.hid (HQ.out.trans qx)
                have HT1 := Lib.hid ht1
                have HT2 := Lib.hid ht2
                clear qx ht1 ht2 e0 e1 hrow
                go_wp2
                go_loopw [5, 7] (fun vo vi wy => ∃ (i : Nat) (t : Bool), vi = .int .i64 (i : Int) ∧ vo = .bool t ∧ i ≤ j ∧ Own w wy ∧ (t = true → (∃ c : Nat, x = (c : Int) ∧ at2 l j c = true) ∧ ∀ i' : Nat, i' < i → m[i']? ≠ some x) ∧ (t = false → ¬ VOk l m)) (fun _ vi _ => j - (intOf vi).toNat)
                case atStart => exact ⟨0, t, rfl, rfl, Nat.zero_le _, HQX.out, fun e => ⟨HT1.out e, fun i' h => absurd h (Nat.not_lt_zero _)⟩, HT2.out⟩
                case round =>
                  clear HQX HT1 HT2
                  obtain ⟨i, t, rfl, rfl, hi, q, ht1, ht2⟩ := hrel
                  have HQY := Lib.hid q
                  have HT1 := Lib.hid ht1
                  have HT2 := Lib.hid ht2
                  clear q ht1 ht2
                  by_cases hij : i < j
                  · have hijz : (i : Int) < j := by omega
                    have hikz : (i : Int) < k := by omega
                    cases t with
                    | false =>
                      go_upto_region 10 with (fail)
                      go_quiet (fail)
                      go_wp2
                      go_roundw
                      case rel => exact ⟨i + 1, false, by go_num, rfl, hij, HQY.out.drewN _, fun e => absurd e (by simp), fun _ => HT2.out rfl⟩
                      case measure => simp [intOf]; omega
                    | true =>
                      obtain ⟨y, hy⟩ : ∃ y, m[i]? = some y := ⟨_, List.getElem?_eq_getElem (by rw [HL.out]; omega)⟩
                      have c0 := HQY.out.cell (HMC.out i y hy)
                      have c1 := HQY.out.cell (HMC.out j x HX.out)
                      have HY := Lib.hid hy
                      clear hy
                      by_cases exy : y = x
                      · subst exy
                        have d2 : (y != y) = false := by simp
                        have HNV := Lib.hid (show ¬ VOk l m from fun h => by
                          obtain ⟨⟨c, e, _⟩, _⟩ := HT1.out rfl
                          have h1 := HY.out
                          have h2 := HX.out
                          rw [e] at h1 h2
                          have := h.2.2.one i j c h1 h2
                          omega)
                        go_upto_region 10 with (fail)
                        go_quiet (fail)
                        go_wp2
                        go_roundw
                        case rel => exact ⟨i + 1, false, by go_num, rfl, hij, HQY.out.drewN _, fun e => absurd e (by simp), fun _ => HNV.out⟩
                        case measure => simp [intOf]; omega
                      · have d2 : (y != x) = true := bne_iff_ne.2 exy
                        go_upto_region 10 with (fail)
                        go_quiet (fail)
                        go_wp2
                        go_roundw
                        case rel => exact ⟨i + 1, true, by go_num, rfl, hij, HQY.out.drewN _, fun _ => ⟨(HT1.out rfl).1, fun i' hi' => by
                          by_cases e : i' = i
                          · rw [e, HY.out]
                            intro h
                            injection h with h
                            exact exy h
                          · exact (HT1.out rfl).2 i' (by omega)⟩, fun e => absurd e (by simp)⟩
                        case measure => simp [intOf]; omega
                  · obtain rfl : j = i := by omega
                    have HN := Lib.hid (show t = true → VK l m (j + 1) from fun e => by
                      obtain ⟨⟨c, e2, hp⟩, hno⟩ := HT1.out e
                      have h1 := HX.out
                      rw [e2] at h1 hno
                      exact HVK.out.more h1 hp hno)
                    go_wp2
                    go_roundw
                    case rel => exact ⟨j + 1, t, by go_num, rfl, hlt, HQY.out, HN.out, HT2.out⟩
                    case measure => simp [intOf]; omega
          · obtain rfl : k = j := by omega
            have HV := Lib.hid (iff_t (show VOk l m from ⟨HF.out, HL.out.trans HR.out.symm, (show VK l m m.length by rw [HL.out]; exact HVK.out).fin⟩))
            have hv := HFIN.out true wr HQ.out HV.out
            go_wp2_with (first
              | (go_at_call 20; refine hv.mono ?_; rintro e w4 ⟨rfl, q4⟩; have HQ4 := Lib.hid q4; clear q4)
              | (go_at_call 15; with_reducible refine (HK.out _).mono ?_; rintro e w5 ⟨rfl, q5⟩; have HQ5 := Lib.hid q5; clear q5))
            go_ret
            exact ⟨rfl, (HQ.out.trans HQ4.out).trans HQ5.out⟩
    · have d1 : ((k : Int) == (R : Int)) = false := beq_eq_false_iff_ne.2 (by omega)
      have HNO := Lib.hid (show ¬ VOk l m from fun h => hkR (by rw [← HL.out, ← HR.out]; exact h.2.1))
      have hv := HFIN.out false w (Own.refl w) (iff_f HNO.out)
      go_enter Try.func6, Try.ntmps6
      go_wp2_with (go_at_call 13; refine hcall.mono ?_; rintro e w1 ⟨rfl, rfl⟩)
      go_loopw [5, 6, 7] (fun vo vi _ wr => vo = .bool false ∧ vi = .int .i64 0 ∧ wr = w) (fun _ _ _ _ => 0)
      case atStart => exact ⟨rfl, rfl, rfl⟩
      case round =>
        obtain ⟨rfl, rfl, rfl⟩ := hrel
        go_wp2_with (first
          | (go_at_call 20; refine hv.mono ?_; rintro e w4 ⟨rfl, q4⟩; have HQ4 := Lib.hid q4; clear q4)
          | (go_at_call 15; with_reducible refine (HK.out _).mono ?_; rintro e w5 ⟨rfl, q5⟩; have HQ5 := Lib.hid q5; clear q5))
        go_ret
        exact ⟨rfl, HQ4.out.trans HQ5.out⟩
  · have d1 : (f == 0) = false := beq_eq_false_iff_ne.2 h0
    have HNO := Lib.hid (show ¬ VOk l m from fun h => h0 (by rw [← HF.out]; exact h.1))
    have hv := HFIN.out false w (Own.refl w) (iff_f HNO.out)
    go_enter Try.func6, Try.ntmps6
    go_wp2_with (go_at_call 13; refine hcall.mono ?_; rintro e w1 ⟨rfl, rfl⟩)
    go_loopw [5, 6, 7] (fun vo vi _ wr => vo = .bool false ∧ vi = .int .i64 0 ∧ wr = w) (fun _ _ _ _ => 0)
    case atStart => exact ⟨rfl, rfl, rfl⟩
    case round =>
      obtain ⟨rfl, rfl, rfl⟩ := hrel
      go_wp2_with (first
        | (go_at_call 20; refine hv.mono ?_; rintro e w4 ⟨rfl, q4⟩; have HQ4 := Lib.hid q4; clear q4)
        | (go_at_call 15; with_reducible refine (HK.out _).mono ?_; rintro e w5 ⟨rfl, q5⟩; have HQ5 := Lib.hid q5; clear q5))
      go_ret
      exact ⟨rfl, HQ4.out.trans HQ5.out⟩
end Go.Proofs.Ytdgahlojdllkbaa.MchW
