/-
  Walks of the library's heap over the program's waiting nodes: up, down. Condition: none.
-/
import Derived.Test.YtkdfmjhhdfiiiaaHeapA
namespace Go.Proofs.Ytkdfmjhhdfiiiaa.HepW
open Go.ChangeShapes Go.WideShapes Go.ChangeAt Go.RowKit
open PairW CelW HepP GraP GraW
abbrev hv (hb : Nat) : Value := .iface HT (.pointer (some ⟨hb, 0, none⟩))
set_option maxRecDepth 100000 in
set_option maxHeartbeats 2000000 in
theorem hup_at (base hb g n c j : Nat) (H : List Nat) (w : World) (HW : Hid (Wv w base hb (.slice (some ⟨g, 0, none⟩) n c) H)) (hl : H.length = n) (HU : Hid (Hup H n j)) (hj : j < n) (hn : n ≤ 1000) :
    Calls Try.prog 49 #[hv hb, .int .i64 (j : Int)] w fun e w' => e = .returned (.tuple #[]) ∧ ∃ H' : List Nat, H'.Perm H ∧ Hep H' n ∧ Wv w' base hb (.slice (some ⟨g, 0, none⟩) n c) H' ∧ Gr w w' g := by
  have n1 := fun w => nil_less ⟨hb, 0, none⟩ w
  have n2 := fun w => nil_swap ⟨hb, 0, none⟩ w
  go_enter Try.func49, Try.ntmps49
  go_wp2
  go_loopw [1, 4] (fun vj _ wr => ∃ (j : Nat) (H' : List Nat), vj = .int .i64 (j : Int) ∧ j < n ∧ H'.Perm H ∧ Hup H' n j ∧ Wv wr base hb (.slice (some ⟨g, 0, none⟩) n c) H' ∧ Gr w wr g) (fun vj _ _ => (intOf vj).toNat)
  case atStart => exact ⟨j, H, rfl, hj, List.Perm.refl _, HU.out, HW.out, Gr.refl w g⟩
  case round =>
    clear hj HU
    obtain ⟨j, H', rfl, hj, hp, hu, hw, q⟩ := hrel
    have hl' : H'.length = n := by rw [hp.length_eq, hl]
    have k0 := hw.cell.1
    have m1 := m_less hb (.slice (some ⟨g, 0, none⟩) n c) wr k0
    have m2 := fun q => m_swap hb (.slice (some ⟨g, 0, none⟩) n c) (wr.drewN q) k0
    have hr : Rw wr base g n c H' := by have := hw.rw; rw [hl'] at this; exact this
    have HR := Lib.hid hr
    have HWR := Lib.hid hw
    have HU := Lib.hid hu
    have HP := Lib.hid hp
    have HL := Lib.hid hl'
    clear hr hw hu hp hl'
    by_cases h0 : j = 0
    · subst h0
      have HE := Lib.hid (HU.out.stop (.inl rfl))
      go_wp2
      go_end0
      exact ⟨rfl, H', HP.out, HE.out, HWR.out, q⟩
    · have d1 : ((j : Int) - 1) / 2 = ((j - 1) / 2 : Nat) := by omega
      have d2 : ((j : Int) - 1).tdiv 2 = ((j - 1) / 2 : Nat) := by rw [Int.tdiv_eq_ediv_of_nonneg (by omega)]; omega
      obtain ⟨i, hi⟩ : ∃ i, (j - 1) / 2 = i := ⟨_, rfl⟩
      rw [hi] at d1 d2
      have hij : i < j := by omega
      have HI := Lib.hid hi
      have d3 : ((i : Int) == (j : Int)) = false := beq_eq_false_iff_ne.2 (by omega)
      clear hi
      cases ht : decide (hx H' j < hx H' i) with
      | false =>
        have HT := Lib.hid ht
        have HE := Lib.hid (HU.out.stop (.inr (by rw [HI.out]; have := of_decide_eq_false ht; omega)))
        clear ht
        go_wp2_with (go_at_call 91; with_reducible refine (hless_at base g n c j i H' false _ HR hj (by omega) HT).mono ?_; rintro e w1 ⟨rfl, q1, rfl⟩)
        go_end0
        exact ⟨rfl, H', HP.out, HE.out, HWR.out.drewN _, q.drewN _⟩
      | true =>
        have HT := Lib.hid ht
        have HE := Lib.hid (HU.out.step (by rw [HL.out]; exact Nat.le_refl _) (by omega) (by rw [HI.out]; exact of_decide_eq_true ht))
        clear ht
        go_wp2_with (first
          | (go_at_call 91; with_reducible refine (hless_at base g n c j i H' true _ HR hj (by omega) HT).mono ?_; rintro e w1 ⟨rfl, q1, rfl⟩)
          | (go_at_call 92; refine (hswap_at base g n c i j H' _ (Lib.hid (HR.out.drewN _)) (by omega) hj).mono ?_; rintro e w2 ⟨rfl, hr2, hg2⟩))
        go_roundw
        case rel =>
          rw [HI.out] at HE
          refine ⟨i, sw H' i j, rfl, by omega, (sw_perm (by rw [HL.out]; omega) (by rw [HL.out]; omega)).trans HP.out, HE.out, ?_, (q.drewN _).trans hg2⟩
          exact (HWR.out.drewN _).gr hg2 (by rw [sw_len, HL.out]; exact hr2)
        case measure => simp [intOf]; omega
set_option maxRecDepth 100000 in
set_option maxHeartbeats 8000000 in
theorem hdown_at (base hb g N c m : Nat) (H : List Nat) (w : World) (HW : Hid (Wv w base hb (.slice (some ⟨g, 0, none⟩) N c) H)) (hl : H.length = N) (HU : Hid (Hdn H m 0)) (hm : m ≤ N) (hn : N ≤ 1000) :
    Calls Try.prog 50 #[hv hb, .int .i64 0, .int .i64 (m : Int)] w fun e w' => ∃ t, e = .returned (.bool t) ∧ ∃ H' : List Nat, H'.Perm H ∧ Hep H' m ∧ (∀ k, m ≤ k → hx H' k = hx H k) ∧ Wv w' base hb (.slice (some ⟨g, 0, none⟩) N c) H' ∧ Gr w w' g := by
  have n1 := fun w => nil_less ⟨hb, 0, none⟩ w
  have n2 := fun w => nil_swap ⟨hb, 0, none⟩ w
  go_enter Try.func50, Try.ntmps50
  go_wp2
  go_loopw [7, 8, 9, 10] (fun vi _ _ _ wr => ∃ (i : Nat) (H' : List Nat), vi = .int .i64 (i : Int) ∧ i ≤ m ∧ H'.Perm H ∧ Hdn H' m i ∧ (∀ k, m ≤ k → hx H' k = hx H k) ∧ Wv wr base hb (.slice (some ⟨g, 0, none⟩) N c) H' ∧ Gr w wr g) (fun vi _ _ _ _ => m - (intOf vi).toNat)
  case atStart => exact ⟨0, H, rfl, Nat.zero_le _, List.Perm.refl _, HU.out, fun _ _ => rfl, HW.out, Gr.refl w g⟩
  case round =>
    clear HU
    obtain ⟨i, H', rfl, hi, hp, hd, hk, hw, q⟩ := hrel
    have hl' : H'.length = N := by rw [hp.length_eq, hl]
    have k0 := hw.cell.1
    have m1 := m_less hb (.slice (some ⟨g, 0, none⟩) N c) wr k0
    have m1d := fun q => m_less hb (.slice (some ⟨g, 0, none⟩) N c) (wr.drewN q) k0
    have m2 := fun q => m_swap hb (.slice (some ⟨g, 0, none⟩) N c) (wr.drewN q) k0
    have m2d := fun p q => m_swap hb (.slice (some ⟨g, 0, none⟩) N c) ((wr.drewN p).drewN q) k0
    have hr : Rw wr base g N c H' := by have := hw.rw; rw [hl'] at this; exact this
    have HR := Lib.hid hr
    have HWR := Lib.hid hw
    have HD := Lib.hid hd
    have HP := Lib.hid hp
    have HL := Lib.hid hl'
    have HK := Lib.hid hk
    clear hr hw hd hp hl' hk
    by_cases h0 : m ≤ 2 * i + 1
    · have HE := Lib.hid (HD.out.stop (fun c c1 c2 c3 => by omega))
      have d0 : (m : Int) ≤ 2 * (i : Int) + 1 := by omega
      go_wp2
      go_ret
      exact ⟨_, rfl, H', HP.out, HE.out, HK.out, HWR.out, q⟩
    · have d0 : ¬ (m : Int) ≤ 2 * (i : Int) + 1 := by omega
      obtain ⟨j1, hj1⟩ : ∃ j1, 2 * i + 1 = j1 := ⟨_, rfl⟩
      have e1 : 2 * (i : Int) + 1 = (j1 : Int) := by omega
      obtain ⟨j2, hj2⟩ : ∃ j2, 2 * i + 2 = j2 := ⟨_, rfl⟩
      have e2 : (j1 : Int) + 1 = (j2 : Int) := by omega
      rw [e1] at d0
      by_cases h1 : j2 < m
      · have d1 : (j2 : Int) < (m : Int) := by omega
        cases hb2 : decide (hx H' j2 < hx H' j1) with
        | true =>
          have HB := Lib.hid hb2
          have HMIN := Lib.hid (show ∀ c, 0 < c → c < m → (c - 1) / 2 = i → hx H' j2 ≤ hx H' c from fun c c1 c2 c3 => by
            have := of_decide_eq_true hb2
            rcases (show c = j1 ∨ c = j2 by omega) with e | e <;> rw [e] <;> omega)
          clear hb2
          cases ht : decide (hx H' j2 < hx H' i) with
          | false =>
            have HT := Lib.hid ht
            have HE := Lib.hid (HD.out.stop (fun c c1 c2 c3 => Nat.le_trans (by have := of_decide_eq_false ht; omega) (HMIN.out c c1 c2 c3)))
            clear ht
            go_wp2_with (first
              | (go_at_call 91; with_reducible refine (hless_at base g N c j2 j1 H' true _ HR (by omega) (by omega) HB).mono ?_; rintro e w1 ⟨rfl, q0, rfl⟩)
              | (go_at_call 91; with_reducible refine (hless_at base g N c j2 i H' false _ (Lib.hid (HR.out.drewN _)) (by omega) (by omega) HT).mono ?_; rintro e w1 ⟨rfl, q1, rfl⟩))
            all_goals
              go_ret
              exact ⟨_, rfl, H', HP.out, HE.out, HK.out, HWR.out.drewN _, q.drewN _⟩
          | true =>
            have HT := Lib.hid ht
            have HE := Lib.hid (HD.out.step (j := j2) (by rw [HL.out]; exact hm) (by omega) (by omega) (by omega) HMIN.out (of_decide_eq_true ht))
            have HKE := Lib.hid (fun k (hk : m ≤ k) => show hx (sw H' i j2) k = hx H k by rw [sw_hx (by rw [HL.out]; omega) (by rw [HL.out]; omega), if_neg (by omega), if_neg (by omega)]; exact HK.out k hk)
            clear ht
            go_wp2_with (first
              | (go_at_call 91; with_reducible refine (hless_at base g N c j2 j1 H' true _ HR (by omega) (by omega) HB).mono ?_; rintro e w1 ⟨rfl, q0, rfl⟩)
              | (go_at_call 91; with_reducible refine (hless_at base g N c j2 i H' true _ (Lib.hid (HR.out.drewN _)) (by omega) (by omega) HT).mono ?_; rintro e w1 ⟨rfl, q1, rfl⟩)
              | (go_at_call 92; refine (hswap_at base g N c i j2 H' _ (Lib.hid (HR.out.drewN _)) (by omega) (by omega)).mono ?_; rintro e w2 ⟨rfl, hr2, hg2⟩))
            go_roundw
            case rel =>
              refine ⟨j2, sw H' i j2, rfl, by omega, (sw_perm (by rw [HL.out]; omega) (by rw [HL.out]; omega)).trans HP.out, HE.out, HKE.out, ?_, (q.drewN _).trans hg2⟩
              exact (HWR.out.drewN _).gr hg2 (by rw [sw_len, HL.out]; exact hr2)
            case measure => simp [intOf]; omega
        | false =>
          have HB := Lib.hid hb2
          have HMIN := Lib.hid (show ∀ c, 0 < c → c < m → (c - 1) / 2 = i → hx H' j1 ≤ hx H' c from fun c c1 c2 c3 => by
            have := of_decide_eq_false hb2
            rcases (show c = j1 ∨ c = j2 by omega) with e | e <;> rw [e] <;> omega)
          clear hb2
          cases ht : decide (hx H' j1 < hx H' i) with
          | false =>
            have HT := Lib.hid ht
            have HE := Lib.hid (HD.out.stop (fun c c1 c2 c3 => Nat.le_trans (by have := of_decide_eq_false ht; omega) (HMIN.out c c1 c2 c3)))
            clear ht
            go_wp2_with (first
              | (go_at_call 91; with_reducible refine (hless_at base g N c j2 j1 H' false _ HR (by omega) (by omega) HB).mono ?_; rintro e w1 ⟨rfl, q0, rfl⟩)
              | (go_at_call 91; with_reducible refine (hless_at base g N c j1 i H' false _ (Lib.hid (HR.out.drewN _)) (by omega) (by omega) HT).mono ?_; rintro e w1 ⟨rfl, q1, rfl⟩))
            all_goals
              go_ret
              exact ⟨_, rfl, H', HP.out, HE.out, HK.out, HWR.out.drewN _, q.drewN _⟩
          | true =>
            have HT := Lib.hid ht
            have HE := Lib.hid (HD.out.step (j := j1) (by rw [HL.out]; exact hm) (by omega) (by omega) (by omega) HMIN.out (of_decide_eq_true ht))
            have HKE := Lib.hid (fun k (hk : m ≤ k) => show hx (sw H' i j1) k = hx H k by rw [sw_hx (by rw [HL.out]; omega) (by rw [HL.out]; omega), if_neg (by omega), if_neg (by omega)]; exact HK.out k hk)
            clear ht
            go_wp2_with (first
              | (go_at_call 91; with_reducible refine (hless_at base g N c j2 j1 H' false _ HR (by omega) (by omega) HB).mono ?_; rintro e w1 ⟨rfl, q0, rfl⟩)
              | (go_at_call 91; with_reducible refine (hless_at base g N c j1 i H' true _ (Lib.hid (HR.out.drewN _)) (by omega) (by omega) HT).mono ?_; rintro e w1 ⟨rfl, q1, rfl⟩)
              | (go_at_call 92; refine (hswap_at base g N c i j1 H' _ (Lib.hid (HR.out.drewN _)) (by omega) (by omega)).mono ?_; rintro e w2 ⟨rfl, hr2, hg2⟩))
            go_roundw
            case rel =>
              refine ⟨j1, sw H' i j1, rfl, by omega, (sw_perm (by rw [HL.out]; omega) (by rw [HL.out]; omega)).trans HP.out, HE.out, HKE.out, ?_, (q.drewN _).trans hg2⟩
              exact (HWR.out.drewN _).gr hg2 (by rw [sw_len, HL.out]; exact hr2)
            case measure => simp [intOf]; omega
      · have d1 : ¬ (j2 : Int) < (m : Int) := by omega
        have HMIN := Lib.hid (show ∀ c, 0 < c → c < m → (c - 1) / 2 = i → hx H' j1 ≤ hx H' c from fun c c1 c2 c3 => by
          rw [show c = j1 by omega]
          exact Nat.le_refl _)
        cases ht : decide (hx H' j1 < hx H' i) with
        | false =>
          have HT := Lib.hid ht
          have HE := Lib.hid (HD.out.stop (fun c c1 c2 c3 => Nat.le_trans (by have := of_decide_eq_false ht; omega) (HMIN.out c c1 c2 c3)))
          clear ht
          go_wp2_with (first
            | (go_at_call 91; with_reducible refine (hless_at base g N c j1 i H' false _ HR (by omega) (by omega) HT).mono ?_; rintro e w1 ⟨rfl, q1, rfl⟩))
          all_goals
            go_ret
            exact ⟨_, rfl, H', HP.out, HE.out, HK.out, HWR.out.drewN _, q.drewN _⟩
        | true =>
          have HT := Lib.hid ht
          have HE := Lib.hid (HD.out.step (j := j1) (by rw [HL.out]; exact hm) (by omega) (by omega) (by omega) HMIN.out (of_decide_eq_true ht))
          have HKE := Lib.hid (fun k (hk : m ≤ k) => show hx (sw H' i j1) k = hx H k by rw [sw_hx (by rw [HL.out]; omega) (by rw [HL.out]; omega), if_neg (by omega), if_neg (by omega)]; exact HK.out k hk)
          clear ht
          go_wp2_with (first
            | (go_at_call 91; with_reducible refine (hless_at base g N c j1 i H' true _ HR (by omega) (by omega) HT).mono ?_; rintro e w1 ⟨rfl, q1, rfl⟩)
            | (go_at_call 92; refine (hswap_at base g N c i j1 H' _ (Lib.hid (HR.out.drewN _)) (by omega) (by omega)).mono ?_; rintro e w2 ⟨rfl, hr2, hg2⟩))
          go_roundw
          case rel =>
            refine ⟨j1, sw H' i j1, rfl, by omega, (sw_perm (by rw [HL.out]; omega) (by rw [HL.out]; omega)).trans HP.out, HE.out, HKE.out, ?_, (q.drewN _).trans hg2⟩
            exact (HWR.out.drewN _).gr hg2 (by rw [sw_len, HL.out]; exact hr2)
          case measure => simp [intOf]; omega
end Go.Proofs.Ytkdfmjhhdfiiiaa.HepW
