/-
  Walks of the program's isLetter, isDigit and Valid: what a call returns for every input. Condition: none.
-/
import Derived.Test.YtifiljmiehddfaaDoorIdentA
import Derived.Test.YtifiljmiehddfaaDoorNamePlainP
namespace Go.Proofs.YtifiljmiehddfaaDoor.NamW
open Go.ChangeShapes Go.WideShapes Go.ChangeAt Go.RowKit
open PairW NamP
theorem pletter_at (c : UInt8) (t : Bool) (w : World) (H : Hid (letB c = t)) : Calls Tryd.prog 28 #[.int .u8 c.toNat] w fun e w' => e = .returned (.bool t) ∧ w = w' := by
  obtain rfl := H.out
  clear H
  unfold letB
  by_cases h1 : 97 ≤ c.toNat
  · have d1 : decide ((97 : Int) ≤ (c.toNat : Int)) = true := decide_eq_true (by omega)
    rw [decide_eq_true h1, Bool.true_and]
    by_cases h2 : c.toNat ≤ 122
    · have d2 : decide ((c.toNat : Int) ≤ 122) = true := decide_eq_true (by omega)
      rw [decide_eq_true h2]
      go_enter Tryd.func28, Tryd.ntmps28
      go_wp2
      go_ret
      exact ⟨rfl, rfl⟩
    · have d2 : decide ((c.toNat : Int) ≤ 122) = false := decide_eq_false (by omega)
      rw [decide_eq_false h2]
      go_enter Tryd.func28, Tryd.ntmps28
      go_wp2
      go_ret
      exact ⟨rfl, rfl⟩
  · have d1 : decide ((97 : Int) ≤ (c.toNat : Int)) = false := decide_eq_false (by omega)
    rw [decide_eq_false h1, Bool.false_and]
    go_enter Tryd.func28, Tryd.ntmps28
    go_wp2
    go_ret
    exact ⟨rfl, rfl⟩
theorem pdigit_at (c : UInt8) (t : Bool) (w : World) (H : Hid (digB c = t)) : Calls Tryd.prog 29 #[.int .u8 c.toNat] w fun e w' => e = .returned (.bool t) ∧ w = w' := by
  obtain rfl := H.out
  clear H
  unfold digB
  by_cases h1 : 48 ≤ c.toNat
  · have d1 : decide ((48 : Int) ≤ (c.toNat : Int)) = true := decide_eq_true (by omega)
    rw [decide_eq_true h1, Bool.true_and]
    by_cases h2 : c.toNat ≤ 57
    · have d2 : decide ((c.toNat : Int) ≤ 57) = true := decide_eq_true (by omega)
      rw [decide_eq_true h2]
      go_enter Tryd.func29, Tryd.ntmps29
      go_wp2
      go_ret
      exact ⟨rfl, rfl⟩
    · have d2 : decide ((c.toNat : Int) ≤ 57) = false := decide_eq_false (by omega)
      rw [decide_eq_false h2]
      go_enter Tryd.func29, Tryd.ntmps29
      go_wp2
      go_ret
      exact ⟨rfl, rfl⟩
  · have d1 : decide ((48 : Int) ≤ (c.toNat : Int)) = false := decide_eq_false (by omega)
    rw [decide_eq_false h1, Bool.false_and]
    go_enter Tryd.func29, Tryd.ntmps29
    go_wp2
    go_ret
    exact ⟨rfl, rfl⟩
/-- What the program asks of a byte behind the first one. -/
def ok2 (l : Bs) (i : Nat) : Bool := letB (atB l i) || digB (atB l i) || (decide ((atB l i).toNat = 45) && !decide ((atB l (i - 1)).toNat = 45))
theorem let_not {c : UInt8} (h : letB c = true) : c.toNat ≠ 45 := by rw [letB_iff] at h; omega
theorem dig_not {c : UInt8} (h : digB c = true) : c.toNat ≠ 45 := by rw [digB_iff] at h; omega
theorem ok2_iff (l : Bs) (i : Nat) : ok2 l i = true ↔ letB (atB l i) = true ∨ digB (atB l i) = true ∨ ((atB l i).toNat = 45 ∧ (atB l (i - 1)).toNat ≠ 45) := by
  unfold ok2
  rw [Bool.or_eq_true, Bool.or_eq_true, Bool.and_eq_true, decide_eq_true_eq, Bool.not_eq_true', decide_eq_false_iff_not, or_assoc]
theorem okAt_iff (l : Bs) (i : Nat) : okAt l i = true ↔ (letB (atB l i) = true ∨ digB (atB l i) = true ∨ (atB l i).toNat = 45) ∧ ((atB l i).toNat = 45 → i + 1 ≠ l.length ∧ (atB l (i + 1)).toNat ≠ 45) := by
  unfold okAt
  rw [Bool.and_eq_true, Bool.or_eq_true, Bool.or_eq_true, decide_eq_true_eq, Bool.not_eq_true', Bool.and_eq_false_iff, Bool.or_eq_false_iff, decide_eq_false_iff_not, decide_eq_false_iff_not, decide_eq_false_iff_not, or_assoc]
  constructor
  · rintro ⟨h1, h2⟩
    exact ⟨h1, fun e => h2.resolve_left (fun k => k e)⟩
  · rintro ⟨h1, h2⟩
    refine ⟨h1, ?_⟩
    by_cases e : (atB l i).toNat = 45
    · exact .inr (h2 e)
    · exact .inl e
theorem vld2_iff (l : Bs) : vldB l = true ↔ 1 ≤ l.length ∧ l.length ≤ 24 ∧ letB (atB l 0) = true ∧ (atB l (l.length - 1)).toNat ≠ 45 ∧ ∀ i, 1 ≤ i → i < l.length → ok2 l i = true := by
  rw [vldB_iff]
  constructor
  · rintro ⟨h1, h2, h3, h4⟩
    have hp : ∀ i, i < l.length → (atB l i).toNat = 45 → i + 1 ≠ l.length ∧ (atB l (i + 1)).toNat ≠ 45 := fun i hi e => by
      by_cases k : i = 0
      · rw [k] at e
        exact absurd e (let_not h3)
      · exact ((okAt_iff l i).1 (h4 i (by omega) hi)).2 e
    refine ⟨h1, h2, h3, fun e => (hp _ (by omega) e).1 (by omega), fun i hi hl => (ok2_iff l i).2 ?_⟩
    rcases ((okAt_iff l i).1 (h4 i hi hl)).1 with k | k | k
    · exact .inl k
    · exact .inr (.inl k)
    · refine .inr (.inr ⟨k, fun e => ?_⟩)
      have := (hp (i - 1) (by omega) e).2
      rw [show i - 1 + 1 = i by omega] at this
      exact this k
  · rintro ⟨h1, h2, h3, h5, h4⟩
    refine ⟨h1, h2, h3, fun i hi hl => (okAt_iff l i).2 ⟨?_, fun e => ⟨fun k => h5 (by rw [← k]; exact e), fun k => ?_⟩⟩⟩
    · rcases (ok2_iff l i).1 (h4 i hi hl) with k | k | k
      · exact .inl k
      · exact .inr (.inl k)
      · exact .inr (.inr k.1)
    · by_cases c : i + 1 < l.length
      · rcases (ok2_iff l (i + 1)).1 (h4 (i + 1) (by omega) c) with q | q | q
        · exact let_not q k
        · exact dig_not q k
        · exact q.2 (by rw [show i + 1 - 1 = i by omega]; exact e)
      · have : i = l.length - 1 := by omega
        exact h5 (by rw [← this]; exact e)
theorem vld2_no {s : ByteArray} {k : Nat} (h1 : 1 ≤ k) (h2 : k < s.size) (h : ok2 (bs s) k = false) : vldB (bs s) = false := Bool.of_not_eq_true fun e => by
  have := ((vld2_iff _).1 e).2.2.2.2 k h1 (by rw [bs_len]; exact h2)
  rw [h] at this
  cases this
theorem ok2_s (s : ByteArray) (m : Nat) (h : m + 1 < s.size) : ok2 (bs s) (m + 1) = (letB s[m + 1] || digB s[m + 1] || (decide (s[m + 1].toNat = 45) && !decide (s[m].toNat = 45))) := by
  unfold ok2
  rw [bs_at s (m + 1) h, show m + 1 - 1 = m by omega, bs_at s m (by omega)]
set_option maxRecDepth 100000 in
set_option maxHeartbeats 4000000 in
theorem pvalid_at (s : ByteArray) (t : Bool) (w : World) (hs : s.size ≤ maxLen) (H : Hid (vldB (bs s) = t)) : Calls Tryd.prog 11 #[.string s] w fun e w' => e = .returned (.bool t) ∧ w = w' := by
  unfold maxLen at hs
  by_cases h1 : 1 ≤ s.size
  · by_cases h2 : s.size ≤ 24
    · have HL := Lib.hid (show letB s[0] = letB (atB (bs s) 0) by rw [bs_at s 0 (by omega)])
      obtain ⟨t0, ht0⟩ : ∃ t0, letB s[0] = t0 := ⟨_, rfl⟩
      have HT0 := Lib.hid ht0
      have HT1 := Lib.hid (HL.out.symm.trans ht0)
      clear ht0 HL
      have h1i : ¬ (s.size : Int) < 1 := by omega
      have h2i : ¬ (24 : Int) < s.size := by omega
      cases t0
      · obtain rfl : false = t := by
          rw [← H.out]; exact (Bool.of_not_eq_true fun e => by have := ((vld2_iff _).1 e).2.2.1; rw [HT1.out] at this; cases this).symm
        clear H HT1
        go_enter Tryd.func11, Tryd.ntmps11
        go_wp2_with (go_at_call 28; with_reducible refine (pletter_at s[0] _ _ HT0).mono ?_; rintro e w1 ⟨rfl, rfl⟩)
        go_ret
        exact ⟨rfl, rfl⟩
      · have i3 : IntKind.i64.wrap ((s.size : Int) - 1) = (s.size : Int) - 1 := IntWalk.i64_in _ (by omega)
        have k3 : 0 ≤ (s.size : Int) - 1 := by omega
        have k4 : ((s.size : Int) - 1).toNat = s.size - 1 := by omega
        have k5 : s.size - 1 < s.size := by omega
        have k6 : (s.size : Int) - 1 < s.size := by omega
        have HLAST := Lib.hid (show atB (bs s) ((bs s).length - 1) = s[s.size - 1] by rw [bs_len, bs_at s (s.size - 1) k5])
        by_cases hl : s[s.size - 1].toNat = 45
        · have c1 : ((s[s.size - 1].toNat : Int) == 45) = true := beq_iff_eq.2 (by omega)
          obtain rfl : false = t := by
            rw [← H.out]; exact (Bool.of_not_eq_true fun e => by have := ((vld2_iff _).1 e).2.2.2.1; rw [HLAST.out] at this; exact this hl).symm
          clear H HT1 HLAST hl
          go_enter Tryd.func11, Tryd.ntmps11
          go_wp2_with (go_at_call 28; with_reducible refine (pletter_at s[0] _ _ HT0).mono ?_; rintro e w1 ⟨rfl, rfl⟩)
          go_ret
          exact ⟨rfl, rfl⟩
        · have c1 : ((s[s.size - 1].toNat : Int) == 45) = false := beq_eq_false_iff_ne.2 (by omega)
          have HNL := Lib.hid (show (atB (bs s) ((bs s).length - 1)).toNat ≠ 45 by rw [HLAST.out]; exact hl)
          clear HLAST hl
          go_enter Tryd.func11, Tryd.ntmps11
          go_wp2_with (go_at_call 28; with_reducible refine (pletter_at s[0] _ _ HT0).mono ?_; rintro e w1 ⟨rfl, rfl⟩)
          go_loop [3] (fun i => ∃ m : Nat, i = .int .i64 ((m : Int) + 1) ∧ m + 1 ≤ s.size ∧ ∀ j, 1 ≤ j → j < m + 1 → ok2 (bs s) j = true) (fun i => s.size - (intOf i).toNat)
          case atStart => exact ⟨0, rfl, h1, fun j hj hk => by omega⟩
          case round =>
            obtain ⟨m, rfl, hk, hok⟩ := hrel
            have HOK := Lib.hid hok
            clear hok
            by_cases hlt : m + 1 < s.size
            · have hki : (m : Int) + 1 < s.size := by omega
              have HO := Lib.hid (ok2_s s m hlt)
              have HN := Lib.hid (vld2_no (s := s) (k := m + 1) (by omega) hlt)
              obtain ⟨tl, htl⟩ : ∃ tl, letB s[m + 1] = tl := ⟨_, rfl⟩
              obtain ⟨td, htd⟩ : ∃ td, digB s[m + 1] = td := ⟨_, rfl⟩
              rw [htl, htd] at HO
              have HL := Lib.hid htl
              have HD := Lib.hid htd
              have hl1 := letB_iff s[m + 1]
              have hd1 := digB_iff s[m + 1]
              rw [htl] at hl1
              rw [htd] at hd1
              clear htl htd
              have i1 : IntKind.i64.wrap ((m : Int) + 1 + 1) = (m : Int) + 1 + 1 := IntWalk.i64_in _ (by omega)
              have i2 : IntKind.i64.wrap ((m : Int) + 1 - 1) = (m : Int) := by rw [show (m : Int) + 1 - 1 = m by omega]; exact IntWalk.i64_in _ (by omega)
              have k0 : 0 ≤ (m : Int) + 1 := by omega
              have k1 : ((m : Int) + 1).toNat = m + 1 := by omega
              have hml : m < s.size := by omega
              have hmi : (m : Int) < s.size := by omega
              by_cases c : s[m + 1].toNat = 45
              · have c1 : ((s[m + 1].toNat : Int) == 45) = true := beq_iff_eq.2 (by omega)
                obtain rfl : false = tl := (Bool.of_not_eq_true fun e => by have := hl1.1 e; omega).symm
                obtain rfl : false = td := (Bool.of_not_eq_true fun e => by have := hd1.1 e; omega).symm
                rw [decide_eq_true c] at HO
                clear c hl1 hd1
                by_cases n : s[m].toNat = 45
                · obtain rfl : false = t := by rw [← H.out]; exact (HN.out (by rw [HO.out, decide_eq_true n]; rfl)).symm
                  have n1 : ((s[m].toNat : Int) != 45) = false := bne_eq_false_iff_eq.2 (by omega)
                  clear HO HN H HOK n
                  go_wp2_with (first | (go_at_call 28; with_reducible refine (pletter_at s[m + 1] _ _ HL).mono ?_; rintro e w1 ⟨rfl, rfl⟩) | (go_at_call 29; with_reducible refine (pdigit_at s[m + 1] _ _ HD).mono ?_; rintro e w1 ⟨rfl, rfl⟩))
                  go_ret
                  exact ⟨rfl, rfl⟩
                · have n1 : ((s[m].toNat : Int) != 45) = true := bne_iff_ne.2 (by omega)
                  have HT := Lib.hid (show ok2 (bs s) (m + 1) = true by rw [HO.out, decide_eq_false n]; rfl)
                  clear HO HN n
                  go_wp2_with (first | (go_at_call 28; with_reducible refine (pletter_at s[m + 1] _ _ HL).mono ?_; rintro e w1 ⟨rfl, rfl⟩) | (go_at_call 29; with_reducible refine (pdigit_at s[m + 1] _ _ HD).mono ?_; rintro e w1 ⟨rfl, rfl⟩))
                  go_round
                  case rel => exact ⟨m + 1, by go_num, hlt, fun j h1 h2 => by
                      by_cases x : j = m + 1
                      · rw [x]; exact HT.out
                      · exact HOK.out j h1 (by omega)⟩
                  case measure => simp [intOf]; omega
              · have c1 : ((s[m + 1].toNat : Int) == 45) = false := beq_eq_false_iff_ne.2 (by omega)
                rw [decide_eq_false c] at HO
                clear c hl1 hd1
                cases tl
                · cases td
                  · obtain rfl : false = t := by rw [← H.out]; exact (HN.out (by rw [HO.out]; rfl)).symm
                    clear HO HN H HOK
                    go_wp2_with (first | (go_at_call 28; with_reducible refine (pletter_at s[m + 1] _ _ HL).mono ?_; rintro e w1 ⟨rfl, rfl⟩) | (go_at_call 29; with_reducible refine (pdigit_at s[m + 1] _ _ HD).mono ?_; rintro e w1 ⟨rfl, rfl⟩))
                    go_ret
                    exact ⟨rfl, rfl⟩
                  · have HT := Lib.hid (show ok2 (bs s) (m + 1) = true by rw [HO.out]; rfl)
                    clear HO HN
                    go_wp2_with (first | (go_at_call 28; with_reducible refine (pletter_at s[m + 1] _ _ HL).mono ?_; rintro e w1 ⟨rfl, rfl⟩) | (go_at_call 29; with_reducible refine (pdigit_at s[m + 1] _ _ HD).mono ?_; rintro e w1 ⟨rfl, rfl⟩))
                    go_round
                    case rel => exact ⟨m + 1, by go_num, hlt, fun j h1 h2 => by
                        by_cases x : j = m + 1
                        · rw [x]; exact HT.out
                        · exact HOK.out j h1 (by omega)⟩
                    case measure => simp [intOf]; omega
                · have HT := Lib.hid (show ok2 (bs s) (m + 1) = true by rw [HO.out]; simp)
                  clear HO HN
                  go_wp2_with (first | (go_at_call 28; with_reducible refine (pletter_at s[m + 1] _ _ HL).mono ?_; rintro e w1 ⟨rfl, rfl⟩) | (go_at_call 29; with_reducible refine (pdigit_at s[m + 1] _ _ HD).mono ?_; rintro e w1 ⟨rfl, rfl⟩))
                  go_round
                  case rel => exact ⟨m + 1, by go_num, hlt, fun j h1 h2 => by
                      by_cases x : j = m + 1
                      · rw [x]; exact HT.out
                      · exact HOK.out j h1 (by omega)⟩
                  case measure => simp [intOf]; omega
            · obtain he : m + 1 = s.size := by omega
              have he1 : ¬ (m : Int) + 1 < s.size := by omega
              obtain rfl : true = t := by rw [← H.out]; exact ((vld2_iff _).2 ⟨by rw [bs_len]; exact h1, by rw [bs_len]; exact h2, HT1.out, HNL.out, fun i a b => HOK.out i a (by rw [bs_len] at b; omega)⟩).symm
              clear H
              go_wp2
              go_ret
              exact ⟨rfl, rfl⟩
    · obtain rfl : false = t := by
        rw [← H.out]; exact (Bool.of_not_eq_true fun e => by have := ((vldB_iff _).1 e).2.1; rw [bs_len] at this; omega).symm
      clear H
      have h1i : ¬ (s.size : Int) < 1 := by omega
      have h2i : (24 : Int) < s.size := by omega
      go_enter Tryd.func11, Tryd.ntmps11
      go_wp2
      go_ret
      exact ⟨rfl, rfl⟩
  · obtain rfl : false = t := by
      rw [← H.out]; exact (Bool.of_not_eq_true fun e => by have := ((vldB_iff _).1 e).1; rw [bs_len] at this; omega).symm
    clear H
    have h1i : (s.size : Int) < 1 := by omega
    go_enter Tryd.func11, Tryd.ntmps11
    go_wp2
    go_ret
    exact ⟨rfl, rfl⟩
end Go.Proofs.YtifiljmiehddfaaDoor.NamW
