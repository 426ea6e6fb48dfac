/-
  Walks of letter, digit, Valid, end and bare of the specification of package ident: what a call returns for every input. Condition: none.
-/
import Derived.Test.YtifiljmiehddfaaDoorPairs
import Derived.Test.YtifiljmiehddfaaDoorNamePlain
import Derived.WalkLawsBesides
namespace Go.Proofs.YtifiljmiehddfaaDoor.NamW
open Go.ChangeShapes Go.WideShapes Go.ChangeAt Go.RowKit
open PairW NamP
/-- The bytes of a string. -/
abbrev bs (s : ByteArray) : Bs := s.data.toList
theorem bs_len (s : ByteArray) : (bs s).length = s.size := Array.length_toList
theorem bs_at (s : ByteArray) (k : Nat) (h : k < s.size) : atB (bs s) k = s[k] := by
  unfold atB bs
  rw [List.getD_eq_getElem?_getD, List.getElem?_eq_getElem (by rw [bs_len]; exact h)]
  rfl
theorem letter_at (c : UInt8) (t : Bool) (w : World) (H : Hid (letB c = t)) : Calls Tryd.prog 30 #[.int .u8 c.toNat] w fun e w' => e = .returned (.bool t) ∧ w = w' := by
  obtain rfl := H.out
  clear H
  unfold letB
  by_cases h1 : 97 ≤ c.toNat
  · have d1 : decide ((97 : Int) ≤ (c.toNat : Int)) = true := decide_eq_true (by omega)
    rw [decide_eq_true h1, Bool.true_and]
    by_cases h2 : c.toNat ≤ 122
    · have d2 : decide ((c.toNat : Int) ≤ 122) = true := decide_eq_true (by omega)
      rw [decide_eq_true h2]
      go_enter Tryd.func30, Tryd.ntmps30
      go_wp2
      go_ret
      exact ⟨rfl, rfl⟩
    · have d2 : decide ((c.toNat : Int) ≤ 122) = false := decide_eq_false (by omega)
      rw [decide_eq_false h2]
      go_enter Tryd.func30, Tryd.ntmps30
      go_wp2
      go_ret
      exact ⟨rfl, rfl⟩
  · have d1 : decide ((97 : Int) ≤ (c.toNat : Int)) = false := decide_eq_false (by omega)
    rw [decide_eq_false h1, Bool.false_and]
    go_enter Tryd.func30, Tryd.ntmps30
    go_wp2
    go_ret
    exact ⟨rfl, rfl⟩
theorem digit_at (c : UInt8) (t : Bool) (w : World) (H : Hid (digB c = t)) : Calls Tryd.prog 31 #[.int .u8 c.toNat] w fun e w' => e = .returned (.bool t) ∧ w = w' := by
  obtain rfl := H.out
  clear H
  unfold digB
  by_cases h1 : 48 ≤ c.toNat
  · have d1 : decide ((48 : Int) ≤ (c.toNat : Int)) = true := decide_eq_true (by omega)
    rw [decide_eq_true h1, Bool.true_and]
    by_cases h2 : c.toNat ≤ 57
    · have d2 : decide ((c.toNat : Int) ≤ 57) = true := decide_eq_true (by omega)
      rw [decide_eq_true h2]
      go_enter Tryd.func31, Tryd.ntmps31
      go_wp2
      go_ret
      exact ⟨rfl, rfl⟩
    · have d2 : decide ((c.toNat : Int) ≤ 57) = false := decide_eq_false (by omega)
      rw [decide_eq_false h2]
      go_enter Tryd.func31, Tryd.ntmps31
      go_wp2
      go_ret
      exact ⟨rfl, rfl⟩
  · have d1 : decide ((48 : Int) ≤ (c.toNat : Int)) = false := decide_eq_false (by omega)
    rw [decide_eq_false h1, Bool.false_and]
    go_enter Tryd.func31, Tryd.ntmps31
    go_wp2
    go_ret
    exact ⟨rfl, rfl⟩
theorem vld_no {s : ByteArray} {k : Nat} (h1 : 1 ≤ k) (h2 : k < s.size) (h : okAt (bs s) k = false) : vldB (bs s) = false := Bool.of_not_eq_true fun e => by
  have := ((vldB_iff _).1 e).2.2.2 k h1 (by rw [bs_len]; exact h2)
  rw [h] at this
  cases this
theorem okAt_s (s : ByteArray) (k : Nat) (h : k < s.size) : okAt (bs s) k = ((letB s[k] || digB s[k] || decide (s[k].toNat = 45)) && !(decide (s[k].toNat = 45) && (decide (k + 1 = s.size) || decide ((atB (bs s) (k + 1)).toNat = 45)))) := by
  unfold okAt
  rw [bs_at s k h, bs_len]
set_option maxRecDepth 100000 in
set_option maxHeartbeats 2000000 in
theorem rvalid_at (s : ByteArray) (t : Bool) (w : World) (hs : s.size ≤ maxLen) (H : Hid (vldB (bs s) = t)) : Calls Tryd.prog 12 #[.string s] w fun e w' => e = .returned (.bool t) ∧ w = w' := by
  unfold maxLen at hs
  by_cases h1 : 1 ≤ s.size
  · by_cases h2 : s.size ≤ 24
    · have HL := Lib.hid (show letB s[0] = letB (atB (bs s) 0) by rw [bs_at s 0 (by omega)])
      obtain ⟨t0, ht0⟩ : ∃ t0, letB s[0] = t0 := ⟨_, rfl⟩
      have HT0 := Lib.hid ht0
      have HT1 := Lib.hid (HL.out.symm.trans ht0)
      clear ht0 HL
      have h1i : ¬ (s.size : Int) < 1 := by omega
      have h2i : ¬ (24 : Int) < s.size := by omega
      cases t0
      · obtain rfl : false = t := by
          rw [← H.out]; exact (Bool.of_not_eq_true fun e => by have := ((vldB_iff _).1 e).2.2.1; rw [HT1.out] at this; cases this).symm
        clear H HT1
        go_enter Tryd.func12, Tryd.ntmps12
        go_wp2_with (go_at_call 30; with_reducible refine (letter_at s[0] _ _ HT0).mono ?_; rintro e w1 ⟨rfl, rfl⟩)
        go_ret
        exact ⟨rfl, rfl⟩
      · go_enter Tryd.func12, Tryd.ntmps12
        go_wp2_with (go_at_call 30; with_reducible refine (letter_at s[0] _ _ HT0).mono ?_; rintro e w1 ⟨rfl, rfl⟩)
        go_loop [3] (fun i => ∃ k : Nat, i = .int .i64 k ∧ 1 ≤ k ∧ k ≤ s.size ∧ ∀ j, 1 ≤ j → j < k → okAt (bs s) j = true) (fun i => s.size - (intOf i).toNat)
        case atStart => exact ⟨1, rfl, Nat.le_refl _, h1, fun j hj hk => by omega⟩
        case round =>
          obtain ⟨k, rfl, hk1, hk, hok⟩ := hrel
          have HOK := Lib.hid hok
          clear hok
          by_cases hlt : k < s.size
          · have hki : (k : Int) < s.size := by omega
            have HO := Lib.hid (okAt_s s k hlt)
            have HN := Lib.hid (vld_no (s := s) hk1 hlt)
            obtain ⟨tl, htl⟩ : ∃ tl, letB s[k] = tl := ⟨_, rfl⟩
            obtain ⟨td, htd⟩ : ∃ td, digB s[k] = td := ⟨_, rfl⟩
            rw [htl, htd] at HO
            have HL := Lib.hid htl
            have HD := Lib.hid htd
            have hl1 := letB_iff s[k]
            have hd1 := digB_iff s[k]
            rw [htl] at hl1
            rw [htd] at hd1
            clear htl htd
            have i1 : IntKind.i64.wrap ((k : Int) + 1) = (k : Int) + 1 := IntWalk.i64_in _ (by omega)
            have i2 : IntKind.i64.wrap ((s.size : Int) - 1) = (s.size : Int) - 1 := IntWalk.i64_in _ (by omega)
            cases tl
            · cases td
              · by_cases c : s[k].toNat = 45
                · have c1 : ((s[k].toNat : Int) == 45) = true := beq_iff_eq.2 (by omega)
                  have c2 : ((s[k].toNat : Int) != 45) = false := bne_eq_false_iff_eq.2 (by omega)
                  rw [decide_eq_true c] at HO
                  clear c hl1 hd1
                  by_cases e : k + 1 = s.size
                  · obtain rfl : false = t := by rw [← H.out]; exact (HN.out (by rw [HO.out, decide_eq_true e]; rfl)).symm
                    have e1 : ((k : Int) == (s.size : Int) - 1) = true := beq_iff_eq.2 (by omega)
                    clear HO HN H HOK
                    go_wp2_with (first | (go_at_call 30; with_reducible refine (letter_at s[k] _ _ HL).mono ?_; rintro e w1 ⟨rfl, rfl⟩) | (go_at_call 31; with_reducible refine (digit_at s[k] _ _ HD).mono ?_; rintro e w1 ⟨rfl, rfl⟩))
                    go_ret
                    exact ⟨rfl, rfl⟩
                  · have e1 : ((k : Int) == (s.size : Int) - 1) = false := beq_eq_false_iff_ne.2 (by omega)
                    have hk2 : k + 1 < s.size := by omega
                    have hk2i : (k : Int) + 1 < s.size := by omega
                    have k0 : 0 ≤ (k : Int) + 1 := by omega
                    have k1 : ((k : Int) + 1).toNat = k + 1 := by omega
                    rw [decide_eq_false e, bs_at s (k + 1) hk2] at HO
                    by_cases n : s[k + 1].toNat = 45
                    · obtain rfl : false = t := by rw [← H.out]; exact (HN.out (by rw [HO.out, decide_eq_true n]; rfl)).symm
                      have n1 : ((s[k + 1].toNat : Int) == 45) = true := beq_iff_eq.2 (by omega)
                      clear HO HN H HOK n
                      go_wp2_with (first | (go_at_call 30; with_reducible refine (letter_at s[k] _ _ HL).mono ?_; rintro e w1 ⟨rfl, rfl⟩) | (go_at_call 31; with_reducible refine (digit_at s[k] _ _ HD).mono ?_; rintro e w1 ⟨rfl, rfl⟩))
                      go_ret
                      exact ⟨rfl, rfl⟩
                    · have n1 : ((s[k + 1].toNat : Int) == 45) = false := beq_eq_false_iff_ne.2 (by omega)
                      have HT := Lib.hid (show okAt (bs s) k = true by rw [HO.out, decide_eq_false n]; rfl)
                      clear HO HN n
                      go_wp2_with (first | (go_at_call 30; with_reducible refine (letter_at s[k] _ _ HL).mono ?_; rintro e w1 ⟨rfl, rfl⟩) | (go_at_call 31; with_reducible refine (digit_at s[k] _ _ HD).mono ?_; rintro e w1 ⟨rfl, rfl⟩))
                      go_round
                      case rel => exact ⟨k + 1, by go_num, by omega, hlt, fun j h1 h2 => by
                          by_cases x : j = k
                          · rw [x]; exact HT.out
                          · exact HOK.out j h1 (by omega)⟩
                      case measure => simp [intOf]; omega
                · have c2 : ((s[k].toNat : Int) != 45) = true := bne_iff_ne.2 (by omega)
                  obtain rfl : false = t := by rw [← H.out]; exact (HN.out (by rw [HO.out, decide_eq_false c]; rfl)).symm
                  clear HO HN H HOK hl1 hd1
                  go_wp2_with (first | (go_at_call 30; with_reducible refine (letter_at s[k] _ _ HL).mono ?_; rintro e w1 ⟨rfl, rfl⟩) | (go_at_call 31; with_reducible refine (digit_at s[k] _ _ HD).mono ?_; rintro e w1 ⟨rfl, rfl⟩))
                  go_ret
                  exact ⟨rfl, rfl⟩
              · have c := hd1.1 rfl
                have c1 : ((s[k].toNat : Int) == 45) = false := beq_eq_false_iff_ne.2 (by omega)
                have HT := Lib.hid (show okAt (bs s) k = true by rw [HO.out, decide_eq_false (show ¬ s[k].toNat = 45 by omega)]; rfl)
                clear HO HN c hl1 hd1
                go_wp2_with (first | (go_at_call 30; with_reducible refine (letter_at s[k] _ _ HL).mono ?_; rintro e w1 ⟨rfl, rfl⟩) | (go_at_call 31; with_reducible refine (digit_at s[k] _ _ HD).mono ?_; rintro e w1 ⟨rfl, rfl⟩))
                go_round
                case rel => exact ⟨k + 1, by go_num, by omega, hlt, fun j h1 h2 => by
                    by_cases x : j = k
                    · rw [x]; exact HT.out
                    · exact HOK.out j h1 (by omega)⟩
                case measure => simp [intOf]; omega
            · have c := hl1.1 rfl
              have c1 : ((s[k].toNat : Int) == 45) = false := beq_eq_false_iff_ne.2 (by omega)
              have HT := Lib.hid (show okAt (bs s) k = true by rw [HO.out, decide_eq_false (show ¬ s[k].toNat = 45 by omega)]; simp)
              clear HO HN c hl1 hd1
              go_wp2_with (first | (go_at_call 30; with_reducible refine (letter_at s[k] _ _ HL).mono ?_; rintro e w1 ⟨rfl, rfl⟩) | (go_at_call 31; with_reducible refine (digit_at s[k] _ _ HD).mono ?_; rintro e w1 ⟨rfl, rfl⟩))
              go_round
              case rel => exact ⟨k + 1, by go_num, by omega, hlt, fun j h1 h2 => by
                  by_cases x : j = k
                  · rw [x]; exact HT.out
                  · exact HOK.out j h1 (by omega)⟩
              case measure => simp [intOf]; omega
          · obtain rfl : k = s.size := by omega
            obtain rfl : true = t := by rw [← H.out]; exact ((vldB_iff _).2 ⟨by rw [bs_len]; exact h1, by rw [bs_len]; exact h2, HT1.out, fun i a b => HOK.out i a (by rw [bs_len] at b; exact b)⟩).symm
            clear H
            go_wp2
            go_ret
            exact ⟨rfl, rfl⟩
    · obtain rfl : false = t := by
        rw [← H.out]; exact (Bool.of_not_eq_true fun e => by have := ((vldB_iff _).1 e).2.1; rw [bs_len] at this; omega).symm
      clear H
      have h1i : ¬ (s.size : Int) < 1 := by omega
      have h2i : (24 : Int) < s.size := by omega
      go_enter Tryd.func12, Tryd.ntmps12
      go_wp2
      go_ret
      exact ⟨rfl, rfl⟩
  · obtain rfl : false = t := by
      rw [← H.out]; exact (Bool.of_not_eq_true fun e => by have := ((vldB_iff _).1 e).1; rw [bs_len] at this; omega).symm
    clear H
    have h1i : (s.size : Int) < 1 := by omega
    go_enter Tryd.func12, Tryd.ntmps12
    go_wp2
    go_ret
    exact ⟨rfl, rfl⟩
end Go.Proofs.YtifiljmiehddfaaDoor.NamW
