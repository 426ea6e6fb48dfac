/-
  Walk of Gcd of package num: what a call returns for every input, at every world. Condition: none.
-/
import Derived.Test.YtajookopcijakaaNumF
namespace Go.Proofs.Ytajookopcijakaa.NumW
open Go.ChangeShapes Go.WideShapes Go.ChangeAt Go.RowKit
open NumP

theorem int_step (u v : Int) (h : v ≠ 0) : (u.tmod v).natAbs < v.natAbs := by
  rw [Int.natAbs_tmod]; exact Nat.mod_lt _ (by omega)
set_option maxHeartbeats 800000 in
theorem gcd_good (a b : Int) (w : World) (ha : smallB a = true) (hb : smallB b = true) :
    Calls Try.prog 23 #[.int .i64 a, .int .i64 b] w fun e w' => e = .returned (.tuple #[.int .i64 (gcdV a b), .int .i64 (gcdE a b)]) ∧ Drew w w' := by
  have H := Lib.hid (gcd_ok ha hb)
  obtain ⟨a0, a1⟩ := (small_iff a).1 ha
  obtain ⟨b0, b1⟩ := (small_iff b).1 hb
  go_enter Try.func23, Try.ntmps23
  go_wp2_with (go_at_call 31; refine (small_any _ _).mono ?_; rintro e w' ⟨rfl, rfl⟩)
  go_loopw [0, 1] (fun p q wr => ∃ u v : Int, p = .int .i64 u ∧ q = .int .i64 v ∧ u.natAbs ≤ 1125899906842624 ∧ v.natAbs ≤ 1125899906842624 ∧ Int.gcd u v = Int.gcd a b ∧ Drew w wr) (fun _ q _ => (intOf q).natAbs)
  case atStart => exact ⟨a, b, rfl, rfl, by omega, by omega, rfl, Drew.refl _⟩
  case round =>
    obtain ⟨u, v, rfl, rfl, hu, hv, hg, hw⟩ := hrel
    have HL := Lib.hid hg
    have HW := Lib.hid hw
    clear hg hw
    by_cases hp : v = 0
    · subst hp
      have HE := Lib.hid (gcd_end u)
      by_cases hn : u < 0
      · go_wp2
        go_ret2
        exact ⟨ret_two (by rw [H.out.1, ← HL.out, HE.out]; omega) H.out.2.symm, HW.out⟩
      · go_wp2
        go_ret2
        exact ⟨ret_two (by rw [H.out.1, ← HL.out, HE.out]; omega) H.out.2.symm, HW.out⟩
    · have HS := Lib.hid (gcd_step u v)
      have hm := int_step u v hp
      have HM := Lib.hid hm
      have g1 : (v == 0) = false := beq_eq_false_iff_ne.2 hp
      have g2 : (v != 0) = true := bne_iff_ne.2 hp
      have hr : -1125899906842624 ≤ u.tmod v ∧ u.tmod v ≤ 1125899906842624 := by omega
      clear hm
      go_wp2
      go_quiet (fail)
      go_wp2
      go_roundw
      case rel => exact ⟨v, u.tmod v, rfl, rfl, hv, by omega, by rw [HS.out, HL.out], HW.out.step _⟩
      case measure => exact HM.out
theorem gcd_any (a b : Int) (w : World) :
    Calls Try.prog 23 #[.int .i64 a, .int .i64 b] w fun e w' => e = .returned (.tuple #[.int .i64 (gcdV a b), .int .i64 (gcdE a b)]) ∧ Drew w w' := by
  by_cases h : smallB a = false ∨ smallB b = false
  · exact gcd_bad a b w h
  · exact gcd_good a b w (Bool.of_not_eq_false fun x => h (Or.inl x)) (Bool.of_not_eq_false fun x => h (Or.inr x))
theorem gcd_at (a b v f : Int) (w : World) (H : Hid (gcdV a b = v ∧ gcdE a b = f)) :
    Calls Try.prog 23 #[.int .i64 a, .int .i64 b] w fun e w' => e = .returned (.tuple #[.int .i64 v, .int .i64 f]) ∧ Drew w w' := by
  obtain ⟨rfl, rfl⟩ := H.out
  exact gcd_any a b w
theorem rgcd_at (a b v f : Int) (w : World) (H : Hid (gcdV a b = v ∧ gcdE a b = f)) :
    Calls Try.prog 24 #[.int .i64 a, .int .i64 b] w fun e w' => e = .returned (.tuple #[.int .i64 v, .int .i64 f]) ∧ Drew w w' := by
  obtain ⟨rfl, rfl⟩ := H.out
  exact rgcd_any a b w
end Go.Proofs.Ytajookopcijakaa.NumW
