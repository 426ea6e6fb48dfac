/-
  Walks of the program of package dir: Check, Mirror, Rotate, Eighth. Condition: none.
-/
import Derived.Test.YtneobaininejaaaDoorDirPlain
import Derived.Lib.Hide
namespace Go.Proofs.YtneobaininejaaaDoor.DirW
open Go.ChangeShapes Go.WideShapes Go.ChangeAt Go.RowKit
open PairW DirP
theorem pisd_at (d : Int) (t : Bool) (w : World) (H : Hid (isD d = t)) :
    Calls Tryd.prog 80 #[.int .i64 d] w fun e w' => e = .returned (.bool t) ∧ w = w' := by
  have hi := isD_iff d
  rw [H.out] at hi
  clear H
  by_cases h1 : 0 ≤ d
  · by_cases h2 : d ≤ 8
    · obtain rfl : t = true := hi.2 ⟨h1, h2⟩
      clear hi
      go_enter Tryd.func80, Tryd.ntmps80
      go_wp2
      go_ret
      exact ⟨ret_bool (by simp), rfl⟩
    · obtain rfl : t = false := by cases t <;> simp at hi ⊢; omega
      clear hi
      go_enter Tryd.func80, Tryd.ntmps80
      go_wp2
      go_ret
      exact ⟨ret_bool (by simp), rfl⟩
  · obtain rfl : t = false := by cases t <;> simp at hi ⊢; omega
    clear hi
    go_enter Tryd.func80, Tryd.ntmps80
    go_wp2
    go_ret
    exact ⟨ret_bool (by simp), rfl⟩
theorem pisl_at (d : Int) (t : Bool) (w : World) (H : Hid (isL d = t)) :
    Calls Tryd.prog 85 #[.int .i64 d] w fun e w' => e = .returned (.bool t) ∧ w = w' := by
  have hi := isL_iff d
  rw [H.out] at hi
  clear H
  by_cases h1 : -1 ≤ d
  · by_cases h2 : d ≤ 1
    · obtain rfl : t = true := hi.2 ⟨h1, h2⟩
      clear hi
      go_enter Tryd.func85, Tryd.ntmps85
      go_wp2
      go_ret
      exact ⟨ret_bool (by simp), rfl⟩
    · obtain rfl : t = false := by cases t <;> simp at hi ⊢; omega
      clear hi
      go_enter Tryd.func85, Tryd.ntmps85
      go_wp2
      go_ret
      exact ⟨ret_bool (by simp), rfl⟩
  · obtain rfl : t = false := by cases t <;> simp at hi ⊢; omega
    clear hi
    go_enter Tryd.func85, Tryd.ntmps85
    go_wp2
    go_ret
    exact ⟨ret_bool (by simp), rfl⟩
theorem pcheck_at (d l c : Int) (w : World) (H : Hid (chk d l = c)) :
    Calls Tryd.prog 78 #[.int .i64 d, .int .i64 l] w fun e w' => e = .returned (.int .i64 c) ∧ w = w' := by
  obtain rfl := H.out
  clear H
  unfold chk
  by_cases h : 0 ≤ d ∧ d ≤ 8
  · have HD := Lib.hid ((isD_iff d).2 h)
    by_cases k : -1 ≤ l ∧ l ≤ 1
    · have HL := Lib.hid ((isL_iff l).2 k)
      rw [if_pos ⟨h, k⟩]
      clear h k
      go_enter Tryd.func78, Tryd.ntmps78
      go_wp2_with (first | (go_at_call 80; with_reducible refine (pisd_at d true _ HD).mono ?_; rintro e w' ⟨rfl, rfl⟩) | (go_at_call 85; with_reducible refine (pisl_at l true _ HL).mono ?_; rintro e w' ⟨rfl, rfl⟩))
      go_ret
      exact ⟨rfl, rfl⟩
    · have HL := Lib.hid ((isL_no l).2 (by omega))
      rw [if_neg (fun x => k x.2)]
      clear h k
      go_enter Tryd.func78, Tryd.ntmps78
      go_wp2_with (first | (go_at_call 80; with_reducible refine (pisd_at d true _ HD).mono ?_; rintro e w' ⟨rfl, rfl⟩) | (go_at_call 85; with_reducible refine (pisl_at l false _ HL).mono ?_; rintro e w' ⟨rfl, rfl⟩))
      go_ret
      exact ⟨rfl, rfl⟩
  · have HD := Lib.hid ((isD_no d).2 (by omega))
    rw [if_neg (fun x => h x.1)]
    clear h
    go_enter Tryd.func78, Tryd.ntmps78
    go_wp2_with (go_at_call 80; with_reducible refine (pisd_at d false _ HD).mono ?_; rintro e w' ⟨rfl, rfl⟩)
    go_ret
    exact ⟨rfl, rfl⟩
theorem peighth_at (d v e0 : Int) (w : World) (H : Hid (eigV d = v ∧ eigE d = e0)) :
    Calls Tryd.prog 73 #[.int .i64 d] w fun e w' => e = .returned (.tuple #[.int .i64 v, .int .i64 e0]) ∧ w = w' := by
  obtain ⟨rfl, rfl⟩ := H.out
  clear H
  unfold eigV eigE
  by_cases h : 0 ≤ d ∧ d ≤ 8
  · have HD := Lib.hid ((isD_iff d).2 h)
    by_cases k : d = 0
    · subst k
      clear h
      go_enter Tryd.func73, Tryd.ntmps73
      go_wp2_with (go_at_call 80; with_reducible refine (pisd_at 0 true _ HD).mono ?_; rintro e w' ⟨rfl, rfl⟩)
      go_ret2
      exact ⟨rfl, rfl⟩
    · have k0 : (d == 0) = false := beq_eq_false_iff_ne.2 k
      have k1 : IntKind.i64.wrap (d - 1) = d - 1 := IntWalk.i64_in _ (by omega)
      rw [if_pos (by omega), if_pos h, if_neg k]
      clear h k
      go_enter Tryd.func73, Tryd.ntmps73
      go_wp2_with (go_at_call 80; with_reducible refine (pisd_at d true _ HD).mono ?_; rintro e w' ⟨rfl, rfl⟩)
      go_ret2
      first | exact ⟨rfl, rfl⟩ | (exact ⟨ret_two k1 rfl, rfl⟩)
  · have HD := Lib.hid ((isD_no d).2 (by omega))
    rw [if_neg (by omega), if_neg h]
    clear h
    go_enter Tryd.func73, Tryd.ntmps73
    go_wp2_with (go_at_call 80; with_reducible refine (pisd_at d false _ HD).mono ?_; rintro e w' ⟨rfl, rfl⟩)
    go_ret2
    exact ⟨rfl, rfl⟩
theorem and7 (n : Int) : bits .and .i64 n 7 = n % 8 := by
  have h7 : (BitVec.ofInt 64 7).toNat = 2 ^ 3 - 1 := by decide
  have key : (BitVec.ofInt 64 n &&& BitVec.ofInt 64 7).toNat = (n % ((2 ^ 64 : Nat) : Int)).toNat % 2 ^ 3 := by
    rw [BitVec.toNat_and, BitVec.toNat_ofInt, h7, Nat.and_two_pow_sub_one_eq_mod]
  show IntKind.i64.wrap ((BitVec.ofInt 64 n &&& BitVec.ofInt 64 7).toNat : Nat) = n % 8
  rw [key, IntKind.wrap_i64]
  omega
theorem rot_wrap (d n : Int) : wrap64 (1 + bits .and .i64 (wrap64 (wrap64 (d - 1) + n)) 7) = (d - 1 + n) % 8 + 1 := by
  rw [and7]
  unfold wrap64
  omega
theorem protate_at (d n v e0 : Int) (w : World) (H : Hid (rotV d n = v ∧ dirE d = e0)) :
    Calls Tryd.prog 74 #[.int .i64 d, .int .i64 n] w fun e w' => e = .returned (.tuple #[.int .i64 v, .int .i64 e0]) ∧ w = w' := by
  obtain ⟨rfl, rfl⟩ := H.out
  clear H
  unfold rotV dirE
  by_cases h : 0 ≤ d ∧ d ≤ 8
  · have HD := Lib.hid ((isD_iff d).2 h)
    by_cases k : d = 0
    · subst k
      rw [if_pos h, if_pos h, if_pos rfl]
      clear h
      go_enter Tryd.func74, Tryd.ntmps74
      go_wp2_with (go_at_call 80; with_reducible refine (pisd_at 0 true _ HD).mono ?_; rintro e w' ⟨rfl, rfl⟩)
      go_ret2
      exact ⟨rfl, rfl⟩
    · have k0 : (d == 0) = false := beq_eq_false_iff_ne.2 k
      have k1 := Lib.hid (rot_wrap d n)
      rw [if_pos h, if_pos h, if_neg k]
      clear h k
      go_enter Tryd.func74, Tryd.ntmps74
      go_wp2_with (go_at_call 80; with_reducible refine (pisd_at d true _ HD).mono ?_; rintro e w' ⟨rfl, rfl⟩)
      go_ret2
      exact ⟨ret_two k1.out rfl, rfl⟩
  · have HD := Lib.hid ((isD_no d).2 (by omega))
    rw [if_neg h, if_neg h]
    clear h
    go_enter Tryd.func74, Tryd.ntmps74
    go_wp2_with (go_at_call 80; with_reducible refine (pisd_at d false _ HD).mono ?_; rintro e w' ⟨rfl, rfl⟩)
    go_ret2
    exact ⟨rfl, rfl⟩
theorem pmirror_at (d v e0 : Int) (w : World) (H : Hid (mirV d = v ∧ dirE d = e0)) :
    Calls Tryd.prog 49 #[.int .i64 d] w fun e w' => e = .returned (.tuple #[.int .i64 v, .int .i64 e0]) ∧ w = w' := by
  obtain ⟨hv, rfl⟩ := H.out
  clear H
  unfold dirE
  by_cases h : 0 ≤ d ∧ d ≤ 8
  · by_cases k : d = 0
    · subst k
      obtain rfl : 0 = v := by rw [← hv]; rfl
      rw [if_pos h]
      have HE := Lib.hid (show eigV 0 = 0 ∧ eigE 0 = 18 from ⟨rfl, rfl⟩)
      clear h hv
      go_enter Tryd.func49, Tryd.ntmps49
      go_wp2_with (go_at_call 73; with_reducible refine (peighth_at 0 0 18 _ HE).mono ?_; rintro e w' ⟨rfl, rfl⟩)
      go_ret2
      exact ⟨rfl, rfl⟩
    · rw [if_pos h]
      have HE := Lib.hid (show eigV d = d - 1 ∧ eigE d = 0 by unfold eigV eigE; rw [if_pos (by omega), if_pos h, if_neg k]; exact ⟨rfl, rfl⟩)
      have k1 : IntKind.i64.wrap (-(d - 1)) = 1 - d := by rw [IntKind.wrap_i64]; omega
      have HR := Lib.hid (show rotV 1 (1 - d) = v ∧ dirE 1 = 0 by
        rw [← hv, rot_of (by omega), mir_of (by omega)]
        refine ⟨?_, rfl⟩
        omega)
      clear h k hv
      go_enter Tryd.func49, Tryd.ntmps49
      go_wp2_with (first | (go_at_call 73; with_reducible refine (peighth_at d (d - 1) 0 _ HE).mono ?_; rintro e w' ⟨rfl, rfl⟩) | (go_at_call 74; with_reducible refine (protate_at 1 _ v 0 _ HR).mono ?_; rintro e w' ⟨rfl, rfl⟩))
      go_ret2
      exact ⟨rfl, rfl⟩
  · obtain rfl : 0 = v := by rw [← hv]; unfold mirV; rw [if_neg h]
    rw [if_neg h]
    have HE := Lib.hid (show eigV d = 0 ∧ eigE d = 1 by unfold eigV eigE; rw [if_neg (by omega), if_neg h]; exact ⟨rfl, rfl⟩)
    clear h hv
    go_enter Tryd.func49, Tryd.ntmps49
    go_wp2_with (go_at_call 73; with_reducible refine (peighth_at d 0 1 _ HE).mono ?_; rintro e w' ⟨rfl, rfl⟩)
    go_ret2
    exact ⟨rfl, rfl⟩
end Go.Proofs.YtneobaininejaaaDoor.DirW
