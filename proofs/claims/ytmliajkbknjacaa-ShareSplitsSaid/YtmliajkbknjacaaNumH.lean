/-
  Walk of Compare of package num: what a call returns for every input, at every world. Condition: none.
-/
import Derived.Test.YtmliajkbknjacaaNumA
import Derived.Test.YtmliajkbknjacaaNumPlainC
import Derived.Test.YtmliajkbknjacaaNumShelf
namespace Go.Proofs.Ytmliajkbknjacaa.NumW
open Go.ChangeShapes Go.WideShapes Go.ChangeAt Go.RowKit
open NumP

theorem mul64_at (x y h l : Nat) (w : World) (H : Hid (x * y / 18446744073709551616 = h ∧ x * y % 18446744073709551616 = l)) (HX : Hid (x < 18446744073709551616)) (HY : Hid (y < 18446744073709551616)) :
    Calls Try.prog 29 #[.int .u64 x, .int .u64 y] w fun e w' => e = .returned (.tuple #[.int .u64 (h : Int), .int .u64 (l : Int)]) ∧ w = w' := by
  obtain ⟨rfl, rfl⟩ := H.out
  exact (Try.bits_Mul64 x y HX.out HY.out w).mono fun _ _ ⟨he, hw⟩ => ⟨he, hw.symm⟩

set_option maxHeartbeats 800000 in
/-- The walk of the two words: any numbers that are named so. -/
theorem product_core (a b : Int) (x y h l h1 h2 : Nat) (w : World) (hA : IntKind.u64.wrap a = (x : Int)) (hB : IntKind.u64.wrap b = (y : Int))
    (H : Hid (x * y / 18446744073709551616 = h ∧ x * y % 18446744073709551616 = l)) (HX : Hid (x < 18446744073709551616)) (HY : Hid (y < 18446744073709551616))
    (hs1 : IntKind.u64.wrap ((h : Int) - (y : Int)) = (h1 : Int)) (hs2 : IntKind.u64.wrap ((h : Int) - (x : Int)) = (h2 : Int)) (h3 : Nat) (hs3 : IntKind.u64.wrap ((h1 : Int) - (x : Int)) = (h3 : Int)) :
    Calls Try.prog 26 #[.int .i64 a, .int .i64 b] w fun e w' => e = .returned (.tuple #[.int .i64 (wrap64 (if a < 0 then (if b < 0 then (h3 : Int) else (h1 : Int)) else (if b < 0 then (h2 : Int) else (h : Int)))), .int .u64 (l : Int)]) ∧ w = w' := by
  by_cases ca : a < 0
  · by_cases cb : b < 0
    · rw [if_pos ca, if_pos cb]
      go_enter Try.func26, Try.ntmps26
      go_wp2_with (go_at_call 29; refine (mul64_at x y h l _ H HX HY).mono ?_; rintro e w' ⟨rfl, rfl⟩)
      go_ret2
      exact ⟨rfl, rfl⟩
    · rw [if_pos ca, if_neg cb]
      go_enter Try.func26, Try.ntmps26
      go_wp2_with (go_at_call 29; refine (mul64_at x y h l _ H HX HY).mono ?_; rintro e w' ⟨rfl, rfl⟩)
      go_ret2
      exact ⟨rfl, rfl⟩
  · by_cases cb : b < 0
    · rw [if_neg ca, if_pos cb]
      go_enter Try.func26, Try.ntmps26
      go_wp2_with (go_at_call 29; refine (mul64_at x y h l _ H HX HY).mono ?_; rintro e w' ⟨rfl, rfl⟩)
      go_ret2
      exact ⟨rfl, rfl⟩
    · rw [if_neg ca, if_neg cb]
      go_enter Try.func26, Try.ntmps26
      go_wp2_with (go_at_call 29; refine (mul64_at x y h l _ H HX HY).mono ?_; rintro e w' ⟨rfl, rfl⟩)
      go_ret2
      exact ⟨rfl, rfl⟩

theorem product_any (a b : Int) (w : World) (ha : smallB a = true) (hb : smallB b = true) :
    Calls Try.prog 26 #[.int .i64 a, .int .i64 b] w fun e w' => e = .returned (.tuple #[.int .i64 (hiOf a b), .int .u64 (loOf a b)]) ∧ w = w' := by
  obtain ⟨p1, p2⟩ := prod_word a b ha hb
  have hh := hi_bd a b ha hb
  have hx := wordOf_lt a
  have hy := wordOf_lt b
  have core := product_core a b (wordOf a) (wordOf b) (wordOf a * wordOf b / 18446744073709551616) (wordOf a * wordOf b % 18446744073709551616)
    (wordOf (((wordOf a * wordOf b / 18446744073709551616 : Nat) : Int) - (wordOf b : Int))) (wordOf (((wordOf a * wordOf b / 18446744073709551616 : Nat) : Int) - (wordOf a : Int))) w
    (wrap_word a) (wrap_word b) (Lib.hid ⟨rfl, rfl⟩) (Lib.hid hx) (Lib.hid hy) (wrap_word _) (wrap_word _)
    (wordOf ((wordOf (((wordOf a * wordOf b / 18446744073709551616 : Nat) : Int) - (wordOf b : Int)) : Int) - (wordOf a : Int))) (wrap_word _)
  refine core.mono fun e w' ⟨he, hw⟩ => ⟨?_, hw⟩
  rw [he, p1]
  have key : wrap64 (if a < 0 then (if b < 0 then (wordOf ((wordOf (((wordOf a * wordOf b / 18446744073709551616 : Nat) : Int) - (wordOf b : Int)) : Int) - (wordOf a : Int)) : Int) else (wordOf (((wordOf a * wordOf b / 18446744073709551616 : Nat) : Int) - (wordOf b : Int)) : Int)) else (if b < 0 then (wordOf (((wordOf a * wordOf b / 18446744073709551616 : Nat) : Int) - (wordOf a : Int)) : Int) else ((wordOf a * wordOf b / 18446744073709551616 : Nat) : Int))) = hiOf a b := by
    generalize ((wordOf a * wordOf b / 18446744073709551616 : Nat) : Int) = h at *
    generalize hiOf a b = v at *
    by_cases ca : a < 0
    · rw [if_pos ca, if_pos ca] at p2
      rw [if_pos ca]
      by_cases cb : b < 0
      · rw [if_pos cb, if_pos cb] at p2
        rw [if_pos cb, word_sub]
        unfold wrap64 wordOf at *; omega
      · rw [if_neg cb, if_neg cb] at p2
        rw [if_neg cb]
        unfold wrap64 wordOf at *; omega
    · rw [if_neg ca, if_neg ca] at p2
      rw [if_neg ca]
      by_cases cb : b < 0
      · rw [if_pos cb] at p2
        rw [if_pos cb]
        unfold wrap64 wordOf at *; omega
      · rw [if_neg cb] at p2
        rw [if_neg cb]
        unfold wrap64; omega
  rw [key]
theorem product_at (a b h l : Int) (w : World) (H : Hid (hiOf a b = h ∧ loOf a b = l)) (ha : Hid (smallB a = true)) (hb : Hid (smallB b = true)) :
    Calls Try.prog 26 #[.int .i64 a, .int .i64 b] w fun e w' => e = .returned (.tuple #[.int .i64 h, .int .u64 l]) ∧ w = w' := by
  obtain ⟨rfl, rfl⟩ := H.out
  exact product_any a b w ha.out hb.out

set_option maxHeartbeats 800000 in
theorem cmpI_any (p q : Int) (w : World) :
    Calls Try.prog 27 #[.int .i64 p, .int .i64 q] w fun e w' => e = .returned (.int .i64 (cmp3 p q)) ∧ w = w' := by
  by_cases h1 : p < q
  · have H := Lib.hid (cmp3_lt h1)
    go_enter Try.func27, Try.ntmps27
    go_wp2
    go_ret
    exact ⟨ret_int H.out.symm, rfl⟩
  · by_cases h2 : q < p
    · have H := Lib.hid (cmp3_gt h2)
      go_enter Try.func27, Try.ntmps27
      go_wp2
      go_ret
      exact ⟨ret_int H.out.symm, rfl⟩
    · have H := Lib.hid (cmp3_eq (show p = q by omega))
      go_enter Try.func27, Try.ntmps27
      go_wp2
      go_ret
      exact ⟨ret_int H.out.symm, rfl⟩
set_option maxHeartbeats 800000 in
theorem cmpU_any (p q : Int) (w : World) :
    Calls Try.prog 28 #[.int .u64 p, .int .u64 q] w fun e w' => e = .returned (.int .i64 (cmp3 p q)) ∧ w = w' := by
  by_cases h1 : p < q
  · have H := Lib.hid (cmp3_lt h1)
    go_enter Try.func28, Try.ntmps28
    go_wp2
    go_ret
    exact ⟨ret_int H.out.symm, rfl⟩
  · by_cases h2 : q < p
    · have H := Lib.hid (cmp3_gt h2)
      go_enter Try.func28, Try.ntmps28
      go_wp2
      go_ret
      exact ⟨ret_int H.out.symm, rfl⟩
    · have H := Lib.hid (cmp3_eq (show p = q by omega))
      go_enter Try.func28, Try.ntmps28
      go_wp2
      go_ret
      exact ⟨ret_int H.out.symm, rfl⟩

set_option maxHeartbeats 800000 in
theorem cmp_yes (a b c d : Int) (w : World) (h : cmpOk a b c d = true) :
    Calls Try.prog 15 #[.int .i64 a, .int .i64 b, .int .i64 c, .int .i64 d] w fun e w' => e = .returned (.tuple #[.int .i64 (cmpV a b c d), .int .i64 (cmpE a b c d)]) ∧ w = w' := by
  have ho := cmp_ok h
  rw [ho.1, ho.2, cmp3_words]
  obtain ⟨ha, hb, hc, hd⟩ := (cmpOk_iff a b c d).1 h
  clear ho h
  have HA := Lib.hid ha
  have HB := Lib.hid hb
  have HC := Lib.hid hc
  have HD := Lib.hid hd
  have hP : a * b / 18446744073709551616 = hiOf a b ∧ a * b % 18446744073709551616 = loOf a b := ⟨rfl, rfl⟩
  have hQ : c * d / 18446744073709551616 = hiOf c d ∧ c * d % 18446744073709551616 = loOf c d := ⟨rfl, rfl⟩
  rw [hP.1, hP.2, hQ.1, hQ.2]
  clear hP hQ
  obtain ⟨p, hp⟩ : ∃ p, hiOf a b = p := ⟨_, rfl⟩
  obtain ⟨p', hp'⟩ : ∃ p', loOf a b = p' := ⟨_, rfl⟩
  obtain ⟨q, hq⟩ : ∃ q, hiOf c d = q := ⟨_, rfl⟩
  obtain ⟨q', hq'⟩ : ∃ q', loOf c d = q' := ⟨_, rfl⟩
  rw [hp, hp', hq, hq']
  have HP := Lib.hid (show hiOf a b = p ∧ loOf a b = p' from ⟨hp, hp'⟩)
  have HQ := Lib.hid (show hiOf c d = q ∧ loOf c d = q' from ⟨hq, hq'⟩)
  clear hp hp' hq hq'
  by_cases e : p = q
  · rw [if_pos e]
    subst e
    go_enter Try.func15, Try.ntmps15
    go_wp2_with (first | (go_at_call 25; refine (small_any _ _).mono ?_; rintro e w' ⟨rfl, rfl⟩) | (go_at_call 26; (first | (with_reducible refine (product_at a b p p' _ HP HA HB).mono ?_) | (with_reducible refine (product_at c d p q' _ HQ HC HD).mono ?_)); rintro e w' ⟨rfl, rfl⟩) | (go_at_call 28; refine (cmpU_any _ _ _).mono ?_; rintro e w' ⟨rfl, rfl⟩))
    go_ret2
    exact ⟨rfl, rfl⟩
  · rw [if_neg e]
    have e1 : (p == q) = false := beq_eq_false_iff_ne.2 e
    have e2 : (p != q) = true := bne_iff_ne.2 e
    clear e
    go_enter Try.func15, Try.ntmps15
    go_wp2_with (first | (go_at_call 25; refine (small_any _ _).mono ?_; rintro e w' ⟨rfl, rfl⟩) | (go_at_call 26; (first | (with_reducible refine (product_at a b p p' _ HP HA HB).mono ?_) | (with_reducible refine (product_at c d q q' _ HQ HC HD).mono ?_)); rintro e w' ⟨rfl, rfl⟩) | (go_at_call 27; refine (cmpI_any _ _ _).mono ?_; rintro e w' ⟨rfl, rfl⟩))
    go_ret2
    exact ⟨rfl, rfl⟩
set_option maxHeartbeats 800000 in
theorem cmp_bad (a b c d : Int) (w : World) (h : cmpOk a b c d = false) :
    Calls Try.prog 15 #[.int .i64 a, .int .i64 b, .int .i64 c, .int .i64 d] w fun e w' => e = .returned (.tuple #[.int .i64 (cmpV a b c d), .int .i64 (cmpE a b c d)]) ∧ w = w' := by
  have ho := cmp_no h
  rw [ho.1, ho.2]
  clear ho
  by_cases ha : smallB a = false
  · clear h
    go_enter Try.func15, Try.ntmps15
    go_wp2_with (go_at_call 25; refine (small_any _ _).mono ?_; rintro e w' ⟨rfl, rfl⟩)
    go_ret2
    exact ⟨rfl, rfl⟩
  have ha := Bool.of_not_eq_false ha
  by_cases hb : smallB b = false
  · clear h
    go_enter Try.func15, Try.ntmps15
    go_wp2_with (go_at_call 25; refine (small_any _ _).mono ?_; rintro e w' ⟨rfl, rfl⟩)
    go_ret2
    exact ⟨rfl, rfl⟩
  have hb := Bool.of_not_eq_false hb
  by_cases hc : smallB c = false
  · clear h
    go_enter Try.func15, Try.ntmps15
    go_wp2_with (go_at_call 25; refine (small_any _ _).mono ?_; rintro e w' ⟨rfl, rfl⟩)
    go_ret2
    exact ⟨rfl, rfl⟩
  have hc := Bool.of_not_eq_false hc
  have hd : smallB d = false := by
    unfold cmpOk at h; rw [ha, hb, hc] at h; simpa using h
  clear h
  go_enter Try.func15, Try.ntmps15
  go_wp2_with (go_at_call 25; refine (small_any _ _).mono ?_; rintro e w' ⟨rfl, rfl⟩)
  go_ret2
  exact ⟨rfl, rfl⟩
theorem cmp_any (a b c d : Int) (w : World) :
    Calls Try.prog 15 #[.int .i64 a, .int .i64 b, .int .i64 c, .int .i64 d] w fun e w' => e = .returned (.tuple #[.int .i64 (cmpV a b c d), .int .i64 (cmpE a b c d)]) ∧ w = w' := by
  by_cases h : cmpOk a b c d = true
  · exact cmp_yes a b c d w h
  · exact cmp_bad a b c d w (Bool.of_not_eq_true h)
theorem cmp_at (a b c d v f : Int) (w : World) (H : Hid (cmpV a b c d = v ∧ cmpE a b c d = f)) :
    Calls Try.prog 15 #[.int .i64 a, .int .i64 b, .int .i64 c, .int .i64 d] w fun e w' => e = .returned (.tuple #[.int .i64 v, .int .i64 f]) ∧ w = w' := by
  obtain ⟨rfl, rfl⟩ := H.out
  exact cmp_any a b c d w
end Go.Proofs.Ytmliajkbknjacaa.NumW
