/-
  Walk of Compare of the specification of package num: it returns what the program's function returns, for every input, at every world. Condition: none.
-/
import Derived.Test.YtnakacflaaelnaaNumA
import Derived.Test.YtnakacflaaelnaaNumPlainD
import Derived.RowKit3
namespace Go.Proofs.Ytnakacflaaelnaa.NumW
open Go.ChangeShapes Go.WideShapes Go.ChangeAt Go.RowKit
open NumP

theorem order_any (p q : Int) (w : World) :
    Calls Try.prog 52 #[.int .i64 p, .int .i64 q] w fun e w' => e = .returned (.int .i64 (cmp3 p q)) ∧ w = w' := by
  by_cases h1 : p < q
  · have H := Lib.hid (cmp3_lt h1)
    go_enter Try.func52, Try.ntmps52
    go_wp2
    go_ret
    exact ⟨ret_int H.out.symm, rfl⟩
  · by_cases h2 : q < p
    · have H := Lib.hid (cmp3_gt h2)
      go_enter Try.func52, Try.ntmps52
      go_wp2
      go_ret
      exact ⟨ret_int H.out.symm, rfl⟩
    · have H := Lib.hid (cmp3_eq (show p = q by omega))
      go_enter Try.func52, Try.ntmps52
      go_wp2
      go_ret
      exact ⟨ret_int H.out.symm, rfl⟩
theorem order_at (p q v : Int) (w : World) (H : Hid (cmp3 p q = v)) :
    Calls Try.prog 52 #[.int .i64 p, .int .i64 q] w fun e w' => e = .returned (.int .i64 v) ∧ w = w' := by
  obtain rfl := H.out
  exact order_any p q w
theorem sign_any (a b : Int) (w : World) :
    Calls Try.prog 51 #[.int .i64 a, .int .i64 b] w fun e w' => e = .returned (.int .i64 (cmp3 (a * b) 0)) ∧ w = w' := by
  rw [← sign_prod]
  have hb := sign_bd a b
  obtain ⟨x, hx⟩ : ∃ x, cmp3 a 0 = x := ⟨_, rfl⟩
  obtain ⟨y, hy⟩ : ∃ y, cmp3 b 0 = y := ⟨_, rfl⟩
  rw [hx, hy] at hb ⊢
  have HX := Lib.hid hx
  have HY := Lib.hid hy
  clear hx hy
  go_enter Try.func51, Try.ntmps51
  go_wp2_with (go_at_call 52; (first | (with_reducible refine (order_at a 0 x _ HX).mono ?_) | (with_reducible refine (order_at b 0 y _ HY).mono ?_)); rintro e w' ⟨rfl, rfl⟩)
  go_ret
  exact ⟨rfl, rfl⟩
theorem sign_at (a b v : Int) (w : World) (H : Hid (cmp3 (a * b) 0 = v)) :
    Calls Try.prog 51 #[.int .i64 a, .int .i64 b] w fun e w' => e = .returned (.int .i64 v) ∧ w = w' := by
  obtain rfl := H.out
  exact sign_any a b w
theorem size_at (n v : Int) (w : World) (H : Hid ((n.natAbs : Int) = v)) (h0 : -1125899906842624 ≤ n) (h1 : n ≤ 1125899906842624) :
    Calls Try.prog 54 #[.int .i64 n] w fun e w' => e = .returned (.int .i64 v) ∧ w = w' := by
  obtain rfl := H.out
  exact size_any n w h0 h1

/-- What lies in memory behind a call of wide. -/
def wideCells (a b : Int) : Array Value := #[.int .i64 (limbH (a * b)), .int .i64 (limbM (a * b)), .int .i64 (limbL (a * b))]
set_option maxHeartbeats 800000 in
theorem wide_any (a b : Int) (w : World) (ha : 0 ≤ a ∧ a ≤ 1125899906842624) (hb : 0 ≤ b ∧ b ≤ 1125899906842624) :
    Calls Try.prog 53 #[.int .i64 a, .int .i64 b] w fun e w' => e = .returned (.agg #[.int .i64 (limbH (a * b)), .int .i64 (limbM (a * b)), .int .i64 (limbL (a * b))]) ∧
      w' = w.alloc (.cells #[.int .i64 (limbH (a * b)), .int .i64 (limbM (a * b)), .int .i64 (limbL (a * b))] 66) := by
  obtain ⟨h1, h2, h3, h4⟩ := wide_bds ha hb
  have H := Lib.hid (wide_eq ha hb)
  rw [← H.out.1, ← H.out.2.1, ← H.out.2.2]
  go_enter Try.func53, Try.ntmps53
  go_wp2
  exact bodyPost_ret (by simp [results, Try.results53, go_sem]) rfl ⟨rfl, rfl⟩
theorem wide_at (a b h m l : Int) (w : World) (H : Hid (limbH (a * b) = h ∧ limbM (a * b) = m ∧ limbL (a * b) = l)) (ha : 0 ≤ a ∧ a ≤ 1125899906842624) (hb : 0 ≤ b ∧ b ≤ 1125899906842624) :
    Calls Try.prog 53 #[.int .i64 a, .int .i64 b] w fun e w' => e = .returned (.agg #[.int .i64 h, .int .i64 m, .int .i64 l]) ∧ w' = w.alloc (.cells #[.int .i64 h, .int .i64 m, .int .i64 l] 66) := by
  obtain ⟨rfl, rfl, rfl⟩ := H.out
  exact wide_any a b w ha hb

set_option maxHeartbeats 1600000 in
theorem rcmp_bad (a b c d : Int) (w : World) (h : cmpOk a b c d = false) :
    Calls Try.prog 39 #[.int .i64 a, .int .i64 b, .int .i64 c, .int .i64 d] w fun e w' => e = .returned (.tuple #[.int .i64 (cmpV a b c d), .int .i64 (cmpE a b c d)]) ∧ Grown w w' := by
  have ho := cmp_no h
  rw [ho.1, ho.2]
  clear ho
  have t : smallB a = false ∨ smallB a = true ∧ smallB b = false ∨ smallB a = true ∧ smallB b = true ∧ smallB c = false ∨ smallB a = true ∧ smallB b = true ∧ smallB c = true ∧ smallB d = false := by
    unfold cmpOk at h
    revert h
    cases smallB a <;> cases smallB b <;> cases smallB c <;> cases smallB d <;> simp
  clear h
  rcases t with t | ⟨t, t1⟩ | ⟨t, t1, t2⟩ | ⟨t, t1, t2, t3⟩
  all_goals
    go_enter Try.func39, Try.ntmps39
    go_wp2_with (go_at_call 50; refine (rsmall_any _ _).mono ?_; rintro e w' ⟨rfl, rfl⟩)
    go_ret2
    exact ⟨rfl, Grown.refl _⟩

set_option maxRecDepth 100000 in
set_option maxHeartbeats 1600000 in
theorem rcmp_signs (a b c d : Int) (w : World) (h : cmpOk a b c d = true) (hs : cmp3 (a * b) 0 ≠ cmp3 (c * d) 0) :
    Calls Try.prog 39 #[.int .i64 a, .int .i64 b, .int .i64 c, .int .i64 d] w fun e w' => e = .returned (.tuple #[.int .i64 (cmpV a b c d), .int .i64 (cmpE a b c d)]) ∧ Grown w w' := by
  rw [(cmp_ok h).2, (cmpV_spec h).1 hs]
  obtain ⟨ha, hb, hc, hd⟩ := (cmpOk_iff a b c d).1 h
  obtain ⟨s, es⟩ : ∃ s, cmp3 (a * b) 0 = s := ⟨_, rfl⟩
  obtain ⟨t, et⟩ : ∃ t, cmp3 (c * d) 0 = t := ⟨_, rfl⟩
  rw [es, et] at hs ⊢
  have HS := Lib.hid es
  have HT := Lib.hid et
  have e1 : (s != t) = true := bne_iff_ne.2 hs
  clear es et hs h
  go_enter Try.func39, Try.ntmps39
  go_wp2_with (first | (go_at_call 50; refine (rsmall_any _ _).mono ?_; rintro e w' ⟨rfl, rfl⟩) | (go_at_call 51; (first | (with_reducible refine (sign_at a b s _ HS).mono ?_) | (with_reducible refine (sign_at c d t _ HT).mono ?_)); rintro e w' ⟨rfl, rfl⟩) | (go_at_call 52; refine (order_any _ _ _).mono ?_; rintro e w' ⟨rfl, rfl⟩))
  go_ret2
  exact ⟨rfl, Grown.refl _⟩

theorem one_bd {s v : Int} (hs : -1 ≤ s ∧ s ≤ 1) (hv : -1 ≤ v ∧ v ≤ 1) : -1 ≤ s * v ∧ s * v ≤ 1 := mul_bd (m := 1) hs hv
set_option maxRecDepth 100000 in
set_option maxHeartbeats 4000000 in
theorem rcmp_core (a b c d s x y z u p0 p1 p2 q0 q1 q2 v : Int) (w : World) (ha : smallB a = true) (hb : smallB b = true) (hc : smallB c = true) (hd : smallB d = true)
    (HS : Hid (cmp3 (a * b) 0 = s)) (HT : Hid (cmp3 (c * d) 0 = s)) (HX : Hid ((a.natAbs : Int) = x)) (HY : Hid ((b.natAbs : Int) = y)) (HZ : Hid ((c.natAbs : Int) = z)) (HU : Hid ((d.natAbs : Int) = u))
    (HP : Hid (limbH (x * y) = p0 ∧ limbM (x * y) = p1 ∧ limbL (x * y) = p2)) (HQ : Hid (limbH (z * u) = q0 ∧ limbM (z * u) = q1 ∧ limbL (z * u) = q2))
    (t : (p0 != q0) = true ∧ Hid (cmp3 p0 q0 = v) ∨ (p0 != q0) = false ∧ (p1 != q1) = true ∧ Hid (cmp3 p1 q1 = v) ∨ (p0 != q0) = false ∧ (p1 != q1) = false ∧ Hid (cmp3 p2 q2 = v))
    (hb1 : -1 ≤ s * v ∧ s * v ≤ 1) :
    Calls Try.prog 39 #[.int .i64 a, .int .i64 b, .int .i64 c, .int .i64 d] w fun e w' => e = .returned (.tuple #[.int .i64 (s * v), .int .i64 0]) ∧ Grown w w' := by
  have A1 := (small_iff a).1 ha
  have B1 := (small_iff b).1 hb
  have C1 := (small_iff c).1 hc
  have D1 := (small_iff d).1 hd
  have X1 : 0 ≤ x ∧ x ≤ 1125899906842624 := by have := HX.out; omega
  have Y1 : 0 ≤ y ∧ y ≤ 1125899906842624 := by have := HY.out; omega
  have Z1 : 0 ≤ z ∧ z ≤ 1125899906842624 := by have := HZ.out; omega
  have U1 : 0 ≤ u ∧ u ≤ 1125899906842624 := by have := HU.out; omega
  rcases t with ⟨t1, HV⟩ | ⟨t1, t2, HV⟩ | ⟨t1, t2, HV⟩
  all_goals
    go_enter Try.func39, Try.ntmps39
    go_wp2_with (first | (go_at_call 50; refine (rsmall_any _ _).mono ?_; rintro e w' ⟨rfl, rfl⟩) | (go_at_call 51; (first | (with_reducible refine (sign_at a b s _ HS).mono ?_) | (with_reducible refine (sign_at c d s _ HT).mono ?_)); rintro e w' ⟨rfl, rfl⟩) | (go_at_call 54; (first | (with_reducible refine (size_at a x _ HX (by omega) (by omega)).mono ?_) | (with_reducible refine (size_at b y _ HY (by omega) (by omega)).mono ?_) | (with_reducible refine (size_at c z _ HZ (by omega) (by omega)).mono ?_) | (with_reducible refine (size_at d u _ HU (by omega) (by omega)).mono ?_)); rintro e w' ⟨rfl, rfl⟩) | (go_at_call 53; (first | (with_reducible refine (wide_at x y p0 p1 p2 _ HP X1 Y1).mono ?_) | (with_reducible refine (wide_at z u q0 q1 q2 _ HQ Z1 U1).mono ?_)); rintro e w' ⟨rfl, rfl⟩) | (go_at_call 52; refine (order_at _ _ v _ HV).mono ?_; rintro e w' ⟨rfl, rfl⟩))
    go_ret2
    exact ⟨rfl, by repeat (first | exact Grown.refl _ | apply Grown.alloc)⟩

theorem rcmp_sizes (a b c d : Int) (w : World) (h : cmpOk a b c d = true) (hs : cmp3 (a * b) 0 = cmp3 (c * d) 0) :
    Calls Try.prog 39 #[.int .i64 a, .int .i64 b, .int .i64 c, .int .i64 d] w fun e w' => e = .returned (.tuple #[.int .i64 (cmpV a b c d), .int .i64 (cmpE a b c d)]) ∧ Grown w w' := by
  rw [(cmp_ok h).2, (cmpV_spec h).2 hs, cmp3_limbs ((a.natAbs : Int) * (b.natAbs : Int))]
  obtain ⟨ha, hb, hc, hd⟩ := (cmpOk_iff a b c d).1 h
  have bd := fun p q => one_bd (cmp3_bd (a * b) 0) (cmp3_bd p q)
  refine rcmp_core a b c d _ _ _ _ _ _ _ _ _ _ _ _ w ha hb hc hd (Lib.hid rfl) (Lib.hid hs.symm) (Lib.hid rfl) (Lib.hid rfl) (Lib.hid rfl) (Lib.hid rfl) (Lib.hid ⟨rfl, rfl, rfl⟩) (Lib.hid ⟨rfl, rfl, rfl⟩) ?_ ?_
  · split
    · rename_i e0
      split
      · rename_i e1
        exact Or.inr (Or.inr ⟨by rw [e0]; simp, by rw [e1]; simp, Lib.hid rfl⟩)
      · rename_i e1
        exact Or.inr (Or.inl ⟨by rw [e0]; simp, bne_iff_ne.2 e1, Lib.hid rfl⟩)
    · rename_i e0
      exact Or.inl ⟨bne_iff_ne.2 e0, Lib.hid rfl⟩
  · split
    · split
      · exact bd _ _
      · exact bd _ _
    · exact bd _ _
theorem rcmp_any (a b c d : Int) (w : World) :
    Calls Try.prog 39 #[.int .i64 a, .int .i64 b, .int .i64 c, .int .i64 d] w fun e w' => e = .returned (.tuple #[.int .i64 (cmpV a b c d), .int .i64 (cmpE a b c d)]) ∧ Grown w w' := by
  by_cases h : cmpOk a b c d = true
  · by_cases hs : cmp3 (a * b) 0 = cmp3 (c * d) 0
    · exact rcmp_sizes a b c d w h hs
    · exact rcmp_signs a b c d w h hs
  · exact rcmp_bad a b c d w (Bool.of_not_eq_true h)
theorem rcmp_at (a b c d v f : Int) (w : World) (H : Hid (cmpV a b c d = v ∧ cmpE a b c d = f)) :
    Calls Try.prog 39 #[.int .i64 a, .int .i64 b, .int .i64 c, .int .i64 d] w fun e w' => e = .returned (.tuple #[.int .i64 v, .int .i64 f]) ∧ Grown w w' := by
  obtain ⟨rfl, rfl⟩ := H.out
  exact rcmp_any a b c d w
end Go.Proofs.Ytnakacflaaelnaa.NumW
