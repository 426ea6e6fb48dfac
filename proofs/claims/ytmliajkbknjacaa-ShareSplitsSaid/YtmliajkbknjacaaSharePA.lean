/-
  Walks of the program's isAmount, weigh, exact and comparisons of package share. Condition: none.
-/
import Derived.Test.YtmliajkbknjacaaShareB
import Derived.Test.YtmliajkbknjacaaDiv64
import Derived.Test.YtmliajkbknjacaaNumShelf
import Derived.Test.YtmliajkbknjacaaStableE
namespace Go.Proofs.Ytmliajkbknjacaa.ShaW
open Go.ChangeShapes Go.WideShapes Go.ChangeAt Go.RowKit
open PairW CelW MchW ShaP
open AsgP (su su_zero su_succ)
set_option maxRecDepth 100000 in
theorem pamount_at (x : Int) (b : Bool) (w : World) (H : Hid (okW x = b)) :
    Calls Try.prog 16 #[.int .i64 x] w fun e w' => e = .returned (.bool b) ∧ w = w' := by
  unfold okW at H
  obtain rfl := H.out
  by_cases h0 : 0 ≤ x
  · go_enter Try.func16, Try.ntmps16
    go_wp2
    go_ret
    exact ⟨rfl, rfl⟩
  · go_enter Try.func16, Try.ntmps16
    go_wp2
    go_ret
    have e : decide (0 ≤ x) = false := decide_eq_false (by omega)
    exact ⟨by rw [e, Bool.false_and]; rfl, rfl⟩
/-- What weigh returns beside the error. -/
def weiS (ws : List Int) : Int := if splE 0 ws = 0 then sumW ws else 0
theorem okW_zero : okW 0 = true := by decide
theorem splE_any {t : Int} (h : okW t = true) (ws : List Int) : splE t ws = splE 0 ws := by
  unfold splE
  rw [h, okW_zero]
set_option maxRecDepth 100000 in
set_option maxHeartbeats 4000000 in
theorem pweigh_at (ws : List Int) (v : Value) (f s0 : Int) (w : World) (HV : Hid (Cel w v (cellsI ws))) (HF : Hid (splE 0 ws = f)) (HM : Hid (weiS ws = s0)) :
    Calls Try.prog 17 #[v] w fun e w' => e = .returned (.tuple #[.int .i64 s0, .int .i64 f]) ∧ w = w' := by
  obtain ⟨A, cap, rfl, h1, h2, h3⟩ := cel_int HV.out
  unfold maxLen at h2
  obtain ⟨n, hn⟩ : ∃ n, ws.length = n := ⟨_, rfl⟩
  rw [hn] at h1 h3 ⊢
  have HN := Lib.hid hn
  have H3 := Lib.hid h3
  have bad : f ≠ 0 → s0 = 0 := fun e => by rw [← HM.out]; exact if_neg (by rw [HF.out]; exact e)
  have BAD := Lib.hid bad
  clear hn h3 bad
  by_cases hn0 : n = 0
  · obtain rfl : 4 = f := by rw [← HF.out]; exact (splE_empty okW_zero (by rw [HN.out]; exact hn0)).symm
    obtain rfl := BAD.out (by decide)
    subst hn0
    go_enter Try.func17, Try.ntmps17
    go_wp2
    go_ret2
    exact ⟨rfl, rfl⟩
  · have d0 : ((n : Int) == 0) = false := beq_eq_false_iff_ne.2 (by omega)
    by_cases hn1 : 512 < n
    · obtain rfl : 3 = f := by rw [← HF.out]; exact (splE_full okW_zero (by rw [HN.out]; exact hn1)).symm
      obtain rfl := BAD.out (by decide)
      have d1 : (512 : Int) < n := by omega
      go_enter Try.func17, Try.ntmps17
      go_wp2
      go_ret2
      exact ⟨rfl, rfl⟩
    · have d1 : ¬ (512 : Int) < n := by omega
      have hn2 : n ≤ 512 := by omega
      have hnp : 0 < n := by omega
      clear hn1 hn0
      go_enter Try.func17, Try.ntmps17
      go_wp2
      go_loopw [4, 6, 15] (fun v4 _ v15 wr => ∃ (i : Nat) (s : Int), v4 = .int .i64 s ∧ v15 = .int .i64 (i : Int) ∧ i ≤ n ∧ w = wr ∧ su (wF ws) i = s ∧ ∀ k, k < i → okW (wF ws k) = true) (fun _ _ v15 _ => n - (intOf v15).toNat)
      case atStart => exact ⟨0, 0, rfl, rfl, Nat.zero_le _, rfl, rfl, fun k h => absurd h (Nat.not_lt_zero _)⟩
      case round =>
        obtain ⟨i, s, rfl, rfl, hi, rfl, hs, hok⟩ := hrel
        have HSU := Lib.hid hs
        have HOK := Lib.hid hok
        have hsb := su_w (ws := ws) (k := i) fun k hk => okW_iff.1 (hok k hk)
        rw [hs] at hsb
        obtain ⟨hs0, hs1⟩ := hsb
        have hs2 : s ≤ 562949953421312 := by omega
        clear hs hok hs1
        by_cases hlt : i < n
        · have hin : (i : Int) < n := by omega
          obtain ⟨g, off, rfl, h4⟩ := H3.out hnp
          have e0 := h4 i _ (wF_cell (by rw [HN.out]; exact hlt))
          obtain ⟨x, hx⟩ : ∃ x, wF ws i = x := ⟨_, rfl⟩
          rw [hx] at e0
          have HX := Lib.hid hx
          obtain ⟨b1, hb1⟩ : ∃ b, okW x = b := ⟨_, rfl⟩
          have hamt := pamount_at x b1 w (Lib.hid hb1)
          have HB1 := Lib.hid hb1
          clear hb1 hx h4
          cases b1 with
          | false =>
            obtain rfl : 1 = f := by rw [← HF.out]; exact (splE_w okW_zero (by rw [HN.out]; exact hnp) (by rw [HN.out]; exact hn2) (all_no (by rw [HN.out]; exact hlt) (by rw [HX.out]; exact HB1.out))).symm
            obtain rfl := BAD.out (by decide)
            go_wp2_with (go_at_call 16; refine hamt.mono ?_; rintro e w1 ⟨rfl, rfl⟩)
            go_ret2
            exact ⟨rfl, rfl⟩
          | true =>
            obtain ⟨hx0, hx1⟩ := okW_iff.1 HB1.out
            have HNX := Lib.hid (show su (wF ws) (i + 1) = s + x by rw [su_succ, HSU.out, HX.out])
            go_wp2_with (go_at_call 16; refine hamt.mono ?_; rintro e w1 ⟨rfl, rfl⟩)
            go_roundw
            case rel => exact ⟨i + 1, s + x, by go_num, by go_num, hlt, trivial, HNX.out, fun k hk => by
              by_cases e : k = i
              · subst e; rw [HX.out]; exact HB1.out
              · exact HOK.out k (by omega)⟩
            case measure => simp [intOf]; omega
        · obtain rfl : n = i := by omega
          have HALL := Lib.hid (all_mk (ws := ws) (by rw [HN.out]; exact HOK.out))
          have HSW := Lib.hid (show sumW ws = s by unfold sumW; rw [HN.out]; exact HSU.out)
          clear HOK
          by_cases hz : s = 0
          · subst hz
            obtain rfl : 11 = f := by rw [← HF.out]; exact (splE_zero okW_zero (by rw [HN.out]; exact hnp) (by rw [HN.out]; exact hn2) HALL.out HSW.out).symm
            obtain rfl := BAD.out (by decide)
            go_wp2
            go_ret2
            exact ⟨rfl, rfl⟩
          · have d2 : (s == 0) = false := beq_eq_false_iff_ne.2 hz
            by_cases ho : 1099511627776 < s
            · obtain rfl : 12 = f := by rw [← HF.out]; exact (splE_over okW_zero (by rw [HN.out]; exact hnp) (by rw [HN.out]; exact hn2) HALL.out (by rw [HSW.out]; exact ho)).symm
              obtain rfl := BAD.out (by decide)
              go_wp2
              go_ret2
              exact ⟨rfl, rfl⟩
            · have hfe := splE_fine okW_zero (by rw [HN.out]; exact hnp) (by rw [HN.out]; exact hn2) HALL.out (by rw [HSW.out]; exact hz) (by rw [HSW.out]; omega)
              obtain rfl : 0 = f := by rw [← HF.out]; exact hfe.symm
              have HS0 := Lib.hid (show s0 = s by rw [← HM.out]; unfold weiS; rw [if_pos hfe]; exact HSW.out)
              clear hfe
              go_wp2
              go_ret2
              exact ⟨by rw [HS0.out]; rfl, rfl⟩
set_option maxRecDepth 100000 in
set_option maxHeartbeats 2000000 in
theorem pexact_at (t x s q r : Int) (w : World) (ht : 0 ≤ t ∧ t ≤ 1099511627776) (hx : 0 ≤ x ∧ x ≤ s) (hs : 1 ≤ s ∧ s ≤ 1099511627776) (HQ : Hid (t * x / s = q)) (HR : Hid (t * x % s = r)) :
    Calls Try.prog 18 #[.int .i64 t, .int .i64 x, .int .i64 s] w fun e w' => e = .returned (.tuple #[.int .i64 q, .int .i64 r]) ∧ Drew w w' := by
  obtain ⟨t, rfl⟩ : ∃ m : Nat, t = m := ⟨t.toNat, by omega⟩
  obtain ⟨x, rfl⟩ : ∃ m : Nat, x = m := ⟨x.toNat, by omega⟩
  obtain ⟨s, rfl⟩ : ∃ m : Nat, s = m := ⟨s.toNat, by omega⟩
  have ht1 : t ≤ 1099511627776 := by omega
  have hx1 : x ≤ s := by omega
  have hs0 : 1 ≤ s := by omega
  have hs1 : s ≤ 1099511627776 := by omega
  have hp : t * x ≤ 1099511627776 * s := Nat.mul_le_mul ht1 hx1
  obtain ⟨p, hpe⟩ : ∃ p, t * x = p := ⟨_, rfl⟩
  obtain ⟨a, ha⟩ : ∃ a, p / s = a := ⟨_, rfl⟩
  obtain ⟨b, hb⟩ : ∃ b, p % s = b := ⟨_, rfl⟩
  have hq : (a : Int) = q := by rw [← HQ.out, ← ha, ← hpe]; simp
  have hr : (b : Int) = r := by rw [← HR.out, ← hb, ← hpe]; simp
  subst hq hr
  obtain ⟨hi, hhi⟩ : ∃ hi, p / 18446744073709551616 = hi := ⟨_, rfl⟩
  obtain ⟨lo, hlo⟩ : ∃ lo, p % 18446744073709551616 = lo := ⟨_, rfl⟩
  rw [hpe] at hp
  have hpl : hi * 18446744073709551616 + lo = p := by omega
  have hm := Try.bits_Mul64 t x (by omega) (by omega) w
  rw [hpe, hhi, hlo] at hm
  have hd := fun w => BitW.div64_at hi lo s a b w (by omega) (by omega) (by omega) (Lib.hid (by rw [hpl]; exact ha)) (Lib.hid (by rw [hpl]; exact hb))
  have ha1 : a ≤ 1099511627776 := by
    rw [← ha]
    exact Nat.div_le_of_le_mul (by rw [Nat.mul_comm]; exact hp)
  have hb1 : b < s := by rw [← hb]; exact Nat.mod_lt _ (by omega)
  have HD := Lib.hid hd
  have HMU := Lib.hid hm
  have k1 : IntKind.u64.wrap (t : Int) = (t : Int) := BitW.wrap_u _ _ rfl (by omega)
  have k2 : IntKind.u64.wrap (x : Int) = (x : Int) := BitW.wrap_u _ _ rfl (by omega)
  have k3 : IntKind.u64.wrap (s : Int) = (s : Int) := BitW.wrap_u _ _ rfl (by omega)
  have k4 : IntKind.i64.wrap (a : Int) = (a : Int) := IntWalk.i64_in _ (by omega)
  have k5 : IntKind.i64.wrap (b : Int) = (b : Int) := IntWalk.i64_in _ (by omega)
  clear hd hm hpl hhi hlo hp hpe ha hb HQ HR ht hx hs
  go_enter Try.func18, Try.ntmps18
  go_wp2_with (first | (go_at_call 29; refine HMU.out.mono ?_; rintro e w1 ⟨rfl, rfl⟩) | (go_at_call 30; refine (HD.out _).mono ?_; rintro e w2 ⟨rfl, hw2⟩))
  go_ret2
  exact ⟨rfl, hw2⟩
/-! ### Comparisons -/
/-- The comparison of numbers: the greater first. -/
def cfR (R : Nat → Int) (x y : Nat) : Int := if R y < R x then -1 else if R x < R y then 1 else 0
set_option maxRecDepth 100000 in
theorem pcmp_at (p q v : Int) (w : World) (H : Hid ((if p < q then -1 else if q < p then 1 else 0) = v)) :
    Calls Try.prog 21 #[.int .i64 p, .int .i64 q] w fun e w' => e = .returned (.int .i64 v) ∧ w = w' := by
  obtain rfl := H.out
  clear H
  rcases Int.lt_trichotomy p q with h | h | h
  · rw [if_pos h]
    go_enter Try.func21, Try.ntmps21
    go_wp2
    go_ret
    exact ⟨rfl, rfl⟩
  · subst h
    rw [if_neg (by omega), if_neg (by omega)]
    go_enter Try.func21, Try.ntmps21
    go_wp2
    go_ret
    exact ⟨rfl, rfl⟩
  · rw [if_neg (by omega), if_pos h]
    have h2 : ¬ p < q := by omega
    go_enter Try.func21, Try.ntmps21
    go_wp2
    go_ret
    exact ⟨rfl, rfl⟩
set_option maxRecDepth 100000 in
theorem pless_at (p q v : Int) (w : World) (H : Hid ((if q < p then -1 else if p < q then 1 else 0) = v)) :
    Calls Try.prog 20 #[.int .i64 p, .int .i64 q] w fun e w' => e = .returned (.int .i64 v) ∧ w = w' := by
  have hc := pcmp_at q p v w H
  go_enter Try.func20, Try.ntmps20
  go_wp2_with (go_at_call 21; refine hc.mono ?_; rintro e w1 ⟨rfl, rfl⟩)
  go_ret
  exact ⟨rfl, rfl⟩
set_option maxRecDepth 100000 in
theorem pleast_at (R : Nat → Int) (g n c cb lb x y : Nat) (v : Int) (w : World) (hx : x < n) (hy : y < n) (HV : Hid (cfR R x y = v)) (h0 : w.cell? ⟨cb, 0, none⟩ = some (.func (.func 20) #[] #[])) (h1 : w.cell? ⟨lb, 0, none⟩ = some (.slice (some ⟨g, 0, none⟩) n c)) (HR : Hid (∀ k, k < n → w.cell? ⟨g, k, none⟩ = some (.int .i64 (R k)))) :
    Calls Try.prog 32 #[.int .i64 (x : Int), .int .i64 (y : Int), .pointer (some ⟨cb, 0, none⟩), .pointer (some ⟨lb, 0, none⟩)] w fun e w' => e = .returned (.int .i64 v) ∧ ∃ m, w' = w.drewN m := by
  have c0 := HR.out x hx
  have c1 := HR.out y hy
  have hv := HV.out
  unfold cfR at hv
  obtain ⟨p, hp⟩ : ∃ p, R x = p := ⟨_, rfl⟩
  obtain ⟨q, hq⟩ : ∃ q, R y = q := ⟨_, rfl⟩
  rw [hp, hq] at hv
  rw [hp] at c0
  rw [hq] at c1
  have hcall := fun w => pless_at p q v w (Lib.hid hv)
  have HCC := Lib.hid (fun N => (hcall (w.drewN N)).mono fun e w' (h : _ ∧ w.drewN N = w') => (⟨h.1, h.2.symm⟩ : _ ∧ w' = w.drewN N))
  have l0 : (x : Int) < n := by omega
  have l1 : (y : Int) < n := by omega
  clear hv hp hq hcall
  go_enter Try.func32, Try.ntmps32
  go_upto_region 1 with (fail)
  go_quiet ((go_at_call 20; exact Calls.quiet_of_same (HCC.out _)))
  go_wp2
  go_ret
  exact ⟨rfl, _, rfl⟩
end Go.Proofs.Ytmliajkbknjacaa.ShaW
