/-
  Walk of the library's math/bits.Div64. Condition: none.
-/
import Derived.Test.YtmliajkbknjacaaBitsShelf
import Derived.Test.YtmliajkbknjacaaDivPlain
import Derived.Deep.DeepCutAuto
import Derived.Deep.CutBlock
import Derived.Deep.CutRange
import Derived.Laws.BitsAllLaws
namespace Go.Proofs.Ytmliajkbknjacaa.BitW
open Go.ChangeShapes Go.WideShapes Go.ChangeAt Go.RowKit Go.Lib PairW DivP
theorem u64_or_low (u z k : Nat) (hu : u < 2 ^ k) (hz : z * 2 ^ k + u < 18446744073709551616) : bits .or .u64 ((z * 2 ^ k : Nat) : Int) (u : Int) = ((z * 2 ^ k + u : Nat) : Int) := by
  have hz0 : z * 2 ^ k < 2 ^ 64 := by omega
  have hu0 : u < 2 ^ 64 := by omega
  have e1 : (BitVec.ofInt 64 (u : Int)).toNat = u := by
    rw [BitVec.toNat_ofInt]
    omega
  have e2 : (BitVec.ofInt 64 ((z * 2 ^ k : Nat) : Int)).toNat = z * 2 ^ k := by
    rw [BitVec.toNat_ofInt]
    omega
  have key : (BitVec.ofInt 64 ((z * 2 ^ k : Nat) : Int) ||| BitVec.ofInt 64 (u : Int)).toNat = z * 2 ^ k + u := by
    rw [BitVec.toNat_or, e1, e2, ← Nat.shiftLeft_eq, Nat.shiftLeft_add_eq_or_of_lt hu]
  show IntKind.u64.wrap ((BitVec.ofInt 64 ((z * 2 ^ k : Nat) : Int) ||| BitVec.ofInt 64 (u : Int)).toNat : Nat) = _
  rw [key, IntKind.wrap_u64]
  omega
theorem u64_mask (x : Nat) : bits .and .u64 (x : Int) 4294967295 = ((x % 4294967296 : Nat) : Int) := by
  have h255 : (BitVec.ofInt 64 4294967295).toNat = 2 ^ 32 - 1 := by decide
  have key : (BitVec.ofInt 64 (x : Int) &&& BitVec.ofInt 64 4294967295).toNat = x % 2 ^ 32 := by
    rw [BitVec.toNat_and, h255, Nat.and_two_pow_sub_one_eq_mod, BitVec.toNat_ofInt]
    omega
  show IntKind.u64.wrap ((BitVec.ofInt 64 (x : Int) &&& BitVec.ofInt 64 4294967295).toNat : Nat) = _
  rw [key, IntKind.wrap_u64]
  omega
theorem wrap_u (x : Int) (y : Nat) (h : x = y) (hy : y < 18446744073709551616) : IntKind.u64.wrap x = (y : Int) := by
  rw [IntKind.wrap_u64, h]
  omega
set_option maxRecDepth 100000 in
set_option maxHeartbeats 2000000 in
theorem div64_any (hi lo y s Y U V n : Nat) (w : World) (h0 : 0 < hi) (hy : hi < y) (hx : y < 18446744073709551616) (HN : Hid (Lib.bitLen y = n)) (hs : 64 - n = s) (hn : 1 ≤ n ∧ n ≤ 64) (HY : Hid (y * 2 ^ s = Y)) (HU : Hid (hi * 2 ^ s + lo / 2 ^ (64 - s) = U)) (HV : Hid (lo * 2 ^ s % 18446744073709551616 = V)) (HF : Hid (Sft hi lo y s Y U V)) (hl : lo / 2 ^ (64 - s) < 2 ^ s) (q r : Nat) (HQ : Hid (q1 Y U V * 4294967296 + q0 Y U V = q)) (HR : Hid (r0 Y U V / 2 ^ s = r)) :
    Calls Try.prog 30 #[.int .u64 hi, .int .u64 lo, .int .u64 y] w fun e w' => e = .returned (.tuple #[.int .u64 q, .int .u64 r]) ∧ w = w' := by
  have hld := fun w => lead64_at y s w (by omega) hx (Lib.hid (by rw [HN.out]; exact hs))
  have HLD := Lib.hid hld
  clear hld
  have hy1 : (hi : Int) < y := by omega
  have hy2 : (y : Int) ≠ 0 := by omega
  have hy3 : (hi : Int) ≠ 0 := by omega
  have F := HF.out
  have hY0 := F.y0
  have hY1 := F.y1
  have hU := F.u1
  have hV := F.v1
  have e1 : IntKind.u64.wrap ((y : Int) * 2 ^ s) = (Y : Int) := wrap_u _ _ (by rw [← HY.out]; simp) hY1
  obtain ⟨a, ha⟩ : ∃ a, Y / 4294967296 = a := ⟨_, rfl⟩
  obtain ⟨b, hb⟩ : ∃ b, Y % 4294967296 = b := ⟨_, rfl⟩
  have e2 : (Y : Int) / 4294967296 = (a : Int) := by omega
  have e3 : bits .and .u64 (Y : Int) 4294967295 = (b : Int) := by rw [u64_mask Y, hb]
  have e4 : bits BinOp.or IntKind.u64 (IntKind.u64.wrap (↑hi * 2 ^ s)) (↑lo / 2 ^ (64 - s)) = (U : Int) := by
    have hh : hi * 2 ^ s < 18446744073709551616 := by have : hi * 2 ^ s ≤ U := (by rw [← HU.out]; exact Nat.le_add_right _ _); omega
    rw [wrap_u _ (hi * 2 ^ s) (by simp) hh]
    have := u64_or_low (lo / 2 ^ (64 - s)) hi s hl (by rw [HU.out]; omega)
    rw [HU.out] at this
    rw [← this]
    simp
  have e5 : IntKind.u64.wrap ((lo : Int) * 2 ^ s) = (V : Int) := by
    rw [IntKind.wrap_u64, ← HV.out]
    simp
  obtain ⟨c, hc⟩ : ∃ c, V / 4294967296 = c := ⟨_, rfl⟩
  obtain ⟨d, hd⟩ : ∃ d, V % 4294967296 = d := ⟨_, rfl⟩
  have e6 : (V : Int) / 4294967296 = (c : Int) := by omega
  have e7 : bits .and .u64 (V : Int) 4294967295 = (d : Int) := by rw [u64_mask V, hd]
  have ha0 : ¬ (a : Int) = 0 := by omega
  have ha1 : (a : Nat) ≠ 0 := by omega
  have e8 : IntKind.u64.wrap ((U : Int).tdiv a) = ((U / a : Nat) : Int) := wrap_u _ _ (by rw [Int.tdiv_eq_ediv_of_nonneg (by omega)]; rfl) (Nat.lt_of_le_of_lt (Nat.div_le_self _ _) (by omega))
  obtain ⟨A, hA⟩ : ∃ A, U / a = A := ⟨_, rfl⟩
  obtain ⟨R, hR⟩ : ∃ R, U % a = R := ⟨_, rfl⟩
  have e9 : IntKind.u64.wrap ((U : Int) - IntKind.u64.wrap ((A : Int) * a)) = (R : Int) := by
    have hm := Nat.div_add_mod U a
    rw [hA, hR, Nat.mul_comm] at hm
    rw [wrap_u ((A : Int) * a) (A * a) (by simp) (by omega)]
    exact wrap_u _ _ (by omega) (by omega)
  have e8b : IntKind.u64.wrap ((U : Int) / a) = ((U / a : Nat) : Int) := wrap_u _ _ rfl (Nat.lt_of_le_of_lt (Nat.div_le_self _ _) (by omega))
  rw [hA] at e8 e8b
  have W1 := F.wd1
  rw [ha, hb, hc] at W1
  have E1 := W1.first
  rw [hA, hR] at E1
  have hRl : R < 4294967296 := by
    have := Nat.mod_lt U (show 0 < a by omega)
    have := W1.a1
    omega
  have hb4 : b < 4294967296 := W1.b1
  have hc4 : c < 4294967296 := W1.c1
  have ha4 : a < 4294967296 := W1.a1
  have W2 := F.wd2
  have EQ1 := rst_eq U c a b
  have hU2 := F.u2_lt
  have hR0 := F.r0_lt
  have hL1 := W1.lt
  unfold q1 q0 at HQ
  unfold r0 at HR hR0
  unfold u2 at HQ HR hR0 W2 hU2
  rw [ha, hb, hc, hd] at HQ HR hR0 W2
  rw [ha, hb, hc] at hU2
  have ey : a * 4294967296 + b = Y := by omega
  rw [ey] at EQ1
  obtain ⟨U2, hU2e⟩ : ∃ z, rst U c a b = z := ⟨_, rfl⟩
  rw [hU2e] at HQ HR hR0 W2 hU2 EQ1
  have EQ2 := rst_eq U2 d a b
  rw [ey] at EQ2
  have hL2 := W2.lt
  obtain ⟨R0, hR0e⟩ : ∃ z, rst U2 d a b = z := ⟨_, rfl⟩
  rw [hR0e] at HR hR0 EQ2
  have hd4 : d < 4294967296 := W2.c1
  have HEQ := Lib.hid EQ1
  have HEQ2 := Lib.hid EQ2
  obtain ⟨A2, hA2⟩ : ∃ A, U2 / a = A := ⟨_, rfl⟩
  obtain ⟨R2, hR2⟩ : ∃ R, U2 % a = R := ⟨_, rfl⟩
  have e9d : IntKind.u64.wrap ((U2 : Int) - IntKind.u64.wrap ((A2 : Int) * a)) = (R2 : Int) := by
    have hm := Nat.div_add_mod U2 a
    rw [hA2, hR2, Nat.mul_comm] at hm
    rw [wrap_u ((A2 : Int) * a) (A2 * a) (by simp) (by omega)]
    exact wrap_u _ _ (by omega) (by omega)
  have e8c : IntKind.u64.wrap ((U2 : Int).tdiv a) = ((U2 / a : Nat) : Int) := wrap_u _ _ (by rw [Int.tdiv_eq_ediv_of_nonneg (by omega)]; rfl) (Nat.lt_of_le_of_lt (Nat.div_le_self _ _) (by omega))
  have e8d : IntKind.u64.wrap ((U2 : Int) / a) = ((U2 / a : Nat) : Int) := wrap_u _ _ rfl (Nat.lt_of_le_of_lt (Nat.div_le_self _ _) (by omega))
  rw [hA2] at e8c e8d
  have F1 := W2.first
  rw [hA2, hR2] at F1
  have HF1 := Lib.hid F1
  have HW2 := Lib.hid W2
  have hRl2 : R2 < 4294967296 := by
    have := Nat.mod_lt U2 (show 0 < a by omega)
    have := W1.a1
    omega
  clear EQ1 EQ2 hA2 hR2 F1 W2 hU2e hR0e ey
  have HW1 := Lib.hid W1
  have HE1 := Lib.hid E1
  clear F W1 E1 hR hA hd hc hb ha hV
  go_enter Try.func30, Try.ntmps30
  go_upto_block 0 with (first | (go_at_call 39; refine (HLD.out _).mono ?_; rintro e w5 ⟨rfl, rfl⟩))
  go_cut [15, 16] from 67 to 85 (fun s15 s16 wx => s15 = .int .u64 (quo U c a b : Nat) ∧ w = wx)
  case first =>
    go_wp2_with fail
    go_loopw [15, 16] (fun x y wr => ∃ q' r' : Nat, x = .int .u64 (q' : Int) ∧ y = .int .u64 (r' : Int) ∧ wr = w ∧ Est U c a b q' r' ∧ r' < 4294967296) (fun x _ _ => (RowKit.intOf x).toNat)
    case atStart => exact ⟨A, R, rfl, rfl, rfl, HE1.out, hRl⟩
    case round =>
      obtain ⟨q', r', rfl, rfl, rfl, est, hr⟩ := hrel
      have HE := Lib.hid est
      clear est
      have hq2 : q' < 18446744073709551616 := by
        have h1 : q' * 1 ≤ q' * a := Nat.mul_le_mul_left _ (by omega)
        have := HE.out.sum
        omega
      obtain ⟨r2, hr2⟩ : ∃ r2, r' + a = r2 := ⟨_, rfl⟩
      have k6 : IntKind.u64.wrap ((r' : Int) + a) = (r2 : Int) := wrap_u _ _ (by omega) (by omega)
      have hstep : quo U c a b < q' → (IntKind.u64.wrap ((q' : Int) - 1) = ((q' - 1 : Nat) : Int) ∧ Est U c a b (q' - 1) r2 ∧ q' - 1 < q') := fun h => ⟨wrap_u _ _ (by omega) (by omega), by rw [← hr2]; exact HE.out.next h, by omega⟩
      have HS := Lib.hid hstep
      clear hstep
      by_cases g0 : 4294967296 ≤ q'
      · have d0 : decide ((4294967296 : Int) ≤ q') = true := decide_eq_true (by omega)
        obtain ⟨k5, hE2, hlt⟩ := HS.out (HW1.out.big g0)
        obtain ⟨q2, hq3⟩ : ∃ z, q' - 1 = z := ⟨_, rfl⟩
        rw [hq3] at k5 hE2 hlt
        have HL := Lib.hid hlt
        clear HS hq3 hlt
        by_cases g1 : 4294967296 ≤ r2
        · have d1 : decide ((4294967296 : Int) ≤ (r2 : Int)) = true := decide_eq_true (by omega)
          have HEND := Lib.hid (HW1.out.low hE2 g1)
          clear hE2 hr2 g0 g1
          go_wp2
          go_meet
          exact ⟨by rw [HEND.out], rfl⟩
        · have d1 : decide ((4294967296 : Int) ≤ (r2 : Int)) = false := decide_eq_false (by omega)
          have HE2 := Lib.hid hE2
          have HG := Lib.hid g1
          clear hE2 hr2 g0 g1
          go_wp2
          go_roundw
          case rel => exact ⟨q2, r2, rfl, rfl, trivial, HE2.out, Nat.lt_of_not_le HG.out⟩
          case measure => have := HL.out; simp [RowKit.intOf]; omega
      · have d0 : decide ((4294967296 : Int) ≤ q') = false := decide_eq_false (by omega)
        have hqb : q' * b ≤ 4294967295 * 4294967295 := Nat.mul_le_mul (by omega) (by omega)
        obtain ⟨m, hm⟩ : ∃ m, q' * b = m := ⟨_, rfl⟩
        rw [hm] at hqb
        obtain ⟨t, ht⟩ : ∃ t, 4294967296 * r' = t := ⟨_, rfl⟩
        obtain ⟨t2, ht2⟩ : ∃ t2, t + c = t2 := ⟨_, rfl⟩
        have k7 : IntKind.u64.wrap ((q' : Int) * b) = (m : Int) := wrap_u _ _ (by rw [← hm]; simp) (by omega)
        have k8 : IntKind.u64.wrap (4294967296 * (r' : Int)) = (t : Int) := wrap_u _ _ (by omega) (by omega)
        have k9 : IntKind.u64.wrap ((t : Int) + c) = (t2 : Int) := wrap_u _ _ (by omega) (by omega)
        by_cases g2 : t2 < m
        · have d2 : decide ((t2 : Int) < (m : Int)) = true := decide_eq_true (by omega)
          obtain ⟨k5, hE2, hlt⟩ := HS.out (HW1.out.great HE.out (by rw [hm]; omega))
          obtain ⟨q2, hq3⟩ : ∃ z, q' - 1 = z := ⟨_, rfl⟩
          rw [hq3] at k5 hE2 hlt
          have HL := Lib.hid hlt
          clear hm ht ht2 hqb HS hq3 hlt
          by_cases g1 : 4294967296 ≤ r2
          · have d1 : decide ((4294967296 : Int) ≤ (r2 : Int)) = true := decide_eq_true (by omega)
            have HEND := Lib.hid (HW1.out.low hE2 g1)
            clear hE2 hr2 g0 g1
            go_wp2
            go_meet
            exact ⟨by rw [HEND.out], rfl⟩
          · have d1 : decide ((4294967296 : Int) ≤ (r2 : Int)) = false := decide_eq_false (by omega)
            have HE2 := Lib.hid hE2
            have HG := Lib.hid g1
            clear hE2 hr2 g0 g1
            go_wp2
            go_roundw
            case rel => exact ⟨q2, r2, rfl, rfl, trivial, HE2.out, Nat.lt_of_not_le HG.out⟩
            case measure => have := HL.out; simp [RowKit.intOf]; omega
        · have d2 : decide ((t2 : Int) < (m : Int)) = false := decide_eq_false (by omega)
          have HEND := Lib.hid (HW1.out.stop HE.out (by rw [hm]; omega))
          clear hm ht ht2 hqb HS g0 hr2 k6
          go_wp2
          go_meet
          exact ⟨by rw [HEND.out], rfl⟩
  case rest =>
    obtain ⟨rfl, rfl⟩ := hcut
    obtain ⟨Q, hQ⟩ : ∃ Q, quo U c a b = Q := ⟨_, rfl⟩
    rw [hQ] at HEQ hL1 HQ
    have HX := HEQ.out
    obtain ⟨x1, hx1⟩ : ∃ x1, U * 4294967296 % 18446744073709551616 = x1 := ⟨_, rfl⟩
    obtain ⟨x2, hx2⟩ : ∃ x2, (x1 + c) % 18446744073709551616 = x2 := ⟨_, rfl⟩
    obtain ⟨x3, hx3⟩ : ∃ x3, Q * Y = x3 := ⟨_, rfl⟩
    rw [hx3] at HX
    obtain ⟨x4, hx4⟩ : ∃ x4, x3 % 18446744073709551616 = x4 := ⟨_, rfl⟩
    have j1 : IntKind.u64.wrap ((U : Int) * 4294967296) = (x1 : Int) := by rw [IntKind.wrap_u64]; omega
    have j2 : IntKind.u64.wrap ((x1 : Int) + c) = (x2 : Int) := by rw [IntKind.wrap_u64]; omega
    have j3 : IntKind.u64.wrap ((Q : Int) * Y) = (x4 : Int) := by rw [IntKind.wrap_u64, show (Q : Int) * Y = (x3 : Int) by rw [← hx3]; simp]; omega
    have j4 : IntKind.u64.wrap ((x2 : Int) - x4) = (U2 : Int) := by rw [IntKind.wrap_u64]; omega
    clear hx1 hx2 hx3 hx4 HX
    rw [hQ]
    clear hQ
    go_upto_block 2 with (fail)
    go_cut [18, 16] from 102 to 120 (fun s18 s16 wx => s18 = .int .u64 (quo U2 d a b : Nat) ∧ w = wx)
    case first =>
      go_wp2_with fail
      go_loopw [18, 16] (fun x y wr => ∃ q' r' : Nat, x = .int .u64 (q' : Int) ∧ y = .int .u64 (r' : Int) ∧ wr = w ∧ Est U2 d a b q' r' ∧ r' < 4294967296) (fun x _ _ => (RowKit.intOf x).toNat)
      case atStart => exact ⟨A2, R2, rfl, rfl, rfl, HF1.out, hRl2⟩
      case round =>
        obtain ⟨q', r', rfl, rfl, rfl, est, hr⟩ := hrel
        have HE := Lib.hid est
        clear est
        have hq2 : q' < 18446744073709551616 := by
          have h1 : q' * 1 ≤ q' * a := Nat.mul_le_mul_left _ (by omega)
          have := HE.out.sum
          omega
        obtain ⟨r2, hr2⟩ : ∃ r2, r' + a = r2 := ⟨_, rfl⟩
        have k6 : IntKind.u64.wrap ((r' : Int) + a) = (r2 : Int) := wrap_u _ _ (by omega) (by omega)
        have hstep : quo U2 d a b < q' → (IntKind.u64.wrap ((q' : Int) - 1) = ((q' - 1 : Nat) : Int) ∧ Est U2 d a b (q' - 1) r2 ∧ q' - 1 < q') := fun h => ⟨wrap_u _ _ (by omega) (by omega), by rw [← hr2]; exact HE.out.next h, by omega⟩
        have HS := Lib.hid hstep
        clear hstep
        by_cases g0 : 4294967296 ≤ q'
        · have d0 : decide ((4294967296 : Int) ≤ q') = true := decide_eq_true (by omega)
          obtain ⟨k5, hE2, hlt⟩ := HS.out (HW2.out.big g0)
          obtain ⟨q2, hq3⟩ : ∃ z, q' - 1 = z := ⟨_, rfl⟩
          rw [hq3] at k5 hE2 hlt
          have HL := Lib.hid hlt
          clear HS hq3 hlt
          by_cases g1 : 4294967296 ≤ r2
          · have d1 : decide ((4294967296 : Int) ≤ (r2 : Int)) = true := decide_eq_true (by omega)
            have HEND := Lib.hid (HW2.out.low hE2 g1)
            clear hE2 hr2 g0 g1
            go_wp2
            go_meet
            exact ⟨by rw [HEND.out], rfl⟩
          · have d1 : decide ((4294967296 : Int) ≤ (r2 : Int)) = false := decide_eq_false (by omega)
            have HE2 := Lib.hid hE2
            have HG := Lib.hid g1
            clear hE2 hr2 g0 g1
            go_wp2
            go_roundw
            case rel => exact ⟨q2, r2, rfl, rfl, trivial, HE2.out, Nat.lt_of_not_le HG.out⟩
            case measure => have := HL.out; simp [RowKit.intOf]; omega
        · have d0 : decide ((4294967296 : Int) ≤ q') = false := decide_eq_false (by omega)
          have hqb : q' * b ≤ 4294967295 * 4294967295 := Nat.mul_le_mul (by omega) (by omega)
          obtain ⟨m, hm⟩ : ∃ m, q' * b = m := ⟨_, rfl⟩
          rw [hm] at hqb
          obtain ⟨t, ht⟩ : ∃ t, 4294967296 * r' = t := ⟨_, rfl⟩
          obtain ⟨t2, ht2⟩ : ∃ t2, t + d = t2 := ⟨_, rfl⟩
          have k7 : IntKind.u64.wrap ((q' : Int) * b) = (m : Int) := wrap_u _ _ (by rw [← hm]; simp) (by omega)
          have k8 : IntKind.u64.wrap (4294967296 * (r' : Int)) = (t : Int) := wrap_u _ _ (by omega) (by omega)
          have k9 : IntKind.u64.wrap ((t : Int) + d) = (t2 : Int) := wrap_u _ _ (by omega) (by omega)
          by_cases g2 : t2 < m
          · have d2 : decide ((t2 : Int) < (m : Int)) = true := decide_eq_true (by omega)
            obtain ⟨k5, hE2, hlt⟩ := HS.out (HW2.out.great HE.out (by rw [hm]; omega))
            obtain ⟨q2, hq3⟩ : ∃ z, q' - 1 = z := ⟨_, rfl⟩
            rw [hq3] at k5 hE2 hlt
            have HL := Lib.hid hlt
            clear hm ht ht2 hqb HS hq3 hlt
            by_cases g1 : 4294967296 ≤ r2
            · have d1 : decide ((4294967296 : Int) ≤ (r2 : Int)) = true := decide_eq_true (by omega)
              have HEND := Lib.hid (HW2.out.low hE2 g1)
              clear hE2 hr2 g0 g1
              go_wp2
              go_meet
              exact ⟨by rw [HEND.out], rfl⟩
            · have d1 : decide ((4294967296 : Int) ≤ (r2 : Int)) = false := decide_eq_false (by omega)
              have HE2 := Lib.hid hE2
              have HG := Lib.hid g1
              clear hE2 hr2 g0 g1
              go_wp2
              go_roundw
              case rel => exact ⟨q2, r2, rfl, rfl, trivial, HE2.out, Nat.lt_of_not_le HG.out⟩
              case measure => have := HL.out; simp [RowKit.intOf]; omega
          · have d2 : decide ((t2 : Int) < (m : Int)) = false := decide_eq_false (by omega)
            have HEND := Lib.hid (HW2.out.stop HE.out (by rw [hm]; omega))
            clear hm ht ht2 hqb HS g0 hr2 k6
            go_wp2
            go_meet
            exact ⟨by rw [HEND.out], rfl⟩
    case rest =>
      obtain ⟨rfl, rfl⟩ := hcut
      obtain ⟨Q2, hQ2⟩ : ∃ Q, quo U2 d a b = Q := ⟨_, rfl⟩
      rw [hQ2] at HEQ2 hL2 HQ
      have HX := HEQ2.out
      have hq := HQ.out
      obtain ⟨z1, hz1⟩ : ∃ x1, Q * 4294967296 % 18446744073709551616 = x1 := ⟨_, rfl⟩
      have n1 : IntKind.u64.wrap ((Q : Int) * 4294967296) = (z1 : Int) := by rw [IntKind.wrap_u64]; omega
      have n2 : IntKind.u64.wrap ((z1 : Int) + Q2) = (q : Int) := by rw [IntKind.wrap_u64]; omega
      obtain ⟨x1, hx1⟩ : ∃ x1, U2 * 4294967296 % 18446744073709551616 = x1 := ⟨_, rfl⟩
      obtain ⟨x2, hx2⟩ : ∃ x2, (x1 + d) % 18446744073709551616 = x2 := ⟨_, rfl⟩
      obtain ⟨x3, hx3⟩ : ∃ x3, Q2 * Y = x3 := ⟨_, rfl⟩
      rw [hx3] at HX
      obtain ⟨x4, hx4⟩ : ∃ x4, x3 % 18446744073709551616 = x4 := ⟨_, rfl⟩
      have j5 : IntKind.u64.wrap ((U2 : Int) * 4294967296) = (x1 : Int) := by rw [IntKind.wrap_u64]; omega
      have j6 : IntKind.u64.wrap ((x1 : Int) + d) = (x2 : Int) := by rw [IntKind.wrap_u64]; omega
      have j7 : IntKind.u64.wrap ((Q2 : Int) * Y) = (x4 : Int) := by rw [IntKind.wrap_u64, show (Q2 : Int) * Y = (x3 : Int) by rw [← hx3]; simp]; omega
      have j8 : IntKind.u64.wrap ((x2 : Int) - x4) = (R0 : Int) := by rw [IntKind.wrap_u64]; omega
      have j9 : (R0 : Int) / 2 ^ s = (r : Int) := by rw [← HR.out]; simp
      clear hx1 hx2 hx3 hx4 hz1 HX hq
      rw [hQ2]
      clear hQ2
      go_wp2
      go_ret2
      exact ⟨rfl, rfl⟩
set_option maxRecDepth 100000 in
theorem div64_zero (lo y q r : Nat) (w : World) (hy : 0 < y) (hx : y < 18446744073709551616) (hl : lo < 18446744073709551616) (HQ : Hid (lo / y = q)) (HR : Hid (lo % y = r)) :
    Calls Try.prog 30 #[.int .u64 0, .int .u64 lo, .int .u64 y] w fun e w' => e = .returned (.tuple #[.int .u64 q, .int .u64 r]) ∧ Drew w w' := by
  have hy1 : (0 : Int) < y := by omega
  have hy2 : (y : Int) ≠ 0 := by omega
  have hy3 : ¬ (y : Int) = 0 := by omega
  have hy4 : ¬ y = 0 := by omega
  have k1 : IntKind.u64.wrap ((lo : Int) / y) = (q : Int) := wrap_u _ _ (by rw [← HQ.out]; rfl) (Nat.lt_of_le_of_lt (by rw [← HQ.out]; exact Nat.div_le_self _ _) hl)
  have k2 : IntKind.u64.wrap ((lo : Int).tdiv y) = (q : Int) := by rw [Int.tdiv_eq_ediv_of_nonneg (by omega)]; exact k1
  have k3 : (lo : Int) % y = (r : Int) := by rw [← HR.out]; rfl
  have k4 : (lo : Int).tmod y = (r : Int) := by rw [Int.tmod_eq_emod_of_nonneg (by omega)]; exact k3
  have k5 : IntKind.u64.wrap (r : Int) = (r : Int) := wrap_u _ _ rfl (Nat.lt_of_le_of_lt (by rw [← HR.out]; exact Nat.mod_le _ _) hl)
  go_enter Try.func30, Try.ntmps30
  go_upto_region 6 with (fail)
  go_quiet (fail)
  go_wp2
  go_ret2
  exact ⟨rfl, _, rfl⟩
theorem div64_at (hi lo y q r : Nat) (w : World) (hy : hi < y) (hx : y < 18446744073709551616) (hl : lo < 18446744073709551616) (HQ : Hid ((hi * 18446744073709551616 + lo) / y = q)) (HR : Hid ((hi * 18446744073709551616 + lo) % y = r)) :
    Calls Try.prog 30 #[.int .u64 hi, .int .u64 lo, .int .u64 y] w fun e w' => e = .returned (.tuple #[.int .u64 q, .int .u64 r]) ∧ Drew w w' := by
  by_cases h0 : hi = 0
  · subst h0
    exact div64_zero lo y q r w hy hx hl (by rw [Nat.zero_mul, Nat.zero_add] at HQ; exact HQ) (by rw [Nat.zero_mul, Nat.zero_add] at HR; exact HR)
  · obtain ⟨b0, b1, b2, b3⟩ := bitLen_bound (x := y) (by omega) hx
    obtain ⟨n, hn⟩ : ∃ n, Lib.bitLen y = n := ⟨_, rfl⟩
    rw [hn] at b0 b1 b2 b3
    have F := sft_mk (s := 64 - n) hy hl b0 b1 b2 b3 rfl
    obtain ⟨e1, e2⟩ := F.res (by omega)
    have hlo : lo / 2 ^ (64 - (64 - n)) < 2 ^ (64 - n) := by
      refine Nat.div_lt_of_lt_mul ?_
      rw [← Nat.pow_add, show 64 - (64 - n) + (64 - n) = 64 by omega]
      exact hl
    refine (div64_any hi lo y (64 - n) _ _ _ n w (by omega) hy hx (Lib.hid hn) rfl ⟨b0, b1⟩ (Lib.hid rfl) (Lib.hid rfl) (Lib.hid rfl) (Lib.hid F) hlo q r (Lib.hid (by rw [← e1]; exact HQ.out)) (Lib.hid (by rw [← e2]; exact HR.out))).mono ?_
    rintro e w' ⟨rfl, rfl⟩
    exact ⟨rfl, Drew.refl _⟩
end Go.Proofs.Ytmliajkbknjacaa.BitW
