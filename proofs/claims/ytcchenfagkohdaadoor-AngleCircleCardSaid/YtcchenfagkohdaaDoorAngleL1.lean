/-
  Walks of the laws AngleNorm, AngleSines, AngleCircle: each returns true for every input. Condition: the table of sines lies in memory (Tab).
-/
import Derived.Test.YtcchenfagkohdaaDoorAngleI
namespace Go.Proofs.YtcchenfagkohdaaDoor.AngW
open Go.ChangeShapes Go.WideShapes Go.ChangeAt Go.RowKit Go.Joins
open NumP NumW AngP

theorem tmod_zero {x : Int} (h : x % 256 = 0) : (x.tmod 256 == 0) = true := by
  rw [Int.tmod_eq_zero_of_dvd (Int.dvd_of_emod_eq_zero h)]; rfl
set_option maxHeartbeats 1000000 in
theorem AngleNorm_walk (a0 : Int) (_b0 : -9223372036854775808 ≤ a0 ∧ a0 ≤ 9223372036854775807) (w : World) (hT : Tab w) :
    Calls Tryd.prog 3 #[.int .i64 a0] w fun e w' => e = .returned (.bool true) ∧ Grown w w' := by
  clear _b0
  have ht := tmod256 a0
  have hb := tmod256_bd a0
  obtain ⟨n, hn⟩ : ∃ n, a0 % 256 = n := ⟨_, rfl⟩
  obtain ⟨m, hm⟩ : ∃ m, (-a0) % 256 = m := ⟨_, rfl⟩
  obtain ⟨t, et⟩ : ∃ t, a0.tmod 256 = t := ⟨_, rfl⟩
  rw [et] at ht hb
  have bn : 0 ≤ n ∧ n ≤ 255 := by omega
  have bm : 0 ≤ m ∧ m ≤ 255 := by omega
  have ft : t % 256 = n := by omega
  have z1 : ((t - n).tmod 256 == 0) = true := tmod_zero (by omega)
  have z2 : ((t + m).tmod 256 == 0) = true := tmod_zero (by omega)
  have H1 := Lib.hid hn
  have H2 := Lib.hid hm
  have H3 := Lib.hid (show n % 256 = n by omega)
  have H4 := Lib.hid (show (-m) % 256 = n by omega)
  have ET := et
  clear ht hn hm ft
  go_enter Tryd.func3, Tryd.ntmps3
  go_wp2_with (first
    | (go_at_call 11; (first | (with_reducible refine (norm_at a0 n _ H1).mono ?_) | (with_reducible refine (norm_at n n _ H3).mono ?_)); rintro e w' ⟨rfl, rfl⟩)
    | (go_at_call 12; (first | (with_reducible refine (mir_at a0 m _ H2).mono ?_) | (with_reducible refine (mir_at m n _ H4).mono ?_)); rintro e w' ⟨rfl, rfl⟩)
    | (go_at_call 13; refine (awake_any _ (by with_reducible assumption)).mono ?_; rintro e w1 ⟨rfl, hg⟩; have HK := Lib.hid hg; clear hg))
  go_ret
  exact ⟨rfl, HK.out⟩

set_option maxHeartbeats 1000000 in
theorem AngleSines_walk (a0 : Int) (_b0 : -9223372036854775808 ≤ a0 ∧ a0 ≤ 9223372036854775807) (w : World) (hT : Tab w) :
    Calls Tryd.prog 4 #[.int .i64 a0] w fun e w' => e = .returned (.bool true) ∧ Grown w w' := by
  clear _b0
  obtain ⟨s, hs⟩ : ∃ s, sinV a0 = s := ⟨_, rfl⟩
  obtain ⟨c, hc⟩ : ∃ c, cosV a0 = c := ⟨_, rfl⟩
  have HS := Lib.hid hs
  have HC := Lib.hid hc
  clear hs hc
  have HR := Lib.hid (Grown.refl w)
  go_enter Tryd.func4, Tryd.ntmps4
  go_wp2_with (first
    | (go_at_call 14; refine (sin_at _ _ _ HS (by with_reducible assumption)).mono ?_; rintro e w' ⟨rfl, rfl⟩)
    | (go_at_call 16; refine (cos_at _ _ _ HC (by with_reducible assumption)).mono ?_; rintro e w' ⟨rfl, rfl⟩)
    | (go_at_call 15; refine (rsin_at _ _ _ HS).mono ?_; rintro e w1 ⟨rfl, hg⟩; have hT1 := tab_grown (by with_reducible assumption) hg; have HK := Lib.hid (grown_trans (Hid.out (by with_reducible assumption)) hg); clear hg)
    | (go_at_call 17; refine (rcos_at _ _ _ HC).mono ?_; rintro e w1 ⟨rfl, hg⟩; have hT1 := tab_grown (by with_reducible assumption) hg; have HK := Lib.hid (grown_trans (Hid.out (by with_reducible assumption)) hg); clear hg)
    | (go_at_call 13; refine (awake_any _ (by with_reducible assumption)).mono ?_; rintro e w1 ⟨rfl, hg⟩; have HK := Lib.hid (grown_trans (Hid.out (by with_reducible assumption)) hg); clear hg))
  go_ret
  exact ⟨rfl, HK.out⟩

set_option maxRecDepth 100000 in
set_option maxHeartbeats 4000000 in
theorem AngleCircle_core (a0 n s c t : Int) (w : World) (hT : Tab w) (en : Hid (a0.tmod 256 = n)) (bn : -256 < n ∧ n < 256) (bs : -16384 ≤ s ∧ s ≤ 16384) (bc : -16384 ≤ c ∧ c ≤ 16384)
    (p1 : 0 ≤ s * s ∧ s * s ≤ 268435456) (p2 : 0 ≤ c * c ∧ c * c ≤ 268435456) (q1 : -23172 ≤ s * s + c * c - 268435456) (q2 : s * s + c * c - 268435456 ≤ 23172)
    (S1 : Hid (sinV n = s)) (C1 : Hid (cosV n = c)) (S2 : Hid (sinV (-n) = -s)) (C2 : Hid (cosV (-n) = c)) (S3 : Hid (sinV (n + 128) = -s)) (S4 : Hid (sinV (n + 64) = c)) (S5 : Hid (sinV (n + 1) = t)) (S6 : Hid (sinV a0 = s)) (C6 : Hid (cosV a0 = c))
    (z : n < -64 ∨ ¬ n < -64 ∧ 63 < n ∨ ¬ n < -64 ∧ ¬ 63 < n ∧ ¬ t < s) :
    Calls Tryd.prog 5 #[.int .i64 a0] w fun e w' => e = .returned (.bool true) ∧ Grown w w' := by
  have et := en.out
  rcases z with z1 | ⟨z1, z2⟩ | ⟨z1, z2, z3⟩
  all_goals
    go_enter Tryd.func5, Tryd.ntmps5
    go_wp2_with (first
      | (go_at_call 14; (first | (with_reducible refine (sin_at n s _ S1 hT).mono ?_) | (with_reducible refine (sin_at (-n) (-s) _ S2 hT).mono ?_) | (with_reducible refine (sin_at (n + 128) (-s) _ S3 hT).mono ?_) | (with_reducible refine (sin_at (n + 64) c _ S4 hT).mono ?_) | (with_reducible refine (sin_at (n + 1) t _ S5 hT).mono ?_) | (with_reducible refine (sin_at a0 s _ S6 hT).mono ?_)); rintro e w' ⟨rfl, rfl⟩)
      | (go_at_call 16; (first | (with_reducible refine (cos_at n c _ C1 hT).mono ?_) | (with_reducible refine (cos_at (-n) c _ C2 hT).mono ?_) | (with_reducible refine (cos_at a0 c _ C6 hT).mono ?_)); rintro e w' ⟨rfl, rfl⟩)
      | (go_at_call 13; refine (awake_any _ hT).mono ?_; rintro e w1 ⟨rfl, hg⟩; have HK := Lib.hid hg; clear hg))
    go_ret
    exact ⟨rfl, HK.out⟩
theorem AngleCircle_walk (a0 : Int) (_b0 : -9223372036854775808 ≤ a0 ∧ a0 ≤ 9223372036854775807) (w : World) (hT : Tab w) :
    Calls Tryd.prog 5 #[.int .i64 a0] w fun e w' => e = .returned (.bool true) ∧ Grown w w' := by
  have hb := tmod256_bd a0
  have ht := tmod256 a0
  obtain ⟨n, hn⟩ : ∃ n, a0.tmod 256 = n := ⟨_, rfl⟩
  rw [hn] at hb ht
  have hm : n % 256 = a0 % 256 := by omega
  obtain ⟨f1, f2, f3, f4, f5⟩ := sin_facts n
  have s3 := sq_nonneg (sinV n)
  have s4 := sq_nonneg (cosV n)
  have s5 := sq_bd (m := 16384) (sin_bd n)
  have s6 := sq_bd (m := 16384) (cos_bd n)
  refine AngleCircle_core a0 n (sinV n) (cosV n) (sinV (n + 1)) w hT (Lib.hid hn) hb (sin_bd n) (cos_bd n) ⟨s3, s5⟩ ⟨s4, s6⟩ f4.1 f4.2 (Lib.hid rfl) (Lib.hid rfl) (Lib.hid f1) (Lib.hid (cos_neg n)) (Lib.hid f2) (Lib.hid (cosV_sin n).symm) (Lib.hid rfl) (Lib.hid (sinV_eq hm.symm)) (Lib.hid (by rw [cosV_sin, cosV_sin]; exact sinV_eq (by omega))) ?_
  by_cases c1 : n < -64
  · exact Or.inl c1
  · by_cases c2 : 63 < n
    · exact Or.inr (Or.inl ⟨c1, c2⟩)
    · exact Or.inr (Or.inr ⟨c1, c2, by have := f5 (by omega); omega⟩)
end Go.Proofs.YtcchenfagkohdaaDoor.AngW
