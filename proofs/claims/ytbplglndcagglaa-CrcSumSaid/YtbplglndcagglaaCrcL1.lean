/-
  Package crc: the laws Sum, Extend, over what is asked of the program. Condition: none.
-/
import Derived.Test.YtbplglndcagglaaCrcF
import Derived.BigQuiet
import Derived.Deep.QuietTactic
namespace Go.Proofs.Ytbplglndcagglaa.CrcW
open Go.ChangeShapes Go.WideShapes Go.ChangeAt Go.RowKit
open PairW CelW WirP CrcP WirW
theorem cel_nil0 (w : World) : Cel w (.slice none 0 0) (cellsU []) := cel_nil w
set_option maxRecDepth 100000 in
set_option maxHeartbeats 1000000 in
theorem lsum_at (C : CrcC) (s : Nat) (b : Bs) (v : Value) (w : World) (hs : s < 4294967296) (HB : Hid (Cel w v (cellsU b))) :
    Calls Try.prog 3 #[.int .u32 (s : Int), v] w fun e w' => e = .returned (.bool true) ∧ Own w w' := by
  obtain ⟨t, ht⟩ : ∃ t, ext 0 b = t := ⟨_, rfl⟩
  obtain ⟨u, hu⟩ : ∃ t, ext s b = t := ⟨_, rfl⟩
  have HT := Lib.hid ht
  have HU := Lib.hid hu
  have HS := Lib.hid hs
  obtain ⟨z, hz⟩ : ∃ z, b.length = z := ⟨_, rfl⟩
  obtain ⟨A, cap, rfl, h1, h2⟩ := cel_form HB.out
  rw [cellsU_len, hz] at HB ⊢
  clear ht hu hs h1 h2
  by_cases c : 4096 < z
  · have d1 : (4096 : Int) < z := by omega
    go_enter Try.func3, Try.ntmps3
    go_wp2_with (go_at_call 11; with_reducible refine (awake_at C _).mono ?_; rintro e w3 ⟨rfl, q3⟩)
    go_ret
    exact ⟨rfl, q3⟩
  · have d1 : ¬ (4096 : Int) < z := by omega
    have HL := Lib.hid (show b.length ≤ 200000 by omega)
    clear hz
    go_enter Try.func3, Try.ntmps3
    go_wp2_with (first
      | (go_at_call 12; with_reducible refine (C.sum b _ t _ HB HL.out HT).mono ?_; rintro e w1 ⟨rfl, q1⟩; have HB1 := Lib.hid (HB.out.own q1))
      | (go_at_call 13; with_reducible refine (rsum_at b _ t _ HB1 HT).mono ?_; rintro e w2 ⟨rfl, rfl⟩)
      | (go_at_call 14; with_reducible refine (C.extend s b _ u _ HS.out HB1 HL.out HU).mono ?_; rintro e w2 ⟨rfl, q2⟩; have HB2 := Lib.hid (HB1.out.own q2))
      | (go_at_call 15; with_reducible refine (rext_at s b _ u _ HS.out HB2 HU).mono ?_; rintro e w4 ⟨rfl, rfl⟩)
      | (go_at_call 11; with_reducible refine (awake_at C _).mono ?_; rintro e w3 ⟨rfl, q3⟩))
    go_ret
    exact ⟨rfl, q1.trans (q2.trans q3)⟩
set_option maxRecDepth 100000 in
set_option maxHeartbeats 2000000 in
theorem lextend_at (C : CrcC) (s : Nat) (b : Bs) (v : Value) (n : Int) (w : World) (hs : s < 4294967296) (HB : Hid (Cel w v (cellsU b))) :
    Calls Try.prog 4 #[.int .u32 (s : Int), v, .int .i64 n] w fun e w' => e = .returned (.bool true) ∧ Own w w' := by
  obtain ⟨z, hz⟩ : ∃ z, b.length = z := ⟨_, rfl⟩
  obtain ⟨A, cap, rfl, h1, h2, h3⟩ := cel_cells HB.out
  unfold maxLen at h2
  have HA := Lib.hid (show 0 < z → ∃ g off : Nat, A = some ⟨g, off, none⟩ from fun h0 => by
    obtain ⟨g, off, hA, _⟩ := h3 (by omega)
    exact ⟨g, off, hA⟩)
  rw [hz] at h1 HB ⊢
  clear h3
  by_cases c1 : 4096 < z
  · have d1 : (4096 : Int) < z := by omega
    clear hs
    go_enter Try.func4, Try.ntmps4
    go_wp2_with (go_at_call 11; with_reducible refine (awake_at C _).mono ?_; rintro e w3 ⟨rfl, q3⟩)
    go_ret
    exact ⟨rfl, q3⟩
  have d1 : ¬ (4096 : Int) < z := by omega
  by_cases c2 : n < 0
  · clear hs
    go_enter Try.func4, Try.ntmps4
    go_wp2_with (go_at_call 11; with_reducible refine (awake_at C _).mono ?_; rintro e w3 ⟨rfl, q3⟩)
    go_ret
    exact ⟨rfl, q3⟩
  obtain ⟨k, rfl⟩ : ∃ k : Nat, n = k := ⟨n.toNat, by omega⟩
  by_cases c3 : z < k
  · have d3 : (z : Int) < k := by omega
    clear hs
    go_enter Try.func4, Try.ntmps4
    go_wp2_with (go_at_call 11; with_reducible refine (awake_at C _).mono ?_; rintro e w3 ⟨rfl, q3⟩)
    go_ret
    exact ⟨rfl, q3⟩
  have d3 : ¬ (z : Int) < k := by omega
  obtain ⟨t1, ht1⟩ : ∃ t, ext 0 (b.take k) = t := ⟨_, rfl⟩
  obtain ⟨u1, hu1⟩ : ∃ t, ext s (b.take k) = t := ⟨_, rfl⟩
  obtain ⟨t, ht⟩ : ∃ t, ext 0 b = t := ⟨_, rfl⟩
  obtain ⟨u, hu⟩ : ∃ t, ext s b = t := ⟨_, rfl⟩
  have I0 := Lib.hid hs
  have I1 := Lib.hid (show t1 < 4294967296 by rw [← ht1]; exact ext_lt (by omega) _)
  have I2 := Lib.hid (show u1 < 4294967296 by rw [← hu1]; exact ext_lt hs _)
  have H1 := Lib.hid ht1
  have H2 := Lib.hid ht
  have H3 := Lib.hid (show ext t1 (b.drop k) = t by rw [← ht1, ext_app, List.take_append_drop]; exact ht)
  have H4 := Lib.hid hu1
  have H5 := Lib.hid (show ext u1 (b.drop k) = u by rw [← hu1, ext_app, List.take_append_drop]; exact hu)
  have H6 := Lib.hid hu
  have H7 := Lib.hid (ext_nil s)
  have L0 := Lib.hid (show ([] : Bs).length ≤ 200000 by decide)
  have L1 := Lib.hid (show (b.take k).length ≤ 200000 by rw [List.length_take]; omega)
  have L2 := Lib.hid (show b.length ≤ 200000 by omega)
  have L3 := Lib.hid (show (b.drop k).length ≤ 200000 by rw [List.length_drop]; omega)
  have hkz : k ≤ z := by omega
  have hkc : k ≤ cap := by omega
  have HTK := Lib.hid (cel_pre (k := k) HB.out hkz)
  have HBL := Lib.hid (show ∀ a : Option Addr, k = z → Cel w (.slice a 0 0) (cellsU (b.drop k)) from fun a e => by
    rw [List.drop_of_length_le (by omega)]
    exact ⟨a, 0, rfl, Nat.le_refl _, Nat.zero_le _, fun h => absurd h (by simp [cellsU])⟩)
  have HE := Lib.hid (show k = z → t1 = t ∧ u1 = u from fun e => by
    have h : b.take k = b := List.take_of_length_le (by omega)
    rw [h] at ht1 hu1
    exact ⟨ht1.symm.trans ht, hu1.symm.trans hu⟩)
  have HB0 := Lib.hid hz
  clear hs ht1 hu1 ht hu hz c1 c3
  by_cases hck : cap = k
  · obtain rfl : z = k := by omega
    obtain ⟨rfl, rfl⟩ := HE.out rfl
    subst hck
    have HDK := Lib.hid (HBL.out A rfl)
    clear HBL HB0
    go_enter Try.func4, Try.ntmps4
    go_upto_region 3 with (fail)
    refine region_after w (by kernel_rfl) (by kernel_rfl) ?_
    repeat (first
      | go_big_quiet_step ((first   | (go_at_call 12; with_reducible refine (C.sum _ _ _ _ (Lib.hid (HTK.out.own (After.o _))) L1.out H1).mono ?_; rintro e w2 ⟨rfl, hg⟩; exact ⟨rfl, ⟨w2, (After.o _).trans hg⟩, rfl⟩)   | (go_at_call 12; with_reducible refine (C.sum b _ _ _ (Lib.hid (HB.out.own (After.o _))) L2.out H2).mono ?_; rintro e w2 ⟨rfl, hg⟩; exact ⟨rfl, ⟨w2, (After.o _).trans hg⟩, rfl⟩)   | (go_at_call 14; with_reducible refine (C.extend _ _ _ _ _ I1.out (Lib.hid (HDK.out.own (After.o _))) L3.out H3).mono ?_; rintro e w2 ⟨rfl, hg⟩; exact ⟨rfl, ⟨w2, (After.o _).trans hg⟩, rfl⟩)   | (go_at_call 14; with_reducible refine (C.extend s _ _ _ _ I0.out (Lib.hid (HTK.out.own (After.o _))) L1.out H4).mono ?_; rintro e w2 ⟨rfl, hg⟩; exact ⟨rfl, ⟨w2, (After.o _).trans hg⟩, rfl⟩)   | (go_at_call 14; with_reducible refine (C.extend _ _ _ _ _ I2.out (Lib.hid (HDK.out.own (After.o _))) L3.out H5).mono ?_; rintro e w2 ⟨rfl, hg⟩; exact ⟨rfl, ⟨w2, (After.o _).trans hg⟩, rfl⟩)   | (go_at_call 14; with_reducible refine (C.extend s b _ _ _ I0.out (Lib.hid (HB.out.own (After.o _))) L2.out H6).mono ?_; rintro e w2 ⟨rfl, hg⟩; exact ⟨rfl, ⟨w2, (After.o _).trans hg⟩, rfl⟩)))
      | quiet_step ((first   | (go_at_call 12; with_reducible refine (C.sum _ _ _ _ (Lib.hid (HTK.out.own (After.o _))) L1.out H1).mono ?_; rintro e w2 ⟨rfl, hg⟩; exact ⟨rfl, ⟨w2, (After.o _).trans hg⟩, rfl⟩)   | (go_at_call 12; with_reducible refine (C.sum b _ _ _ (Lib.hid (HB.out.own (After.o _))) L2.out H2).mono ?_; rintro e w2 ⟨rfl, hg⟩; exact ⟨rfl, ⟨w2, (After.o _).trans hg⟩, rfl⟩)   | (go_at_call 14; with_reducible refine (C.extend _ _ _ _ _ I1.out (Lib.hid (HDK.out.own (After.o _))) L3.out H3).mono ?_; rintro e w2 ⟨rfl, hg⟩; exact ⟨rfl, ⟨w2, (After.o _).trans hg⟩, rfl⟩)   | (go_at_call 14; with_reducible refine (C.extend s _ _ _ _ I0.out (Lib.hid (HTK.out.own (After.o _))) L1.out H4).mono ?_; rintro e w2 ⟨rfl, hg⟩; exact ⟨rfl, ⟨w2, (After.o _).trans hg⟩, rfl⟩)   | (go_at_call 14; with_reducible refine (C.extend _ _ _ _ _ I2.out (Lib.hid (HDK.out.own (After.o _))) L3.out H5).mono ?_; rintro e w2 ⟨rfl, hg⟩; exact ⟨rfl, ⟨w2, (After.o _).trans hg⟩, rfl⟩)   | (go_at_call 14; with_reducible refine (C.extend s b _ _ _ I0.out (Lib.hid (HB.out.own (After.o _))) L2.out H6).mono ?_; rintro e w2 ⟨rfl, hg⟩; exact ⟨rfl, ⟨w2, (After.o _).trans hg⟩, rfl⟩))))
    refine wpQuiet_nil ?_
    rintro _ ⟨x, rfl⟩
    have q1 := x.o
    generalize x.w = w1 at *
    have HNL := Lib.hid (cel_nil0 w1)
    go_wp2_with (first
      | (go_at_call 14; with_reducible refine (C.extend s [] _ s _ I0.out HNL L0.out H7).mono ?_; rintro e w2 ⟨rfl, q2⟩)
      | (go_at_call 11; with_reducible refine (awake_at C _).mono ?_; rintro e w3 ⟨rfl, q3⟩))
    go_ret
    exact ⟨rfl, q1.trans (q2.trans q3)⟩
  · by_cases h0 : 0 < z
    · obtain ⟨g, off, rfl⟩ := HA.out h0
      have HDK := Lib.hid (cel_suf HB.out hkz)
      clear HBL HB0
      go_enter Try.func4, Try.ntmps4
      go_upto_region 3 with (fail)
      refine region_after w (by kernel_rfl) (by kernel_rfl) ?_
      repeat (first
        | go_big_quiet_step ((first   | (go_at_call 12; with_reducible refine (C.sum _ _ _ _ (Lib.hid (HTK.out.own (After.o _))) L1.out H1).mono ?_; rintro e w2 ⟨rfl, hg⟩; exact ⟨rfl, ⟨w2, (After.o _).trans hg⟩, rfl⟩)   | (go_at_call 12; with_reducible refine (C.sum b _ _ _ (Lib.hid (HB.out.own (After.o _))) L2.out H2).mono ?_; rintro e w2 ⟨rfl, hg⟩; exact ⟨rfl, ⟨w2, (After.o _).trans hg⟩, rfl⟩)   | (go_at_call 14; with_reducible refine (C.extend _ _ _ _ _ I1.out (Lib.hid (HDK.out.own (After.o _))) L3.out H3).mono ?_; rintro e w2 ⟨rfl, hg⟩; exact ⟨rfl, ⟨w2, (After.o _).trans hg⟩, rfl⟩)   | (go_at_call 14; with_reducible refine (C.extend s _ _ _ _ I0.out (Lib.hid (HTK.out.own (After.o _))) L1.out H4).mono ?_; rintro e w2 ⟨rfl, hg⟩; exact ⟨rfl, ⟨w2, (After.o _).trans hg⟩, rfl⟩)   | (go_at_call 14; with_reducible refine (C.extend _ _ _ _ _ I2.out (Lib.hid (HDK.out.own (After.o _))) L3.out H5).mono ?_; rintro e w2 ⟨rfl, hg⟩; exact ⟨rfl, ⟨w2, (After.o _).trans hg⟩, rfl⟩)   | (go_at_call 14; with_reducible refine (C.extend s b _ _ _ I0.out (Lib.hid (HB.out.own (After.o _))) L2.out H6).mono ?_; rintro e w2 ⟨rfl, hg⟩; exact ⟨rfl, ⟨w2, (After.o _).trans hg⟩, rfl⟩)))
        | quiet_step ((first   | (go_at_call 12; with_reducible refine (C.sum _ _ _ _ (Lib.hid (HTK.out.own (After.o _))) L1.out H1).mono ?_; rintro e w2 ⟨rfl, hg⟩; exact ⟨rfl, ⟨w2, (After.o _).trans hg⟩, rfl⟩)   | (go_at_call 12; with_reducible refine (C.sum b _ _ _ (Lib.hid (HB.out.own (After.o _))) L2.out H2).mono ?_; rintro e w2 ⟨rfl, hg⟩; exact ⟨rfl, ⟨w2, (After.o _).trans hg⟩, rfl⟩)   | (go_at_call 14; with_reducible refine (C.extend _ _ _ _ _ I1.out (Lib.hid (HDK.out.own (After.o _))) L3.out H3).mono ?_; rintro e w2 ⟨rfl, hg⟩; exact ⟨rfl, ⟨w2, (After.o _).trans hg⟩, rfl⟩)   | (go_at_call 14; with_reducible refine (C.extend s _ _ _ _ I0.out (Lib.hid (HTK.out.own (After.o _))) L1.out H4).mono ?_; rintro e w2 ⟨rfl, hg⟩; exact ⟨rfl, ⟨w2, (After.o _).trans hg⟩, rfl⟩)   | (go_at_call 14; with_reducible refine (C.extend _ _ _ _ _ I2.out (Lib.hid (HDK.out.own (After.o _))) L3.out H5).mono ?_; rintro e w2 ⟨rfl, hg⟩; exact ⟨rfl, ⟨w2, (After.o _).trans hg⟩, rfl⟩)   | (go_at_call 14; with_reducible refine (C.extend s b _ _ _ I0.out (Lib.hid (HB.out.own (After.o _))) L2.out H6).mono ?_; rintro e w2 ⟨rfl, hg⟩; exact ⟨rfl, ⟨w2, (After.o _).trans hg⟩, rfl⟩))))
      refine wpQuiet_nil ?_
      rintro _ ⟨x, rfl⟩
      have q1 := x.o
      generalize x.w = w1 at *
      have HNL := Lib.hid (cel_nil0 w1)
      go_wp2_with (first
        | (go_at_call 14; with_reducible refine (C.extend s [] _ s _ I0.out HNL L0.out H7).mono ?_; rintro e w2 ⟨rfl, q2⟩)
        | (go_at_call 11; with_reducible refine (awake_at C _).mono ?_; rintro e w3 ⟨rfl, q3⟩))
      go_ret
      exact ⟨rfl, q1.trans (q2.trans q3)⟩
    · obtain rfl : z = 0 := by omega
      obtain rfl : k = 0 := by omega
      obtain ⟨rfl, rfl⟩ := HE.out rfl
      cases A with
      | none =>
        have HDK := Lib.hid (show Cel w (.slice none 0 cap) (cellsU (b.drop 0)) by rw [List.drop_zero]; exact HB.out)
        clear HBL HB0
        go_enter Try.func4, Try.ntmps4
        go_upto_region 3 with (fail)
        refine region_after w (by kernel_rfl) (by kernel_rfl) ?_
        repeat (first
          | go_big_quiet_step ((first   | (go_at_call 12; with_reducible refine (C.sum _ _ _ _ (Lib.hid (HTK.out.own (After.o _))) L1.out H1).mono ?_; rintro e w2 ⟨rfl, hg⟩; exact ⟨rfl, ⟨w2, (After.o _).trans hg⟩, rfl⟩)   | (go_at_call 12; with_reducible refine (C.sum b _ _ _ (Lib.hid (HB.out.own (After.o _))) L2.out H2).mono ?_; rintro e w2 ⟨rfl, hg⟩; exact ⟨rfl, ⟨w2, (After.o _).trans hg⟩, rfl⟩)   | (go_at_call 14; with_reducible refine (C.extend _ _ _ _ _ I1.out (Lib.hid (HDK.out.own (After.o _))) L3.out H3).mono ?_; rintro e w2 ⟨rfl, hg⟩; exact ⟨rfl, ⟨w2, (After.o _).trans hg⟩, rfl⟩)   | (go_at_call 14; with_reducible refine (C.extend s _ _ _ _ I0.out (Lib.hid (HTK.out.own (After.o _))) L1.out H4).mono ?_; rintro e w2 ⟨rfl, hg⟩; exact ⟨rfl, ⟨w2, (After.o _).trans hg⟩, rfl⟩)   | (go_at_call 14; with_reducible refine (C.extend _ _ _ _ _ I2.out (Lib.hid (HDK.out.own (After.o _))) L3.out H5).mono ?_; rintro e w2 ⟨rfl, hg⟩; exact ⟨rfl, ⟨w2, (After.o _).trans hg⟩, rfl⟩)   | (go_at_call 14; with_reducible refine (C.extend s b _ _ _ I0.out (Lib.hid (HB.out.own (After.o _))) L2.out H6).mono ?_; rintro e w2 ⟨rfl, hg⟩; exact ⟨rfl, ⟨w2, (After.o _).trans hg⟩, rfl⟩)))
          | quiet_step ((first   | (go_at_call 12; with_reducible refine (C.sum _ _ _ _ (Lib.hid (HTK.out.own (After.o _))) L1.out H1).mono ?_; rintro e w2 ⟨rfl, hg⟩; exact ⟨rfl, ⟨w2, (After.o _).trans hg⟩, rfl⟩)   | (go_at_call 12; with_reducible refine (C.sum b _ _ _ (Lib.hid (HB.out.own (After.o _))) L2.out H2).mono ?_; rintro e w2 ⟨rfl, hg⟩; exact ⟨rfl, ⟨w2, (After.o _).trans hg⟩, rfl⟩)   | (go_at_call 14; with_reducible refine (C.extend _ _ _ _ _ I1.out (Lib.hid (HDK.out.own (After.o _))) L3.out H3).mono ?_; rintro e w2 ⟨rfl, hg⟩; exact ⟨rfl, ⟨w2, (After.o _).trans hg⟩, rfl⟩)   | (go_at_call 14; with_reducible refine (C.extend s _ _ _ _ I0.out (Lib.hid (HTK.out.own (After.o _))) L1.out H4).mono ?_; rintro e w2 ⟨rfl, hg⟩; exact ⟨rfl, ⟨w2, (After.o _).trans hg⟩, rfl⟩)   | (go_at_call 14; with_reducible refine (C.extend _ _ _ _ _ I2.out (Lib.hid (HDK.out.own (After.o _))) L3.out H5).mono ?_; rintro e w2 ⟨rfl, hg⟩; exact ⟨rfl, ⟨w2, (After.o _).trans hg⟩, rfl⟩)   | (go_at_call 14; with_reducible refine (C.extend s b _ _ _ I0.out (Lib.hid (HB.out.own (After.o _))) L2.out H6).mono ?_; rintro e w2 ⟨rfl, hg⟩; exact ⟨rfl, ⟨w2, (After.o _).trans hg⟩, rfl⟩))))
        refine wpQuiet_nil ?_
        rintro _ ⟨x, rfl⟩
        have q1 := x.o
        generalize x.w = w1 at *
        have HNL := Lib.hid (cel_nil0 w1)
        go_wp2_with (first
          | (go_at_call 14; with_reducible refine (C.extend s [] _ s _ I0.out HNL L0.out H7).mono ?_; rintro e w2 ⟨rfl, q2⟩)
          | (go_at_call 11; with_reducible refine (awake_at C _).mono ?_; rintro e w3 ⟨rfl, q3⟩))
        go_ret
        exact ⟨rfl, q1.trans (q2.trans q3)⟩
      | some ad =>
        have HDK := Lib.hid (show Cel w (.slice (some ad) 0 cap) (cellsU (b.drop 0)) by rw [List.drop_zero]; exact HB.out)
        clear HBL HB0
        go_enter Try.func4, Try.ntmps4
        go_upto_region 3 with (fail)
        refine region_after w (by kernel_rfl) (by kernel_rfl) ?_
        repeat (first
          | go_big_quiet_step ((first   | (go_at_call 12; with_reducible refine (C.sum _ _ _ _ (Lib.hid (HTK.out.own (After.o _))) L1.out H1).mono ?_; rintro e w2 ⟨rfl, hg⟩; exact ⟨rfl, ⟨w2, (After.o _).trans hg⟩, rfl⟩)   | (go_at_call 12; with_reducible refine (C.sum b _ _ _ (Lib.hid (HB.out.own (After.o _))) L2.out H2).mono ?_; rintro e w2 ⟨rfl, hg⟩; exact ⟨rfl, ⟨w2, (After.o _).trans hg⟩, rfl⟩)   | (go_at_call 14; with_reducible refine (C.extend _ _ _ _ _ I1.out (Lib.hid (HDK.out.own (After.o _))) L3.out H3).mono ?_; rintro e w2 ⟨rfl, hg⟩; exact ⟨rfl, ⟨w2, (After.o _).trans hg⟩, rfl⟩)   | (go_at_call 14; with_reducible refine (C.extend s _ _ _ _ I0.out (Lib.hid (HTK.out.own (After.o _))) L1.out H4).mono ?_; rintro e w2 ⟨rfl, hg⟩; exact ⟨rfl, ⟨w2, (After.o _).trans hg⟩, rfl⟩)   | (go_at_call 14; with_reducible refine (C.extend _ _ _ _ _ I2.out (Lib.hid (HDK.out.own (After.o _))) L3.out H5).mono ?_; rintro e w2 ⟨rfl, hg⟩; exact ⟨rfl, ⟨w2, (After.o _).trans hg⟩, rfl⟩)   | (go_at_call 14; with_reducible refine (C.extend s b _ _ _ I0.out (Lib.hid (HB.out.own (After.o _))) L2.out H6).mono ?_; rintro e w2 ⟨rfl, hg⟩; exact ⟨rfl, ⟨w2, (After.o _).trans hg⟩, rfl⟩)))
          | quiet_step ((first   | (go_at_call 12; with_reducible refine (C.sum _ _ _ _ (Lib.hid (HTK.out.own (After.o _))) L1.out H1).mono ?_; rintro e w2 ⟨rfl, hg⟩; exact ⟨rfl, ⟨w2, (After.o _).trans hg⟩, rfl⟩)   | (go_at_call 12; with_reducible refine (C.sum b _ _ _ (Lib.hid (HB.out.own (After.o _))) L2.out H2).mono ?_; rintro e w2 ⟨rfl, hg⟩; exact ⟨rfl, ⟨w2, (After.o _).trans hg⟩, rfl⟩)   | (go_at_call 14; with_reducible refine (C.extend _ _ _ _ _ I1.out (Lib.hid (HDK.out.own (After.o _))) L3.out H3).mono ?_; rintro e w2 ⟨rfl, hg⟩; exact ⟨rfl, ⟨w2, (After.o _).trans hg⟩, rfl⟩)   | (go_at_call 14; with_reducible refine (C.extend s _ _ _ _ I0.out (Lib.hid (HTK.out.own (After.o _))) L1.out H4).mono ?_; rintro e w2 ⟨rfl, hg⟩; exact ⟨rfl, ⟨w2, (After.o _).trans hg⟩, rfl⟩)   | (go_at_call 14; with_reducible refine (C.extend _ _ _ _ _ I2.out (Lib.hid (HDK.out.own (After.o _))) L3.out H5).mono ?_; rintro e w2 ⟨rfl, hg⟩; exact ⟨rfl, ⟨w2, (After.o _).trans hg⟩, rfl⟩)   | (go_at_call 14; with_reducible refine (C.extend s b _ _ _ I0.out (Lib.hid (HB.out.own (After.o _))) L2.out H6).mono ?_; rintro e w2 ⟨rfl, hg⟩; exact ⟨rfl, ⟨w2, (After.o _).trans hg⟩, rfl⟩))))
        refine wpQuiet_nil ?_
        rintro _ ⟨x, rfl⟩
        have q1 := x.o
        generalize x.w = w1 at *
        have HNL := Lib.hid (cel_nil0 w1)
        go_wp2_with (first
          | (go_at_call 14; with_reducible refine (C.extend s [] _ s _ I0.out HNL L0.out H7).mono ?_; rintro e w2 ⟨rfl, q2⟩)
          | (go_at_call 11; with_reducible refine (awake_at C _).mono ?_; rintro e w3 ⟨rfl, q3⟩))
        go_ret
        exact ⟨rfl, q1.trans (q2.trans q3)⟩
end Go.Proofs.Ytbplglndcagglaa.CrcW
