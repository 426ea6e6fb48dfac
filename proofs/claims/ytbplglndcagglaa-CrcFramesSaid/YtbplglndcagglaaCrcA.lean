/-
  Walks of the specification of package crc: Extend, Sum, four. Condition: none.
-/
import Derived.Test.YtbplglndcagglaaCrcPlainB
import Derived.Test.YtbplglndcagglaaWireB
import Derived.Laws.BitsAllLaws
namespace Go.Proofs.Ytbplglndcagglaa.CrcW
open Go.ChangeShapes Go.WideShapes Go.ChangeAt Go.RowKit
open PairW CelW WirP CrcP WirW
theorem inv_u32 {c : Nat} (h : c < 4294967296) : bits .xor .u32 IntKind.u32.max (c : Int) = ((c ^^^ m32 : Nat) : Int) := by
  have e := u32_xor_nat m32 c (by unfold m32; omega) h
  rw [Nat.xor_comm]
  exact e
theorem low_u32 {c : Nat} (h : c < 4294967296) : bits .and .u32 (c : Int) 1 = ((c % 2 : Nat) : Int) := by
  have e := u32_and_nat c 1 h (by omega)
  rw [Nat.and_one_is_mod] at e
  exact e
theorem pol_u32 {c : Nat} (h : c < 4294967296) : bits .xor .u32 ((c : Int) / 2) 2197175160 = ((c / 2 ^^^ 2197175160 : Nat) : Int) := by
  have e := u32_xor_nat (c / 2) 2197175160 (by omega) (by omega)
  rw [Int.natCast_ediv] at e
  exact e
theorem mix_u32 {c x : Nat} (h : c < 4294967296) (k : x < 256) : bits .xor .u32 (c : Int) (x : Int) = ((c ^^^ x : Nat) : Int) := u32_xor_nat c x h (by omega)
theorem bit_odd {c : Nat} (h : c % 2 = 1) : crcBit c = c / 2 ^^^ 2197175160 := if_pos h
theorem bit_even {c : Nat} (h : ¬ c % 2 = 1) : crcBit c = c / 2 := if_neg h
theorem raw_take {b : Bs} {k : Nat} (h : k < b.length) (c : Nat) : crcRaw c (b.take (k + 1)) = crcByte (crcRaw c (b.take k)) b[k].toNat := by
  rw [List.take_succ_eq_append_getElem h, raw_app]
  rfl
set_option maxRecDepth 100000 in
set_option maxHeartbeats 1000000 in
theorem rext_at (s : Nat) (b : Bs) (v : Value) (t : Nat) (w : World) (hs : s < 4294967296) (HB : Hid (Cel w v (cellsU b))) (H : Hid (ext s b = t)) :
    Calls Try.prog 15 #[.int .u32 (s : Int), v] w fun e w' => e = .returned (.int .u32 (t : Int)) ∧ w = w' := by
  obtain ⟨A, cap, rfl, h1, h2, h3⟩ := cel_cells HB.out
  unfold maxLen at h2
  have HC := Lib.hid h3
  clear h3 HB
  obtain ⟨n, hn⟩ : ∃ n, b.length = n := ⟨_, rfl⟩
  have HN := Lib.hid hn
  rw [hn] at h1 ⊢
  have HC2 := Lib.hid (fun (h : 0 < n) => HC.out (by rw [hn]; exact h))
  clear hn HC
  have i1 := inv_u32 hs
  obtain ⟨c0, hc0⟩ : ∃ c, s ^^^ m32 = c := ⟨_, rfl⟩
  rw [hc0] at i1
  have hl0 : c0 < 4294967296 := by rw [← hc0]; exact lt_xor hs (by unfold m32; omega)
  have HT := Lib.hid (show crcRaw c0 b ^^^ m32 = t by rw [← hc0]; exact H.out)
  have HL0 := Lib.hid hl0
  clear H hc0 hs hl0
  go_enter Try.func15, Try.ntmps15
  go_wp2
  go_loop [5, 6, 7, 8] (fun vc vi _ _ => ∃ k : Nat, vi = .int .i64 (k : Int) ∧ k ≤ n ∧ vc = .int .u32 (crcRaw c0 (b.take k) : Int)) (fun _ vi _ _ => n - (intOf vi).toNat)
  case atStart => exact ⟨0, rfl, Nat.zero_le _, rfl⟩
  case round =>
    obtain ⟨k, rfl, hk, rfl⟩ := hrel
    by_cases hlt : k < n
    · obtain ⟨g, off, rfl, hc⟩ := HC2.out (by omega)
      have hkb : k < b.length := by rw [HN.out]; exact hlt
      have e0 := hc k hkb
      have hst := raw_take hkb c0
      have hlc := raw_lt (b.take k) HL0.out
      clear hc
      have hkn : (k : Int) < n := by omega
      obtain ⟨x, hx⟩ : ∃ x, b[k].toNat = x := ⟨_, rfl⟩
      have hx256 : x < 256 := by rw [← hx]; exact b[k].toNat_lt
      rw [hx] at e0 hst
      obtain ⟨c, hc⟩ : ∃ c, crcRaw c0 (b.take k) = c := ⟨_, rfl⟩
      rw [hc] at hst hlc ⊢
      have i2 := mix_u32 hlc hx256
      have hlm : c ^^^ x < 4294967296 := lt_xor hlc (by omega)
      unfold crcByte at hst
      obtain ⟨m, hm⟩ : ∃ m, c ^^^ x = m := ⟨_, rfl⟩
      rw [hm] at i2 hst hlm
      have HST := Lib.hid hst
      have HLM := Lib.hid hlm
      have i5 : IntKind.u32.wrap (x : Int) = x := IntWalk.u32_in _ (by omega)
      clear hst hlc hx hx256 hc hlm hm hkb
      go_wp2
      go_loop [5, 7, 8] (fun vc vj _ => ∃ j : Nat, vj = .int .i64 (j : Int) ∧ j ≤ 8 ∧ vc = .int .u32 (crcBits j m : Int)) (fun _ vj _ => 8 - (intOf vj).toNat)
      case atStart => exact ⟨0, rfl, Nat.zero_le _, rfl⟩
      case round =>
        obtain ⟨j, rfl, hj, rfl⟩ := hrel
        by_cases hlt2 : j < 8
        · have hld := bits_lt HLM.out j
          have HNX := Lib.hid (show crcBits (j + 1) m = crcBit (crcBits j m) from rfl)
          obtain ⟨d, hd⟩ : ∃ d, crcBits j m = d := ⟨_, rfl⟩
          rw [hd] at hld HNX ⊢
          have k1 := low_u32 hld
          have k2 := pol_u32 hld
          by_cases c2 : d % 2 = 1
          · rw [c2] at k1
            rw [bit_odd c2] at HNX
            obtain ⟨y, hy⟩ : ∃ y, d / 2 ^^^ 2197175160 = y := ⟨_, rfl⟩
            rw [hy] at k2 HNX
            clear hd hld c2 hy
            go_wp2
            go_round
            case rel => exact ⟨j + 1, by go_num, hlt2, by rw [HNX.out]⟩
            case measure => simp [intOf]; omega
          · have c3 : d % 2 = 0 := by omega
            rw [c3] at k1
            rw [bit_even c2] at HNX
            clear hd hld c2 c3 k2
            go_wp2
            go_round
            case rel => exact ⟨j + 1, by go_num, hlt2, by rw [HNX.out]; rfl⟩
            case measure => simp [intOf]; omega
        · obtain rfl : j = 8 := by omega
          go_wp2
          go_round
          case rel => exact ⟨k + 1, by go_num, hlt, by rw [HST.out]⟩
          case measure => simp [intOf]; omega
    · obtain rfl : n = k := by omega
      have hlc := raw_lt b HL0.out
      have hft : b.take n = b := List.take_of_length_le (by rw [HN.out]; exact Nat.le_refl _)
      rw [hft]
      have i3 := inv_u32 hlc
      rw [HT.out] at i3
      clear hlc hft
      go_wp2
      go_ret
      exact ⟨rfl, rfl⟩
theorem rext0_at (b : Bs) (v : Value) (t : Nat) (w : World) (HB : Hid (Cel w v (cellsU b))) (H : Hid (ext 0 b = t)) :
    Calls Try.prog 15 #[.int .u32 0, v] w fun e w' => e = .returned (.int .u32 (t : Int)) ∧ w = w' := rext_at 0 b v t w (by decide) HB H
theorem rsum_at (b : Bs) (v : Value) (t : Nat) (w : World) (HB : Hid (Cel w v (cellsU b))) (H : Hid (ext 0 b = t)) :
    Calls Try.prog 13 #[v] w fun e w' => e = .returned (.int .u32 (t : Int)) ∧ w = w' := by
  go_enter Try.func13, Try.ntmps13
  go_wp2_with (go_at_call 15; with_reducible refine (rext0_at b v t _ HB H).mono ?_; rintro e w1 ⟨rfl, rfl⟩)
  go_ret
  exact ⟨rfl, rfl⟩
theorem byte_and {m : Nat} (h : m < 4294967296) : bits .and .u32 (m : Int) 255 % 256 = ((m % 256 : Nat) : Int) := by
  have e := u32_and_nat m 255 h (by omega)
  rw [show (255 : Nat) = 2 ^ 8 - 1 from rfl, Nat.and_two_pow_sub_one_eq_mod] at e
  have e : bits .and .u32 (m : Int) 255 = ((m % 256 : Nat) : Int) := e
  rw [e]
  omega
/-- Bytes that were written out where they stand. -/
theorem cel_new {w : World} {T : TypeId} {cs : Array Value} {xs : List Value} {k : Nat} (h : cs.toList = xs) (hk : xs.length = k) (hm : k ≤ maxLen) : Cel (w.alloc (.cells cs T)) (.slice (some ⟨w.heap.size, 0, none⟩) k k) xs := by
  subst hk
  refine ⟨_, xs.length, rfl, Nat.le_refl _, hm, fun _ => ⟨w.heap.size, 0, rfl, fun i u hu => ?_⟩⟩
  rw [Nat.zero_add]
  subst h
  have hu' : cs[i]? = some u := by simpa using hu
  have h0 : (w.alloc (.cells cs T)).heap[w.heap.size]? = some (.cells cs T (0, 0)) := heap_alloc_new w _
  unfold World.cell?
  simp only [h0]
  exact hu'
set_option maxRecDepth 100000 in
theorem rfour_at (n : Nat) (w : World) (hn : n < 4294967296) :
    Calls Try.prog 29 #[.int .u32 (n : Int)] w fun e w' => ∃ v, e = .returned v ∧ Cel w' v (cellsU (four n)) ∧ Own w w' := by
  have k0 := byte_and hn
  have k1 := byte_and (m := n / 256) (by omega)
  have k2 := byte_and (m := n / 65536) (by omega)
  rw [Int.natCast_ediv] at k1 k2
  have hc : (#[Value.int .u8 (bits .and .u32 (n : Int) 255 % 256), .int .u8 (bits .and .u32 ((n : Int) / 256) 255 % 256), .int .u8 (bits .and .u32 ((n : Int) / 65536) 255 % 256), .int .u8 ((n : Int) / 16777216)] : Array Value).toList = cellsU (four n) := by
    have e0 : (byteN (n % 256)).toNat = n % 256 := byte_of (by omega)
    have e1 : (byteN (n / 256 % 256)).toNat = n / 256 % 256 := byte_of (by omega)
    have e2 : (byteN (n / 65536 % 256)).toNat = n / 65536 % 256 := byte_of (by omega)
    have e3 : (byteN (n / 16777216 % 256)).toNat = n / 16777216 % 256 := byte_of (by omega)
    have e4 : (n : Int) / 16777216 = ((n / 16777216 % 256 : Nat) : Int) := by omega
    unfold cellsU four
    simp only [List.map_cons, List.map_nil, e0, e1, e2, e3]
    rw [k0, e4]
    have k1 : bits .and .u32 ((n : Int) / 256) 255 % 256 = ((n / 256 % 256 : Nat) : Int) := k1
    have k2 : bits .and .u32 ((n : Int) / 65536) 255 % 256 = ((n / 65536 % 256 : Nat) : Int) := k2
    rw [k1, k2]
  have HCN := Lib.hid hc
  clear k0 k1 k2 hc
  go_enter Try.func29, Try.ntmps29
  go_wp2
  go_ret
  exact ⟨_, rfl, cel_new HCN.out rfl (by unfold maxLen; decide), (Own.refl w).alloc _⟩
end Go.Proofs.Ytbplglndcagglaa.CrcW
