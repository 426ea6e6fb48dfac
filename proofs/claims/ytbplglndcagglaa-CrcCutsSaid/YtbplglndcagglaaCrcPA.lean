/-
  Walks of the program of package crc: Extend, Sum, sumBytes; bytes.Equal, bytes.Clone. Condition: none.
-/
import Derived.Test.YtbplglndcagglaaCrcD
import Derived.Test.YtbplglndcagglaaWirePC
import Derived.Test.YtbplglndcagglaaWirePD
import Derived.Laws.OwnMore
import Derived.OwnWalk
import Derived.Lib.LazyBuf
namespace Go.Proofs.Ytbplglndcagglaa.CrcW
open Go.ChangeShapes Go.WideShapes Go.ChangeAt Go.RowKit
open PairW CelW WirP CrcP WirW
set_option maxRecDepth 100000 in
set_option maxHeartbeats 1000000 in
theorem pext_at (s : Nat) (b : Bs) (v : Value) (t : Nat) (w : World) (hs : s < 4294967296) (HB : Hid (Cel w v (cellsU b))) (H : Hid (ext s b = t)) :
    Calls Try.prog 14 #[.int .u32 (s : Int), v] w fun e w' => e = .returned (.int .u32 (t : Int)) ∧ w = w' := by
  obtain ⟨A, cap, rfl, h1, h2, h3⟩ := cel_cells HB.out
  unfold maxLen at h2
  have HC := Lib.hid h3
  clear h3 HB
  obtain ⟨n, hn⟩ : ∃ n, b.length = n := ⟨_, rfl⟩
  have HN := Lib.hid hn
  rw [hn] at h1 ⊢
  have HC2 := Lib.hid (fun (h : 0 < n) => HC.out (by rw [hn]; exact h))
  clear hn HC
  have i1 := inv_u32 hs
  obtain ⟨c0, hc0⟩ : ∃ c, s ^^^ m32 = c := ⟨_, rfl⟩
  rw [hc0] at i1
  have hl0 : c0 < 4294967296 := by rw [← hc0]; exact lt_xor hs (by unfold m32; omega)
  have HT := Lib.hid (show crcRaw c0 b ^^^ m32 = t by rw [← hc0]; exact H.out)
  have HL0 := Lib.hid hl0
  clear H hc0 hs hl0
  go_enter Try.func14, Try.ntmps14
  go_wp2
  go_loop [5, 7, 8, 13, 21] (fun vc _ _ vi _ => ∃ k : Nat, vi = .int .i64 (k : Int) ∧ k ≤ n ∧ vc = .int .u32 (crcRaw c0 (b.take k) : Int)) (fun _ _ _ vi _ => n - (intOf vi).toNat)
  case atStart => exact ⟨0, rfl, Nat.zero_le _, rfl⟩
  case round =>
    obtain ⟨k, rfl, hk, rfl⟩ := hrel
    by_cases hlt : k < n
    · obtain ⟨g, off, rfl, hc⟩ := HC2.out (by omega)
      have hkb : k < b.length := by rw [HN.out]; exact hlt
      have e0 := hc k hkb
      have hst := raw_take hkb c0
      have hlc := raw_lt (b.take k) HL0.out
      clear hc
      have hkn : (k : Int) < n := by omega
      obtain ⟨x, hx⟩ : ∃ x, b[k].toNat = x := ⟨_, rfl⟩
      have hx256 : x < 256 := by rw [← hx]; exact b[k].toNat_lt
      rw [hx] at e0 hst
      obtain ⟨c, hc⟩ : ∃ c, crcRaw c0 (b.take k) = c := ⟨_, rfl⟩
      rw [hc] at hst hlc ⊢
      have i2 := mix_u32 hlc hx256
      have hlm : c ^^^ x < 4294967296 := lt_xor hlc (by omega)
      unfold crcByte at hst
      obtain ⟨m, hm⟩ : ∃ m, c ^^^ x = m := ⟨_, rfl⟩
      rw [hm] at i2 hst hlm
      have HST := Lib.hid hst
      have HLM := Lib.hid hlm
      have i5 : IntKind.u32.wrap (x : Int) = x := IntWalk.u32_in _ (by omega)
      clear hst hlc hx hx256 hc hlm hm hkb
      go_wp2
      go_loop [5, 8, 21] (fun vc _ vj => ∃ j : Nat, vj = .int .i64 (j : Int) ∧ j ≤ 8 ∧ vc = .int .u32 (crcBits j m : Int)) (fun _ _ vj => 8 - (intOf vj).toNat)
      case atStart => exact ⟨0, rfl, Nat.zero_le _, rfl⟩
      case round =>
        obtain ⟨j, rfl, hj, rfl⟩ := hrel
        by_cases hlt2 : j < 8
        · have hld := bits_lt HLM.out j
          have HNX := Lib.hid (show crcBits (j + 1) m = crcBit (crcBits j m) from rfl)
          obtain ⟨d, hd⟩ : ∃ d, crcBits j m = d := ⟨_, rfl⟩
          rw [hd] at hld HNX ⊢
          have k1 := low_u32 hld
          have k2 := pol_u32 hld
          by_cases c2 : d % 2 = 1
          · rw [c2] at k1
            rw [bit_odd c2] at HNX
            obtain ⟨y, hy⟩ : ∃ y, d / 2 ^^^ 2197175160 = y := ⟨_, rfl⟩
            rw [hy] at k2 HNX
            clear hd hld c2 hy
            go_wp2
            go_round
            case rel => exact ⟨j + 1, by go_num, hlt2, by rw [HNX.out]⟩
            case measure => simp [intOf]; omega
          · have c3 : d % 2 = 0 := by omega
            rw [c3] at k1
            rw [bit_even c2] at HNX
            clear hd hld c2 c3 k2
            go_wp2
            go_round
            case rel => exact ⟨j + 1, by go_num, hlt2, by rw [HNX.out]; rfl⟩
            case measure => simp [intOf]; omega
        · obtain rfl : j = 8 := by omega
          go_wp2
          go_round
          case rel => exact ⟨k + 1, by go_num, hlt, by rw [HST.out]⟩
          case measure => simp [intOf]; omega
    · obtain rfl : n = k := by omega
      have hlc := raw_lt b HL0.out
      have hft : b.take n = b := List.take_of_length_le (by rw [HN.out]; exact Nat.le_refl _)
      rw [hft]
      have i3 := inv_u32 hlc
      rw [HT.out] at i3
      clear hlc hft
      go_wp2
      go_ret
      exact ⟨rfl, rfl⟩
theorem pext0_at (b : Bs) (v : Value) (t : Nat) (w : World) (HB : Hid (Cel w v (cellsU b))) (H : Hid (ext 0 b = t)) :
    Calls Try.prog 14 #[.int .u32 0, v] w fun e w' => e = .returned (.int .u32 (t : Int)) ∧ w = w' := pext_at 0 b v t w (by decide) HB H
theorem psum_at (b : Bs) (v : Value) (t : Nat) (w : World) (HB : Hid (Cel w v (cellsU b))) (H : Hid (ext 0 b = t)) :
    Calls Try.prog 12 #[v] w fun e w' => e = .returned (.int .u32 (t : Int)) ∧ w = w' := by
  go_enter Try.func12, Try.ntmps12
  go_wp2_with (go_at_call 14; with_reducible refine (pext0_at b v t _ HB H).mono ?_; rintro e w1 ⟨rfl, rfl⟩)
  go_ret
  exact ⟨rfl, rfl⟩
/-! ### The library's Equal and Clone at bytes -/
set_option maxRecDepth 100000 in
theorem equal_at (a b : Bs) (va vb : Value) (t : Bool) (w : World) (HA : Hid (Cel w va (cellsU a))) (HB : Hid (Cel w vb (cellsU b))) (H : Hid (decide (a = b) = t)) :
    Calls Try.prog 31 #[va, vb] w fun e w' => e = .returned (.bool t) ∧ w = w' := by
  have c1 := conv_cel (P := Try.prog) HA.out (src := 23) (e := 5) (dst := 9) rfl rfl rfl
  have c2 := conv_cel (P := Try.prog) HB.out (src := 23) (e := 5) (dst := 9) rfl rfl rfl
  obtain ⟨A, ca, rfl, _, _⟩ := cel_form HA.out
  obtain ⟨B, cb, rfl, _, _⟩ := cel_form HB.out
  have he := strB_eq a b
  rw [H.out] at he
  obtain ⟨s, hs⟩ : ∃ s, strB a = s := ⟨_, rfl⟩
  obtain ⟨r, hr⟩ : ∃ r, strB b = r := ⟨_, rfl⟩
  rw [hs] at c1 he
  rw [hr] at c2 he
  obtain ⟨n, hn⟩ : ∃ n, (cellsU a).length = n := ⟨_, rfl⟩
  obtain ⟨m, hm⟩ : ∃ n, (cellsU b).length = n := ⟨_, rfl⟩
  rw [hn] at c1 ⊢
  rw [hm] at c2 ⊢
  clear hs hr hn hm HA HB H
  go_enter Try.func31, Try.ntmps31
  go_wp2
  go_ret
  exact ⟨rfl, rfl⟩
set_option maxRecDepth 100000 in
theorem bclone_at (b : Bs) (v : Value) (n : Nat) (w : World) (HB : Hid (Cel w v (cellsU b))) (hl : b.length ≤ 140737488355328) (hn : b.length = n) :
    Calls Try.prog 32 #[v] w fun e w' => ∃ v', e = .returned v' ∧ w'.ownsRow w.heap.size 5 1 v' n (cellsU b) ∧ Own w w' := by
  obtain ⟨i0, hi, hz0, hz1, hz2⟩ := info_parts (show (Try.prog.info? 5).map (fun i => (i.zero, i.size, i.bytes)) = some (some (.int .u8 0), 1, 1) by kernel_rfl)
  have HI := Lib.hid hi
  have HZ0 := Lib.hid hz0
  have HZ1 := Lib.hid hz1
  have HZ2 := Lib.hid hz2
  clear hi hz0 hz1 hz2
  obtain ⟨A, cap, rfl, h1, h2, h3⟩ := cel_cells HB.out
  have h3' : 0 < n → ∃ g off : Nat, A = some ⟨g, off, none⟩ := fun h => by
    obtain ⟨g, off, hA, _⟩ := h3 (by omega)
    exact ⟨g, off, hA⟩
  clear h3
  rename _ => h3
  rw [hn] at hl HB h1 ⊢
  have HK := Lib.hid (show 0 + (cellsU b).length = n by rw [cellsU_len, Nat.zero_add, hn])
  have HK2 := Lib.hid (show n ≤ maxLen by unfold maxLen; omega)
  have HK3 := Lib.hid (show n * 1 ≤ 140737488355328 by omega)
  cases A with
  | none =>
    have h0 : n = 0 := by
      by_cases h : 0 < n
      · obtain ⟨g, off, hA⟩ := h3 h
        cases hA
      · omega
    have hb0 : b = [] := List.eq_nil_of_length_eq_zero (by rw [hn, h0])
    subst hb0
    subst h0
    clear h3 hl HK HK2 HK3 HI HZ0 HZ1 HZ2 hn
    have hnil := fun w => run_eql_slice_nil (P := Try.prog) w 23 5 none 0 cap rfl
    go_enter Try.func32, Try.ntmps32
    go_wp2
    go_ret
    exact ⟨_, rfl, World.ownsRow_nil _ _ _ _, Own.refl _⟩
  | some ad =>
    have HB1 := Lib.hid (HB.out.own ((Own.refl w).alloc (.cells #[] 5)))
    have q0 := (Own.refl w).alloc (.cells #[] 5)
    have HR0 := Lib.hid (World.ownsRow_made (e := 5) (size := 1) w #[] 0 (Nat.le_refl _) (Nat.zero_le _) rfl)
    have hnil := fun w => run_eql_slice_nil (P := Try.prog) w 23 5 (some ad) n cap rfl
    clear h3 hl hn
    go_enter Try.func32, Try.ntmps32
    go_wp2_with (at_builtin; refine wpList_append_r (by go_simp) _ _ 23 rfl w.heap.size 5 i0 (.int .u8 0) 1 Try.underlying23 HI.out HZ0.out HZ1.out HZ2.out rfl _ 0 (cellsU []) rfl HR0.out _ (cellsU b) rfl HB1.out (cellsU_one _) n HK.out HK2.out HK3.out q0.size ?_; intro v4 w4 hown4 hgr4 hsz4; have q4 := hgr4 _ q0 (Nat.le_refl _); clear hsz4 hgr4)
    go_ret
    exact ⟨_, rfl, hown4, q4⟩
theorem four_at (t i : Nat) (h : i < 4) : (four t)[i]'(by rw [four_len]; exact h) = byteN (t / 2 ^ (8 * i) % 256) := by
  match i, h with
  | 0, _ => show byteN (t % 256) = byteN (t / 1 % 256); rw [Nat.div_one]
  | 1, _ => rfl
  | 2, _ => rfl
  | 3, _ => rfl
theorem set_cell8' (X : Bs) (j z : Nat) (hz : z < 256) : (cellsU X).set j (.int .u8 (z : Int)) = cellsU (X.set j (byteN z)) := by
  unfold cellsU
  rw [List.map_set, byte_of hz]
theorem set_take {X Y : Bs} {i : Nat} (hX : X.length = 4) (hY : Y.length = 4) (h : i < 4) (e : X.take i = Y.take i) : (X.set i (Y[i]'(by omega))).take (i + 1) = Y.take (i + 1) := by
  rw [List.take_succ_eq_append_getElem (by rw [List.length_set]; omega), List.take_succ_eq_append_getElem (by omega), List.getElem_set_self, List.take_set_of_le (Nat.le_refl _), e]
set_option maxRecDepth 100000 in
set_option maxHeartbeats 1000000 in
theorem psumbytes_at (h c : Bs) (vh vc : Value) (s t : Nat) (w : World) (HA : Hid (Cel w vh (cellsU h))) (HB : Hid (Cel w vc (cellsU c))) (HS : Hid (ext 0 h = s)) (HT : Hid (ext s c = t)) :
    Calls Try.prog 27 #[vh, vc] w fun e w' => ∃ A c, e = .returned (.slice A 4 c) ∧ Cel w' (.slice A 4 c) (cellsU (four t)) ∧ Own w w' := by
  obtain ⟨i0, hi, hz0, hz1, hz2⟩ := info_parts (show (Try.prog.info? 5).map (fun i => (i.zero, i.size, i.bytes)) = some (some (.int .u8 0), 1, 1) by kernel_rfl)
  have HI := Lib.hid hi
  have HZ0 := Lib.hid hz0
  have HZ1 := Lib.hid hz1
  have HZ2 := Lib.hid hz2
  have HBY := Lib.hid (show i0.bytes * 4 ≤ 281474976710656 by rw [hz2]; decide)
  clear hi hz0 hz1 hz2
  have hsl : s < 4294967296 := by rw [← HS.out]; exact ext_lt (by omega) _
  have htl : t < 4294967296 := by rw [← HT.out]; exact ext_lt hsl _
  have HSL := Lib.hid hsl
  have HTL := Lib.hid htl
  have HZL := Lib.hid (show (madeCells (Value.int .u8 0).cells (4 * 1)).toList = cellsU [0, 0, 0, 0] from toList_madeCells_one _ 4)
  have HM4 := Lib.hid (show 4 ≤ maxLen by unfold maxLen; decide)
  obtain ⟨A, ca, rfl, _, _⟩ := cel_form HA.out
  obtain ⟨B, cb, rfl, _, _⟩ := cel_form HB.out
  obtain ⟨n, hn⟩ : ∃ n, (cellsU h).length = n := ⟨_, rfl⟩
  obtain ⟨m, hm⟩ : ∃ n, (cellsU c).length = n := ⟨_, rfl⟩
  rw [hn] at HA ⊢
  rw [hm] at HB ⊢
  clear hn hm hsl htl
  go_enter Try.func27, Try.ntmps27
  go_wp2_with (first
    | (go_at_call 12; with_reducible refine (psum_at h _ s _ HA HS).mono ?_; rintro e w1 ⟨rfl, rfl⟩)
    | (go_at_call 14; with_reducible refine (pext_at s c _ t _ HSL.out HB HT).mono ?_; rintro e w2 ⟨rfl, rfl⟩)
    | (at_make; refine wpList_make_full _ rfl _ _ 23 rfl w.heap.size 5 i0 (.int .u8 0) 1 Try.underlying23 HI.out HZ0.out HZ1.out _ _ _ _ 4 rfl rfl rfl rfl HBY.out HM4.out (Nat.le_refl _) ?_; intro w3 hown3 hg3; have q3 := (Own.refl w).grown hg3 (by simp); have HR3 := Lib.hid (show w3.ownsRow w.heap.size 5 1 (.slice (some ⟨w.heap.size, 0, none⟩) 4 4) 4 (cellsU [0, 0, 0, 0]) from HZL.out ▸ hown3); clear hown3 hg3))
  go_loopw [7, 13] (fun _ vi wr => ∃ (k : Nat) (X : Bs), vi = .int .i64 (k : Int) ∧ k ≤ 4 ∧ Own w wr ∧ X.length = 4 ∧ X.take k = (four t).take k ∧ wr.ownsRow w.heap.size 5 1 (.slice (some ⟨w.heap.size, 0, none⟩) 4 4) 4 (cellsU X)) (fun _ vi _ => 4 - (intOf vi).toNat)
  case atStart => exact ⟨0, [0, 0, 0, 0], rfl, Nat.zero_le _, q3, rfl, rfl, HR3.out⟩
  case round =>
    obtain ⟨k, X, rfl, hk, q, hX, hT, hrow⟩ := hrel
    have HX := Lib.hid hX
    have HTK := Lib.hid hT
    have HROW := Lib.hid hrow
    by_cases hlt : k < 4
    · have hk4 : k < X.length := by omega
      obtain ⟨u, e0⟩ : ∃ u : Value, wr.cell? ⟨w.heap.size, k, none⟩ = some u := ⟨_, (World.ownsRow.cellAt hrow k (by omega)).trans (cellsU_at hk4)⟩
      have f0 := World.ownsRow.frozenAt hrow k
      have hkn : (k : Int) < 4 := by omega
      obtain ⟨s2, hs2⟩ : ∃ s, 8 * k = s := ⟨_, rfl⟩
      have hs32 : s2 < 32 := by omega
      have k1 : IntKind.i64.wrap (8 * (k : Int)) = (s2 : Int) := (IntWalk.i64_in _ (by omega)).trans (by omega)
      have hs0 : ¬ (s2 : Int) < 0 := by omega
      have HF := Lib.hid (four_at t k hlt)
      rw [hs2] at HF
      have HS2 := Lib.hid (show ((t : Int) / 2 ^ s2 % 256 : Int) = ((t / 2 ^ s2 % 256 : Nat) : Int) by simp)
      clear hrow hT hX hk4 hs2
      go_wp2
      go_roundw
      case rel =>
        have hl4 : k < (four t).length := by rw [four_len]; exact hlt
        refine ⟨k + 1, X.set k (four t)[k], by go_num, hlt, q.setCell (Nat.le_refl _) _, by rw [List.length_set]; exact HX.out, set_take HX.out (four_len t) hlt HTK.out, ?_⟩
        rw [HF.out, ← set_cell8' X k _ (by omega), HS2.out]
        exact (World.ownsRow.stored HROW.out k _).1
      case measure => simp [intOf]; omega
    · obtain rfl : k = 4 := by omega
      have hXe : X = four t := by rw [← List.take_of_length_le (Nat.le_of_eq hX), hT, List.take_of_length_le (Nat.le_of_eq (four_len t))]
      subst hXe
      go_wp2
      go_ret
      exact ⟨_, _, rfl, cel_of_row HROW.out, q⟩
end Go.Proofs.Ytbplglndcagglaa.CrcW
