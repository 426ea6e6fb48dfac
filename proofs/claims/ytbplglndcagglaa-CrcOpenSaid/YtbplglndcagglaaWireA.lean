/-
  Walks of the specification of package wire: code, PutInt. Condition: none.
-/
import Derived.Test.YtbplglndcagglaaWirePlain
import Derived.Test.YtbplglndcagglaaCells
namespace Go.Proofs.Ytbplglndcagglaa.WirW
open Go.ChangeShapes Go.WideShapes Go.ChangeAt Go.RowKit
open PairW CelW WirP
def I64 (n : Int) : Prop := -9223372036854775808 ≤ n ∧ n ≤ 9223372036854775807
theorem u64_in {x : Int} (h : 0 ≤ x ∧ x < 18446744073709551616) : IntKind.u64.wrap x = x := by
  unfold IntKind.wrap
  simp [IntKind.signed, IntKind.bits]
  omega
theorem u8_in {x : Int} (h : 0 ≤ x ∧ x < 256) : IntKind.u8.wrap x = x := by
  unfold IntKind.wrap
  simp [IntKind.signed, IntKind.bits]
  omega
set_option maxRecDepth 100000 in
theorem code_at (n : Int) (u : Nat) (w : World) (hn : I64 n) (H : Hid (codeN n = u)) : Calls Try.prog 36 #[.int .i64 n] w fun e w' => e = .returned (.int .u64 (u : Int)) ∧ w = w' := by
  have hu := H.out
  unfold codeN at hu
  unfold I64 at hn
  clear H
  by_cases c : n < 0
  · rw [if_pos c] at hu
    have i1 : IntKind.i64.wrap (n + 1) = n + 1 := IntWalk.i64_in _ (by omega)
    have i2 : wrap64 (-(n + 1)) = -(n + 1) := IntWalk.wrap64_in _ (by omega)
    have i3 : IntKind.u64.wrap (-(n + 1)) = -(n + 1) := u64_in (by omega)
    have i4 : IntKind.u64.wrap (2 * -(n + 1)) = 2 * -(n + 1) := u64_in (by omega)
    have i5 : IntKind.u64.wrap (2 * -(n + 1) + 1) = 2 * -(n + 1) + 1 := u64_in (by omega)
    have HE := Lib.hid (show 2 * -(n + 1) + 1 = (u : Int) by omega)
    clear hu
    go_enter Try.func36, Try.ntmps36
    go_wp2
    go_ret
    refine ⟨?_, rfl⟩
    rw [← HE.out]
    first | rfl | (congr 2; omega)
  · rw [if_neg c] at hu
    have i3 : IntKind.u64.wrap n = n := u64_in (by omega)
    have i4 : IntKind.u64.wrap (2 * n) = 2 * n := u64_in (by omega)
    have HE := Lib.hid (show 2 * n = (u : Int) by omega)
    clear hu
    go_enter Try.func36, Try.ntmps36
    go_wp2
    go_ret
    refine ⟨?_, rfl⟩
    rw [← HE.out]
    first | rfl | (congr 2; omega)
theorem cellsU_one_byte (u : Nat) (h : u < 256) : cellsU [byteN u] = [.int .u8 (u : Int)] := by
  unfold cellsU
  rw [List.map_cons, byte_of h]
  rfl
set_option maxRecDepth 100000 in
set_option maxHeartbeats 2000000 in
theorem rput_at (b : Bs) (v : Value) (n : Int) (w : World) (HB : Hid (Cel w v (cellsU b))) (hn : I64 n) (hl : b.length ≤ 140737488355000) :
    Calls Try.prog 28 #[v, .int .i64 n] w fun e w' => ∃ v', e = .returned v' ∧ w'.ownsRow w.heap.size 5 1 v' (b ++ encI n).length (cellsU (b ++ encI n)) ∧ Own w w' := by
  obtain ⟨i0, hi, hz0, hz1, hz2⟩ := info_parts (show (Try.prog.info? 5).map (fun i => (i.zero, i.size, i.bytes)) = some (some (.int .u8 0), 1, 1) by kernel_rfl)
  have HI := Lib.hid hi
  have HZ0 := Lib.hid hz0
  have HZ1 := Lib.hid hz1
  have HZ2 := Lib.hid hz2
  clear hi hz0 hz1 hz2
  obtain ⟨u, hu⟩ : ∃ u, codeN n = u := ⟨_, rfl⟩
  have HU := Lib.hid hu
  have HU64 := Lib.hid (show u < 18446744073709551616 by rw [← hu]; exact code_lt hn)
  have HTEN := Lib.hid (enc_ten hn)
  have HN := Lib.hid hn
  have HBL := Lib.hid (cellsU_len b)
  have HB1 := Lib.hid (cellsU_one b)
  have HE := Lib.hid (show encI n = varB u by unfold encI; rw [hu])
  obtain ⟨A, c, rfl, _, hc⟩ := cel_form HB.out
  have HB2 := Lib.hid (HB.out.own ((Own.refl w).alloc (.cells #[] 5)))
  have HR0 := Lib.hid (World.ownsRow_made (e := 5) (size := 1) w #[] 0 (Nat.le_refl _) (Nat.zero_le _) rfl)
  obtain ⟨k0, hk0⟩ : ∃ k, (cellsU b).length = k := ⟨_, rfl⟩
  have HK0 := Lib.hid (show 0 + (cellsU b).length = k0 by omega)
  have hkl : k0 = b.length := by rw [← hk0, cellsU_len]
  have HK1 := Lib.hid (show k0 ≤ maxLen by unfold maxLen; omega)
  have HK2 := Lib.hid (show k0 * 1 ≤ 140737488355328 by omega)
  have HKL := Lib.hid hkl
  have HLB := Lib.hid hl
  have HSZ := Lib.hid (show w.heap.size ≤ (w.alloc (.cells #[] 5)).heap.size from ((Own.refl w).alloc _).size)
  clear hu hn hc hk0 hkl hl HB
  go_enter Try.func28, Try.ntmps28
  go_upto_region 2 with (at_builtin; refine wpList_append_c (by go_simp) _ _ 23 rfl w.heap.size 5 i0 (.int .u8 0) 1 Try.underlying23 HI.out HZ0.out HZ1.out HZ2.out rfl w.heap.size 0 0 [] rfl HR0.out _ (cellsU b) rfl HB2.out HB1.out k0 HK0.out HK1.out HK2.out HSZ.out ?_; intro g1 c1 w1 hown hgr; have q1 := own_app hgr)
  rw [List.nil_append] at hown
  have HOWN := Lib.hid hown
  clear hown hgr HR0 HB2 HSZ HB1
  go_upto_region 3 with (go_at_call 36; with_reducible refine (code_at n u _ HN.out HU).mono ?_; rintro e w2 ⟨rfl, rfl⟩)
  go_loopw [5, 6] (fun vo vu wr => ∃ (x g k c : Nat) (P : Bs), vu = .int .u64 (x : Int) ∧ vo = .slice (some ⟨g, 0, none⟩) k c ∧ x < 18446744073709551616 ∧ Own w wr ∧ wr.ownsRow w.heap.size 5 1 (.slice (some ⟨g, 0, none⟩) k c) k (cellsU (b ++ P)) ∧ k = b.length + P.length ∧ P.length + (varB x).length ≤ 10 ∧ encI n = P ++ varB x) (fun _ vu _ => (intOf vu).toNat)
  case atStart => exact ⟨u, g1, k0, c1, [], rfl, rfl, HU64.out, q1, by rw [List.append_nil]; exact HOWN.out, by rw [HKL.out]; rfl, by rw [List.length_nil, Nat.zero_add, ← HE.out]; exact HTEN.out, HE.out⟩
  case round =>
    obtain ⟨x, g, k, c, P, rfl, rfl, hx, q, hrow, hk, hten, henc⟩ := hrel
    have HROW := Lib.hid hrow
    have HENC := Lib.hid henc
    have HK := Lib.hid hk
    have HTE := Lib.hid hten
    have hbl := HLB.out
    have HK3 := Lib.hid (show k + 1 ≤ maxLen by unfold maxLen; omega)
    have HK4 := Lib.hid (show (k + 1) * 1 ≤ 140737488355328 by omega)
    clear hrow henc hk hten hbl
    by_cases hlt : x < 128
    · have h1 : ¬ (128 : Int) ≤ x := by omega
      have i1 : IntKind.u8.wrap (x : Int) = x := u8_in (by omega)
      have HCEL := Lib.hid (cel_byte (w := wr) (T := 5) (z := (x : Int)) (c := byteN x) (by rw [byte_of (by omega)]))
      have HVX := Lib.hid (var_small hlt)
      have HROW1 := Lib.hid (HROW.out.alloc (.cells #[.int .u8 (x : Int)] 5))
      have q1 : Own w (wr.alloc (.cells #[.int .u8 (x : Int)] 5)) := q.alloc _
      have HSZ1 := Lib.hid q1.size
      clear q HROW
      go_wp2_with (at_builtin; refine wpList_append_c (by go_simp) _ _ 23 rfl w.heap.size 5 i0 (.int .u8 0) 1 Try.underlying23 HI.out HZ0.out HZ1.out HZ2.out rfl g k c (cellsU (b ++ P)) rfl HROW1.out _ (cellsU [byteN x]) rfl HCEL.out (cellsU_one _) (k + 1) rfl HK3.out HK4.out HSZ1.out ?_; intro g4 c4 w4 hown4 hgr4; have q4 := own_more q1 hgr4 HROW1.out (Nat.le_refl _))
      go_ret
      refine ⟨_, rfl, ?_, q4⟩
      have e : b ++ encI n = (b ++ P) ++ [byteN x] := by rw [HENC.out, HVX.out, List.append_assoc]
      have el : b.length + (encI n).length = k + 1 := by rw [HENC.out, HVX.out, List.length_append, ← Nat.add_assoc, ← HK.out]; rfl
      rw [el, e, cellsU_app]
      exact hown4
    · have h1 : (128 : Int) ≤ x := by omega
      have i1 : IntKind.u64.wrap ((x : Int) % 128 + 128) = (x : Int) % 128 + 128 := u64_in (by omega)
      have i2 : IntKind.u8.wrap ((x : Int) % 128 + 128) = (x : Int) % 128 + 128 := u8_in (by omega)
      have HCEL := Lib.hid (cel_byte (w := wr) (T := 5) (z := (x : Int) % 128 + 128) (c := byteN (x % 128 + 128)) (by rw [byte_of (by omega)]; omega))
      have HVX := Lib.hid (var_big hlt)
      have HROW1 := Lib.hid (HROW.out.alloc (.cells #[.int .u8 ((x : Int) % 128 + 128)] 5))
      have q1 : Own w (wr.alloc (.cells #[.int .u8 ((x : Int) % 128 + 128)] 5)) := q.alloc _
      have HSZ1 := Lib.hid q1.size
      have HDV := Lib.hid (show (x : Int) / 128 = ((x / 128 : Nat) : Int) by omega)
      clear q HROW
      go_wp2_with (at_builtin; refine wpList_append_c (by go_simp) _ _ 23 rfl w.heap.size 5 i0 (.int .u8 0) 1 Try.underlying23 HI.out HZ0.out HZ1.out HZ2.out rfl g k c (cellsU (b ++ P)) rfl HROW1.out _ (cellsU [byteN (x % 128 + 128)]) rfl HCEL.out (cellsU_one _) (k + 1) rfl HK3.out HK4.out HSZ1.out ?_; intro g4 c4 w4 hown4 hgr4; have q4 := own_more q1 hgr4 HROW1.out (Nat.le_refl _))
      go_roundw
      case rel =>
        have hte := HTE.out
        rw [HVX.out, List.length_cons] at hte
        refine ⟨x / 128, g4, k + 1, c4, P ++ [byteN (x % 128 + 128)], by rw [← HDV.out], rfl, by omega, q4, ?_, ?_, ?_, ?_⟩
        · rw [← List.append_assoc, cellsU_app]; exact hown4
        · rw [List.length_append, HK.out]; rfl
        · rw [List.length_append]; show P.length + 1 + _ ≤ 10; omega
        · rw [HENC.out, HVX.out, List.append_assoc]; rfl
      case measure => simp [intOf]; omega
end Go.Proofs.Ytbplglndcagglaa.WirW
