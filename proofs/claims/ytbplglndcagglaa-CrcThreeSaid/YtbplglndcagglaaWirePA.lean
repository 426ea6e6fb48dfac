/-
  Walks of the program of package wire: unsigned, signed, appendInt. Condition: none.
-/
import Derived.Test.YtbplglndcagglaaWireE
import Derived.Test.YtbplglndcagglaaBytes
namespace Go.Proofs.Ytbplglndcagglaa.WirW
open Go.ChangeShapes Go.WideShapes Go.ChangeAt Go.RowKit
open PairW CelW WirP
set_option maxRecDepth 100000 in
theorem punsigned_at (n : Int) (u : Nat) (w : World) (hn : I64 n) (H : Hid (codeN n = u)) : Calls Try.prog 41 #[.int .i64 n] w fun e w' => e = .returned (.int .u64 (u : Int)) ∧ w = w' := by
  have hu := H.out
  unfold codeN at hu
  unfold I64 at hn
  clear H
  by_cases c : n < 0
  · rw [if_pos c] at hu
    have i1 : IntKind.i64.wrap (n + 1) = n + 1 := IntWalk.i64_in _ (by omega)
    have i2 : wrap64 (-(n + 1)) = -(n + 1) := IntWalk.wrap64_in _ (by omega)
    have i3 : IntKind.u64.wrap (-(n + 1)) = -(n + 1) := u64_in (by omega)
    have i4 : IntKind.u64.wrap (2 * -(n + 1)) = 2 * -(n + 1) := u64_in (by omega)
    have i5 : IntKind.u64.wrap (2 * -(n + 1) + 1) = 2 * -(n + 1) + 1 := u64_in (by omega)
    have HE := Lib.hid (show 2 * -(n + 1) + 1 = (u : Int) by omega)
    clear hu
    go_enter Try.func41, Try.ntmps41
    go_wp2
    go_ret
    refine ⟨?_, rfl⟩
    rw [← HE.out]
    first | rfl | (congr 2; omega)
  · rw [if_neg c] at hu
    have i3 : IntKind.u64.wrap n = n := u64_in (by omega)
    have i4 : IntKind.u64.wrap (2 * n) = 2 * n := u64_in (by omega)
    have HE := Lib.hid (show 2 * n = (u : Int) by omega)
    clear hu
    go_enter Try.func41, Try.ntmps41
    go_wp2
    go_ret
    refine ⟨?_, rfl⟩
    rw [← HE.out]
    first | rfl | (congr 2; omega)
set_option maxRecDepth 100000 in
theorem psigned_at (U : Nat) (x : Int) (w : World) (hU : U < 18446744073709551616) (H : Hid (valI U = x)) : Calls Try.prog 39 #[.int .u64 (U : Int)] w fun e w' => e = .returned (.int .i64 x) ∧ w = w' := by
  have hx := H.out
  unfold valI at hx
  obtain ⟨k0, k2, k3, k4⟩ := half_in hU
  clear H
  by_cases c : U % 2 = 1
  · rw [if_pos c] at hx
    have k1 : ((U : Int) % 2 == 1) = true := beq_iff_eq.2 (by omega)
    have HX := Lib.hid (show -((U : Int) / 2) - 1 = x by omega)
    clear hx c hU
    go_enter Try.func39, Try.ntmps39
    go_wp2
    go_ret
    exact ⟨ret_int (k4.trans HX.out), rfl⟩
  · rw [if_neg c] at hx
    have k1 : ((U : Int) % 2 == 1) = false := beq_eq_false_iff_ne.2 (by omega)
    have HX := Lib.hid (show ((U : Int) / 2) = x by omega)
    clear hx c hU
    go_enter Try.func39, Try.ntmps39
    go_wp2
    go_ret
    exact ⟨ret_int (k2.trans HX.out), rfl⟩
set_option maxRecDepth 100000 in
set_option maxHeartbeats 2000000 in
theorem pappend_at (b : Bs) (v : Value) (n : Int) (base : Nat) (w0 w : World) (HR : Hid (w.ownsRow base 5 1 v b.length (cellsU b))) (HQ : Hid (Own w0 w)) (hb : w0.heap.size ≤ base) (hb2 : base ≤ w.heap.size) (hn : I64 n) (hl : b.length ≤ 1000000000000) :
    Calls Try.prog 34 #[v, .int .i64 n] w fun e w' => ∃ v', e = .returned v' ∧ w'.ownsRow base 5 1 v' (b ++ encI n).length (cellsU (b ++ encI n)) ∧ Own w0 w' ∧ w.heap.size ≤ w'.heap.size := by
  obtain ⟨i0, hi, hz0, hz1, hz2⟩ := info_parts (show (Try.prog.info? 5).map (fun i => (i.zero, i.size, i.bytes)) = some (some (.int .u8 0), 1, 1) by kernel_rfl)
  have HI := Lib.hid hi
  have HZ0 := Lib.hid hz0
  have HZ1 := Lib.hid hz1
  have HZ2 := Lib.hid hz2
  clear hi hz0 hz1 hz2
  obtain ⟨u, hu⟩ : ∃ u, codeN n = u := ⟨_, rfl⟩
  have HU := Lib.hid hu
  have HU64 := Lib.hid (show u < 18446744073709551616 by rw [← hu]; exact code_lt hn)
  have HTEN := Lib.hid (enc_ten hn)
  have HN := Lib.hid hn
  have HE := Lib.hid (show encI n = varB u by unfold encI; rw [hu])
  have HLB := Lib.hid hl
  have HB0 := Lib.hid hb
  have HB2 := Lib.hid hb2
  clear hu hn hl hb hb2
  go_enter Try.func34, Try.ntmps34
  go_upto_region 2 with (go_at_call 41; with_reducible refine (punsigned_at n u _ HN.out HU).mono ?_; rintro e w2 ⟨rfl, rfl⟩)
  go_loopw [0, 5] (fun vo vu wr => ∃ (x k : Nat) (P : Bs), vu = .int .u64 (x : Int) ∧ x < 18446744073709551616 ∧ Own w0 wr ∧ w.heap.size ≤ wr.heap.size ∧ wr.ownsRow base 5 1 vo k (cellsU (b ++ P)) ∧ k = b.length + P.length ∧ P.length + (varB x).length ≤ 10 ∧ encI n = P ++ varB x) (fun _ vu _ => (intOf vu).toNat)
  case atStart => exact ⟨u, b.length, [], rfl, HU64.out, HQ.out, Nat.le_refl _, by rw [List.append_nil]; exact HR.out, rfl, by rw [List.length_nil, Nat.zero_add, ← HE.out]; exact HTEN.out, HE.out⟩
  case round =>
    obtain ⟨x, k, P, rfl, hx, q, hsz, hrow, hk, hten, henc⟩ := hrel
    have HROW := Lib.hid hrow
    have HENC := Lib.hid henc
    have HK := Lib.hid hk
    have HTE := Lib.hid hten
    have hbl := HLB.out
    have HK3 := Lib.hid (show k + 1 ≤ maxLen by unfold maxLen; omega)
    have HK4 := Lib.hid (show (k + 1) * 1 ≤ 140737488355328 by omega)
    have HSW := Lib.hid hsz
    clear hrow henc hk hten hbl hsz
    by_cases hlt : x < 128
    · have h1 : ¬ (128 : Int) ≤ x := by omega
      have i1 : IntKind.u8.wrap (x : Int) = x := u8_in (by omega)
      have HCEL := Lib.hid (cel_byte (w := wr) (T := 5) (z := (x : Int)) (c := byteN x) (by rw [byte_of (by omega)]))
      have HVX := Lib.hid (var_small hlt)
      have HROW1 := Lib.hid (HROW.out.alloc (.cells #[.int .u8 (x : Int)] 5))
      have q1 : Own w0 (wr.alloc (.cells #[.int .u8 (x : Int)] 5)) := q.alloc _
      have HSZ0 := Lib.hid ((Own.refl wr).alloc (.cells #[.int .u8 (x : Int)] 5))
      have HSZ1 := Lib.hid (Nat.le_trans HB2.out (Nat.le_trans HSW.out HSZ0.out.size))
      clear q HROW
      go_wp2_with (at_builtin; refine wpList_append_r (by go_simp) _ _ 23 rfl base 5 i0 (.int .u8 0) 1 Try.underlying23 HI.out HZ0.out HZ1.out HZ2.out rfl _ k (cellsU (b ++ P)) rfl HROW1.out _ (cellsU [byteN x]) rfl HCEL.out (cellsU_one _) (k + 1) rfl HK3.out HK4.out HSZ1.out ?_; intro v4 w4 hown4 hgr4 hsz4; have q4 := hgr4 _ q1 HB0.out; have HS4 := Lib.hid (Nat.le_trans (Nat.le_trans HSW.out HSZ0.out.size) hsz4); clear hsz4)
      go_ret
      refine ⟨_, rfl, ?_, q4, HS4.out⟩
      have e : b ++ encI n = (b ++ P) ++ [byteN x] := by rw [HENC.out, HVX.out, List.append_assoc]
      have el : b.length + (encI n).length = k + 1 := by rw [HENC.out, HVX.out, List.length_append, ← Nat.add_assoc, ← HK.out]; rfl
      rw [el, e, cellsU_app]
      exact hown4
    · have h1 : (128 : Int) ≤ x := by omega
      have i1 : IntKind.u8.wrap ((x : Int) % 128) = (x : Int) % 128 := u8_in (by omega)
      have i2 : IntKind.u8.wrap ((x : Int) % 128 + 128) = (x : Int) % 128 + 128 := u8_in (by omega)
      have HCEL := Lib.hid (cel_byte (w := wr) (T := 5) (z := (x : Int) % 128 + 128) (c := byteN (x % 128 + 128)) (by rw [byte_of (by omega)]; omega))
      have HVX := Lib.hid (var_big hlt)
      have HROW1 := Lib.hid (HROW.out.alloc (.cells #[.int .u8 ((x : Int) % 128 + 128)] 5))
      have q1 : Own w0 (wr.alloc (.cells #[.int .u8 ((x : Int) % 128 + 128)] 5)) := q.alloc _
      have HSZ0 := Lib.hid ((Own.refl wr).alloc (.cells #[.int .u8 ((x : Int) % 128 + 128)] 5))
      have HSZ1 := Lib.hid (Nat.le_trans HB2.out (Nat.le_trans HSW.out HSZ0.out.size))
      have HDV := Lib.hid (show (x : Int) / 128 = ((x / 128 : Nat) : Int) by omega)
      clear q HROW
      go_wp2_with (at_builtin; refine wpList_append_r (by go_simp) _ _ 23 rfl base 5 i0 (.int .u8 0) 1 Try.underlying23 HI.out HZ0.out HZ1.out HZ2.out rfl _ k (cellsU (b ++ P)) rfl HROW1.out _ (cellsU [byteN (x % 128 + 128)]) rfl HCEL.out (cellsU_one _) (k + 1) rfl HK3.out HK4.out HSZ1.out ?_; intro v4 w4 hown4 hgr4 hsz4; have q4 := hgr4 _ q1 HB0.out; have HS4 := Lib.hid (Nat.le_trans (Nat.le_trans HSW.out HSZ0.out.size) hsz4); clear hsz4)
      go_roundw
      case rel =>
        have hte := HTE.out
        rw [HVX.out, List.length_cons] at hte
        refine ⟨x / 128, k + 1, P ++ [byteN (x % 128 + 128)], by rw [← HDV.out], by omega, q4, ?_, ?_, ?_, ?_, ?_⟩
        · exact HS4.out
        · rw [← List.append_assoc, cellsU_app]; exact hown4
        · rw [List.length_append, HK.out]; rfl
        · rw [List.length_append]; show P.length + 1 + _ ≤ 10; omega
        · rw [HENC.out, HVX.out, List.append_assoc]; rfl
      case measure => simp [intOf]; omega
end Go.Proofs.Ytbplglndcagglaa.WirW
