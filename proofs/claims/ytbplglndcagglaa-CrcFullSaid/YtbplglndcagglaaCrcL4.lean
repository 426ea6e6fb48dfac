/-
  Package crc: the law Full, over what is asked of the program. Condition: none.
-/
import Derived.Test.YtbplglndcagglaaCrcF
namespace Go.Proofs.Ytbplglndcagglaa.CrcW
open Go.ChangeShapes Go.WideShapes Go.ChangeAt Go.RowKit
open PairW CelW WirP CrcP WirW
theorem head_three {n : Nat} (h1 : 65535 ≤ n) (h2 : n ≤ 65536) : (encI (n : Int)).length = 3 := by
  unfold encI
  have hc : codeN (n : Int) = 2 * n := by unfold codeN; rw [if_neg (by omega), Int.toNat_natCast]
  rw [hc, var_big (by omega), var_big (by omega), var_small (by omega)]
  rfl
theorem str_self (s : ByteArray) : (s.toList == s.toList) = true := beq_self_eq_true _
set_option maxRecDepth 100000 in
set_option maxHeartbeats 1000000 in
theorem lfull_at (C : CrcC) (n fill : Nat) (w : World) (_ : n < 256) (hfill : fill < 256) :
    Calls Try.prog 10 #[.int .u8 (n : Int), .int .u8 (fill : Int)] w fun e w' => e = .returned (.bool true) ∧ Own w w' := by
  obtain ⟨i0, hi, hz0, hz1, hz2⟩ := info_parts (show (Try.prog.info? 5).map (fun i => (i.zero, i.size, i.bytes)) = some (some (.int .u8 0), 1, 1) by kernel_rfl)
  have HI := Lib.hid hi
  have HZ0 := Lib.hid hz0
  have HZ1 := Lib.hid hz1
  have HZ2 := Lib.hid hz2
  clear hi hz0 hz1 hz2
  obtain ⟨sz, hsz⟩ : ∃ s, 65535 + n % 3 = s := ⟨_, rfl⟩
  obtain ⟨r, hr⟩ : ∃ r, n % 3 = r := ⟨_, rfl⟩
  have r1 : (n : Int) % 3 = (r : Int) := by omega
  have r2 : IntKind.i64.wrap (r : Int) = (r : Int) := IntWalk.i64_in _ (by omega)
  have r3 : IntKind.i64.wrap (65535 + (r : Int)) = (sz : Int) := (IntWalk.i64_in _ (by omega)).trans (by omega)
  have hlo : 65535 ≤ sz := by omega
  have hhi : sz ≤ 65537 := by omega
  obtain ⟨x, hx⟩ : ∃ x, byteN fill = x := ⟨_, rfl⟩
  have BX := Lib.hid (show (x.toNat : Int) = (fill : Int) by rw [← hx, byte_of hfill])
  obtain ⟨c, hc⟩ : ∃ c, List.replicate sz x = c := ⟨_, rfl⟩
  have hcl : c.length = sz := by rw [← hc, List.length_replicate]
  have HC := Lib.hid hc
  have HCL := Lib.hid hcl
  have HL := Lib.hid (show c.length ≤ 200000 by omega)
  clear hfill hsz hr hx hc
  go_enter Try.func10, Try.ntmps10
  go_wp2
  clear r1 r2 r3
  go_loopw [6, 7] (fun vo vi wr => ∃ i : Nat, vi = .int .i64 (i : Int) ∧ i ≤ sz ∧ Own w wr ∧ wr.ownsRow w.heap.size 5 1 vo i (cellsU (List.replicate i x))) (fun _ vi _ => sz - (intOf vi).toNat)
  case atStart => exact ⟨0, rfl, Nat.zero_le _, Own.refl w, World.ownsRow_nil _ _ _ _⟩
  case round =>
    obtain ⟨i, rfl, hi, q, hrow⟩ := hrel
    by_cases hlt : i < sz
    · have T1 := Lib.hid (World.ownsRow.alloc hrow (.cells #[.int .u8 (fill : Int)] 5))
      have q1 := q.alloc (.cells #[.int .u8 (fill : Int)] 5)
      have C1 := Lib.hid (cel_byte (w := wr) (T := 5) (z := (fill : Int)) (c := x) BX.out)
      have S1 := Lib.hid q1.size
      have K2 := Lib.hid (show i + 1 ≤ maxLen by unfold maxLen; omega)
      have K3 := Lib.hid (show (i + 1) * 1 ≤ 140737488355328 by omega)
      have hil : (i : Int) < sz := by omega
      clear hrow
      go_wp2_with (at_builtin; refine wpList_append_r (by go_simp) _ _ 23 rfl w.heap.size 5 i0 (.int .u8 0) 1 Try.underlying23 HI.out HZ0.out HZ1.out HZ2.out rfl _ i (cellsU (List.replicate i x)) rfl T1.out _ (cellsU [x]) rfl C1.out (cellsU_one _) (i + 1) rfl K2.out K3.out S1.out ?_; intro v5 w5 hown hgr _; have q5 := hgr _ q1 (Nat.le_refl _); have R5 := Lib.hid (show w5.ownsRow w.heap.size 5 1 v5 (i + 1) (cellsU (List.replicate (i + 1) x)) by rw [rep_succ, cellsU_app]; exact hown); clear hown hgr)
      go_roundw
      case rel => exact ⟨i + 1, by go_num, hlt, q5, R5.out⟩
      case measure => simp [intOf]; omega
    · obtain rfl : i = sz := by omega
      have cx := cel_of_row hrow
      rw [HC.out] at cx
      have CX := Lib.hid cx
      obtain ⟨AX, px, rfl⟩ := row_shape hrow
      clear hrow cx HC
      by_cases hbig : 65536 < i
      · have hE : frE c = 3 := if_pos (by rw [hcl]; exact hbig)
        have hV : frV c = [] := if_pos (by rw [hcl]; exact hbig)
        have HP := Lib.hid (fun (w : World) (v : Value) (h : Hid (Cel w v (cellsU c))) => C.frame c v w h HL.out)
        rw [hE, hV] at HP
        have d1 : (65536 : Int) < i := by omega
        clear hE hV hcl
        go_wp2_with (first
          | (go_at_call 16; with_reducible refine (HP.out _ _ CX).mono ?_; rintro e w1 ⟨v1, rfl, hown1, q1⟩; obtain ⟨A1, p1, rfl⟩ := row_shape hown1; clear hown1)
          | (go_at_call 11; with_reducible refine (awake_at C _).mono ?_; rintro e w3 ⟨rfl, q3⟩))
        go_ret
        exact ⟨rfl, q.trans (q1.trans q3)⟩
      · have hE : frE c = 0 := if_neg (by rw [hcl]; exact hbig)
        have hV : frV c = frB c := if_neg (by rw [hcl]; exact hbig)
        have hfl : (frB c).length = i + 7 := by
          rw [fr_len]
          unfold headB
          rw [hcl, head_three hlo (by omega)]
          omega
        have HP := Lib.hid (fun (w : World) (v : Value) (h : Hid (Cel w v (cellsU c))) => C.frame c v w h HL.out)
        rw [hE, hV, hfl] at HP
        have HT := Lib.hid (show openE (frB c) = 0 ∧ openV (frB c) = c ∧ openK (frB c) = i + 7 by
          have h := open_frame (c := c) (by omega) []
          rw [List.append_nil, hfl] at h
          exact h)
        have HLF := Lib.hid (show (frB c).length ≤ 200000 by omega)
        obtain ⟨m, hm⟩ : ∃ m, i + 7 = m := ⟨_, rfl⟩
        rw [hm] at HP HT
        have i7 : IntKind.i64.wrap ((i : Int) + 7) = (m : Int) := (IntWalk.i64_in _ (by omega)).trans (by omega)
        have d1 : ¬ (65536 : Int) < i := by omega
        obtain ⟨s, hs⟩ : ∃ s, strB c = s := ⟨_, rfl⟩
        have HS := Lib.hid hs
        have hss := str_self s
        clear hE hV hcl hfl hm hs
        go_wp2_with (first
          | (go_at_call 16; with_reducible refine (HP.out _ _ CX).mono ?_; rintro e w1 ⟨v1, rfl, hown1, q1⟩; obtain ⟨A1, p1, rfl⟩ := row_shape hown1; have HF := Lib.hid (cel_of_row hown1); clear hown1)
          | (go_at_call 19; with_reducible refine (C.op (frB c) c _ 0 m _ HF HLF.out HT).mono ?_; rintro e w2 ⟨v2, rfl, hown2, q2⟩; obtain ⟨A2, p2, rfl⟩ := row_shape hown2; have k1 := conv_cel (P := Try.prog) (cel_of_row hown2) (src := 23) (e := 5) (dst := 9) rfl rfl rfl; have k2 := conv_cel (P := Try.prog) (CX.out.own (q1.trans q2)) (src := 23) (e := 5) (dst := 9) rfl rfl rfl; rw [HS.out] at k1 k2; clear hown2)
          | (go_at_call 11; with_reducible refine (awake_at C _).mono ?_; rintro e w3 ⟨rfl, q3⟩))
        go_ret
        exact ⟨rfl, q.trans (q1.trans (q2.trans q3))⟩
end Go.Proofs.Ytbplglndcagglaa.CrcW
