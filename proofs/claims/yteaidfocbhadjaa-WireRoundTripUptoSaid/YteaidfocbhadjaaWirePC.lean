/-
  Walks of the program of package wire: PutInt, PutText, PutList. Condition: none.
-/
import Derived.Test.YteaidfocbhadjaaWirePA
import Derived.Test.YteaidfocbhadjaaWirePB
import Derived.Test.YteaidfocbhadjaaWireG
import Derived.Test.YteaidfocbhadjaaWirePlainC
namespace Go.Proofs.Yteaidfocbhadjaa.WirW
open Go.ChangeShapes Go.WideShapes Go.ChangeAt Go.RowKit
open PairW CelW WirP
theorem par_two {w : World} {Q : Nat} {v0 v1 : Value} {a b : Bs} (h0 : w.cell? ⟨Q, 0, none⟩ = some v0) (h1 : w.cell? ⟨Q, 1, none⟩ = some v1) (c0 : Cel w v0 (cellsU a)) (c1 : Cel w v1 (cellsU b)) : Par w Q [a, b] := fun i hi => by
  have hi : i < 2 := hi
  match i, hi with
  | 0, _ => exact ⟨v0, h0, c0⟩
  | 1, _ => exact ⟨v1, h1, c1⟩
theorem par_three {w : World} {Q : Nat} {v0 v1 v2 : Value} {a b c : Bs} (h0 : w.cell? ⟨Q, 0, none⟩ = some v0) (h1 : w.cell? ⟨Q, 1, none⟩ = some v1) (h2 : w.cell? ⟨Q, 2, none⟩ = some v2) (c0 : Cel w v0 (cellsU a)) (c1 : Cel w v1 (cellsU b)) (c2 : Cel w v2 (cellsU c)) : Par w Q [a, b, c] := fun i hi => by
  have hi : i < 3 := hi
  match i, hi with
  | 0, _ => exact ⟨v0, h0, c0⟩
  | 1, _ => exact ⟨v1, h1, c1⟩
  | 2, _ => exact ⟨v2, h2, c2⟩
theorem par_new2 {w : World} {T : TypeId} {v0 v1 : Value} {a b : Bs} (c0 : Cel w v0 (cellsU a)) (c1 : Cel w v1 (cellsU b)) : Par (w.alloc (.cells #[v0, v1] T)) w.heap.size [a, b] :=
  par_two (by go_simp) (by go_simp) (c0.own ((Own.refl w).alloc _)) (c1.own ((Own.refl w).alloc _))
theorem par_new3 {w : World} {T : TypeId} {v0 v1 v2 : Value} {a b c : Bs} (c0 : Cel w v0 (cellsU a)) (c1 : Cel w v1 (cellsU b)) (c2 : Cel w v2 (cellsU c)) : Par (w.alloc (.cells #[v0, v1, v2] T)) w.heap.size [a, b, c] :=
  par_three (by go_simp) (by go_simp) (by go_simp) (c0.own ((Own.refl w).alloc _)) (c1.own ((Own.refl w).alloc _)) (c2.own ((Own.refl w).alloc _))
theorem row_base {w : World} {b0 b : Nat} {e : TypeId} {sv : Value} {n : Nat} {xs : List Value} (h : w.ownsRow b e 1 sv n xs) (hb : b0 ≤ b) : w.ownsRow b0 e 1 sv n xs := by
  refine ⟨h.1, h.2.imp id ?_⟩
  rintro ⟨g, cap, cur, h1, h2, h3⟩
  exact ⟨g, cap, cur, h1, by omega, h3⟩
set_option maxRecDepth 100000 in
set_option maxHeartbeats 1000000 in
theorem pput_at (b : Bs) (v : Value) (n : Int) (w : World) (HB : Hid (Cel w v (cellsU b))) (hn : I64 n) (hl : b.length ≤ 140737488355000) :
    Calls Try.prog 14 #[v, .int .i64 n] w fun e w' => ∃ v', e = .returned v' ∧ w'.ownsRow w.heap.size 5 1 v' (b ++ encI n).length (cellsU (b ++ encI n)) ∧ Own w w' := by
  obtain ⟨A, c, rfl, hc1, hc2⟩ := cel_form HB.out
  clear hc1 hc2
  have HN := Lib.hid hn
  have HR0 := Lib.hid (World.ownsRow_nil w w.heap.size 5 1)
  have HL := Lib.hid (show [b, encI n].flatten.length ≤ 140737488355328 by have := enc_ten hn; simp; omega)
  have HFL := Lib.hid (show [b, encI n].flatten = b ++ encI n by simp)
  obtain ⟨k, hk⟩ : ∃ k, (cellsU b).length = k := ⟨_, rfl⟩
  rw [hk] at HB ⊢
  clear hn hl hk
  go_enter Try.func14, Try.ntmps14
  go_wp2_with (first
    | (go_at_call 32; with_reducible refine (pappend_at [] _ n w.heap.size w _ HR0 (Lib.hid (Own.refl w)) (Nat.le_refl _) (Nat.le_refl _) HN.out (Nat.zero_le _)).mono ?_; rintro e w1 ⟨v1, rfl, hown1, q1, hs1⟩; obtain ⟨A1, cp1, rfl⟩ := row_shape hown1)
    | (go_at_call 31; refine (concat_at [b, encI n] _ 2 _ (Lib.hid (par_new2 (HB.out.own q1) (cel_of_row hown1))) (Lib.hid rfl) (by decide) HL.out).mono ?_; rintro e w2 ⟨v2, rfl, hown2, q2⟩))
  go_ret
  rw [HFL.out] at hown2
  exact ⟨_, rfl, row_base hown2 (Nat.le_trans hs1 ((Own.refl w1).alloc _).size), (q1.alloc _).trans q2⟩
set_option maxRecDepth 100000 in
set_option maxHeartbeats 1000000 in
theorem pputtext_at (b : Bs) (v : Value) (s : ByteArray) (w : World) (HB : Hid (Cel w v (cellsU b))) (hl : b.length + s.size ≤ 1000000000000) :
    Calls Try.prog 20 #[v, .string s] w fun e w' => ∃ v', e = .returned v' ∧ w'.ownsRow w.heap.size 5 1 v' (b ++ encT s.data.toList).length (cellsU (b ++ encT s.data.toList)) ∧ Own w w' := by
  obtain ⟨A, c, rfl, hc1, hc2⟩ := cel_form HB.out
  clear hc1 hc2
  obtain ⟨z, hz⟩ : ∃ z, s.size = z := ⟨_, rfl⟩
  have hsl : s.data.toList.length = z := by rw [← hz]; exact Array.length_toList
  have hn : I64 (z : Int) := by unfold I64; omega
  have HN := Lib.hid hn
  have HR0 := Lib.hid (World.ownsRow_nil w w.heap.size 5 1)
  have HL := Lib.hid (show [b, encI (z : Int), s.data.toList].flatten.length ≤ 140737488355328 by have := enc_ten hn; simp [hsl]; omega)
  have HFL := Lib.hid (show [b, encI (z : Int), s.data.toList].flatten = b ++ encT s.data.toList by unfold encT; rw [hsl]; simp)
  have HZ := Lib.hid hz
  have HM := Lib.hid (show s.size ≤ maxLen by unfold maxLen; omega)
  have hcv := fun w => Lib.run_convert_string_bytes (P := Try.prog) w 9 22 5 s rfl rfl rfl
  rw [hz] at hcv
  have hce := fun w => cel_bytes w 5 s HM.out
  rw [hz] at hce
  have HCE := Lib.hid hce
  obtain ⟨k, hk⟩ : ∃ k, (cellsU b).length = k := ⟨_, rfl⟩
  rw [hk] at HB ⊢
  clear hn hl hk hsl hce
  go_enter Try.func20, Try.ntmps20
  go_wp2_with (first
    | (go_at_call 32; with_reducible refine (pappend_at [] _ z w.heap.size w _ HR0 (Lib.hid (Own.refl w)) (Nat.le_refl _) (Nat.le_refl _) HN.out (Nat.zero_le _)).mono ?_; rintro e w1 ⟨v1, rfl, hown1, q1, hs1⟩; obtain ⟨A1, cp1, rfl⟩ := row_shape hown1)
    | (go_at_call 31; refine (concat_at [b, encI (z : Int), s.data.toList] _ 3 _ (Lib.hid (par_new3 ((HB.out.own q1).own (own_bytes _ _ _)) ((cel_of_row hown1).own (own_bytes _ _ _)) (HCE.out _))) (Lib.hid rfl) (by decide) HL.out).mono ?_; rintro e w2 ⟨v2, rfl, hown2, q2⟩))
  go_ret
  rw [HFL.out] at hown2
  exact ⟨_, rfl, row_base hown2 (Nat.le_trans hs1 (((Own.refl w1).trans (own_bytes _ _ _)).alloc _).size), ((q1.trans (own_bytes _ _ _)).alloc _).trans q2⟩
set_option maxRecDepth 100000 in
set_option maxHeartbeats 1000000 in
theorem pputlist_at (b : Bs) (l : List Int) (v vl : Value) (w : World) (HB : Hid (Cel w v (cellsU b))) (HV : Hid (Cel w vl (cellsI l))) (HI : In64 l) (hl : b.length + 10 * (l.length + 1) ≤ 1000000000000) :
    Calls Try.prog 25 #[v, vl] w fun e w' => ∃ v', e = .returned v' ∧ w'.ownsRow w.heap.size 5 1 v' (b ++ encL l).length (cellsU (b ++ encL l)) ∧ Own w w' := by
  obtain ⟨A, c, rfl, hc1, hc2⟩ := cel_form HB.out
  obtain ⟨B, cb, rfl, hb1, hb2, hb⟩ := cel_ints HV.out
  unfold maxLen at hb2
  have HC := Lib.hid hb
  obtain ⟨n, hn⟩ : ∃ n, l.length = n := ⟨_, rfl⟩
  have hni : I64 (n : Int) := by unfold I64; omega
  have HN := Lib.hid hni
  have HR0 := Lib.hid (World.ownsRow_nil w w.heap.size 5 1)
  have hlen : (encL l).length ≤ 10 * (n + 1) := by
    have h1 := enc_ten hni
    have h2 := encs_len l HI
    unfold encL
    rw [List.length_append, hn]
    omega
  have HL := Lib.hid (show [b, encL l].flatten.length ≤ 140737488355328 by simp; omega)
  have HFL := Lib.hid (show [b, encL l].flatten = b ++ encL l by simp)
  have HNL := Lib.hid hn
  have HIN := Lib.hid HI
  have HLL := Lib.hid hl
  obtain ⟨k0, hk⟩ : ∃ k, (cellsU b).length = k := ⟨_, rfl⟩
  rw [hk] at HB ⊢
  rw [hn] at hb1 ⊢
  clear hn hni hl hk hlen hc1 hc2 hb HV HI
  go_enter Try.func25, Try.ntmps25
  go_upto_region 2 with (go_at_call 32; with_reducible refine (pappend_at [] _ n w.heap.size w _ HR0 (Lib.hid (Own.refl w)) (Nat.le_refl _) (Nat.le_refl _) HN.out (Nat.zero_le _)).mono ?_; rintro e w1 ⟨v1, rfl, hown1, q1, hs1⟩)
  have HR1 := Lib.hid hown1
  clear hown1
  go_wp2
  go_loopw [5, 7, 13] (fun vo _ vi wr => ∃ k : Nat, vi = .int .i64 (k : Int) ∧ k ≤ n ∧ Own w wr ∧ wr.ownsRow w.heap.size 5 1 vo (encI (n : Int) ++ encs (l.take k)).length (cellsU (encI (n : Int) ++ encs (l.take k)))) (fun _ _ vi _ => n - (intOf vi).toNat)
  case atStart => exact ⟨0, rfl, Nat.zero_le _, q1, by rw [List.take_zero]; show w1.ownsRow _ _ _ _ (encI (n : Int) ++ []).length (cellsU (encI (n : Int) ++ [])); rw [List.append_nil]; exact HR1.out⟩
  case round =>
    obtain ⟨k, rfl, hk, q, hrow⟩ := hrel
    have HROW := Lib.hid hrow
    clear hrow
    by_cases hlt : k < n
    · have hkl : k < l.length := by rw [HNL.out]; exact hlt
      obtain ⟨g, off, rfl, hc⟩ := HC.out (by omega)
      have e0 := q.cell (hc k hkl)
      have hkn : (k : Int) < n := by omega
      have hx64 := HIN.out l[k] (List.getElem_mem hkl)
      have HSN := Lib.hid (encs_take hkl)
      have hle : (encI (n : Int) ++ encs (l.take k)).length ≤ 1000000000000 := by
        have h1 := enc_ten HN.out
        have h2 := encs_len _ (in_take HIN.out k)
        have h3 := HLL.out
        have h4 : (l.take k).length = k := by rw [List.length_take]; omega
        have h5 := HNL.out
        rw [List.length_append]
        omega
      obtain ⟨x, hx⟩ : ∃ x, l[k] = x := ⟨_, rfl⟩
      rw [hx] at e0 hx64 HSN
      have HX := Lib.hid (show I64 x from hx64)
      have HLE := Lib.hid hle
      have HSZ := Lib.hid q.size
      clear hx hc hx64 hle hkl
      go_wp2_with (go_at_call 32; with_reducible refine (pappend_at _ _ x w.heap.size w _ HROW (Lib.hid q) (Nat.le_refl _) HSZ.out HX.out HLE.out).mono ?_; rintro e w3 ⟨v3, rfl, hown3, q3, hs3⟩)
      go_roundw
      case rel => exact ⟨k + 1, by go_num, hlt, q3, by rw [HSN.out, ← List.append_assoc]; exact hown3⟩
      case measure => simp [intOf]; omega
    · obtain rfl : k = n := by omega
      have HFU := Lib.hid (show encI (k : Int) ++ encs (l.take k) = encL l by unfold encL; rw [HNL.out, List.take_of_length_le (by rw [HNL.out]; exact Nat.le_refl _)])
      rw [HFU.out] at HROW
      obtain ⟨A1, cp1, rfl⟩ := row_shape HROW.out
      go_wp2_with (go_at_call 31; refine (concat_at [b, encL l] _ 2 _ (Lib.hid (par_new2 (HB.out.own q) (cel_of_row HROW.out))) (Lib.hid rfl) (by decide) HL.out).mono ?_; rintro e w2 ⟨v2, rfl, hown2, q2⟩)
      go_ret
      rw [HFL.out] at hown2
      exact ⟨_, rfl, row_base hown2 ((q.alloc _).size), (q.alloc _).trans q2⟩
end Go.Proofs.Yteaidfocbhadjaa.WirW
