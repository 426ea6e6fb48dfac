/-
  Package crc: the chapter's examples; the laws' awake, over what is asked of the program. Condition: none.
-/
import Derived.Test.YtbplglndcagglaaCrcE
import Derived.Lib.SlBytesConst
namespace Go.Proofs.Ytbplglndcagglaa.CrcW
open Go.ChangeShapes Go.WideShapes Go.ChangeAt Go.RowKit
open PairW CelW WirP CrcP WirW
/-- Three rows of one's own, in blocks of their own. -/
structure Tr3 (w : World) (H : Nat) (v1 v2 v3 : Value) (n1 n2 n3 : Nat) (x1 x2 x3 : List Value) : Prop where
  r1 : w.ownsRow H 5 1 v1 n1 x1
  r2 : w.ownsRow H 5 1 v2 n2 x2
  r3 : w.ownsRow H 5 1 v3 n3 x3
  d12 : ∀ g, v1.ownBlock = some g → v2.ownBlock ≠ some g
  d13 : ∀ g, v1.ownBlock = some g → v3.ownBlock ≠ some g
  d23 : ∀ g, v2.ownBlock = some g → v3.ownBlock ≠ some g
theorem Tr3.own {w w' : World} {H : Nat} {v1 v2 v3 : Value} {n1 n2 n3 : Nat} {x1 x2 x3 : List Value} (h : Tr3 w H v1 v2 v3 n1 n2 n3 x1 x2 x3) (q : Own w w') : Tr3 w' H v1 v2 v3 n1 n2 n3 x1 x2 x3 :=
  ⟨row_own h.r1 q, row_own h.r2 q, row_own h.r3 q, h.d12, h.d13, h.d23⟩
theorem apart_kept {w w' : World} {b m : Nat} {u v : Value} {ys : List Value} {e : TypeId} (h : w.ownsRow b e 1 u m ys) (hd : ∀ g, v.ownBlock = some g → u.ownBlock ≠ some g) (hg : w.grownBy w' v.ownBlock) : w'.ownsRow b e 1 u m ys := by
  refine h.kept hg ?_
  cases hu : u.ownBlock with
  | none => exact .inl rfl
  | some g => exact .inr fun e => hd g e.symm hu
theorem apart_new {w : World} {b m : Nat} {u v v' : Value} {ys : List Value} {e : TypeId} (h : w.ownsRow b e 1 u m ys) (hd : ∀ g, v.ownBlock = some g → u.ownBlock ≠ some g) (hf : v'.ownBlock = v.ownBlock ∨ v'.ownBlock = some w.heap.size) : ∀ g, v'.ownBlock = some g → u.ownBlock ≠ some g := fun g hg hu => by
  rcases hf with e | e
  · exact hd g (e ▸ hg) hu
  · rw [e] at hg
    injection hg with hg
    have := (h.lt g hu).2
    omega
theorem apart_sym {u v : Value} (h : ∀ g, v.ownBlock = some g → u.ownBlock ≠ some g) : ∀ g, u.ownBlock = some g → v.ownBlock ≠ some g := fun g hu hv => h g hv hu
section
variable {w w' : World} {H : Nat} {v1 v2 v3 v : Value} {n1 n2 n3 k : Nat} {x1 x2 x3 xs : List Value}
theorem Tr3.app1 (h : Tr3 w H v1 v2 v3 n1 n2 n3 x1 x2 x3) (hr : w'.ownsRow H 5 1 v k xs) (hg : w.grownBy w' v1.ownBlock) (hf : v.ownBlock = v1.ownBlock ∨ v.ownBlock = some w.heap.size) : Tr3 w' H v v2 v3 k n2 n3 xs x2 x3 :=
  ⟨hr, apart_kept h.r2 h.d12 hg, apart_kept h.r3 h.d13 hg, apart_new h.r2 h.d12 hf, apart_new h.r3 h.d13 hf, h.d23⟩
theorem Tr3.app2 (h : Tr3 w H v1 v2 v3 n1 n2 n3 x1 x2 x3) (hr : w'.ownsRow H 5 1 v k xs) (hg : w.grownBy w' v2.ownBlock) (hf : v.ownBlock = v2.ownBlock ∨ v.ownBlock = some w.heap.size) : Tr3 w' H v1 v v3 n1 k n3 x1 xs x3 :=
  ⟨apart_kept h.r1 (apart_sym h.d12) hg, hr, apart_kept h.r3 h.d23 hg, apart_sym (apart_new h.r1 (apart_sym h.d12) hf), h.d13, apart_new h.r3 h.d23 hf⟩
theorem Tr3.app3 (h : Tr3 w H v1 v2 v3 n1 n2 n3 x1 x2 x3) (hr : w'.ownsRow H 5 1 v k xs) (hg : w.grownBy w' v3.ownBlock) (hf : v.ownBlock = v3.ownBlock ∨ v.ownBlock = some w.heap.size) : Tr3 w' H v1 v2 v n1 n2 k x1 x2 xs :=
  ⟨apart_kept h.r1 (apart_sym h.d13) hg, apart_kept h.r2 (apart_sym h.d23) hg, hr, h.d12, apart_sym (apart_new h.r1 (apart_sym h.d13) hf), apart_sym (apart_new h.r2 (apart_sym h.d23) hf)⟩
end
/-! ### The examples -/
def ups (n : Nat) : Bs := (List.range n).map byteN
theorem ups_succ (n : Nat) : ups (n + 1) = ups n ++ [byteN n] := by unfold ups; rw [List.range_succ, List.map_append]; rfl
theorem rep_succ (n : Nat) (x : UInt8) : List.replicate (n + 1) x = List.replicate n x ++ [x] := by rw [List.replicate_succ']
theorem ex_ups : ext 0 (ups 32) = 1188919630 := by decide +kernel
theorem ex_none : ext 0 [] = 0 := by decide +kernel
theorem ex_fr0 : frV [] = [0, 81, 83, 125, 82] := by
  have h : encI 0 = [0] := by unfold encI; rw [show codeN 0 = 0 from rfl, var_small (by omega)]; rfl
  have e : frV [] = frB [] := if_neg (by simp)
  rw [e]
  unfold frB sumC headB
  rw [show ((([] : Bs).length : Nat) : Int) = 0 from rfl, h]
  decide +kernel
theorem ex_h3 : encI 3 = [6] := by unfold encI; rw [show codeN 3 = 6 from rfl, var_small (by omega)]; rfl
theorem ex_len : (frB [97, 98, 99]).length = 8 := by
  rw [fr_len]
  unfold headB
  rw [show (((([97, 98, 99] : Bs).length : Nat)) : Int) = 3 from rfl, ex_h3]
  rfl
theorem ex_frv : frV [97, 98, 99] = frB [97, 98, 99] := if_neg (by simp)
theorem ex_op : openE (frB [97, 98, 99] ++ [7]) = 0 ∧ openV (frB [97, 98, 99] ++ [7]) = [97, 98, 99] ∧ openK (frB [97, 98, 99] ++ [7]) = 8 := by
  have h := open_frame (c := [97, 98, 99]) (by decide) [7]
  rw [ex_len] at h
  exact h
theorem ex_of {b : Bs} {f : Int} (h : openE b = f) (hf : f ≠ 0) : openE b = f ∧ openV b = [] ∧ openK b = 0 := ⟨h, open_bad (by rw [h]; exact hf)⟩
theorem ex_o1 : openE [0, 82, 83, 125, 82] = 14 := by decide +kernel
theorem ex_o2 : openE [1] = 2 := by decide +kernel
theorem ex_o3 : openE [130, 128, 8] = 3 := by decide +kernel
theorem ex_o4 : openE [6] = 13 := by decide +kernel
/-- The bytes of a text that was written out where it stands. -/
theorem cel_const {w : World} {T : TypeId} {cs : Array Value} {xs : List Value} {k : Nat} {fr : Nat × Nat} (h : cs.toList = xs) (hk : xs.length = k) (hm : k ≤ maxLen) : Cel (w.alloc (.cells cs T fr)) (.slice (some ⟨w.heap.size, 0, none⟩) k k) xs := by
  subst hk
  refine ⟨_, xs.length, rfl, Nat.le_refl _, hm, fun _ => ⟨w.heap.size, 0, rfl, fun i u hu => ?_⟩⟩
  rw [Nat.zero_add]
  subst h
  have hu' : cs[i]? = some u := by simpa using hu
  have h0 : (w.alloc (.cells cs T fr)).heap[w.heap.size]? = some (.cells cs T fr) := heap_alloc_new w _
  unfold World.cell?
  simp only [h0]
  exact hu'
theorem nilU (w : World) : Cel w (.slice none 0 0) (cellsU []) := cel_nil w
theorem row_low0 {w : World} {b0 b : Nat} {e : TypeId} {sv : Value} {n : Nat} {xs : List Value} (h : w.ownsRow b e 1 sv n xs) (hb : b0 ≤ b) : w.ownsRow b0 e 1 sv n xs := row_down h hb
theorem frame0 (C : CrcC) (w : World) : Calls Try.prog 16 #[.slice none 0 0] w fun e w' => ∃ v', e = .returned (.tuple #[v', .int .i64 0]) ∧ (convert 23 9 v').run Try.prog w' = .ok (.string ⟨#[0, 81, 83, 125, 82]⟩) w' ∧ Own w w' := by
  refine (C.frame [] (.slice none 0 0) w (Lib.hid (nilU w)) (by decide)).mono ?_
  rintro e w1 ⟨v1, rfl, hown, q⟩
  have hc := conv_cel (P := Try.prog) (cel_of_row hown) (src := 23) (e := 5) (dst := 9) rfl rfl rfl
  rw [ex_fr0] at hc
  exact ⟨v1, rfl, hc, q⟩
theorem frame3 (C : CrcC) (v : Value) (w : World) (H : Hid (Cel w v (cellsU [97, 98, 99]))) : Calls Try.prog 16 #[v] w fun e w' => ∃ g c, e = .returned (.tuple #[.slice (some ⟨g, 0, none⟩) 8 c, .int .i64 0]) ∧ w'.ownsRow w.heap.size 5 1 (.slice (some ⟨g, 0, none⟩) 8 c) 8 (cellsU (frB [97, 98, 99])) ∧ Own w w' := by
  refine (C.frame [97, 98, 99] v w H (by decide)).mono ?_
  rintro e w1 ⟨v1, rfl, hown, q⟩
  rw [ex_frv, ex_len] at hown
  obtain ⟨g, c, rfl⟩ := own_form hown (by decide)
  exact ⟨g, c, rfl, hown, q⟩
set_option maxRecDepth 100000 in
set_option maxHeartbeats 4000000 in
theorem awake_at (C : CrcC) (w : World) : Calls Try.prog 11 #[] w fun e w' => e = .returned (.bool true) ∧ Own w w' := by
  obtain ⟨i0, hi, hz0, hz1, hz2⟩ := info_parts (show (Try.prog.info? 5).map (fun i => (i.zero, i.size, i.bytes)) = some (some (.int .u8 0), 1, 1) by kernel_rfl)
  have HI := Lib.hid hi
  have HZ0 := Lib.hid hz0
  have HZ1 := Lib.hid hz1
  have HZ2 := Lib.hid hz2
  clear hi hz0 hz1 hz2
  go_enter Try.func11, Try.ntmps11
  go_wp2
  go_loopw [1, 2, 3, 4] (fun a1 a2 a3 vi wr => ∃ i : Nat, vi = .int .i64 (i : Int) ∧ i ≤ 32 ∧ Tr3 wr w.heap.size a1 a2 a3 i i i (cellsU (List.replicate i 0)) (cellsU (List.replicate i 255)) (cellsU (ups i)) ∧ Own w wr) (fun _ _ _ vi _ => 32 - (intOf vi).toNat)
  case atStart => exact ⟨0, rfl, Nat.zero_le _, ⟨World.ownsRow_nil _ _ _ _, World.ownsRow_nil _ _ _ _, World.ownsRow_nil _ _ _ _, fun g h => (by cases h), fun g h => (by cases h), fun g h => (by cases h)⟩, Own.refl w⟩
  case round =>
    obtain ⟨i, rfl, hi, htr, q⟩ := hrel
    by_cases hlt : i < 32
    · have T1 := Lib.hid (htr.own ((Own.refl wr).alloc (.cells #[.int .u8 0] 5)))
      have q1 := q.alloc (.cells #[.int .u8 0] 5)
      have C1 := Lib.hid (cel_byte (w := wr) (T := 5) (z := 0) (c := 0) rfl)
      have S1 := Lib.hid q1.size
      have BY := Lib.hid (show (byteN i).toNat = i from byte_of (by omega))
      have i3 : IntKind.u8.wrap (i : Int) = i := u8_in (by omega)
      have K2 := Lib.hid (show i + 1 ≤ maxLen by unfold maxLen; omega)
      have K3 := Lib.hid (show (i + 1) * 1 ≤ 140737488355328 by omega)
      have h32 : (i : Int) < 32 := by omega
      clear htr
      go_wp2_with (first
        | (at_builtin; refine wpList_append_f (by go_simp) _ _ 23 rfl w.heap.size 5 i0 (.int .u8 0) 1 Try.underlying23 HI.out HZ0.out HZ1.out HZ2.out rfl _ i (cellsU (List.replicate i 0)) rfl T1.out.r1 _ (cellsU [0]) rfl C1.out (cellsU_one _) (i + 1) rfl K2.out K3.out S1.out ?_; intro v5 w5 hown hgr hf; have T2 := Lib.hid (Tr3.own (T1.out.app1 (xs := cellsU (List.replicate (i + 1) 0)) (by rw [rep_succ, cellsU_app]; exact hown) hgr hf) ((Own.refl w5).alloc (.cells #[.int .u8 255] 5))); have q5 := (row_after q1 T1.out.r1 hgr (Nat.le_refl _)).alloc (.cells #[.int .u8 255] 5); have C2 := Lib.hid (cel_byte (w := w5) (T := 5) (z := 255) (c := 255) rfl); have S2 := Lib.hid q5.size; clear hown hgr hf)
        | (at_builtin; refine wpList_append_f (by go_simp) _ _ 23 rfl w.heap.size 5 i0 (.int .u8 0) 1 Try.underlying23 HI.out HZ0.out HZ1.out HZ2.out rfl _ i (cellsU (List.replicate i 255)) rfl T2.out.r2 _ (cellsU [255]) rfl C2.out (cellsU_one _) (i + 1) rfl K2.out K3.out S2.out ?_; intro v6 w6 hown hgr hf; have T3 := Lib.hid (Tr3.own (T2.out.app2 (xs := cellsU (List.replicate (i + 1) 255)) (by rw [rep_succ, cellsU_app]; exact hown) hgr hf) ((Own.refl w6).alloc (.cells #[.int .u8 (i : Int)] 5))); have q6 := (row_after q5 T2.out.r2 hgr (Nat.le_refl _)).alloc (.cells #[.int .u8 (i : Int)] 5); have C3 := Lib.hid (cel_byte (w := w6) (T := 5) (z := (i : Int)) (c := byteN i) (by rw [BY.out])); have S3 := Lib.hid q6.size; clear hown hgr hf)
        | (at_builtin; refine wpList_append_f (by go_simp) _ _ 23 rfl w.heap.size 5 i0 (.int .u8 0) 1 Try.underlying23 HI.out HZ0.out HZ1.out HZ2.out rfl _ i (cellsU (ups i)) rfl T3.out.r3 _ (cellsU [byteN i]) rfl C3.out (cellsU_one _) (i + 1) rfl K2.out K3.out S3.out ?_; intro v7 w7 hown hgr hf; have T4 := Lib.hid (T3.out.app3 (xs := cellsU (ups (i + 1))) (by rw [ups_succ, cellsU_app]; exact hown) hgr hf); have q7 := row_after q6 T3.out.r3 hgr (Nat.le_refl _); clear hown hgr hf))
      go_roundw
      case rel => exact ⟨i + 1, by go_num, hlt, T4.out, q7⟩
      case measure => simp [intOf]; omega
    · obtain rfl : i = 32 := by omega
      have R1 := Lib.hid (cel_of_row htr.r1)
      have R2 := Lib.hid (cel_of_row htr.r2)
      have R3 := Lib.hid (cel_of_row htr.r3)
      obtain ⟨A1, c1, rfl⟩ := row_shape htr.r1
      obtain ⟨A2, c2, rfl⟩ := row_shape htr.r2
      obtain ⟨A3, c3, rfl⟩ := row_shape htr.r3
      have HD := Lib.hid (cel_const (w := wr) (T := 5) (cs := #[.int .u8 49, .int .u8 50, .int .u8 51, .int .u8 52, .int .u8 53, .int .u8 54, .int .u8 55, .int .u8 56, .int .u8 57]) (xs := cellsU [49, 50, 51, 52, 53, 54, 55, 56, 57]) (k := 9) (fr := (9, 10)) rfl rfl (by unfold maxLen; decide))
      have hcv := Lib.run_convert_bytes_const (P := Try.prog) wr 23 5 #[.int .u8 49, .int .u8 50, .int .u8 51, .int .u8 52, .int .u8 53, .int .u8 54, .int .u8 55, .int .u8 56, .int .u8 57] 9 9 rfl rfl
      have f1 := (Own.refl wr).alloc (.cells #[.int .u8 49, .int .u8 50, .int .u8 51, .int .u8 52, .int .u8 53, .int .u8 54, .int .u8 55, .int .u8 56, .int .u8 57] 5 (9, 10))
      have X1 := Lib.hid ex_digits
      have X2 := Lib.hid ex_none
      have X3 := Lib.hid ex_zeros
      have X4 := Lib.hid ex_ones
      have X5 := Lib.hid ex_ups
      have g0 := q
      clear htr
      go_upto_region 10 with (first
        | (go_at_call 12; with_reducible refine (C.sum [49, 50, 51, 52, 53, 54, 55, 56, 57] _ 3808858755 _ HD (by decide) X1).mono ?_; rintro e w2 ⟨rfl, q2⟩; have p2 := f1.trans q2; have HN := Lib.hid (nilU w2))
        | (go_at_call 12; with_reducible refine (C.sum [] _ 0 _ HN (by decide) X2).mono ?_; rintro e w3 ⟨rfl, q3⟩; have p3 := p2.trans q3; have RA := Lib.hid (R1.out.own p3))
        | (go_at_call 12; with_reducible refine (C.sum (List.replicate 32 0) _ 2324772522 _ RA (by decide) X3).mono ?_; rintro e w4 ⟨rfl, q4⟩; have p4 := p3.trans q4; have RB := Lib.hid (R2.out.own p4))
        | (go_at_call 12; with_reducible refine (C.sum (List.replicate 32 255) _ 1655221059 _ RB (by decide) X4).mono ?_; rintro e w5 ⟨rfl, q5⟩; have p5 := p4.trans q5; have RC := Lib.hid (R3.out.own p5))
        | (go_at_call 12; with_reducible refine (C.sum (ups 32) _ 1188919630 _ RC (by decide) X5).mono ?_; rintro e w6 ⟨rfl, q6⟩; have p6 := p5.trans q6))
      have P6 := g0.trans p6
      clear p2 p3 p4 p5 p6 RA RB RC HN HD f1 R1 R2 R3 q2 q3 q4 q5 q6 g0 q X1 X2 X3 X4 X5 hcv
      have HN := Lib.hid (nilU w6)
      go_upto_region 11 with (go_at_call 16; refine (frame0 C _).mono ?_; rintro e w7 ⟨v7, rfl, hcs, q7⟩)
      have P7 := P6.trans q7
      go_upto_region 13 with (fail)
      clear hcs HN q7
      have HA := Lib.hid (cel_const (w := w7) (T := 5) (cs := #[.int .u8 97, .int .u8 98, .int .u8 99]) (xs := cellsU [97, 98, 99]) (k := 3) (fr := (3, 4)) rfl rfl (by unfold maxLen; decide))
      have hcv := Lib.run_convert_bytes_const (P := Try.prog) w7 23 5 #[.int .u8 97, .int .u8 98, .int .u8 99] 3 3 rfl rfl
      go_upto_region 14 with (go_at_call 16; with_reducible refine (frame3 C _ _ HA).mono ?_; rintro e w8 ⟨g8, c8, rfl, hown8, q8⟩)
      have T8 := Lib.hid (row_low0 hown8 (((Own.refl w7).alloc (.cells #[.int .u8 97, .int .u8 98, .int .u8 99] 5 (3, 4))).size))
      clear hown8 HA hcv
      go_upto_region 16 with (fail)
      have T9 := Lib.hid (World.ownsRow.alloc T8.out (.cells #[.int .u8 7] 5))
      have HCB := Lib.hid (cel_byte (w := w8) (T := 5) (z := 7) (c := 7) rfl)
      have q9 := ((Own.refl w7).alloc (.cells #[.int .u8 97, .int .u8 98, .int .u8 99] 5 (3, 4))).trans q8
      have q10 := q9.alloc (.cells #[.int .u8 7] 5)
      have HSZ := Lib.hid q10.size
      have HXO := Lib.hid ex_op
      have HLN := Lib.hid (show (frB [97, 98, 99] ++ [7]).length ≤ 200000 by rw [List.length_append, ex_len]; decide)
      have K2 := Lib.hid (show 9 ≤ maxLen by unfold maxLen; decide)
      clear T8
      go_upto_region 17 with (at_builtin; refine wpList_append_r (by go_simp) _ _ 23 rfl w7.heap.size 5 i0 (.int .u8 0) 1 Try.underlying23 HI.out HZ0.out HZ1.out HZ2.out rfl _ 8 (cellsU (frB [97, 98, 99])) rfl T9.out _ (cellsU [7]) rfl HCB.out (cellsU_one _) 9 rfl K2.out (by decide) HSZ.out ?_; intro v9 w9 hown hgr _; have q11 := hgr w7 q10 (Nat.le_refl _); have HC9 := Lib.hid (show Cel w9 v9 (cellsU (frB [97, 98, 99] ++ [7])) by rw [cellsU_app]; exact cel_of_row hown); clear hown hgr)
      have P9 := P7.trans q11
      clear T9 HCB q9 q10 q11 q8 HSZ K2
      go_upto_region 18 with (go_at_call 19; with_reducible refine (C.op (frB [97, 98, 99] ++ [7]) [97, 98, 99] _ 0 8 _ HC9 HLN.out HXO).mono ?_; rintro e w10 ⟨v10, rfl, hown, q12⟩; have hc10 := conv_cel (P := Try.prog) (cel_of_row hown) (src := 23) (e := 5) (dst := 9) rfl rfl rfl; clear hown)
      replace hc10 : (convert 23 9 v10).run Try.prog w10 = .ok (.string ⟨#[97, 98, 99]⟩) w10 := hc10
      replace P6 := P9.trans q12
      clear P9 P7 q12 HC9 HXO HLN
      go_upto_region 20 with (fail)
      clear hc10
      have HL := Lib.hid (cel_new (w := w10) (T := 5) (cs := #[.int .u8 0, .int .u8 82, .int .u8 83, .int .u8 125, .int .u8 82]) (xs := cellsU [0, 82, 83, 125, 82]) (k := 5) rfl rfl (by unfold maxLen; decide))
      have HX := Lib.hid (ex_of ex_o1 (by decide))
      go_upto_region 21 with (go_at_call 19; with_reducible refine (C.op [0, 82, 83, 125, 82] [] _ 14 0 _ HL (by decide) HX).mono ?_; rintro e w11 ⟨v20, rfl, _, q9⟩)
      replace P6 := (P6.alloc (.cells #[.int .u8 0, .int .u8 82, .int .u8 83, .int .u8 125, .int .u8 82] 5)).trans q9
      clear HL HX q9
      have HL := Lib.hid (cel_new (w := w11) (T := 5) (cs := #[.int .u8 1]) (xs := cellsU [1]) (k := 1) rfl rfl (by unfold maxLen; decide))
      have HX := Lib.hid (ex_of ex_o2 (by decide))
      go_upto_region 22 with (go_at_call 19; with_reducible refine (C.op [1] [] _ 2 0 _ HL (by decide) HX).mono ?_; rintro e w12 ⟨v21, rfl, _, q9⟩)
      replace P6 := (P6.alloc (.cells #[.int .u8 1] 5)).trans q9
      clear HL HX q9
      have HL := Lib.hid (cel_new (w := w12) (T := 5) (cs := #[.int .u8 130, .int .u8 128, .int .u8 8]) (xs := cellsU [130, 128, 8]) (k := 3) rfl rfl (by unfold maxLen; decide))
      have HX := Lib.hid (ex_of ex_o3 (by decide))
      go_upto_region 23 with (go_at_call 19; with_reducible refine (C.op [130, 128, 8] [] _ 3 0 _ HL (by decide) HX).mono ?_; rintro e w13 ⟨v22, rfl, _, q9⟩)
      replace P6 := (P6.alloc (.cells #[.int .u8 130, .int .u8 128, .int .u8 8] 5)).trans q9
      clear HL HX q9
      have HL := Lib.hid (cel_new (w := w13) (T := 5) (cs := #[.int .u8 6]) (xs := cellsU [6]) (k := 1) rfl rfl (by unfold maxLen; decide))
      have HX := Lib.hid (ex_of ex_o4 (by decide))
      go_upto_region 24 with (go_at_call 19; with_reducible refine (C.op [6] [] _ 13 0 _ HL (by decide) HX).mono ?_; rintro e w14 ⟨v23, rfl, _, q9⟩)
      replace P6 := (P6.alloc (.cells #[.int .u8 6] 5)).trans q9
      clear HL HX q9
      go_wp2
      go_ret
      exact ⟨rfl, P6⟩
end Go.Proofs.Ytbplglndcagglaa.CrcW
