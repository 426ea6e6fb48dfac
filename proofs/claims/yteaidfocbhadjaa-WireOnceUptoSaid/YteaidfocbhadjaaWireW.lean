/-
  Package wire: the laws' awake, over what is asked of the program. Condition: none.
-/
import Derived.Test.YteaidfocbhadjaaWireX
namespace Go.Proofs.Yteaidfocbhadjaa.WirW
open Go.ChangeShapes Go.WideShapes Go.ChangeAt Go.RowKit
open PairW CelW WirP
theorem nil_cel (w : World) : Cel w (.slice none 0 0) (cellsU []) := cel_nil w
theorem put_ex (C : PutC) (n : Int) (r : ByteArray) (w : World) (hn : I64 n) (h : strB (encI n) = r) :
    Calls Try.prog 14 #[.slice none 0 0, .int .i64 n] w fun e w' => ∃ v', e = .returned v' ∧ (convert 22 9 v').run Try.prog w' = .ok (.string r) w' ∧ Own w w' := by
  refine (C.int [] (.slice none 0 0) n w (Lib.hid (nil_cel w)) hn (by simp)).mono ?_
  rintro e w1 ⟨v1, rfl, hown, q⟩
  refine ⟨v1, rfl, ?_, q⟩
  have hc := conv_cel (P := Try.prog) (cel_of_row hown) (src := 22) (e := 5) (dst := 9) rfl rfl rfl
  rw [List.nil_append, h] at hc
  exact hc
theorem puttext_ex (C : PutC) (s r : ByteArray) (w : World) (hs : s.size ≤ 1000) (h : strB (encT s.data.toList) = r) :
    Calls Try.prog 20 #[.slice none 0 0, .string s] w fun e w' => ∃ v', e = .returned v' ∧ (convert 22 9 v').run Try.prog w' = .ok (.string r) w' ∧ Own w w' := by
  refine (C.text [] (.slice none 0 0) s w (Lib.hid (nil_cel w)) (by rw [List.length_nil]; omega)).mono ?_
  rintro e w1 ⟨v1, rfl, hown, q⟩
  refine ⟨v1, rfl, ?_, q⟩
  have hc := conv_cel (P := Try.prog) (cel_of_row hown) (src := 22) (e := 5) (dst := 9) rfl rfl rfl
  rw [List.nil_append, h] at hc
  exact hc
theorem putlist_ex (C : PutC) (l : List Int) (vl : Value) (r : ByteArray) (w : World) (HL : Hid (Cel w vl (cellsI l))) (hi : In64 l) (hs : l.length ≤ 1000) (h : strB (encL l) = r) :
    Calls Try.prog 25 #[.slice none 0 0, vl] w fun e w' => ∃ v', e = .returned v' ∧ (convert 22 9 v').run Try.prog w' = .ok (.string r) w' ∧ Own w w' := by
  refine (C.list [] l (.slice none 0 0) vl w (Lib.hid (nil_cel w)) HL hi (by rw [List.length_nil]; omega)).mono ?_
  rintro e w1 ⟨v1, rfl, hown, q⟩
  refine ⟨v1, rfl, ?_, q⟩
  have hc := conv_cel (P := Try.prog) (cel_of_row hown) (src := 22) (e := 5) (dst := 9) rfl rfl rfl
  rw [List.nil_append, h] at hc
  exact hc
/-- A call on bytes that were written out where it stands. -/
theorem lit_u8 (w : World) (T : TypeId) (b : Bs) (cs : Array Value) (k : Nat) (h : cs.toList = cellsU b) (hk : b.length = k) (hm : k ≤ 1000) : Hid (Cel (w.alloc (.cells cs T)) (.slice (some ⟨w.heap.size, 0, none⟩) k k) (cellsU b)) :=
  Lib.hid (cel_lit h (by rw [cellsU_len, hk]) (by unfold maxLen; omega))
theorem taketext_ex (D : TakeC) (b V : Bs) (r : ByteArray) (v : Value) (most f : Int) (m : Nat) (w : World) (HB : Hid (Cel w v (cellsU b))) (hb : b.length ≤ 1000) (hm : I64 most) (h : textE b most = f ∧ textV b most = V ∧ textK b most = m) (hr : strB V = r) :
    Calls Try.prog 18 #[v, .int .i64 most] w fun e w' => e = .returned (.tuple #[.string r, .int .i64 (m : Int), .int .i64 f]) ∧ Own w w' := by
  rw [← hr]
  exact D.text b V v most f m w HB (by omega) hm (Lib.hid h)
theorem tk1 (D : TakeC) (v : Value) (w : World) (h : Hid (Cel w v (cellsU [172, 2, 9]))) : Calls Try.prog 34 #[.int .i64 150, .int .i64 2, .int .i64 0, v] w fun e w' => e = .returned (.bool true) ∧ Own w w' := takes_yes D [172, 2, 9] v 150 2 0 w h (Lib.hid ex_t1)
theorem tk2 (D : TakeC) (v : Value) (w : World) (h : Hid (Cel w v (cellsU []))) : Calls Try.prog 34 #[.int .i64 0, .int .i64 0, .int .i64 13, v] w fun e w' => e = .returned (.bool true) ∧ Own w w' := takes_yes D [] v 0 0 13 w h (Lib.hid ex_t2)
theorem tk3 (D : TakeC) (v : Value) (w : World) (h : Hid (Cel w v (cellsU [128]))) : Calls Try.prog 34 #[.int .i64 0, .int .i64 0, .int .i64 13, v] w fun e w' => e = .returned (.bool true) ∧ Own w w' := takes_yes D [128] v 0 0 13 w h (Lib.hid ex_t3)
theorem tk4 (D : TakeC) (v : Value) (w : World) (h : Hid (Cel w v (cellsU [128, 0]))) : Calls Try.prog 34 #[.int .i64 0, .int .i64 0, .int .i64 2, v] w fun e w' => e = .returned (.bool true) ∧ Own w w' := takes_yes D [128, 0] v 0 0 2 w h (Lib.hid ex_t4)
theorem tk5 (D : TakeC) (v : Value) (w : World) (h : Hid (Cel w v (cellsU [255, 255, 255, 255, 255, 255, 255, 255, 255, 2]))) : Calls Try.prog 34 #[.int .i64 0, .int .i64 0, .int .i64 12, v] w fun e w' => e = .returned (.bool true) ∧ Own w w' := takes_yes D [255, 255, 255, 255, 255, 255, 255, 255, 255, 2] v 0 0 12 w h (Lib.hid ex_t5)
theorem tx1 (D : TakeC) (v : Value) (w : World) (h : Hid (Cel w v (cellsU [4, 104, 105]))) : Calls Try.prog 18 #[v, .int .i64 2] w fun e w' => e = .returned (.tuple #[.string ⟨#[104, 105]⟩, .int .i64 3, .int .i64 0]) ∧ Own w w' := taketext_ex D [4, 104, 105] [104, 105] ⟨#[104, 105]⟩ v 2 0 3 w h (by simp) (by unfold I64; omega) ex_x1 rfl
theorem tx2 (D : TakeC) (v : Value) (w : World) (h : Hid (Cel w v (cellsU [4, 104, 105]))) : Calls Try.prog 18 #[v, .int .i64 1] w fun e w' => e = .returned (.tuple #[.string ⟨#[]⟩, .int .i64 0, .int .i64 3]) ∧ Own w w' := taketext_ex D [4, 104, 105] [] ⟨#[]⟩ v 1 3 0 w h (by simp) (by unfold I64; omega) ex_x2 rfl
theorem tx3 (D : TakeC) (v : Value) (w : World) (h : Hid (Cel w v (cellsU [1]))) : Calls Try.prog 18 #[v, .int .i64 9] w fun e w' => e = .returned (.tuple #[.string ⟨#[]⟩, .int .i64 0, .int .i64 2]) ∧ Own w w' := taketext_ex D [1] [] ⟨#[]⟩ v 9 2 0 w h (by simp) (by unfold I64; omega) ex_x3 rfl
theorem tl1 (D : TakeC) (v : Value) (w : World) (h : Hid (Cel w v (cellsU [4, 2, 1, 7]))) : Calls Try.prog 22 #[v, .int .i64 2] w fun e w' => ∃ vl, e = .returned (.tuple #[vl, .int .i64 3, .int .i64 0]) ∧ Cel w' vl (cellsI [1, -1]) ∧ Own w w' := by
  refine (D.list [4, 2, 1, 7] [1, -1] v 2 0 3 w h (by simp) (by unfold I64; omega) (Lib.hid ex_l1)).mono ?_
  rintro e w1 ⟨vl, rfl, hown, q⟩
  exact ⟨vl, rfl, cel_of_row hown, q⟩
theorem pt1 (C : PutC) (w : World) : Calls Try.prog 20 #[.slice none 0 0, .string ⟨#[104, 105]⟩] w fun e w' => ∃ v', e = .returned v' ∧ (convert 22 9 v').run Try.prog w' = .ok (.string ⟨#[4, 104, 105]⟩) w' ∧ Own w w' := puttext_ex C ⟨#[104, 105]⟩ ⟨#[4, 104, 105]⟩ w (by decide) (by rw [show (⟨#[104, 105]⟩ : ByteArray).data.toList = [104, 105] from rfl, ex_hi]; rfl)
theorem pl1 (C : PutC) (vl : Value) (w : World) (h : Hid (Cel w vl (cellsI [1, -1]))) : Calls Try.prog 25 #[.slice none 0 0, vl] w fun e w' => ∃ v', e = .returned v' ∧ (convert 22 9 v').run Try.prog w' = .ok (.string ⟨#[4, 2, 1]⟩) w' ∧ Own w w' := putlist_ex C [1, -1] vl ⟨#[4, 2, 1]⟩ w h (by intro x hx; simp at hx; omega) (by simp) (by rw [ex_list]; rfl)
set_option maxRecDepth 100000 in
set_option maxHeartbeats 4000000 in
theorem awake_at (C : PutC) (D : TakeC) (w : World) : Calls Try.prog 17 #[] w fun e w' => e = .returned (.bool true) ∧ Own w w' := by
  have i1 : I64 150 := by unfold I64; omega
  have i2 : I64 (-64) := by unfold I64; omega
  have i3 : I64 64 := by unfold I64; omega
  have I1 := Lib.hid i1
  have I2 := Lib.hid i2
  have I3 := Lib.hid i3
  have E1 := Lib.hid (show strB (encI 150) = ⟨#[172, 2]⟩ by rw [ex_150]; rfl)
  have E2 := Lib.hid (show strB (encI (-64)) = ⟨#[127]⟩ by rw [ex_n64]; rfl)
  have E3 := Lib.hid (show strB (encI 64) = ⟨#[128, 1]⟩ by rw [ex_64]; rfl)
  have K1 := Lib.hid (fun w : World => lit_u8 w 5 [172, 2, 9] #[.int .u8 172, .int .u8 2, .int .u8 9] 3 rfl rfl (by omega))
  have K3 := Lib.hid (fun w : World => lit_u8 w 5 [128] #[.int .u8 128] 1 rfl rfl (by omega))
  have K4 := Lib.hid (fun w : World => lit_u8 w 5 [128, 0] #[.int .u8 128, .int .u8 0] 2 rfl rfl (by omega))
  have K5 := Lib.hid (fun w : World => lit_u8 w 5 [255, 255, 255, 255, 255, 255, 255, 255, 255, 2] #[.int .u8 255, .int .u8 255, .int .u8 255, .int .u8 255, .int .u8 255, .int .u8 255, .int .u8 255, .int .u8 255, .int .u8 255, .int .u8 2] 10 rfl rfl (by omega))
  have X1 := Lib.hid (fun w : World => lit_u8 w 5 [4, 104, 105] #[.int .u8 4, .int .u8 104, .int .u8 105] 3 rfl rfl (by omega))
  have X3 := Lib.hid (fun w : World => lit_u8 w 5 [1] #[.int .u8 1] 1 rfl rfl (by omega))
  have L1 := Lib.hid (fun w : World => lit_u8 w 5 [4, 2, 1, 7] #[.int .u8 4, .int .u8 2, .int .u8 1, .int .u8 7] 4 rfl rfl (by omega))
  have LI := Lib.hid (fun w : World => (Lib.hid (cel_lit (w := w) (T := 3) (cs := #[.int .i64 1, .int .i64 (-1)]) (xs := cellsI [1, -1]) (k := 2) rfl rfl (by unfold maxLen; omega)) : Hid (Cel (w.alloc (.cells #[.int .i64 1, .int .i64 (-1)] 3)) (.slice (some ⟨w.heap.size, 0, none⟩) 2 2) (cellsI [1, -1]))))
  have q0 : Own w w := Own.refl w
  clear i1 i2 i3
  go_enter Try.func17, Try.ntmps17
  go_upto_region 3 with (first
    | (go_at_call 14; with_reducible refine (put_ex C 150 _ _ I1.out E1.out).mono ?_; rintro e w1 ⟨v1, rfl, cv1, q1⟩; replace q0 := q0.trans q1)
    | (go_at_call 14; with_reducible refine (put_ex C (-64) _ _ I2.out E2.out).mono ?_; rintro e w2 ⟨v2, rfl, cv2, q2⟩; replace q0 := q0.trans q2)
    | (go_at_call 14; with_reducible refine (put_ex C 64 _ _ I3.out E3.out).mono ?_; rintro e w3 ⟨v3, rfl, cv3, q3⟩; replace q0 := q0.trans q3))
  clear cv1 cv2 cv3 q1 q2 q3
  go_upto_region 5 with (first
    | (go_at_call 34; with_reducible refine (tk1 D _ _ (K1.out _)).mono ?_; rintro e w4 ⟨rfl, q4⟩; replace q0 := (q0.alloc _).trans q4)
    | (go_at_call 34; with_reducible refine (tk2 D _ _ (Lib.hid (nil_cel _))).mono ?_; rintro e w5 ⟨rfl, q5⟩; replace q0 := q0.trans q5)
    | (go_at_call 34; with_reducible refine (tk3 D _ _ (K3.out _)).mono ?_; rintro e w6 ⟨rfl, q6⟩; replace q0 := (q0.alloc _).trans q6)
    | (go_at_call 34; with_reducible refine (tk4 D _ _ (K4.out _)).mono ?_; rintro e w7 ⟨rfl, q7⟩; replace q0 := (q0.alloc _).trans q7)
    | (go_at_call 34; with_reducible refine (tk5 D _ _ (K5.out _)).mono ?_; rintro e w8 ⟨rfl, q8⟩; replace q0 := (q0.alloc _).trans q8))
  clear q4 q5 q6 q7 q8
  go_upto_region 8 with (first
    | (go_at_call 18; with_reducible refine (tx1 D _ _ (X1.out _)).mono ?_; rintro e w9 ⟨rfl, q9⟩; replace q0 := (q0.alloc _).trans q9)
    | (go_at_call 18; with_reducible refine (tx2 D _ _ (X1.out _)).mono ?_; rintro e w10 ⟨rfl, q10⟩; replace q0 := (q0.alloc _).trans q10)
    | (go_at_call 18; with_reducible refine (tx3 D _ _ (X3.out _)).mono ?_; rintro e w11 ⟨rfl, q11⟩; replace q0 := (q0.alloc _).trans q11))
  clear q9 q10 q11
  go_upto_region 10 with (go_at_call 20; with_reducible refine (pt1 C _).mono ?_; rintro e w12 ⟨v12, rfl, cv12, q12⟩; replace q0 := q0.trans q12)
  clear cv12 q12
  go_upto_region 11 with (go_at_call 22; with_reducible refine (tl1 D _ _ (L1.out _)).mono ?_; rintro e w13 ⟨v13, rfl, hc13, q13⟩; replace q0 := (q0.alloc _).trans q13)
  have HC13 := Lib.hid (hc13.own ((Own.refl _).alloc (.cells #[.int .i64 1, .int .i64 (-1)] 3)))
  clear hc13 q13
  go_wp2_with (first
    | (go_at_call 24; with_reducible refine (rints_yes [1, -1] _ _ _ HC13 (LI.out _)).mono ?_; rintro e w14 ⟨rfl, d14, hd14⟩; replace q0 : Own w w14 := (by rw [hd14]; exact (q0.alloc _).drewN d14); clear hd14)
    | (go_at_call 25; with_reducible refine (pl1 C _ _ (LI.out _)).mono ?_; rintro e w15 ⟨v15, rfl, cv15, q15⟩; replace q0 := (q0.alloc _).trans q15))
  go_ret
  exact ⟨rfl, q0⟩
end Go.Proofs.Yteaidfocbhadjaa.WirW
