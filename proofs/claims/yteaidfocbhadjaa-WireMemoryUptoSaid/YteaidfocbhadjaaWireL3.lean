/-
  Package wire: the law RoundTrip, over what is asked of the program. Condition: none.
-/
import Derived.Test.YteaidfocbhadjaaWireL5
namespace Go.Proofs.Yteaidfocbhadjaa.WirW
open Go.ChangeShapes Go.WideShapes Go.ChangeAt Go.RowKit
open PairW CelW WirP
theorem own_f (b : Bs) (v : Value) (k : Nat) (w : World) (HB : Hid (Cel w v (cellsU b))) (hl : b.length ≤ 140737488355000) (hk : b.length = k) :
    Calls Try.prog 15 #[v] w fun e w' => ∃ A c, e = .returned (.slice A k c) ∧ w'.ownsRow w.heap.size 5 1 (.slice A k c) k (cellsU b) ∧ Own w w' := by
  subst hk
  refine (lown_at b v w HB hl).mono ?_
  rintro e w1 ⟨v1, rfl, hown, q⟩
  obtain ⟨A, c, rfl⟩ := row_shape hown
  exact ⟨A, c, rfl, hown, q⟩
theorem puttext_f (C : PutC) (b : Bs) (v : Value) (s : ByteArray) (B : Bs) (k : Nat) (w : World) (HB : Hid (Cel w v (cellsU b))) (hl : b.length + s.size ≤ 1000000000000) (h : b ++ encT s.data.toList = B) (hk : B.length = k) :
    Calls Try.prog 20 #[v, .string s] w fun e w' => ∃ A c, e = .returned (.slice A k c) ∧ w'.ownsRow w.heap.size 5 1 (.slice A k c) k (cellsU B) ∧ Own w w' := by
  subst hk
  refine (C.text b v s w HB hl).mono ?_
  rintro e w1 ⟨v1, rfl, hown, q⟩
  rw [h] at hown
  obtain ⟨A, c, rfl⟩ := row_shape hown
  exact ⟨A, c, rfl, hown, q⟩
theorem putlist_f (C : PutC) (b : Bs) (l : List Int) (v vl : Value) (B : Bs) (k : Nat) (w : World) (HB : Hid (Cel w v (cellsU b))) (HL : Hid (Cel w vl (cellsI l))) (hi : In64 l) (hl : b.length + 10 * (l.length + 1) ≤ 1000000000000) (h : b ++ encL l = B) (hk : B.length = k) :
    Calls Try.prog 25 #[v, vl] w fun e w' => ∃ A c, e = .returned (.slice A k c) ∧ w'.ownsRow w.heap.size 5 1 (.slice A k c) k (cellsU B) ∧ Own w w' := by
  subst hk
  refine (C.list b l v vl w HB HL hi hl).mono ?_
  rintro e w1 ⟨v1, rfl, hown, q⟩
  rw [h] at hown
  obtain ⟨A, c, rfl⟩ := row_shape hown
  exact ⟨A, c, rfl, hown, q⟩
theorem row_addr {w : World} {base n : Nat} {e : TypeId} {v : Value} {xs : List Value} (h : w.ownsRow base e 1 v n xs) (h0 : 0 < n) : ∃ g o c, v = .slice (some ⟨g, o, none⟩) n c := by
  rcases h.2 with ⟨_, h2⟩ | ⟨g, cap, cur, rfl, _⟩
  · omega
  · exact ⟨g, 0, cap, rfl⟩
set_option maxRecDepth 100000 in
set_option maxHeartbeats 4000000 in
theorem lround_at (C : PutC) (D : TakeC) (N : Int) (s : ByteArray) (l : List Int) (vl : Value) (r : Bs) (vr : Value) (w : World) (HL : Hid (Cel w vl (cellsI l))) (hi : In64 l) (HR : Hid (Cel w vr (cellsU r))) (hn : I64 N) (hsl : s.size + l.length ≤ 10000000) (hr : r.length ≤ 10000000) :
    Calls Try.prog 6 #[.agg #[.int .i64 N, .string s, vl], vr] w fun e w' => e = .returned (.bool true) ∧ Own w w' := by
  obtain ⟨i0, hi0, hz0, hz1, hz2⟩ := info_parts (show (Try.prog.info? 5).map (fun i => (i.zero, i.size, i.bytes)) = some (some (.int .u8 0), 1, 1) by kernel_rfl)
  have HI0 := Lib.hid hi0
  have HZ0 := Lib.hid hz0
  have HZ1 := Lib.hid hz1
  have HZ2 := Lib.hid hz2
  clear hi0 hz0 hz1 hz2
  obtain ⟨z, hz⟩ : ∃ z, s.size = z := ⟨_, rfl⟩
  obtain ⟨y, hy⟩ : ∃ y, l.length = y := ⟨_, rfl⟩
  have hsd : s.data.toList.length = z := by rw [← hz]; exact Array.length_toList
  obtain ⟨B1, hB1⟩ : ∃ B, encI N = B := ⟨_, rfl⟩
  obtain ⟨B2, hB2⟩ : ∃ B, B1 ++ encT s.data.toList = B := ⟨_, rfl⟩
  obtain ⟨B3, hB3⟩ : ∃ B, B2 ++ encL l = B := ⟨_, rfl⟩
  obtain ⟨B4, hB4⟩ : ∃ B, B3 ++ r = B := ⟨_, rfl⟩
  obtain ⟨n1, hn1⟩ : ∃ n, B1.length = n := ⟨_, rfl⟩
  obtain ⟨n2, hn2⟩ : ∃ n, B2.length = n := ⟨_, rfl⟩
  obtain ⟨n3, hn3⟩ : ∃ n, B3.length = n := ⟨_, rfl⟩
  obtain ⟨n4, hn4⟩ : ∃ n, B4.length = n := ⟨_, rfl⟩
  obtain ⟨m2, hm2⟩ : ∃ n, (encT s.data.toList).length = n := ⟨_, rfl⟩
  obtain ⟨m3, hm3⟩ : ∃ n, (encL l).length = n := ⟨_, rfl⟩
  have b1 : 1 ≤ n1 ∧ n1 ≤ 10 := by
    have h1 := enc_ten hn
    have h2 := enc_len N
    rw [hB1, hn1] at h1 h2
    exact ⟨h2, h1⟩
  have b2 : 1 ≤ m2 ∧ m2 ≤ 100000000 := by
    have h1 := enc_ten (n := (z : Int)) (by omega)
    have h2 := enc_len (z : Int)
    rw [← hm2]
    unfold encT
    rw [List.length_append, hsd]
    omega
  have b3 : 1 ≤ m3 ∧ m3 ≤ 200000000 := by
    have h1 := enc_ten (n := (y : Int)) (by omega)
    have h2 := enc_len (y : Int)
    have h3 := encs_len l hi
    rw [← hm3]
    unfold encL
    rw [List.length_append, hy]
    omega
  have e2 : n2 = n1 + m2 := by rw [← hn2, ← hB2, List.length_append, hn1, hm2]
  have e3 : n3 = n2 + m3 := by rw [← hn3, ← hB3, List.length_append, hn2, hm3]
  have e4 : n4 = n3 + r.length := by rw [← hn4, ← hB4, List.length_append, hn3]
  have a4 : B4 = B1 ++ (encT s.data.toList ++ (encL l ++ r)) := by rw [← hB4, ← hB3, ← hB2]; simp
  have a5 : B4 = B2 ++ (encL l ++ r) := by rw [← hB4, ← hB3]; simp
  have F1 := Lib.hid (show takeE B4 = 0 ∧ takeV B4 = N ∧ takeK B4 = n1 by rw [a4, ← hn1, ← hB1]; exact take_enc hn _)
  have F2 := Lib.hid (show textE (B4.drop n1) z = 0 ∧ textV (B4.drop n1) z = s.data.toList ∧ textK (B4.drop n1) z = m2 by
    rw [a4, List.drop_append_of_le_length (by omega), List.drop_of_length_le (by omega), List.nil_append, ← hm2]
    exact text_enc (by omega) _ (by rw [hsd]; exact Int.le_refl _))
  have F3 := Lib.hid (show listE (B4.drop n2) y = 0 ∧ listV (B4.drop n2) y = l ∧ listK (B4.drop n2) y = m3 by
    rw [a5, List.drop_append_of_le_length (by omega), List.drop_of_length_le (by omega), List.nil_append, ← hm3]
    exact list_enc (by omega) hi _ (by rw [hy]; exact Int.le_refl _))
  have HN := Lib.hid hn
  have HI := Lib.hid hi
  have E1 := Lib.hid hB1
  have E2 := Lib.hid hB2
  have E3 := Lib.hid hB3
  have E4 := Lib.hid hB4
  have L1 := Lib.hid hn1
  have L2 := Lib.hid hn2
  have L3 := Lib.hid hn3
  have L4 := Lib.hid hn4
  have HY := Lib.hid hy
  have iz : I64 (z : Int) := by unfold I64; omega
  have iy : I64 (y : Int) := by unfold I64; omega
  have IZ := Lib.hid iz
  have IY := Lib.hid iy
  have BA := Lib.hid (show B1.length ≤ 140737488355000 by omega)
  have BB := Lib.hid (show B2.length ≤ 140737488355000 by omega)
  have BC := Lib.hid (show B3.length ≤ 140737488355000 by omega)
  have BD := Lib.hid (show B1.length + s.size ≤ 1000000000000 by omega)
  have BE := Lib.hid (show B2.length + 10 * (l.length + 1) ≤ 1000000000000 by omega)
  have BF := Lib.hid (show (B4.drop n1).length ≤ 1000000000000 by rw [List.length_drop]; omega)
  have BG := Lib.hid (show (B4.drop n2).length ≤ 1000000000000 by rw [List.length_drop]; omega)
  have K4 := Lib.hid (show n3 + (cellsU r).length = n4 by rw [cellsU_len]; omega)
  have K5 := Lib.hid (show n4 ≤ maxLen by unfold maxLen; omega)
  have K6 := Lib.hid (show n4 * 1 ≤ 140737488355328 by omega)
  have s2 : IntKind.i64.wrap ((n2 : Int) - n1) = m2 := (IntWalk.i64_in _ (by omega)).trans (by omega)
  have s3 : IntKind.i64.wrap ((n3 : Int) - n2) = m3 := (IntWalk.i64_in _ (by omega)).trans (by omega)
  have S2 := Lib.hid s2
  have S3 := Lib.hid s3
  have t1 : ¬ (n1 : Int) < 1 := by omega
  have t2 : ¬ (n2 : Int) < n1 := by omega
  have t3 : ¬ (n3 : Int) < n2 := by omega
  have o14 : n1 < n4 := by omega
  have o24 : n2 < n4 := by omega
  have n4b : n4 ≤ 1000000000000 := by omega
  have p4 : 0 < n4 := by omega
  obtain ⟨AL, cl, rfl, _, _⟩ := cel_ints HL.out
  obtain ⟨AR, cr, rfl, hcr1, hcr2⟩ := cel_form HR.out
  obtain ⟨nr, hnr⟩ : ∃ n, (cellsU r).length = n := ⟨_, rfl⟩
  rw [hnr] at HR ⊢
  rw [hy] at HL ⊢
  obtain ⟨k0, k1, k2⟩ := box3 w (.int .i64 N) (.string s) (.slice AL y cl) 42
  have g0 : Own w (w.alloc (.cells #[.int .i64 N, .string s, .slice AL y cl] 42)) := (Own.refl w).alloc _
  have HV := Lib.hid (HL.out.own g0)
  have HRR := Lib.hid (HR.out.own g0)
  clear hB1 hB2 hB3 hB4 hn1 hn2 hn3 hn4 hm2 hm3 e2 e3 e4 a4 a5 b1 b2 b3 hn hi hsl iz iy hsd hy HL HR hr s2 s3 hcr1 hcr2 hnr
  go_enter Try.func6, Try.ntmps6
  go_upto_region 1 with (fail)
  generalize w.alloc (.cells #[.int .i64 N, .string s, .slice AL y cl] 42) = W0 at *
  generalize w.heap.size = Q at *
  have T1 := Lib.hid t1
  have T2 := Lib.hid t2
  have T3 := Lib.hid t3
  have P4 := Lib.hid p4
  clear t1 t2 t3 p4
  go_upto_region 2 with (go_at_call 14; with_reducible refine (put_nil C N B1 n1 _ HN.out E1.out L1.out).mono ?_; rintro e w1 ⟨A1, c1, rfl, hc1, q1⟩)
  have HC1 := Lib.hid hc1
  clear hc1
  replace k0 := q1.cell k0
  replace k1 := q1.cell k1
  replace k2 := q1.cell k2
  have f1 := q1.drew
  go_region_held3 (fun w' => w'.cell? ⟨Q, 1, none⟩ = some (.string s) ∧ Own w1 w') (first | (exact ⟨(Own.refl w1).drew.cell k1, (Own.refl w1).drew⟩) | (exact ⟨k5, q5⟩))
    (first
    | (go_at_call 15; have HX := Lib.hid (HC1.out.own (Own.refl w1).drew); with_reducible refine (own_f B1 _ n1 _ HX BA.out L1.out).mono ?_; rintro e w3 ⟨A3, c3, rfl, hown, q3⟩; have q5 := (Own.refl w1).drew.trans q3; have k5 := q5.cell k1; have HX2 := Lib.hid (cel_of_row hown); clear hown HX q3)
    | (go_at_call 20; with_reducible refine (puttext_f C B1 _ s B2 n2 _ HX2 BD.out E2.out L2.out).mono ?_; rintro e w4 ⟨A2, c2, rfl, hown, q4⟩; replace q5 := q5.trans q4; have k5 := q5.cell k1; have HC2 := Lib.hid (cel_of_row hown); clear hown q4))
  clear HX2 HC1
  have q6 := q1.trans q5
  replace k0 := q5.cell k0
  replace k1 := q5.cell k1
  replace k2 := q5.cell k2
  replace HV := Lib.hid (HV.out.own q6)
  replace HRR := Lib.hid (HRR.out.own q6)
  clear k5 q5 f1 q1
  go_upto_region 3 with (fail)
  go_region_held3 (fun w' => w'.cell? ⟨Q, 2, none⟩ = some (.slice AL y cl) ∧ Own w4 w') (first | (exact ⟨(Own.refl w4).drew.cell k2, (Own.refl w4).drew⟩) | (exact ⟨k5, q5⟩))
    (first
    | (go_at_call 15; have HX := Lib.hid (HC2.out.own (Own.refl w4).drew); with_reducible refine (own_f B2 _ n2 _ HX BB.out L2.out).mono ?_; rintro e w3 ⟨A3, c3, rfl, hown, q3⟩; have q5 := (Own.refl w4).drew.trans q3; have k5 := q5.cell k2; have HX2 := Lib.hid (cel_of_row hown); clear hown HX q3)
    | (go_at_call 25; have HVX := Lib.hid (HV.out.own q5); with_reducible refine (putlist_f C B2 l _ _ B3 n3 _ HX2 HVX HI.out BE.out E3.out L3.out).mono ?_; rintro e w5 ⟨A5, c5, rfl, hown, q4⟩; replace q5 := q5.trans q4; have k5 := q5.cell k2; have HC3 := Lib.hid (cel_of_row hown); clear hown q4 HVX))
  clear HX2 HC2
  replace k0 := q5.cell k0
  replace k1 := q5.cell k1
  replace k2 := q5.cell k2
  replace HV := Lib.hid (HV.out.own q5)
  replace HRR := Lib.hid (HRR.out.own q5)
  have q7 := q6.trans q5
  clear k5 q5 q6
  have t1 := T1.out
  have t2 := T2.out
  have t3 := T3.out
  go_upto_region 6 with (fail)
  clear t1 t2 t3
  go_upto_region 7 with (first
    | (go_at_call 15; with_reducible refine (own_f B3 _ n3 _ HC3 BC.out L3.out).mono ?_; rintro e w6 ⟨A6, c6, rfl, hown6, q8⟩; have HR6 := Lib.hid hown6; have HRX := Lib.hid (HRR.out.own q8); have HSZ := Lib.hid q8.size; clear hown6)
    | (at_builtin; refine wpList_append_r (by go_simp) _ _ 22 rfl w5.heap.size 5 i0 (.int .u8 0) 1 Try.underlying22 HI0.out HZ0.out HZ1.out HZ2.out rfl _ n3 (cellsU B3) rfl HR6.out _ (cellsU r) rfl HRX.out (cellsU_one _) n4 K4.out K5.out K6.out HSZ.out ?_; intro v8 w8 hown8 hgr8 hsz8; have q9 := hgr8 _ q8 (Nat.le_refl _); obtain ⟨g8, o8, c8, rfl⟩ := row_addr hown8 P4.out; have HR8 := Lib.hid hown8; clear hown8 hgr8 hsz8))
  have HC4 := Lib.hid (show Cel w8 (.slice (some ⟨g8, o8, none⟩) n4 c8) (cellsU B4) by rw [← E4.out, cellsU_app]; exact cel_of_row HR8.out)
  obtain ⟨m8, m8'⟩ := cel_cap HC4.out
  clear HR6 HRX HSZ HR8 HC3 HRR
  replace k0 := q9.cell k0
  replace k1 := q9.cell k1
  replace k2 := q9.cell k2
  replace HV := Lib.hid (HV.out.own q9)
  replace q7 := q7.trans q9
  clear q9 q8
  go_upto_region 8 with (go_at_call 11; with_reducible refine (D.int B4 _ 0 N n1 _ HC4 F1).mono ?_; rintro e w10 ⟨rfl, q10⟩)
  replace k0 := q10.cell k0
  replace k1 := q10.cell k1
  replace k2 := q10.cell k2
  replace HV := Lib.hid (HV.out.own q10)
  replace HC4 := Lib.hid (HC4.out.own q10)
  replace q7 := q7.trans q10
  clear q10
  go_upto_region 10 with (fail)
  have x1 : n1 ≤ n4 := Nat.le_of_lt o14
  have x2 : ¬ c8 = n1 := by omega
  have x3 : n1 ≤ c8 := by omega
  go_region_held3 (fun w' => w'.cell? ⟨Q, 1, none⟩ = some (.string s) ∧ Own w10 w') (first | (exact ⟨(Own.refl w10).drew.cell k1, (Own.refl w10).drew⟩) | (exact ⟨k5, q5⟩))
    ((go_at_call 18; have HX := Lib.hid (cel_drop (HC4.out.own (Own.refl w10).drew) x1); with_reducible refine (taketext_y D (B4.drop n1) s.data.toList s _ z 0 m2 _ HX BF.out IZ.out F2 (strB_bytes s)).mono ?_; rintro e w11 ⟨rfl, q3⟩; have q5 := (Own.refl w10).drew.trans q3; have k5 := q5.cell k1; clear HX q3))
  replace k1 := q5.cell k1
  replace k2 := q5.cell k2
  replace HV := Lib.hid (HV.out.own q5)
  replace HC4 := Lib.hid (HC4.out.own q5)
  replace q7 := q7.trans q5
  clear q5 k5 x1 x2 x3
  have s2 := S2.out
  go_upto_region 13 with (fail)
  clear s2
  have x1 : n2 ≤ n4 := Nat.le_of_lt o24
  have x2 : ¬ c8 = n2 := by omega
  have x3 : n2 ≤ c8 := by omega
  go_region_held3 (fun w' => w'.cell? ⟨Q, 2, none⟩ = some (.slice AL y cl) ∧ Own w11 w') (first | (exact ⟨(Own.refl w11).drew.cell k2, (Own.refl w11).drew⟩) | (exact ⟨k5, q5⟩))
    ((go_at_call 22; have HX := Lib.hid (cel_drop (HC4.out.own (Own.refl w11).drew) x1); with_reducible refine (takelist_n D (B4.drop n2) l y _ y 0 m3 _ HX BG.out IY.out F3 HY.out).mono ?_; rintro e w12 ⟨A9, c9, rfl, hc9, q3⟩; have q5 := (Own.refl w11).drew.trans q3; have k5 := q5.cell k2; clear HX q3))
  replace HV := Lib.hid (HV.out.own q5)
  have HC9 := Lib.hid hc9
  replace q7 := q7.trans q5
  have s3 := S3.out
  clear hc9 q5 HC4
  go_wp2_with (first
    | (go_at_call 24; with_reducible refine (rints_yes l _ _ _ HC9 HV).mono ?_; rintro e w13 ⟨rfl, d13, hd13⟩; have q13 : Own w12 w13 := (by rw [hd13]; exact (Own.refl _).drewN d13); clear hd13)
    | (go_at_call 17; with_reducible refine (awake_at C D _).mono ?_; rintro e w14 ⟨rfl, q14⟩))
  go_ret
  exact ⟨rfl, g0.trans (q7.trans (q13.trans q14))⟩
end Go.Proofs.Yteaidfocbhadjaa.WirW
