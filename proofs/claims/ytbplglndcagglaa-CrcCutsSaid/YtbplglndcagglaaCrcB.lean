/-
  Walks of the specification of package crc: Same, Frame. Condition: none.
-/
import Derived.Test.YtbplglndcagglaaCrcA
import Derived.Test.YtbplglndcagglaaWireI
import Derived.Test.YtbplglndcagglaaBytes
namespace Go.Proofs.Ytbplglndcagglaa.CrcW
open Go.ChangeShapes Go.WideShapes Go.ChangeAt Go.RowKit
open PairW CelW WirP CrcP WirW
theorem strB_eq (a b : Bs) : ((strB a).toList == (strB b).toList) = decide (a = b) := by
  rw [ByteArray.toList_eq, ByteArray.toList_eq, strB_data, strB_data]
  by_cases h : a = b
  · rw [decide_eq_true h, beq_iff_eq]; exact h
  · rw [decide_eq_false h]; exact beq_eq_false_iff_ne.2 h
set_option maxRecDepth 100000 in
theorem rsame_at (a b : Bs) (va vb : Value) (t : Bool) (w : World) (HA : Hid (Cel w va (cellsU a))) (HB : Hid (Cel w vb (cellsU b))) (H : Hid (decide (a = b) = t)) :
    Calls Try.prog 18 #[va, vb] w fun e w' => e = .returned (.bool t) ∧ w = w' := by
  have c1 := conv_cel (P := Try.prog) HA.out (src := 23) (e := 5) (dst := 9) rfl rfl rfl
  have c2 := conv_cel (P := Try.prog) HB.out (src := 23) (e := 5) (dst := 9) rfl rfl rfl
  obtain ⟨A, ca, rfl, _, _⟩ := cel_form HA.out
  obtain ⟨B, cb, rfl, _, _⟩ := cel_form HB.out
  have he := strB_eq a b
  rw [H.out] at he
  obtain ⟨s, hs⟩ : ∃ s, strB a = s := ⟨_, rfl⟩
  obtain ⟨r, hr⟩ : ∃ r, strB b = r := ⟨_, rfl⟩
  rw [hs] at c1 he
  rw [hr] at c2 he
  obtain ⟨n, hn⟩ : ∃ n, (cellsU a).length = n := ⟨_, rfl⟩
  obtain ⟨m, hm⟩ : ∃ n, (cellsU b).length = n := ⟨_, rfl⟩
  rw [hn] at c1 ⊢
  rw [hm] at c2 ⊢
  clear hs hr hn hm HA HB H
  go_enter Try.func18, Try.ntmps18
  go_wp2
  go_ret
  exact ⟨rfl, rfl⟩
theorem rput_nil (n : Nat) (h : Bs) (w : World) (hn : I64 (n : Int)) (hh : encI (n : Int) = h) :
    Calls Try.prog 28 #[.slice none 0 0, .int .i64 (n : Int)] w fun e w' => ∃ v', e = .returned v' ∧ Cel w' v' (cellsU h) ∧ Own w w' := by
  refine (rput_at [] (.slice none 0 0) n w (Lib.hid (cel_nil w)) hn (by simp)).mono ?_
  rintro e w1 ⟨v1, rfl, hown, q⟩
  rw [List.nil_append, hh] at hown
  exact ⟨v1, rfl, cel_of_row hown, q⟩
/-- What Frame returns. -/
def frE (c : Bs) : Int := if 65536 < c.length then 3 else 0
def frV (c : Bs) : Bs := if 65536 < c.length then [] else frB c
set_option maxRecDepth 100000 in
set_option maxHeartbeats 1000000 in
theorem rframe_at (c : Bs) (v : Value) (w : World) (HB : Hid (Cel w v (cellsU c))) :
    Calls Try.prog 17 #[v] w fun e w' => ∃ v', e = .returned (.tuple #[v', .int .i64 (frE c)]) ∧ w'.ownsRow w.heap.size 5 1 v' (frV c).length (cellsU (frV c)) ∧ Own w w' := by
  obtain ⟨i0, hi, hz0, hz1, hz2⟩ := info_parts (show (Try.prog.info? 5).map (fun i => (i.zero, i.size, i.bytes)) = some (some (.int .u8 0), 1, 1) by kernel_rfl)
  have HI := Lib.hid hi
  have HZ0 := Lib.hid hz0
  have HZ1 := Lib.hid hz1
  have HZ2 := Lib.hid hz2
  clear hi hz0 hz1 hz2
  obtain ⟨A, cp, rfl, _, _⟩ := cel_form HB.out
  rw [cellsU_len] at HB ⊢
  obtain ⟨n, hn⟩ : ∃ n, c.length = n := ⟨_, rfl⟩
  by_cases hbig : 65536 < n
  · have hE : frE c = 3 := if_pos (by rw [hn]; exact hbig)
    have hV : frV c = [] := if_pos (by rw [hn]; exact hbig)
    rw [hE, hV, hn]
    have d1 : (65536 : Int) < n := by omega
    clear hE hV hn hbig HB
    go_enter Try.func17, Try.ntmps17
    go_wp2
    go_ret2
    exact ⟨_, rfl, World.ownsRow_nil _ _ _ _, Own.refl _⟩
  · have hE : frE c = 0 := if_neg (by rw [hn]; exact hbig)
    have hV : frV c = frB c := if_neg (by rw [hn]; exact hbig)
    rw [hE, hV]
    have d1 : ¬ (65536 : Int) < n := by omega
    have hn64 : I64 (n : Int) := by unfold I64; omega
    have HN64 := Lib.hid hn64
    obtain ⟨h, hh⟩ : ∃ h, encI (n : Int) = h := ⟨_, rfl⟩
    have hten : h.length ≤ 10 := by rw [← hh]; exact enc_ten hn64
    obtain ⟨s, hs⟩ : ∃ s, ext 0 h = s := ⟨_, rfl⟩
    obtain ⟨t, ht⟩ : ∃ t, ext s c = t := ⟨_, rfl⟩
    have hsl : s < 4294967296 := by rw [← hs]; exact ext_lt (by omega) _
    have htl : t < 4294967296 := by rw [← ht]; exact ext_lt hsl _
    have hfr : frB c = (h ++ four t) ++ c := by
      unfold frB sumC headB
      rw [hn, hh, ← ext_app, hs, ht, List.append_assoc]
    have HS := Lib.hid hs
    have HT := Lib.hid ht
    have HFR := Lib.hid hfr
    have HH := Lib.hid hh
    have HR0 := Lib.hid (World.ownsRow_nil w w.heap.size 5 1)
    have l1 := Lib.hid (show 0 + (cellsU h).length = h.length by rw [cellsU_len]; omega)
    have l2 := Lib.hid (show h.length + (cellsU (four t)).length = (h ++ four t).length by rw [cellsU_len, List.length_append])
    have l3 := Lib.hid (show (h ++ four t).length + (cellsU c).length = ((h ++ four t) ++ c).length by rw [cellsU_len]; exact List.length_append.symm)
    have hl3 : ((h ++ four t) ++ c).length ≤ 100000 := by rw [List.length_append, List.length_append, four_len]; omega
    have m1 := Lib.hid (show h.length ≤ maxLen by unfold maxLen; omega)
    have m2 := Lib.hid (show (h ++ four t).length ≤ maxLen by rw [List.length_append] at hl3; unfold maxLen; omega)
    have m3 := Lib.hid (show ((h ++ four t) ++ c).length ≤ maxLen by unfold maxLen; omega)
    have p1 := Lib.hid (show h.length * 1 ≤ 140737488355328 by omega)
    have p2 := Lib.hid (show (h ++ four t).length * 1 ≤ 140737488355328 by rw [List.length_append] at hl3; omega)
    have p3 := Lib.hid (show ((h ++ four t) ++ c).length * 1 ≤ 140737488355328 by omega)
    have HTL := Lib.hid htl
    have HSL := Lib.hid hsl
    rw [hn] at HB ⊢
    clear hE hV hn hbig hh hten hs ht hsl htl hfr hl3 hn64
    go_enter Try.func17, Try.ntmps17
    go_wp2_with (first
      | (go_at_call 28; with_reducible refine (rput_nil n h _ HN64.out HH.out).mono ?_; rintro e w1 ⟨v1, rfl, hc1, q1⟩; have HC1 := Lib.hid hc1; have HB1 := Lib.hid (HB.out.own q1); clear hc1)
      | (go_at_call 13; with_reducible refine (rsum_at h _ s _ HC1 HS).mono ?_; rintro e w2 ⟨rfl, rfl⟩)
      | (go_at_call 15; with_reducible refine (rext_at s c _ t _ HSL.out HB1 HT).mono ?_; rintro e w2 ⟨rfl, rfl⟩)
      | (go_at_call 29; with_reducible refine (rfour_at t _ HTL.out).mono ?_; rintro e w3 ⟨v3, rfl, hc3, q3⟩; have HC3 := Lib.hid hc3; have R2 := Lib.hid (row_own R1.out q3); have q5 := q4.trans q3; clear hc3)
      | (at_builtin; refine wpList_append_r (by go_simp) _ _ 23 rfl w.heap.size 5 i0 (.int .u8 0) 1 Try.underlying23 HI.out HZ0.out HZ1.out HZ2.out rfl _ 0 (cellsU []) rfl (World.ownsRow_nil _ w.heap.size 5 1) _ (cellsU h) rfl HC1.out (cellsU_one _) h.length l1.out m1.out p1.out q1.size ?_; intro v4 w4 hown4 hgr4 hsz4; have q4 := hgr4 _ q1 (Nat.le_refl _); have R1 := Lib.hid (show w4.ownsRow w.heap.size 5 1 v4 h.length (cellsU h) from hown4); clear hown4 hgr4 hsz4)
      | (at_builtin; refine wpList_append_r (by go_simp) _ _ 23 rfl w.heap.size 5 i0 (.int .u8 0) 1 Try.underlying23 HI.out HZ0.out HZ1.out HZ2.out rfl _ h.length (cellsU h) rfl R2.out _ (cellsU (four t)) rfl HC3.out (cellsU_one _) (h ++ four t).length l2.out m2.out p2.out q5.size ?_; intro v6 w6 hown6 hgr6 hsz6; have q6 := hgr6 _ q5 (Nat.le_refl _); have R3 := Lib.hid (show w6.ownsRow w.heap.size 5 1 v6 (h ++ four t).length (cellsU (h ++ four t)) by rw [cellsU_app]; exact hown6); have HB6 := Lib.hid (HB.out.own q6); clear hown6 hgr6 hsz6)
      | (at_builtin; refine wpList_append_r (by go_simp) _ _ 23 rfl w.heap.size 5 i0 (.int .u8 0) 1 Try.underlying23 HI.out HZ0.out HZ1.out HZ2.out rfl _ (h ++ four t).length (cellsU (h ++ four t)) rfl R3.out _ (cellsU c) rfl HB6.out (cellsU_one _) ((h ++ four t) ++ c).length l3.out m3.out p3.out q6.size ?_; intro v7 w7 hown7 hgr7 hsz7; have q7 := hgr7 _ q6 (Nat.le_refl _); have R4 := Lib.hid (show w7.ownsRow w.heap.size 5 1 v7 ((h ++ four t) ++ c).length (cellsU ((h ++ four t) ++ c)) by rw [cellsU_app (h ++ four t)]; exact hown7); clear hown7 hgr7 hsz7))
    go_ret2
    rw [HFR.out]
    exact ⟨_, rfl, R4.out, q7⟩
end Go.Proofs.Ytbplglndcagglaa.CrcW
