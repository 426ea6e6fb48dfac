/-
  Walks of the program of package crc: Frame, All. Condition: none.
-/
import Derived.Test.YtbplglndcagglaaCrcPA
import Derived.Test.YtbplglndcagglaaWirePB
namespace Go.Proofs.Ytbplglndcagglaa.CrcW
open Go.ChangeShapes Go.WideShapes Go.ChangeAt Go.RowKit
open PairW CelW WirP CrcP WirW
theorem pput_nil (n : Nat) (h : Bs) (k : Nat) (w : World) (hn : I64 (n : Int)) (hh : encI (n : Int) = h) (hk : h.length = k) :
    Calls Try.prog 25 #[.slice none 0 0, .int .i64 (n : Int)] w fun e w' => ∃ A cp, e = .returned (.slice A k cp) ∧ Cel w' (.slice A k cp) (cellsU h) ∧ Own w w' := by
  refine (pput_at [] (.slice none 0 0) n w (Lib.hid (cel_nil w)) hn (by simp)).mono ?_
  rintro e w1 ⟨v1, rfl, hown, q⟩
  rw [List.nil_append, hh] at hown
  have hc := cel_of_row hown
  obtain ⟨A, cp, rfl⟩ := row_shape hown
  rw [hk] at hc ⊢
  exact ⟨A, cp, rfl, hc, q⟩
set_option maxRecDepth 100000 in
set_option maxHeartbeats 1000000 in
theorem pframe_at (c : Bs) (v : Value) (w : World) (HB : Hid (Cel w v (cellsU c))) :
    Calls Try.prog 16 #[v] w fun e w' => ∃ v', e = .returned (.tuple #[v', .int .i64 (frE c)]) ∧ w'.ownsRow w.heap.size 5 1 v' (frV c).length (cellsU (frV c)) ∧ Own w w' := by
  obtain ⟨A, cp, rfl, _, _⟩ := cel_form HB.out
  rw [cellsU_len] at HB ⊢
  obtain ⟨n, hn⟩ : ∃ n, c.length = n := ⟨_, rfl⟩
  by_cases hbig : 65536 < n
  · have hE : frE c = 3 := if_pos (by rw [hn]; exact hbig)
    have hV : frV c = [] := if_pos (by rw [hn]; exact hbig)
    rw [hE, hV, hn]
    have d1 : (65536 : Int) < n := by omega
    clear hE hV hn hbig HB
    go_enter Try.func16, Try.ntmps16
    go_wp2
    go_ret2
    exact ⟨_, rfl, World.ownsRow_nil _ _ _ _, Own.refl _⟩
  · have hE : frE c = 0 := if_neg (by rw [hn]; exact hbig)
    have hV : frV c = frB c := if_neg (by rw [hn]; exact hbig)
    rw [hE, hV]
    have d1 : ¬ (65536 : Int) < n := by omega
    have hn64 : I64 (n : Int) := by unfold I64; omega
    have HN64 := Lib.hid hn64
    obtain ⟨h, hh⟩ : ∃ h, encI (n : Int) = h := ⟨_, rfl⟩
    have hten : h.length ≤ 10 := by rw [← hh]; exact enc_ten hn64
    obtain ⟨s, hs⟩ : ∃ s, ext 0 h = s := ⟨_, rfl⟩
    obtain ⟨t, ht⟩ : ∃ t, ext s c = t := ⟨_, rfl⟩
    have hfr : frB c = [h, four t, c].flatten := by
      unfold frB sumC headB
      rw [hn, hh, ← ext_app, hs, ht]
      simp
    have HS := Lib.hid hs
    have HT := Lib.hid ht
    have HFR := Lib.hid hfr
    have HH := Lib.hid hh
    have HL := Lib.hid (show [h, four t, c].flatten.length ≤ 140737488355328 by simp [four_len]; omega)
    obtain ⟨k, hk⟩ : ∃ k, h.length = k := ⟨_, rfl⟩
    have HKL := Lib.hid hk
    rw [hn] at HB ⊢
    clear hE hV hn hbig hh hten hs ht hfr hn64 hk
    go_enter Try.func16, Try.ntmps16
    go_wp2_with (first
      | (go_at_call 25; with_reducible refine (pput_nil n h k _ HN64.out HH.out HKL.out).mono ?_; rintro e w1 ⟨A1, cp1, rfl, hc1, q1⟩; have HC1 := Lib.hid hc1; have HB1 := Lib.hid (HB.out.own q1); clear hc1)
      | (go_at_call 27; with_reducible refine (psumbytes_at h c _ _ s t _ HC1 HB1 HS HT).mono ?_; rintro e w2 ⟨A2, cp2, rfl, hc2, q2⟩; have HC2 := Lib.hid hc2; clear hc2; have HP := Lib.hid (par_new3 (T := 23) (HC1.out.own q2) HC2.out (HB1.out.own q2)); have q12 := q1.trans q2; have q3 := q12.alloc (.cells #[.slice A1 k cp1, .slice A2 4 cp2, .slice A n cp] 23))
      | (go_at_call 26; refine (concat_at [h, four t, c] _ 3 _ HP (Lib.hid rfl) (by decide) HL.out).mono ?_; rintro e w4 ⟨v4, rfl, hown4, q4⟩))
    go_ret2
    rw [HFR.out]
    exact ⟨_, rfl, row_base hown4 q3.size, q3.trans q4⟩
end Go.Proofs.Ytbplglndcagglaa.CrcW
