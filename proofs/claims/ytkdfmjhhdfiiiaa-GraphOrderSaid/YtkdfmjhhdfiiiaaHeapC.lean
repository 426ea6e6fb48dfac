/-
  Walks of the library's heap over the program's waiting nodes: Push, Pop. Condition: none.
-/
import Derived.Test.YtkdfmjhhdfiiiaaHeapB
namespace Go.Proofs.Ytkdfmjhhdfiiiaa.HepW
open Go.ChangeShapes Go.WideShapes Go.ChangeAt Go.RowKit
open PairW CelW HepP GraP GraW
/-- One more waits. -/
theorem hpsh_at (base hb x n : Nat) (H : List Nat) (v : Value) (w : World) (HW : Hid (Wv w base hb v H)) (HH : Hid (Hep H n)) (hl : H.length = n) (hn : n ≤ 500) (hb2 : base ≤ w.heap.size) :
    Calls Try.prog 34 #[hv hb, .iface 3 (.int .i64 (x : Int))] w fun e w' => e = .returned (.tuple #[]) ∧ ∃ (g c : Nat) (H' : List Nat), H'.Perm (x :: H) ∧ Hep H' (n + 1) ∧ Wv w' base hb (.slice (some ⟨g, 0, none⟩) (n + 1) c) H' ∧ Ch w w' hb v (.slice (some ⟨g, 0, none⟩) (n + 1) c) := by
  have n1 := fun w => nil_push ⟨hb, 0, none⟩ w
  have n2 := fun w => nil_len ⟨hb, 0, none⟩ w
  have m1 := fun w => m_push ⟨hb, 0, none⟩ w
  have HL := Lib.hid hl
  have HUP := Lib.hid (show Hup (H ++ [x]) (n + 1) n by
    have := hep_push (H := H) (by rw [hl]; exact HH.out) x
    rwa [hl] at this)
  clear hl
  go_enter Try.func34, Try.ntmps34
  go_upto_region 1 with (go_at_call 94; with_reducible refine (hpush_at base hb x H v _ HW (by rw [HL.out]; omega) hb2).mono ?_; rintro e w1 ⟨rfl, g, c, hw1, hc1⟩)
  rw [HL.out] at hw1 hc1
  have HW1 := Lib.hid hw1
  have m2 := m_len hb (.slice (some ⟨g, 0, none⟩) (n + 1) c) w1 hw1.cell.1
  clear hw1
  go_wp2_with (first
    | (go_at_call 90; with_reducible refine (hlen_at _ _ _ _).mono ?_; rintro e w2 ⟨rfl, rfl⟩)
    | (go_at_call 49; refine (hup_at base hb g (n + 1) c n (H ++ [x]) _ HW1 (by rw [List.length_append, HL.out]; rfl) HUP (by omega) (by omega)).mono ?_; rintro e w3 ⟨rfl, H', hp, hh, hw3, hg3⟩))
  go_end0
  exact ⟨rfl, g, c, H', hp.trans (List.perm_append_comm), hh, hw3, hc1.trans (Ch.of_gr hg3)⟩
/-- The least one waits no more. -/
theorem hpp_at (base hb g c n : Nat) (H : List Nat) (w : World) (HW : Hid (Wv w base hb (.slice (some ⟨g, 0, none⟩) (n + 1) c) H)) (HH : Hid (Hep H (n + 1))) (hl : H.length = n + 1) (hn : n ≤ 500) :
    Calls Try.prog 35 #[hv hb] w fun e w' => e = .returned (.iface 3 (.int .i64 (hx H 0 : Int))) ∧ ∃ H' : List Nat, H.Perm (hx H 0 :: H') ∧ Hep H' n ∧ H'.length = n ∧ Wv w' base hb (.slice (some ⟨g, 0, none⟩) n c) H' ∧ Ch w w' hb (.slice (some ⟨g, 0, none⟩) (n + 1) c) (.slice (some ⟨g, 0, none⟩) n c) := by
  have n1 := fun w => nil_len ⟨hb, 0, none⟩ w
  have n2 := fun w => nil_swap ⟨hb, 0, none⟩ w
  have n3 := fun w => nil_pop ⟨hb, 0, none⟩ w
  have m1 := m_len hb (.slice (some ⟨g, 0, none⟩) (n + 1) c) w HW.out.cell.1
  have m2 := m_swap hb (.slice (some ⟨g, 0, none⟩) (n + 1) c) w HW.out.cell.1
  have m3 := fun w => m_pop ⟨hb, 0, none⟩ w
  have HL := Lib.hid hl
  have hr : Rw w base g (n + 1) c H := by have := HW.out.rw; rw [hl] at this; exact this
  have HR := Lib.hid hr
  have HDN := Lib.hid (hep_pop (m := n) (by rw [hl]; exact HH.out) hl)
  have HLS := Lib.hid (show (sw H 0 n).length = n + 1 by rw [sw_len, hl])
  have HSP := Lib.hid (sw_perm (H := H) (i := 0) (j := n) (by omega) (by omega))
  have HSN := Lib.hid (show hx (sw H 0 n) n = hx H 0 by rw [sw_hx (by omega) (by omega), if_pos rfl])
  clear hr hl
  go_enter Try.func35, Try.ntmps35
  go_upto_region 3 with (first
    | (go_at_call 90; with_reducible refine (hlen_at _ _ _ _).mono ?_; rintro e w2 ⟨rfl, rfl⟩)
    | (go_at_call 92; refine (hswap_at base g (n + 1) c 0 n H _ HR (by omega) (by omega)).mono ?_; rintro e w3 ⟨rfl, hr3, hg3⟩))
  have hw3 := HW.out.gr hg3 (H' := sw H 0 n) (by rw [HLS.out]; exact hr3)
  have HW3 := Lib.hid hw3
  clear hw3 hr3 m1 m2
  go_upto_region 4 with (go_at_call 50; refine (hdown_at base hb g (n + 1) c n (sw H 0 n) _ HW3 HLS.out HDN (by omega) (by omega)).mono ?_; rintro e w4 ⟨t, rfl, H4, hp4, hh4, hk4, hw4, hg4⟩)
  have hl4 : H4.length = n + 1 := by rw [hp4.length_eq, HLS.out]
  have HW4 := Lib.hid hw4
  have HL4 := Lib.hid hl4
  have HK4 := Lib.hid (show hx H4 n = hx H 0 by rw [hk4 n (Nat.le_refl _)]; exact HSN.out)
  clear hw4 hl4 hk4
  go_wp2_with (go_at_call 93; refine (hpop_at base hb n g c H4 _ HW4 HL4.out).mono ?_; rintro e w5 ⟨rfl, hw5, hc5⟩)
  go_ret
  refine ⟨by rw [HK4.out]; rfl, H4.take n, ?_, ?_, by rw [List.length_take, HL4.out]; omega, hw5, ((Ch.of_gr (n := n + 1) (c := c) (m := n + 1) (d := c) hg3).trans (Ch.of_gr (n := n + 1) (c := c) (m := n + 1) (d := c) hg4)).trans hc5⟩
  · have h1 := take_last HL4.out
    rw [HK4.out] at h1
    have h2 : (hx H 0 :: H4.take n).Perm H4 := by
      conv => rhs; rw [h1]
      exact (List.perm_append_comm (l₁ := [hx H 0]))
    exact ((h2.trans hp4).trans HSP.out).symm
  · have := hep_take hh4 (by rw [HL4.out]; omega)
    rwa [List.length_take, HL4.out, show min n (n + 1) = n by omega] at this
end Go.Proofs.Ytkdfmjhhdfiiiaa.HepW
