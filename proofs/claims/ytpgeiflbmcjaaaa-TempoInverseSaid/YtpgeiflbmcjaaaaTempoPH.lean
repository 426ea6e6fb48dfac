/-
  Walks of the program of package tempo: slices.Clone at tempos, Norm. Condition: none.
-/
import Derived.Test.YtpgeiflbmcjaaaaTempoPG
import Derived.Test.YtpgeiflbmcjaaaaTempoPA
import Derived.Test.YtpgeiflbmcjaaaaAppendRow
import Derived.Test.YtpgeiflbmcjaaaaLists
namespace Go.Proofs.Ytpgeiflbmcjaaaa.TemW
open Go.ChangeShapes Go.WideShapes Go.ChangeAt Go.RowKit
open PairW CelW RowA TemP
set_option maxRecDepth 100000 in
theorem pclone_at (l : List Pt) (sv : Value) (n : Nat) (w : World) (HP : Hid (Pts w sv l)) (HN : Hid (l.length = n)) (h0 : 0 < n) (hn : n ≤ 1000000) :
    Calls Try.prog 36 #[sv] w fun e w' => ∃ g cap, e = .returned (.slice (some ⟨g, 0, none⟩) n cap) ∧ w'.ownsRow w.heap.size 38 2 (.slice (some ⟨g, 0, none⟩) n cap) n (cellsP l) ∧ Own w w' := by
  obtain ⟨i0, hi, hz0, hz1, hz2⟩ := info_parts (show (Try.prog.info? 38).map (fun i => (i.zero, i.size, i.bytes)) = some (some (.agg #[.int .i64 0, .int .i64 0]), 2, 16) by kernel_rfl)
  have HI := Lib.hid hi
  have HZ0 := Lib.hid hz0
  have HZ1 := Lib.hid hz1
  have HZ2 := Lib.hid hz2
  clear hi hz0 hz1 hz2
  obtain ⟨Aa, ca, rfl, hsa⟩ := pts_src HP.out
  obtain ⟨ad, rfl, _⟩ := hsa (by rw [HN.out]; exact h0)
  clear hsa
  have HLA := Lib.hid (show (cellsP l).length = n * 2 by rw [cellsP_len, HN.out])
  have R0 : (w.alloc (.cells #[] 38)).ownsRow w.heap.size 38 2 (.slice (some ⟨w.heap.size, 0, none⟩) 0 0) 0 [] := World.ownsRow_made w #[] 0 (Nat.le_refl _) (Nat.zero_le _) rfl
  have q0 : Own w (w.alloc (.cells #[] 38)) := (Own.refl w).alloc _
  obtain ⟨_, _, ea, hsa⟩ := pts_src (HP.out.own q0)
  obtain ⟨rfl, rfl⟩ : _ = some ad ∧ _ = ca := by injection ea with e1 e2 e3; exact ⟨e1.symm, e3.symm⟩
  clear ea
  rw [HN.out] at hsa ⊢
  have HSA := Lib.hid hsa
  clear hsa
  have q24 : ∀ (w : World) (a : Option Addr) (n c n' c' : Nat), (binOp .eql 22 (.slice a n c) (.slice none n' c')).run Try.prog w = .ok (.bool a.isNone) w := fun w a n c n' c' => Lib.run_eql_slice_nil w _ _ a n c n' c' Try.underlying22
  go_enter Try.func36, Try.ntmps36
  go_wp2_with (at_builtin; refine wpList_append_row_any _ rfl _ _ 22 rfl w.heap.size 38 i0 (.agg #[.int .i64 0, .int .i64 0]) 2 16 Try.underlying22 HI.out HZ0.out HZ1.out HZ2.out rfl (by decide) _ 0 [] rfl R0 _ n _ (cellsP l) rfl HLA.out HSA.out (cellsP_one l) (by unfold maxLen; omega) (by omega) (by simp) ?_; intro v2 w2 hown hgr _; have HOWN := Lib.hid hown; have g1 : Own w w2 := q0.grown hgr (fun k hk => by injection hk with hk; exact Nat.le_of_eq hk); clear hown hgr)
  go_wp2
  have hrow : w2.ownsRow w.heap.size 38 2 v2 n (cellsP l) := by simpa using HOWN.out
  obtain ⟨g, cap, rfl, _, _⟩ := row_form hrow h0
  have HROW := Lib.hid hrow
  clear hrow HOWN
  go_ret
  exact ⟨g, cap, rfl, HROW.out, g1⟩
set_option maxRecDepth 100000 in
set_option maxHeartbeats 1000000 in
theorem pnorm_at (l : List Pt) (sv : Value) (M : List Pt) (f : Int) (w : World) (HP : Hid (Pts w sv l)) (H : Hid (chkE l = f ∧ nmV l = M)) :
    Calls Try.prog 16 #[sv] w fun e w' => ∃ s', e = .returned (.tuple #[s', .int .i64 f]) ∧ w'.ownsRow w.heap.size 38 2 s' M.length (cellsP M) ∧ Own w w' := by
  have HC := Lib.hid H.out.1
  have g0 := Own.refl w
  by_cases h0 : f = 0
  · subst h0
    have hm := chk_map.1 HC.out
    obtain ⟨n, hn⟩ : ∃ n, l.length = n := ⟨_, rfl⟩
    have HN := Lib.hid hn
    have hn0 : 0 < n := by rw [← hn]; exact hm.n0
    have hn1 : n ≤ 1000000 := by have := hm.n1; omega
    have HM := Lib.hid (show nrm l n = M by rw [← H.out.2, nm_ok HC.out, hn])
    clear hn hm
    go_enter Try.func16, Try.ntmps16
    go_wp2_with (first
      | (go_at_call 12; refine (pcheck_at l _ 0 _ (Lib.hid (HP.out.own g0)) HC).mono ?_; rintro e w1 ⟨rfl, hg⟩; replace g0 : Own w w1 := g0.trans hg; clear hg)
      | (go_at_call 36; refine (pclone_at l _ n _ (Lib.hid (HP.out.own g0)) HN hn0 hn1).mono ?_; rintro e w2 ⟨g, cap, rfl, hr, hg⟩; have HR := Lib.hid (row_down hr g0.size); replace g0 : Own w w2 := g0.trans hg; clear hr hg)
      | (go_at_call 35; refine (pcompact_at l w.heap.size g n cap _ HR HN hn1).mono ?_; rintro e w3 ⟨rfl, hr, ho⟩; have HR2 := Lib.hid hr; have HG := Lib.hid (ho.mine g0 (World.ownsRow.lt HR.out g rfl).1); clear hr ho))
    go_ret2
    rw [HM.out] at HR2 ⊢
    exact ⟨_, rfl, HR2.out, HG.out⟩
  · obtain rfl : [] = M := by rw [← H.out.2, nm_bad (by rw [HC.out]; exact h0)]
    have d0 : (f != 0) = true := bne_iff_ne.2 h0
    clear H
    go_enter Try.func16, Try.ntmps16
    go_wp2_with (go_at_call 12; refine (pcheck_at l _ f _ HP HC).mono ?_; rintro e w1 ⟨rfl, hg⟩; replace g0 : Own w w1 := g0.trans hg)
    go_ret2
    exact ⟨_, rfl, World.ownsRow_nil _ _ _ _, g0⟩
end Go.Proofs.Ytpgeiflbmcjaaaa.TemW
