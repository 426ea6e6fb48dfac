/-
  Walks of the program of package meter: Cut; of slices.Clone at meters. Condition: none.
-/
import Derived.Test.YtmmgidchgoligaaMeterPA
import Derived.Test.YtmmgidchgoligaaMeterMem
namespace Go.Proofs.Ytmmgidchgoligaa.MetW
open Go.ChangeShapes Go.WideShapes Go.ChangeAt Go.RowKit
open PairW CelW RowA MetP
theorem row2_shape {w : World} {base n : Nat} {e : TypeId} {v : Value} {xs : List Value} (h : w.ownsRow base e 2 v n xs) : ∃ A cap, v = .slice A n cap := by
  rcases h.2 with ⟨h1, h2⟩ | ⟨g, cap, cur, rfl, _⟩
  · subst h2
    exact ⟨none, 0, h1⟩
  · exact ⟨_, cap, rfl⟩
set_option maxRecDepth 100000 in
theorem pclone_at (l : List Pt) (sv : Value) (n : Nat) (w : World) (HP : Hid (Pts w sv l)) (HN : Hid (l.length = n)) (h0 : 0 < n) (hn : n ≤ 1000000) :
    Calls Try.prog 29 #[sv] w fun e w' => ∃ v, e = .returned v ∧ w'.ownsRow w.heap.size 45 2 v n (cellsP l) ∧ Own w w' := by
  obtain ⟨i0, hi, hz0, hz1, hz2⟩ := info_parts (show (Try.prog.info? 45).map (fun i => (i.zero, i.size, i.bytes)) = some (some (.agg #[.int .i64 0, .int .i64 0]), 2, 16) by kernel_rfl)
  have HI := Lib.hid hi
  have HZ0 := Lib.hid hz0
  have HZ1 := Lib.hid hz1
  have HZ2 := Lib.hid hz2
  clear hi hz0 hz1 hz2
  obtain ⟨Aa, ca, rfl, hsa⟩ := pts_src HP.out
  obtain ⟨ad, rfl, _⟩ := hsa (by rw [HN.out]; exact h0)
  clear hsa
  have HLA := Lib.hid (show (cellsP l).length = n * 2 by rw [cellsP_len, HN.out])
  have R0 : (w.alloc (.cells #[] 45)).ownsRow w.heap.size 45 2 (.slice (some ⟨w.heap.size, 0, none⟩) 0 0) 0 [] := World.ownsRow_made w #[] 0 (Nat.le_refl _) (Nat.zero_le _) rfl
  have q0 : Own w (w.alloc (.cells #[] 45)) := (Own.refl w).alloc _
  obtain ⟨_, _, ea, hsa⟩ := pts_src (HP.out.own q0)
  obtain ⟨rfl, rfl⟩ : _ = some ad ∧ _ = ca := by injection ea with e1 e2 e3; exact ⟨e1.symm, e3.symm⟩
  clear ea
  rw [HN.out] at hsa ⊢
  have HSA := Lib.hid hsa
  clear hsa
  have q24 : ∀ (w : World) (a : Option Addr) (n c n' c' : Nat), (binOp .eql 22 (.slice a n c) (.slice none n' c')).run Try.prog w = .ok (.bool a.isNone) w := fun w a n c n' c' => Lib.run_eql_slice_nil w _ _ a n c n' c' Try.underlying22
  go_enter Try.func29, Try.ntmps29
  go_wp2_with (at_builtin; refine wpList_append_row_any _ rfl _ _ 22 rfl w.heap.size 45 i0 (.agg #[.int .i64 0, .int .i64 0]) 2 16 Try.underlying22 HI.out HZ0.out HZ1.out HZ2.out rfl (by decide) _ 0 [] rfl R0 _ n _ (cellsP l) rfl HLA.out HSA.out (cellsP_one l) (by unfold maxLen; omega) (by omega) (by simp) ?_; intro v2 w2 hown hgr _; have HOWN := Lib.hid hown; have g1 : Own w w2 := q0.grown hgr (fun k hk => by injection hk with hk; exact Nat.le_of_eq hk); clear hown hgr)
  go_wp2
  go_ret
  exact ⟨v2, rfl, by simpa using HOWN.out, g1⟩
set_option maxRecDepth 100000 in
set_option maxHeartbeats 1000000 in
theorem pcut_at (l : List Pt) (sv : Value) (s1 s2 : Int) (M : List Pt) (f : Int) (w : World) (HP : Hid (Pts w sv l)) (H : Hid (cE l (s1, s2) = f ∧ cV l (s1, s2) = M)) :
    Calls Try.prog 21 #[sv, .agg #[.int .i64 s1, .int .i64 s2]] w fun e w' => ∃ s', e = .returned (.tuple #[s', .int .i64 f]) ∧ w'.ownsRow w.heap.size 45 2 s' M.length (cellsP M) ∧ Own w w' := by
  obtain ⟨c, hc⟩ : ∃ c, chkE l = c := ⟨_, rfl⟩
  have HC := Lib.hid hc
  obtain ⟨k0, k1, _, _⟩ := pt_new w s1 s2 30
  have g0 : Own w (w.alloc (.cells #[.int .i64 s1, .int .i64 s2] 30)) := (Own.refl w).alloc _
  have hbs : w.heap.size < (w.alloc (.cells #[.int .i64 s1, .int .i64 s2] 30)).heap.size := by simp
  obtain ⟨A, cap, rfl, ha1, ha2, ha⟩ := HP.out.open
  unfold maxLen at ha2
  obtain ⟨n, hn⟩ : ∃ n, l.length = n := ⟨_, rfl⟩
  rw [hn] at ha1 HP ha ⊢
  by_cases h0 : c = 0
  · subst h0
    by_cases h1 : 0 ≤ s1 ∧ s1 < s2 ∧ s2 ≤ n
    · have hce := cE_ok (s := (s1, s2)) hc (by rw [hn]; exact h1)
      obtain rfl : 0 = f := by rw [← H.out.1, hce]
      obtain ⟨a, b, hs, hab, hb, hcv, _, hlen⟩ := cut_eq hce
      injection hs with e1 e2
      obtain ⟨bb, off, rfl, _⟩ := ha (by omega)
      have hm : M = (l.take b).drop a := by rw [← H.out.2, hcv]
      have hml : M.length = b - a := by rw [← H.out.2, hlen]
      obtain ⟨m, hm2⟩ : ∃ m, m = b - a := ⟨_, rfl⟩
      have HM := Lib.hid (show Pts w (.slice (some ⟨bb, off + a * 2, none⟩) m (cap - a)) M by rw [hm]; exact pts_cut HP.out hab hb hm2)
      have HML := Lib.hid (show M.length = m by rw [hml, hm2])
      have hl := (chk_zero.1 hc).2.1
      have hbn : b ≤ n := by omega
      have hm0 : 0 < m := by omega
      have hm1 : m ≤ 1000000 := by omega
      subst e1
      subst e2
      have d1 : ¬ (a : Int) < 0 := by omega
      have d2 : decide ((b : Int) ≤ (a : Int)) = false := decide_eq_false (by omega)
      have d3 : ¬ (n : Int) < (b : Int) := by omega
      have d4 : (0 : Int) ≤ (a : Int) := by omega
      have d5 : (a : Int) ≤ (b : Int) := by omega
      have d6 : (b : Int) ≤ cap := by omega
      have d7 : b - a = m := hm2.symm
      rw [HML.out]
      clear hc hn ha h1 hce hcv hlen hm hml hm2 hb H
      go_enter Try.func21, Try.ntmps21
      go_upto_region 1 with (fail)
      generalize w.alloc (.cells #[.int .i64 (a : Int), .int .i64 (b : Int)] 30) = W0 at *
      go_upto_region 6 with (go_at_call 12; refine (pcheck_at l _ 0 _ (Lib.hid (HP.out.own g0)) HC).mono ?_; rintro e w1 ⟨rfl, hg⟩; replace g0 := g0.trans hg; replace k0 := hg.cell k0; replace k1 := hg.cell k1)
      have hbx : w.heap.size ≤ w1.heap.size := g0.size
      clear hg
      go_wp2_with (go_at_call 29; refine (pclone_at M _ m _ (Lib.hid (HM.out.own g0)) HML hm0 hm1).mono ?_; rintro e w2 ⟨vc, rfl, hr, hg⟩; have HR := Lib.hid hr; clear hr)
      go_ret2
      exact ⟨_, rfl, row_down HR.out hbx, g0.trans hg⟩
    · obtain rfl : 32 = f := by rw [← H.out.1, cE_no hc (by rw [hn]; exact h1)]
      obtain rfl : [] = M := by rw [← H.out.2, cV_none (by rw [H.out.1]; decide)]
      have hno : s1 < 0 ∨ ¬ s1 < 0 ∧ s2 ≤ s1 ∨ ¬ s1 < 0 ∧ ¬ s2 ≤ s1 ∧ (n : Int) < s2 := by omega
      clear hc hn h1 H ha
      go_enter Try.func21, Try.ntmps21
      go_upto_region 1 with (fail)
      generalize w.alloc (.cells #[.int .i64 s1, .int .i64 s2] 30) = W0 at *
      go_upto_region 4 with (go_at_call 12; refine (pcheck_at l _ 0 _ (Lib.hid (HP.out.own g0)) HC).mono ?_; rintro e w1 ⟨rfl, hg⟩; replace g0 := g0.trans hg; replace k0 := hg.cell k0; replace k1 := hg.cell k1)
      rcases hno with h | ⟨h, h1⟩ | ⟨h, h1, h2⟩
      all_goals
        go_wp2
        go_ret2
        exact ⟨_, rfl, World.ownsRow_nil _ _ _ _, g0⟩
  · obtain rfl : c = f := by rw [← H.out.1, cE_bad _ (by rw [hc]; exact h0), hc]
    obtain rfl : [] = M := by rw [← H.out.2, cV_none (by rw [H.out.1]; exact h0)]
    have d0 : (c != 0) = true := bne_iff_ne.2 h0
    clear hc hn H ha
    go_enter Try.func21, Try.ntmps21
    go_upto_region 1 with (fail)
    generalize w.alloc (.cells #[.int .i64 s1, .int .i64 s2] 30) = W0 at *
    go_wp2_with (go_at_call 12; refine (pcheck_at l _ c _ (Lib.hid (HP.out.own g0)) HC).mono ?_; rintro e w1 ⟨rfl, hg⟩; replace g0 := g0.trans hg)
    go_ret2
    exact ⟨_, rfl, World.ownsRow_nil _ _ _ _, g0⟩
end Go.Proofs.Ytmmgidchgoligaa.MetW
