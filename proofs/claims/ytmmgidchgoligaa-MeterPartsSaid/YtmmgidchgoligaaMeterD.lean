/-
  Walks of Cut, Ints and Same of the specification of package meter; comparison of meters and of spans. Condition: none.
-/
import Derived.Test.YtmmgidchgoligaaMeterA
import Derived.Test.YtmmgidchgoligaaMeterPE
namespace Go.Proofs.Ytmmgidchgoligaa.MetW
open Go.ChangeShapes Go.WideShapes Go.ChangeAt Go.RowKit
open PairW CelW RowA MetP
/-- Whether two pairs are the same. -/
def ptB (a b c d : Int) : Bool := (a == c) && (b == d)
theorem ptB_self (a b : Int) : ptB a b a b = true := by unfold ptB; simp
theorem me_under : Try.prog.underlying 45 = some (.struct (Try.prog.fieldsOf 45)) := by kernel_rfl
theorem me_stood : Try.prog.stoodInHeld 45 = false := by kernel_rfl
theorem me_guards : Try.prog.eqGuardType Try.prog.depth 45 = false := by kernel_rfl
@[go_sem high] theorem me_guard (op : BinOp) (x y : Operand) (xs ys : Array Value) (W : World) : (eqGuard op 45 x y (.agg xs) (.agg ys)).run Try.prog W = .ok () W := run_eqGuard_agg W op 45 x y xs ys me_guards
theorem me_eq (a b c d : Int) (W : World) : (Op.equalIn 10000 45 (.agg #[.int .i64 a, .int .i64 b]) (.agg #[.int .i64 c, .int .i64 d])).run Try.prog W = .ok (ptB a b c d) W := by
  rw [run_equalIn_agg W 9999 45 _ _ me_under me_stood]
  unfold ptB
  simp [go_sem, Op.eqFields, part, Program.fieldsOf, Try.underlying45, Try.underlying3]
  by_cases h1 : a = c <;> by_cases h2 : b = d <;> simp [h1, h2]
@[go_sem high] theorem me_eql (a b c d : Int) (W : World) : (binOp .eql 45 (.agg #[.int .i64 a, .int .i64 b]) (.agg #[.int .i64 c, .int .i64 d])).run Try.prog W = .ok (.bool (ptB a b c d)) W := by
  rw [run_eql_struct, me_eq]
  rfl
@[go_sem high] theorem me_neq (a b c d : Int) (W : World) : (binOp .neq 45 (.agg #[.int .i64 a, .int .i64 b]) (.agg #[.int .i64 c, .int .i64 d])).run Try.prog W = .ok (.bool (!ptB a b c d)) W := by
  rw [run_neq_struct, me_eq]
  rfl
theorem sp_under : Try.prog.underlying 30 = some (.struct (Try.prog.fieldsOf 30)) := by kernel_rfl
theorem sp_stood : Try.prog.stoodInHeld 30 = false := by kernel_rfl
theorem sp_guards : Try.prog.eqGuardType Try.prog.depth 30 = false := by kernel_rfl
@[go_sem high] theorem sp_guard (op : BinOp) (x y : Operand) (xs ys : Array Value) (W : World) : (eqGuard op 30 x y (.agg xs) (.agg ys)).run Try.prog W = .ok () W := run_eqGuard_agg W op 30 x y xs ys sp_guards
theorem sp_eq (a b c d : Int) (W : World) : (Op.equalIn 10000 30 (.agg #[.int .i64 a, .int .i64 b]) (.agg #[.int .i64 c, .int .i64 d])).run Try.prog W = .ok (ptB a b c d) W := by
  rw [run_equalIn_agg W 9999 30 _ _ sp_under sp_stood]
  unfold ptB
  simp [go_sem, Op.eqFields, part, Program.fieldsOf, Try.underlying30, Try.underlying3]
  by_cases h1 : a = c <;> by_cases h2 : b = d <;> simp [h1, h2]
@[go_sem high] theorem sp_eql (a b c d : Int) (W : World) : (binOp .eql 30 (.agg #[.int .i64 a, .int .i64 b]) (.agg #[.int .i64 c, .int .i64 d])).run Try.prog W = .ok (.bool (ptB a b c d)) W := by
  rw [run_eql_struct, sp_eq]
  rfl
@[go_sem high] theorem sp_neq (a b c d : Int) (W : World) : (binOp .neq 30 (.agg #[.int .i64 a, .int .i64 b]) (.agg #[.int .i64 c, .int .i64 d])).run Try.prog W = .ok (.bool (!ptB a b c d)) W := by
  rw [run_neq_struct, sp_eq]
  rfl
set_option maxRecDepth 100000 in
set_option maxHeartbeats 1000000 in
theorem rsame_yes (l : List Pt) (va vb : Value) (w : World) (HA : Hid (Pts w va l)) (HB : Hid (Pts w vb l)) :
    Calls Try.prog 24 #[va, vb] w fun e w' => e = .returned (.bool true) ∧ Own w w' := by
  obtain ⟨A, ca, rfl, a1, a2, a3⟩ := HA.out.open
  obtain ⟨B, cb, rfl, b1, b2, b3⟩ := HB.out.open
  unfold maxLen at a2 b2
  have HCA := Lib.hid a3
  have HCB := Lib.hid b3
  obtain ⟨n, hn⟩ : ∃ n, l.length = n := ⟨_, rfl⟩
  have HN := Lib.hid hn
  rw [hn] at a1 b1 HCA HCB ⊢
  clear a3 b3 HA HB hn
  go_enter Try.func24, Try.ntmps24
  go_wp2
  go_loopw [5] (fun i wr => ∃ k : Nat, i = .int .i64 k ∧ k ≤ n ∧ Own w wr) (fun i _ => n - (intOf i).toNat)
  case atStart => exact ⟨0, rfl, Nat.zero_le _, Own.refl w⟩
  case round =>
    obtain ⟨k, rfl, hk, q⟩ := hrel
    by_cases hlt : k < n
    · obtain ⟨g, off, rfl, hc⟩ := HCA.out (by omega)
      obtain ⟨g2, off2, rfl, hc2⟩ := HCB.out (by omega)
      have c0 := q.cell (hc k hlt).1
      have c1 := q.cell (hc k hlt).2
      have c2 := q.cell (hc2 k hlt).1
      have c3 := q.cell (hc2 k hlt).2
      obtain ⟨⟨x, y⟩, hp⟩ : ∃ p, at' l k = p := ⟨_, rfl⟩
      rw [hp] at c0 c1 c2 c3
      simp only at c0 c1 c2 c3
      clear hc hc2 hp
      have hkn : (k : Int) < n := by omega
      have hzz : ptB x y x y = true := ptB_self x y
      go_upto_region 6 with (fail)
      go_quiet (fail)
      go_wp2
      go_roundw
      case rel => exact ⟨k + 1, by go_num, hlt, q.drewN _⟩
      case measure => simp [intOf]; omega
    · obtain rfl : k = n := by omega
      go_wp2
      go_ret
      exact ⟨rfl, q⟩
set_option maxRecDepth 100000 in
set_option maxHeartbeats 1000000 in
theorem rints_yes (l : List Int) (va vb : Value) (w : World) (HA : Hid (Cel w va (cellsI l))) (HB : Hid (Cel w vb (cellsI l))) :
    Calls Try.prog 23 #[va, vb] w fun e w' => e = .returned (.bool true) ∧ Own w w' := by
  obtain ⟨A, ca, rfl, a1, a2, a3⟩ := cel_ints HA.out
  obtain ⟨B, cb, rfl, b1, b2, b3⟩ := cel_ints HB.out
  unfold maxLen at a2 b2
  have HCA := Lib.hid a3
  have HCB := Lib.hid b3
  obtain ⟨n, hn⟩ : ∃ n, l.length = n := ⟨_, rfl⟩
  have HN := Lib.hid hn
  rw [hn] at a1 b1 ⊢
  clear a3 b3 HA HB hn
  go_enter Try.func23, Try.ntmps23
  go_wp2
  go_loopw [5] (fun i wr => ∃ k : Nat, i = .int .i64 k ∧ k ≤ n ∧ Own w wr) (fun i _ => n - (intOf i).toNat)
  case atStart => exact ⟨0, rfl, Nat.zero_le _, Own.refl w⟩
  case round =>
    obtain ⟨k, rfl, hk, q⟩ := hrel
    by_cases hlt : k < n
    · obtain ⟨g, off, rfl, hc⟩ := HCA.out (by rw [HN.out]; omega)
      obtain ⟨g2, off2, rfl, hc2⟩ := HCB.out (by rw [HN.out]; omega)
      have hkl : k < l.length := by rw [HN.out]; exact hlt
      have c0 := q.cell (hc k hkl)
      have c1 := q.cell (hc2 k hkl)
      obtain ⟨z, hz⟩ : ∃ z, l[k] = z := ⟨_, rfl⟩
      rw [hz] at c0 c1
      clear hc hc2 hz hkl
      have hkn : (k : Int) < n := by omega
      have hzz : (z == z) = true := beq_self_eq_true z
      go_upto_region 6 with (fail)
      go_quiet (fail)
      go_wp2
      go_roundw
      case rel => exact ⟨k + 1, by go_num, hlt, q.drewN _⟩
      case measure => simp [intOf]; omega
    · obtain rfl : k = n := by omega
      go_wp2
      go_ret
      exact ⟨rfl, q⟩
set_option maxRecDepth 100000 in
set_option maxHeartbeats 1000000 in
theorem rcut_at (l : List Pt) (sv : Value) (s1 s2 : Int) (M : List Pt) (f : Int) (w : World) (HP : Hid (Pts w sv l)) (H : Hid (cE l (s1, s2) = f ∧ cV l (s1, s2) = M)) :
    Calls Try.prog 22 #[sv, .agg #[.int .i64 s1, .int .i64 s2]] w fun e w' => ∃ s', e = .returned (.tuple #[s', .int .i64 f]) ∧ w'.ownsRow w.heap.size 45 2 s' M.length (cellsP M) ∧ Own w w' := by
  obtain ⟨i0, hi, hz0, hz1, hz2⟩ := info_parts (show (Try.prog.info? 45).map (fun i => (i.zero, i.size, i.bytes)) = some (some (.agg #[.int .i64 0, .int .i64 0]), 2, 16) by kernel_rfl)
  have HI := Lib.hid hi
  have HZ0 := Lib.hid hz0
  have HZ1 := Lib.hid hz1
  have HZ2 := Lib.hid hz2
  clear hi hz0 hz1 hz2
  obtain ⟨c, hc⟩ : ∃ c, chkE l = c := ⟨_, rfl⟩
  have HC := Lib.hid hc
  obtain ⟨k0, k1, _, _⟩ := pt_new w s1 s2 30
  have g0 : Own w (w.alloc (.cells #[.int .i64 s1, .int .i64 s2] 30)) := (Own.refl w).alloc _
  obtain ⟨A, cap, rfl, ha1, ha2, ha⟩ := HP.out.open
  unfold maxLen at ha2
  obtain ⟨n, hn⟩ : ∃ n, l.length = n := ⟨_, rfl⟩
  rw [hn] at ha1 HP ha ⊢
  by_cases h0 : c = 0
  · subst h0
    by_cases h1 : 0 ≤ s1 ∧ s1 < s2 ∧ s2 ≤ n
    · have hce := cE_ok (s := (s1, s2)) hc (by rw [hn]; exact h1)
      obtain rfl : 0 = f := by rw [← H.out.1, hce]
      obtain ⟨a, b, hs, hab, hb, hcv, _, hlen⟩ := cut_eq hce
      injection hs with e1 e2
      obtain ⟨bb, off, rfl, _⟩ := ha (by omega)
      have hm : M = (l.take b).drop a := by rw [← H.out.2, hcv]
      have hml : M.length = b - a := by rw [← H.out.2, hlen]
      obtain ⟨m, hm2⟩ : ∃ m, m = b - a := ⟨_, rfl⟩
      have HM := Lib.hid (show Pts w (.slice (some ⟨bb, off + a * 2, none⟩) m (cap - a)) M by rw [hm]; exact pts_cut HP.out hab hb hm2)
      have HML := Lib.hid (show M.length = m by rw [hml, hm2])
      have HLA := Lib.hid (show (cellsP M).length = m * 2 by rw [cellsP_len, HML.out])
      have hl := (chk_zero.1 hc).2.1
      have hbn : b ≤ n := by omega
      have hm0 : 0 < m := by omega
      have hm1 : m ≤ 1000000 := by omega
      subst e1
      subst e2
      have d1 : ¬ (a : Int) < 0 := by omega
      have d2 : decide ((b : Int) ≤ (a : Int)) = false := decide_eq_false (by omega)
      have d3 : ¬ (n : Int) < (b : Int) := by omega
      have d4 : (0 : Int) ≤ (a : Int) := by omega
      have d5 : (a : Int) ≤ (b : Int) := by omega
      have d6 : (b : Int) ≤ cap := by omega
      have d7 : b - a = m := hm2.symm
      rw [HML.out]
      clear hc hn ha h1 hce hcv hlen hm hml hm2 hb H
      go_enter Try.func22, Try.ntmps22
      go_upto_region 1 with (fail)
      generalize w.alloc (.cells #[.int .i64 (a : Int), .int .i64 (b : Int)] 30) = W0 at *
      go_upto_region 6 with (go_at_call 13; refine (rcheck_at l _ 0 _ (Lib.hid (HP.out.own g0)) HC).mono ?_; rintro e w1 ⟨rfl, hg⟩; replace g0 := g0.trans hg; replace k0 := hg.cell k0; replace k1 := hg.cell k1)
      have hbx : w.heap.size ≤ w1.heap.size := g0.size
      have hbx2 : w.heap.size < w1.heap.size := block_lt_of_cell k0
      have R0 : (w1.alloc (.cells #[] 45)).ownsRow w1.heap.size 45 2 (.slice (some ⟨w1.heap.size, 0, none⟩) 0 0) 0 [] := World.ownsRow_made w1 #[] 0 (Nat.le_refl _) (Nat.zero_le _) rfl
      have q0 : Own w1 (w1.alloc (.cells #[] 45)) := (Own.refl w1).alloc _
      obtain ⟨_, _, ea, hsa⟩ := pts_src (HM.out.own (g0.trans q0))
      injection ea with ea1 ea2 ea3
      subst ea1
      subst ea3
      rw [HML.out] at hsa
      have HSA := Lib.hid hsa
      have HR0 := Lib.hid R0
      clear hg hsa R0 ea2
      go_wp2_with (at_builtin; refine wpList_append_row_any _ rfl _ _ 22 rfl w1.heap.size 45 i0 (.agg #[.int .i64 0, .int .i64 0]) 2 16 Try.underlying22 HI.out HZ0.out HZ1.out HZ2.out rfl (by decide) _ 0 [] rfl HR0.out _ m _ (cellsP M) rfl HLA.out HSA.out (cellsP_one M) (by unfold maxLen; omega) (by omega) (by simp) ?_; intro v2 w2 hown hgr _; have HOWN := Lib.hid hown; have g1 : Own w1 w2 := q0.grown hgr (fun k hk => by injection hk with hk; exact Nat.le_of_eq hk); clear hown hgr)
      go_wp2
      go_ret2
      exact ⟨_, rfl, row_down (by simpa using HOWN.out) hbx, g0.trans g1⟩
    · obtain rfl : 32 = f := by rw [← H.out.1, cE_no hc (by rw [hn]; exact h1)]
      obtain rfl : [] = M := by rw [← H.out.2, cV_none (by rw [H.out.1]; decide)]
      have hno : s1 < 0 ∨ ¬ s1 < 0 ∧ s2 ≤ s1 ∨ ¬ s1 < 0 ∧ ¬ s2 ≤ s1 ∧ (n : Int) < s2 := by omega
      clear hc hn h1 H ha
      go_enter Try.func22, Try.ntmps22
      go_upto_region 1 with (fail)
      generalize w.alloc (.cells #[.int .i64 s1, .int .i64 s2] 30) = W0 at *
      go_upto_region 4 with (go_at_call 13; refine (rcheck_at l _ 0 _ (Lib.hid (HP.out.own g0)) HC).mono ?_; rintro e w1 ⟨rfl, hg⟩; replace g0 := g0.trans hg; replace k0 := hg.cell k0; replace k1 := hg.cell k1)
      rcases hno with h | ⟨h, h1⟩ | ⟨h, h1, h2⟩
      all_goals
        go_wp2
        go_ret2
        exact ⟨_, rfl, World.ownsRow_nil _ _ _ _, g0⟩
  · obtain rfl : c = f := by rw [← H.out.1, cE_bad _ (by rw [hc]; exact h0), hc]
    obtain rfl : [] = M := by rw [← H.out.2, cV_none (by rw [H.out.1]; exact h0)]
    have d0 : (c != 0) = true := bne_iff_ne.2 h0
    clear hc hn H ha
    go_enter Try.func22, Try.ntmps22
    go_upto_region 1 with (fail)
    generalize w.alloc (.cells #[.int .i64 s1, .int .i64 s2] 30) = W0 at *
    go_wp2_with (go_at_call 13; refine (rcheck_at l _ c _ (Lib.hid (HP.out.own g0)) HC).mono ?_; rintro e w1 ⟨rfl, hg⟩; replace g0 := g0.trans hg)
    go_ret2
    exact ⟨_, rfl, World.ownsRow_nil _ _ _ _, g0⟩
end Go.Proofs.Ytmmgidchgoligaa.MetW
