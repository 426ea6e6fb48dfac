/-
  Walks of the laws' helpers of package span: of, normal, own. Condition: a list's length where it is copied.
-/
import Derived.Test.YtggceakihapgiaaSpanP
namespace Go.Proofs.Ytggceakihapgiaa.SpaW
open Go.ChangeShapes Go.WideShapes Go.ChangeAt Go.RowKit
open PairW SpaP

theorem of_at (x y : Int) (w : World) :
    Calls Try.prog 31 #[.int .i64 x, .int .i64 y] w fun e w' => e = .returned (.agg #[.int .i64 x, .int .i64 y]) ∧ Own w w' := by
  go_enter Try.func31, Try.ntmps31
  go_wp2
  exact bodyPost_ret (v := .agg #[.int .i64 x, .int .i64 y]) (by simp [results, Try.results31, go_sem]) rfl ⟨rfl, by repeat (first | exact Own.refl _ | apply Own.alloc | refine Own.setCell ?_ (by simp; try omega) _)⟩
/-- What a normal form has at a place. -/
theorem norm_at : ∀ {l : List Sp} {b : Int} {k : Nat}, NormFrom b l → k < l.length → b < (at' l k).1 ∧ (at' l k).1 < (at' l k).2 ∧ (0 < k → (at' l (k - 1)).2 < (at' l k).1)
  | s :: r, b, 0, h, _ => ⟨h.1, h.2.1, fun h => absurd h (by omega)⟩
  | s :: r, b, k + 1, h, hk => by
    have e : at' (s :: r) (k + 1) = at' r k := by unfold at'; rw [List.getD_cons_succ]
    rw [e]
    obtain ⟨h1, h2, h3⟩ := norm_at (k := k) h.2.2 (by simpa using hk)
    have := h.1
    have := h.2.1
    refine ⟨by omega, h2, fun _ => ?_⟩
    cases k with
    | zero => exact h1
    | succ k =>
      have e2 : at' (s :: r) (k + 1 + 1 - 1) = at' r k := by unfold at'; rw [show k + 1 + 1 - 1 = k + 1 by omega, List.getD_cons_succ]
      rw [e2]
      exact h3 (by omega)
set_option maxRecDepth 100000 in
set_option maxHeartbeats 4000000 in
theorem normal_at (l : List Sp) (sv : Value) (w : World) (HP : Hid (Pts w sv l)) (H : Hid (NormFrom (-1) l ∧ (∀ s ∈ l, s.2 ≤ 65536) ∧ l.length ≤ 128)) :
    Calls Try.prog 28 #[sv] w fun e w' => e = .returned (.bool true) ∧ Own w w' := by
  obtain ⟨A, cap, rfl, ha1, ha2, ha⟩ := HP.out.open
  unfold maxLen at ha2
  have HA := Lib.hid ha
  have HF := Lib.hid (fun k (hk : k < l.length) => norm_at (k := k) H.out.1 hk)
  have HM := Lib.hid (fun k (hk : k < l.length) => H.out.2.1 _ (at_mem (k := k) hk))
  have hle : l.length ≤ 128 := H.out.2.2
  clear ha HP H
  obtain ⟨n, hn⟩ : ∃ n, l.length = n := ⟨_, rfl⟩
  rw [hn] at HA HF HM ha1 hle ⊢
  clear hn
  go_enter Try.func28, Try.ntmps28
  go_wp2
  go_loopw [3] (fun i wr => ∃ k : Nat, i = .int .i64 k ∧ k ≤ n ∧ Own w wr) (fun i _ => n - (intOf i).toNat)
  case atStart => exact ⟨0, rfl, Nat.zero_le _, Own.refl w⟩
  case round =>
    obtain ⟨k, rfl, hk, g0⟩ := hrel
    by_cases hlt : k < n
    · obtain ⟨b, off, rfl, hc⟩ := HA.out (by omega)
      have e0 := g0.cell (hc k hlt).1
      have e1 := g0.cell (hc k hlt).2
      obtain ⟨hf1, hf2, hf3⟩ := HF.out k hlt
      have hm := HM.out k hlt
      obtain ⟨p, hp⟩ : ∃ p, at' l k = p := ⟨_, rfl⟩
      rw [hp] at e0 e1 hf1 hf2 hf3 hm
      clear hp
      obtain ⟨y, z⟩ := p
      simp only at e0 e1 hf1 hf2 hf3 hm
      have d1 : decide (y < 0) = false := decide_eq_false (by omega)
      have d2 : decide (z ≤ y) = false := decide_eq_false (by omega)
      have d3 : decide (65536 < z) = false := decide_eq_false (by omega)
      by_cases h0 : k = 0
      · subst h0
        simp only [Nat.zero_mul, Nat.add_zero] at e0 e1
        clear hc
        go_upto_region 4 with (fail)
        go_quiet (fail)
        go_wp2
        go_roundw
        case rel => exact ⟨1, by go_num, hlt, g0.drewN _⟩
        case measure => simp [intOf]; omega
      · have d4 : decide ((0 : Int) < (k : Int)) = true := decide_eq_true (by omega)
        have e2 := g0.cell (hc (k - 1) (by omega)).2
        have hq := hf3 (by omega)
        obtain ⟨u, hu⟩ : ∃ u, (at' l (k - 1)).2 = u := ⟨_, rfl⟩
        rw [hu] at e2 hq
        clear hu hc hf3
        obtain ⟨j, rfl⟩ : ∃ j, k = j + 1 := ⟨k - 1, by omega⟩
        simp only [Nat.add_sub_cancel] at e2
        have d4' : decide (0 < j + 1) = true := decide_eq_true (by omega)
        have d5 : decide (y ≤ u) = false := decide_eq_false (by omega)
        have i1 : IntKind.i64.wrap (((j + 1 : Nat) : Int) - 1) = (j : Int) := by rw [show ((j + 1 : Nat) : Int) - 1 = (j : Int) by omega]; exact IntWalk.i64_in _ (by omega)
        go_upto_region 4 with (fail)
        go_quiet (fail)
        go_wp2
        go_roundw
        case rel => exact ⟨j + 1 + 1, by go_num, hlt, g0.drewN _⟩
        case measure => simp [intOf]; omega
    · obtain rfl : k = n := by omega
      have d6 : decide ((k : Int) ≤ 128) = true := decide_eq_true (by omega)
      go_wp2
      go_ret
      exact ⟨rfl, g0⟩
set_option maxRecDepth 100000 in
theorem own_at (l : List Sp) (sv : Value) (w : World) (HA : Hid (Pts w sv l)) (hl : l.length * 16 ≤ 140737488355328) :
    Calls Try.prog 32 #[sv] w fun e w' => ∃ v, e = .returned v ∧ Fresh w w' v l ∧ Own w w' := by
  obtain ⟨i0, hi, hz0, hz1, hz2⟩ := info_parts (show (Try.prog.info? 36).map (fun i => (i.zero, i.size, i.bytes)) = some (some (.agg #[.int .i64 0, .int .i64 0]), 2, 16) by kernel_rfl)
  have HI := Lib.hid hi
  have HZ0 := Lib.hid hz0
  have HZ1 := Lib.hid hz1
  have HZ2 := Lib.hid hz2
  clear hi hz0 hz1 hz2
  obtain ⟨Aa, ca, rfl, hsa⟩ := pts_src HA.out
  clear hsa
  have HLA := Lib.hid (cellsP_len l)
  go_enter Try.func32, Try.ntmps32
  have R0 : (w.alloc (.cells #[] 36)).ownsRow w.heap.size 36 2 (.slice (some ⟨w.heap.size, 0, none⟩) 0 0) 0 [] := World.ownsRow_made w #[] 0 (Nat.le_refl _) (Nat.zero_le _) rfl
  have q0 : Own w (w.alloc (.cells #[] 36)) := (Own.refl w).alloc _
  obtain ⟨_, _, ea, hsa⟩ := pts_src (HA.out.own q0)
  obtain ⟨rfl, rfl⟩ : _ = Aa ∧ _ = ca := by injection ea with e1 e2 e3; exact ⟨e1.symm, e3.symm⟩
  clear ea
  have HSA := Lib.hid hsa
  clear hsa
  go_wp2_with (at_builtin; refine wpList_append_row_any _ rfl _ _ 22 rfl w.heap.size 36 i0 (.agg #[.int .i64 0, .int .i64 0]) 2 16 Try.underlying22 HI.out HZ0.out HZ1.out HZ2.out rfl (by decide) _ 0 [] rfl R0 _ l.length _ (cellsP l) rfl HLA.out HSA.out (cellsP_one l) (by unfold maxLen; omega) (by omega) (by simp) ?_)
  intro v2 w2 hown hgr _
  have g1 : Own w w2 := q0.grown hgr (by intro i hi; simp [Value.ownBlock] at hi; omega)
  go_wp2
  go_ret
  exact ⟨v2, rfl, by simpa [Fresh] using hown, g1⟩
end Go.Proofs.Ytggceakihapgiaa.SpaW
