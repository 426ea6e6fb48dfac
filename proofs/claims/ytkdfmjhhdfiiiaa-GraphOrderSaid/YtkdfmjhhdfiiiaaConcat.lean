/-
  Walks of slices.Grow and slices.Concat at integers, for any number of parts. Condition: none.
-/
import Derived.Test.YtkdfmjhhdfiiiaaTab
namespace Go.Proofs.Ytkdfmjhhdfiiiaa.TabW
open Go.ChangeShapes Go.WideShapes Go.ChangeAt Go.RowKit
open PairW CelW
/-- The length of the first k parts together. -/
def totN (L : List (List Value)) (k : Nat) : Nat := (L.take k).flatten.length
theorem tot_zero (L : List (List Value)) : totN L 0 = 0 := rfl
theorem flat_succ {L : List (List Value)} {k : Nat} (h : k < L.length) : (L.take (k + 1)).flatten = (L.take k).flatten ++ L[k] := by
  rw [List.take_succ_eq_append_getElem h, List.flatten_append]
  simp
theorem tot_succ {L : List (List Value)} {k : Nat} (h : k < L.length) : totN L (k + 1) = totN L k + L[k].length := by
  unfold totN
  rw [flat_succ h, List.length_append]
theorem tot_le (L : List (List Value)) (k : Nat) : totN L k ≤ L.flatten.length := by
  unfold totN
  have h : L.flatten = (L.take k).flatten ++ (L.drop k).flatten := by rw [← List.flatten_append, List.take_append_drop]
  rw [h, List.length_append]
  omega
set_option maxRecDepth 100000 in
theorem growI_at (n : Nat) (N : Int) (w : World) (hN : N = n) (hn : n ≤ 1000000) :
    Calls Try.prog 48 #[.slice none 0 0, .int .i64 N] w fun e w' => ∃ v', e = .returned v' ∧ w'.ownsRow w.heap.size 3 1 v' 0 [] ∧ Own w w' := by
  obtain ⟨i0, hi, hz0, hz1, hz2⟩ := info_parts (show (Try.prog.info? 3).map (fun i => (i.zero, i.size, i.bytes)) = some (some (.int .i64 0), 1, 8) by kernel_rfl)
  have HI := Lib.hid hi
  have HZ0 := Lib.hid hz0
  have HZ1 := Lib.hid hz1
  have HZ2 := Lib.hid hz2
  clear hi hz0 hz1 hz2
  subst hN
  by_cases h0 : 0 < n
  · have hnp : (0 : Int) < n := by omega
    go_enter Try.func48, Try.ntmps48
    go_upto_region 5 with (fail)
    go_wp2_with (at_builtin; refine wpList_append_made _ rfl _ _ 29 3 rfl 3 _ i0 (.int .i64 0) 1 8 Try.underlying29 Try.underlying3 HI.out HZ0.out HZ1.out HZ2.out rfl (by decide) n rfl rfl h0 (by unfold maxLen; omega) (by omega) ?_)
    intro cap w1 hge hcm hown hgr
    have g0 : Own w w1 := (Own.refl w).grown hgr (by simp)
    unfold maxLen at hcm
    have hc0 : ¬ (cap = 0) := by omega
    have HOWN := Lib.hid hown
    clear hown hgr
    go_wp2
    go_ret
    exact ⟨_, rfl, HOWN.out, g0⟩
  · obtain rfl : n = 0 := by omega
    clear HI HZ0 HZ1 HZ2
    go_enter Try.func48, Try.ntmps48
    go_wp2
    go_ret
    exact ⟨_, rfl, World.ownsRow_nil _ _ _ _, Own.refl w⟩
set_option maxRecDepth 100000 in
set_option maxHeartbeats 4000000 in
theorem concatI_at (L : List (List Value)) (vv : Value) (m : Nat) (w : World) (HP : Hid (Cels w vv L)) (HO : Hid (∀ x ∈ L, ∀ u ∈ x, u.oneCell' = true)) (HM : Hid (L.length = m)) (hm : m ≤ 1000) (hle : L.flatten.length ≤ 1000000) :
    Calls Try.prog 33 #[vv] w fun e w' => ∃ v', e = .returned v' ∧ w'.ownsRow w.heap.size 3 1 v' L.flatten.length L.flatten ∧ Own w w' := by
  obtain ⟨i0, hi, hz0, hz1, hz2⟩ := info_parts (show (Try.prog.info? 3).map (fun i => (i.zero, i.size, i.bytes)) = some (some (.int .i64 0), 1, 8) by kernel_rfl)
  have HI := Lib.hid hi
  have HZ0 := Lib.hid hz0
  have HZ1 := Lib.hid hz1
  have HZ2 := Lib.hid hz2
  have HLE := Lib.hid hle
  obtain ⟨Av, cv, rfl, v1, v2, hvc⟩ := cels_open HP.out
  unfold maxLen at v2
  rw [HM.out] at v1 hvc HP ⊢
  have HVC := Lib.hid hvc
  clear hi hz0 hz1 hz2 hle hvc
  have hfull : (L.take m).flatten = L.flatten := by rw [← HM.out, List.take_length]
  have HF := Lib.hid hfull
  have HT := Lib.hid (show totN L m = L.flatten.length by unfold totN; rw [hfull])
  clear hfull
  go_enter Try.func33, Try.ntmps33
  go_wp2
  go_loop [3, 5, 11] (fun vs _ vi => ∃ k : Nat, vi = .int .i64 (k : Int) ∧ k ≤ m ∧ vs = .int .i64 (totN L k : Int)) (fun _ _ vi => m - (intOf vi).toNat)
  case atStart => exact ⟨0, rfl, Nat.zero_le _, by rw [tot_zero]; rfl⟩
  case round =>
    obtain ⟨k, rfl, hk, rfl⟩ := hrel
    by_cases hlt : k < m
    · have hkl : k < L.length := by rw [HM.out]; exact hlt
      have hkm : (k : Int) < m := by omega
      obtain ⟨Q, off, rfl, hcc⟩ := HVC.out (by omega)
      obtain ⟨v, hv1, hv2⟩ := hcc k _ (List.getElem?_eq_getElem hkl)
      clear hcc
      obtain ⟨A, c, rfl, hc1, hc2⟩ := cel_form hv2
      clear hc1 hc2
      have hts := tot_succ hkl
      have htl := tot_le L (k + 1)
      have hle := HLE.out
      obtain ⟨n, hn⟩ : ∃ n, L[k].length = n := ⟨_, rfl⟩
      rw [hn] at hv1 hts
      obtain ⟨t, ht⟩ : ∃ t, totN L k = t := ⟨_, rfl⟩
      rw [ht] at hts ⊢
      have i1 : IntKind.i64.wrap ((t : Int) + n) = (t : Int) + n := IntWalk.i64_in _ (by omega)
      have d1 : ¬ ((t : Int) + n < 0) := by omega
      have HTS := Lib.hid hts
      clear hts htl hle ht hn hv2 hkl
      go_wp2
      go_round
      case rel => exact ⟨k + 1, by go_num, hlt, by rw [HTS.out]; rfl⟩
      case measure => simp [intOf]; omega
    · obtain rfl : k = m := by omega
      have hle := HLE.out
      rw [← HT.out] at hle
      go_upto_region 10 with (go_at_call 48; with_reducible refine (growI_at (totN L k) _ _ rfl hle).mono ?_; rintro e w1 ⟨v1, rfl, hown, g0⟩)
      have HR0 := Lib.hid hown
      have HSZ0 := Lib.hid g0.size
      clear hown hle
      go_wp2
      go_loopw [6, 8, 27] (fun vo _ vi wr => ∃ j : Nat, vi = .int .i64 (j : Int) ∧ j ≤ k ∧ Own w wr ∧ wr.ownsRow w.heap.size 3 1 vo (totN L j) (L.take j).flatten) (fun _ _ vi _ => k - (intOf vi).toNat)
      case atStart => exact ⟨0, rfl, Nat.zero_le _, g0, HR0.out⟩
      case round =>
        obtain ⟨j, rfl, hj, q, hrow⟩ := hrel
        have HROW := Lib.hid hrow
        clear hrow
        by_cases hlt2 : j < k
        · have hjl : j < L.length := by rw [HM.out]; exact hlt2
          have hjm : (j : Int) < k := by omega
          obtain ⟨Q, off, rfl, hcc⟩ := HVC.out (by omega)
          obtain ⟨v, hv1', hv2'⟩ := hcc j _ (List.getElem?_eq_getElem hjl)
          have hv1 := q.cell hv1'
          have hv2 := hv2'.own q
          have HOJ := Lib.hid (HO.out L[j] (List.getElem_mem hjl))
          clear hcc hv1' hv2'
          have htl := tot_le L (j + 1)
          have hts := tot_succ hjl
          have hle := HLE.out
          have HFS := Lib.hid (flat_succ hjl)
          have HTS := Lib.hid hts
          have HK := Lib.hid (show totN L j + (L[j]).length = totN L (j + 1) from hts.symm)
          have HK3 := Lib.hid (show totN L (j + 1) ≤ maxLen by unfold maxLen; omega)
          have HK4 := Lib.hid (show totN L (j + 1) * 8 ≤ 140737488355328 by omega)
          have HCEL := Lib.hid hv2
          have HSZ := Lib.hid q.size
          obtain ⟨A, c, rfl, hc1, hc2⟩ := cel_form hv2
          clear hc1 hc2 hts htl hle hv2
          go_wp2_with (at_builtin; refine wpList_append_r (by go_simp) _ _ 29 rfl w.heap.size 3 i0 (.int .i64 0) 8 Try.underlying29 HI.out HZ0.out HZ1.out HZ2.out rfl _ (totN L j) (L.take j).flatten rfl HROW.out _ (L[j]) rfl HCEL.out HOJ.out (totN L (j + 1)) HK.out HK3.out HK4.out HSZ.out ?_; intro v4 w4 hown4 hgr4 hsz4; have q4 := hgr4 _ q (Nat.le_refl _); clear hsz4 hgr4)
          go_roundw
          case rel => exact ⟨j + 1, by go_num, hlt2, q4, by rw [HFS.out]; exact hown4⟩
          case measure => simp [intOf]; omega
        · obtain rfl : j = k := by omega
          go_wp2
          go_ret
          exact ⟨_, rfl, by rw [← HT.out, ← HF.out]; exact HROW.out, q⟩
end Go.Proofs.Ytkdfmjhhdfiiiaa.TabW
