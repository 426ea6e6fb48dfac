/-
  Walks of the specification of package share: Stages. Condition: none.
-/
import Derived.Test.YtmliajkbknjacaaShareB
import Derived.Deep.RegionHeld3
import Derived.Deep.AppendLies
namespace Go.Proofs.Ytmliajkbknjacaa.ShaW
open Go.ChangeShapes Go.WideShapes Go.ChangeAt Go.RowKit
open PairW CelW MchW ShaP
set_option maxRecDepth 100000 in
set_option maxHeartbeats 4000000 in
theorem rstages_at (t n f : Int) (M : List Int) (w : World) (HF : Hid (staE t n = f)) (HM : Hid (staV t n = M)) :
    Calls Try.prog 14 #[.int .i64 t, .int .i64 n] w fun e w' => ∃ x, e = .returned (.tuple #[x, .int .i64 f]) ∧ w'.ownsRow w.heap.size 3 1 x M.length (cellsI M) ∧ Own w w' := by
  obtain ⟨b0, hb0⟩ : ∃ b, okW t = b := ⟨_, rfl⟩
  have hamt := amount_at t b0 w (Lib.hid hb0)
  have HB0 := Lib.hid hb0
  by_cases hok : okW t = true ∧ 1 ≤ n ∧ n ≤ 512
  · obtain ⟨h0, h1, h2⟩ := hok
    obtain ⟨ht0, ht1⟩ := okW_iff.1 h0
    obtain rfl : b0 = true := hb0.symm.trans h0
    have he : staE t n = 0 := if_pos ⟨h0, h1, h2⟩
    obtain rfl : 0 = f := he.symm.trans HF.out
    obtain rfl : mpF (staF t n) n.toNat = M := by rw [← HM.out]; exact (if_pos he).symm
    obtain ⟨n, rfl⟩ : ∃ k : Nat, n = k := ⟨n.toNat, by omega⟩
    obtain ⟨ii, hi, hz0, hz1, hz2⟩ := info_parts (show (Try.prog.info? 3).map (fun i => (i.zero, i.size, i.bytes)) = some (some (.int .i64 0), 1, 8) by kernel_rfl)
    have HI := Lib.hid hi
    have HZ0 := Lib.hid hz0
    have HZ1 := Lib.hid hz1
    have HZ2 := Lib.hid hz2
    have hnn : n ≤ 512 := by omega
    have hn1 : 1 ≤ n := by omega
    clear hi hz0 hz1 hz2 h0 hb0 he HM h1 h2
    have c1 : decide ((n : Int) < 1) = false := decide_eq_false (by omega)
    have c2 : decide ((512 : Int) < (n : Int)) = false := decide_eq_false (by omega)
    go_enter Try.func14, Try.ntmps14
    go_wp2_with (go_at_call 22; refine hamt.mono ?_; rintro e w1 ⟨rfl, rfl⟩)
    clear hamt
    go_loopw [6, 7] (fun v6 v7 wr => ∃ (k : Nat) (A : Option Addr) (c : Nat), v6 = .slice A k c ∧ v7 = .int .i64 ((k : Int) + 1) ∧ k ≤ n ∧ Own w wr ∧ wr.ownsRow w.heap.size 3 1 (.slice A k c) k (cellsI (mpF (staF t n) k))) (fun _ v7 _ => n + 1 - (intOf v7).toNat)
    case atStart => exact ⟨0, none, 0, rfl, rfl, Nat.zero_le _, Own.refl _, World.ownsRow_nil _ _ _ _⟩
    case round =>
      obtain ⟨k, A, c, rfl, rfl, hk, hq, hrow⟩ := hrel
      have HQ := Lib.hid hq
      have HROW := Lib.hid hrow
      clear hq hrow
      by_cases hlt : k < n
      · have hkn : (k : Int) + 1 ≤ n := by omega
        obtain ⟨p1, hp1⟩ : ∃ p, t * ((k : Int) + 1) = p := ⟨_, rfl⟩
        obtain ⟨p2, hp2⟩ : ∃ p, t * (k : Int) = p := ⟨_, rfl⟩
        have hb1 : 0 ≤ p1 ∧ p1 ≤ 562949953421312 := by
          rw [← hp1]
          have h1 := Int.mul_nonneg ht0 (show 0 ≤ (k : Int) + 1 by omega)
          have h2 : t * ((k : Int) + 1) ≤ 1099511627776 * ((k : Int) + 1) := Int.mul_le_mul_of_nonneg_right ht1 (by omega)
          omega
        have hb2 : 0 ≤ p2 ∧ p2 ≤ 562949953421312 := by
          rw [← hp2]
          have h1 := Int.mul_nonneg ht0 (show 0 ≤ (k : Int) by omega)
          have h2 : t * (k : Int) ≤ 1099511627776 * (k : Int) := Int.mul_le_mul_of_nonneg_right ht1 (by omega)
          omega
        obtain ⟨hb1, hb3⟩ := hb1
        obtain ⟨hb2, hb4⟩ := hb2
        have hnz : ¬ (n : Int) = 0 := by omega
        have hnz2 : ¬ n = 0 := by omega
        obtain ⟨y1, hy1⟩ : ∃ y, p1.tdiv (n : Int) = y := ⟨_, rfl⟩
        obtain ⟨y2, hy2⟩ : ∃ y, p2.tdiv (n : Int) = y := ⟨_, rfl⟩
        have hd1 : p1 / (n : Int) = y1 := by rw [← hy1, Int.tdiv_eq_ediv_of_nonneg hb1]
        have hd2 : p2 / (n : Int) = y2 := by rw [← hy2, Int.tdiv_eq_ediv_of_nonneg hb2]
        have hy3 : 0 ≤ y1 ∧ y1 ≤ p1 := ⟨by rw [← hd1]; exact Int.ediv_nonneg hb1 (by omega), by rw [← hd1]; exact Int.ediv_le_self _ hb1⟩
        have hy4 : 0 ≤ y2 ∧ y2 ≤ p2 := ⟨by rw [← hd2]; exact Int.ediv_nonneg hb2 (by omega), by rw [← hd2]; exact Int.ediv_le_self _ hb2⟩
        obtain ⟨hy3, hy5⟩ := hy3
        obtain ⟨hy4, hy6⟩ := hy4
        have HSTA := Lib.hid (show cellsI (mpF (staF t n) (k + 1)) = cellsI (mpF (staF t n) k) ++ [.int .i64 (y1 - y2)] by
          rw [mpF_succ, cellsI_app, show staF t n k = y1 - y2 by unfold staF; rw [hp1, hp2, hd1, hd2]]
          rfl)
        have hsz := ((Own.refl wr).alloc (.cells #[.int .i64 (y1 - y2)] 3)).size
        have HSZ := Lib.hid (Nat.le_trans HQ.out.size hsz)
        have hq := HQ.out
        clear hsz hd1 hd2
        have i1 : IntKind.i64.wrap p1 = p1 := IntWalk.i64_in _ (by omega)
        have i2 : IntKind.i64.wrap (k : Int) = (k : Int) := IntWalk.i64_in _ (by omega)
        have i3 : IntKind.i64.wrap p2 = p2 := IntWalk.i64_in _ (by omega)
        have i4 : IntKind.i64.wrap y1 = y1 := IntWalk.i64_in _ (by omega)
        have i5 : IntKind.i64.wrap y2 = y2 := IntWalk.i64_in _ (by omega)
        have i6 : IntKind.i64.wrap (y1 - y2) = y1 - y2 := IntWalk.i64_in _ (by omega)
        go_upto_region 7 with (fail)
        go_region_held3 (fun w' => Own w w') (first | (with_reducible assumption) | (exact Own.drew (by with_reducible assumption)) | (exact Own.alloc (by with_reducible assumption) _) | (exact Own.alloc (Own.drew (by with_reducible assumption)) _) | (exact Own.drew (Own.alloc (by with_reducible assumption) _)))
          ((refine step_append_lies _ (by rfl) _ _ _ (by rfl) w.heap.size 3 ii (.int .i64 0) 1 8 Try.underlying22 HI.out HZ0.out HZ1.out HZ2.out rfl (by omega) _ _ _ (by rfl) ((HROW.out.alloc _).drew) ⟨wr.heap.size, 0, none⟩ 1 1 [.int .i64 (y1 - y2)] (by rfl) (by rfl) (World.news_of_block (cs := #[.int .i64 (y1 - y2)]) (t := 3) (fr := (0, 0)) (heap_alloc_new wr _)) (by simp [Value.oneCell']) (by omega) (by unfold maxLen; omega) (by omega) HSZ.out _ rfl ?_; intro gg cap4 w4 hown hgrow hat hlt4; have q4 : Own w w4 := Own.grown ((hq.alloc _).drew) hgrow (fun jj hj => (HROW.out.lt jj hj).1); have HOWN := Lib.hid hown; clear hown hgrow hat hlt4))
        go_wp2
        go_roundw
        case rel => exact ⟨k + 1, _, _, rfl, by go_num, hlt, q4, by rw [HSTA.out]; exact HOWN.out⟩
        case measure => simp [intOf]; omega
      · obtain rfl : k = n := by omega
        have hkn : ¬ (k : Int) + 1 ≤ k := by omega
        go_wp2
        go_ret2
        exact ⟨_, rfl, by rw [mpF_len]; exact HROW.out, HQ.out⟩
  · have he : staE t n = 1 := if_neg hok
    obtain rfl : 1 = f := he.symm.trans HF.out
    obtain rfl : [] = M := by rw [← HM.out]; unfold staV; rw [he, if_neg (by decide)]
    cases b0 with
    | false =>
      go_enter Try.func14, Try.ntmps14
      go_wp2_with (go_at_call 22; refine hamt.mono ?_; rintro e w1 ⟨rfl, rfl⟩)
      go_ret2
      exact ⟨_, rfl, World.ownsRow_nil _ _ _ _, Own.refl _⟩
    | true =>
      have hc : n < 1 ∨ (¬ n < 1 ∧ 512 < n) := by
        rcases Int.lt_or_le n 1 with h | h
        · exact .inl h
        · exact .inr ⟨by omega, Int.not_le.1 fun q => hok ⟨hb0, h, q⟩⟩
      clear hok
      rcases hc with h | ⟨h, h'⟩
      all_goals
        go_enter Try.func14, Try.ntmps14
        go_wp2_with (go_at_call 22; refine hamt.mono ?_; rintro e w1 ⟨rfl, rfl⟩)
        go_ret2
        exact ⟨_, rfl, World.ownsRow_nil _ _ _ _, Own.refl _⟩
end Go.Proofs.Ytmliajkbknjacaa.ShaW
