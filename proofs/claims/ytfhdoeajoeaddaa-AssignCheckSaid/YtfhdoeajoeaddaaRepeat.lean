/-
  Walks of math/bits.Mul and of slices.Repeat at one integer (-1). Condition: none.
-/
import Derived.Test.YtfhdoeajoeaddaaLists
import Derived.Test.YtfhdoeajoeaddaaBytes
import Derived.Test.YtfhdoeajoeaddaaNumShelf
import Derived.Laws.CopyOwn
import Derived.Deep.RegionLaw
namespace Go.Proofs.Ytfhdoeajoeaddaa.CelW
open Go.ChangeShapes Go.WideShapes Go.ChangeAt Go.RowKit
open PairW
theorem mul1_at (n : Nat) (w : World) (hn : n ≤ 1000) : Calls Try.prog 41 #[.int .u64 1, .int .u64 (n : Int)] w fun e w' => e = .returned (.tuple #[.int .u64 0, .int .u64 (n : Int)]) ∧ w = w' := by
  have h : Calls Try.prog 45 #[.int .u64 1, .int .u64 (n : Int)] w fun e w' => e = .returned (.tuple #[.int .u64 0, .int .u64 (n : Int)]) ∧ w' = w := by
    have := Try.bits_Mul64 1 n (by decide) (by omega) w
    rw [Nat.one_mul, Nat.div_eq_of_lt (by omega), Nat.mod_eq_of_lt (by omega)] at this
    exact this
  have H := Lib.hid h
  clear h
  go_enter Try.func41, Try.ntmps41
  go_wp2_with (go_at_call 45; refine H.out.mono ?_; rintro e w' ⟨rfl, rfl⟩)
  go_ret2
  exact ⟨rfl, rfl⟩
/-- n cells, the first c of them -1. -/
def fillC (n c : Nat) : List Value := List.replicate c (.int .i64 (-1)) ++ List.replicate (n - c) (.int .i64 0)
theorem fillC_len {n c : Nat} (h : c ≤ n) : (fillC n c).length = n := by unfold fillC; rw [List.length_append, List.length_replicate, List.length_replicate]; omega
theorem fillC_end (n : Nat) : fillC n n = cellsI (List.replicate n (-1)) := by unfold fillC cellsI; rw [Nat.sub_self, List.map_replicate]; simp
theorem fillC_splice {n c k : Nat} (h : c + k ≤ n) : splice (fillC n c) c (List.replicate k (.int .i64 (-1))) = fillC n (c + k) := by
  unfold splice fillC
  rw [List.length_replicate, List.take_left' (List.length_replicate ..), List.drop_append, List.drop_of_length_le (by rw [List.length_replicate]; omega), List.length_replicate, List.drop_replicate, List.nil_append, ← List.append_assoc, List.replicate_append_replicate]
  congr 2
  omega
theorem fillC_at {n c j : Nat} (h : j < c) : (fillC n c)[j]? = some (.int .i64 (-1)) := by
  unfold fillC
  rw [List.getElem?_append_left (by rw [List.length_replicate]; exact h), List.getElem?_replicate, if_pos h]
theorem rep_one {k : Nat} {v : Value} (h : v ∈ List.replicate k (Value.int .i64 (-1))) : v.oneCell' = true := by
  rw [(List.mem_replicate.1 h).2]
  rfl
set_option maxRecDepth 100000 in
set_option maxHeartbeats 2000000 in
theorem prep_at (n B : Nat) (w : World) (h0 : w.cell? ⟨B, 0, none⟩ = some (.int .i64 (-1))) (hn : n ≤ 64) :
    Calls Try.prog 32 #[.slice (some ⟨B, 0, none⟩) 1 1, .int .i64 (n : Int)] w fun e w' => ∃ g, e = .returned (.slice (some ⟨g, 0, none⟩) n n) ∧ w'.ownsRow w.heap.size 3 1 (.slice (some ⟨g, 0, none⟩) n n) n (cellsI (List.replicate n (-1))) ∧ Own w w' := by
  obtain ⟨i0, hi, hz0, hz1, hz2⟩ := info_parts (show (Try.prog.info? 3).map (fun i => (i.zero, i.size, i.bytes)) = some (some (.int .i64 0), 1, 8) by kernel_rfl)
  have HI := Lib.hid hi
  have HZ0 := Lib.hid hz0
  have HZ1 := Lib.hid hz1
  have HBY := Lib.hid (show i0.bytes * n ≤ 281474976710656 by rw [hz2]; omega)
  have HMX := Lib.hid (show n ≤ maxLen by unfold maxLen; omega)
  have HZL := Lib.hid (show (madeCells (Value.int .i64 0).cells (n * 1)).toList = fillC n 0 by rw [Nat.mul_one]; show (madeCells #[Value.int .i64 0] n).toList = _; rw [toList_madeCells_one]; unfold fillC; simp)
  clear hi hz0 hz1 hz2
  have hsz : (Try.prog.info? 3).map (·.size) = some 1 := by kernel_rfl
  have HSZ := Lib.hid hsz
  have hu1 : IntKind.u64.wrap (n : Int) = (n : Int) := IntWalk.u64_in _ (by omega)
  have hu2 : IntKind.i64.wrap (n : Int) = (n : Int) := IntWalk.i64_in _ (by omega)
  have d1 : ¬ (9223372036854775807 : Int) < n := by omega
  clear hsz
  go_enter Try.func32, Try.ntmps32
  go_upto_region 7 with (first
    | (go_at_call 41; refine (mul1_at n _ (by omega)).mono ?_; rintro e w1 ⟨rfl, rfl⟩)
    | (at_make; refine wpList_make_full _ rfl _ _ 23 rfl w.heap.size 3 i0 (.int .i64 0) 1 Try.underlying23 HI.out HZ0.out HZ1.out _ _ _ _ n rfl rfl rfl rfl HBY.out HMX.out (Nat.le_refl _) ?_; intro w3 hown3 hg3; have q3 := (Own.refl w).grown hg3 (by simp); have HR3 := Lib.hid (show w3.ownsRow w.heap.size 3 1 (.slice (some ⟨w.heap.size, 0, none⟩) n n) n (fillC n 0) from HZL.out ▸ hown3); have HG3 := Lib.hid hg3; clear hown3 hg3))
  have hblk : w3.heap[w.heap.size]? = some (.cells (fillC n 0).toArray 3 (0, 0)) := by
    rcases HR3.out.2 with ⟨h, _⟩ | ⟨g', cap, cur, h1, _, h3, _, _, h6, h7⟩
    · cases h
    · injection h1 with e1 _ e3
      injection e1 with e1
      injection e1 with e1
      subst e1
      subst e3
      rw [Nat.mul_one] at h6 h7
      rw [List.take_of_length_le (by rw [Array.length_toList, h6]; exact Nat.le_refl _)] at h7
      rw [h3, ← h7]
  have HB3 := Lib.hid (show Below w.heap.size w w3 from ⟨HG3.out.os, HG3.out.tape, HG3.out.output, HG3.out.size, fun k hk => HG3.out.block k hk (by simp)⟩)
  have HBL := Lib.hid hblk
  have HH0 := Lib.hid (q3.cell h0)
  have HFS := Lib.hid (fun c k (h : c + k ≤ n) => fillC_splice (n := n) (c := c) (k := k) h)
  obtain ⟨g, hgg⟩ : ∃ g, w.heap.size = g := ⟨_, rfl⟩
  have HGG := Lib.hid hgg
  rw [hgg] at HB3 HBL ⊢
  obtain ⟨b, hb⟩ : ∃ b, min 1 n = b := ⟨_, rfl⟩
  have HB := Lib.hid hb
  have HMIN := Lib.hid (show (List.replicate b (Value.int .i64 (-1))).length = Nat.min 1 n by rw [List.length_replicate, ← hb])
  have hbn : b ≤ n := by omega
  have hb1 : b ≤ 1 := by omega
  have HFIT := Lib.hid (show 0 + (List.replicate b (Value.int .i64 (-1))).length ≤ (fillC n 0).length by rw [List.length_replicate, fillC_len (Nat.zero_le _)]; omega)
  have HPOS := Lib.hid (show 0 < (List.replicate b (Value.int .i64 (-1))).length → some (⟨g, 0, none⟩ : Addr) = some ⟨g, 0, none⟩ ∧ ∃ ad, some (⟨B, 0, none⟩ : Addr) = some ad ∧ ∀ j v, (List.replicate b (Value.int .i64 (-1)))[j]? = some v → w3.cell? (ad.add j) = some v from fun _ => ⟨rfl, _, rfl, fun j v hj => by
    rw [List.getElem?_replicate] at hj
    split at hj
    · injection hj with hj
      have e : j = 0 := by omega
      subst e
      rw [← hj]
      exact HH0.out
    · cases hj⟩)
  have HBE := Lib.hid (show 0 < n → 0 < b by omega)
  clear hgg hb hblk q3 h0 HG3 HR3
  go_wp2_with (with_reducible refine wpList_copy_splice rfl _ _ 23 23 rfl 3 Try.underlying23 HSZ.out (some ⟨g, 0, none⟩) (some ⟨B, 0, none⟩) n n 1 1 rfl rfl g 0 (fillC n 0) 3 HBL.out (List.replicate b (.int .i64 (-1))) HMIN.out HPOS.out HFIT.out (fun v hv => rep_one hv) g w HB3.out (Nat.le_refl _) ?_; intro w4 hw4 hb4)
  have HB4 := Lib.hid (show w4.heap[g]? = some (.cells (fillC n b).toArray 3 (0, 0)) from by
    have h1 : w4.heap[g]? = some (.cells (splice (fillC n 0) 0 (List.replicate b (.int .i64 (-1)))).toArray 3 (0, 0)) := hw4
    rw [HFS.out 0 b (by omega), Nat.zero_add] at h1
    exact h1)
  clear hw4 HPOS
  (try rw [List.length_replicate])
  go_loopw [8] (fun vc wr => ∃ c : Nat, vc = .int .i64 (c : Int) ∧ c ≤ n ∧ (0 < n → 0 < c) ∧ Below g w wr ∧ wr.heap[g]? = some (.cells (fillC n c).toArray 3 (0, 0))) (fun vc _ => n - (intOf vc).toNat)
  case atStart => exact ⟨b, rfl, hbn, HBE.out, hb4, HB4.out⟩
  case round =>
    obtain ⟨c, rfl, hc, hc0, hbl, hblk⟩ := hrel
    have HBLK := Lib.hid hblk
    clear hblk HB4 hb4
    by_cases hlt : c < n
    · have hcn : (c : Int) < n := by omega
      obtain ⟨k, hk⟩ : ∃ k, min c (n - c) = k := ⟨_, rfl⟩
      have HMIN2 := Lib.hid (show (List.replicate k (Value.int .i64 (-1))).length = Nat.min c (n - c) by rw [List.length_replicate, ← hk])
      have hkn : c + k ≤ n := by omega
      have hkc : k ≤ c := by omega
      have hk0 : 0 < k := by have := hc0 (by omega); omega
      have HFIT2 := Lib.hid (show c + (List.replicate k (Value.int .i64 (-1))).length ≤ (fillC n c).length by rw [List.length_replicate, fillC_len hc]; omega)
      have HPOS2 := Lib.hid (fun (wx : World) (hx : wx.heap[g]? = some (.cells (fillC n c).toArray 3 (0, 0))) => show 0 < (List.replicate k (Value.int .i64 (-1))).length → some (⟨g, c, none⟩ : Addr) = some ⟨g, c, none⟩ ∧ ∃ ad, some (⟨g, 0, none⟩ : Addr) = some ad ∧ ∀ j v, (List.replicate k (Value.int .i64 (-1)))[j]? = some v → wx.cell? (ad.add j) = some v from fun _ => ⟨rfl, _, rfl, fun j v hj => by
        rw [List.getElem?_replicate] at hj
        split at hj
        · rename_i hjk
          injection hj with hj
          rw [Addr.add_lit, Nat.zero_add, cell_of_row wx g j _ _ _ hx, ← hj]
          simpa using fillC_at (n := n) (show j < c by omega)
        · cases hj⟩)
      have HNEW := Lib.hid (HFS.out c k hkn)
      have i1 : IntKind.i64.wrap ((c : Int) + k) = (c : Int) + k := IntWalk.i64_in _ (by omega)
      clear hk hc0
      go_upto_region 9 with (fail)
      have HBD := Lib.hid (show Below g w wr.drew from hbl.drew)
      have HBLD := Lib.hid (show wr.drew.heap[g]? = some (.cells (fillC n c).toArray 3 (0, 0)) from HBLK.out)
      have HPD := Lib.hid (HPOS2.out wr.drew HBLD.out)
      have hnc : ¬ n = c := by omega
      clear HPOS2
      go_region_law (refine step_copy_splice rfl (.tmp 41) (.tmp 44) 23 23 rfl 3 Try.underlying23 HSZ.out (some ⟨g, c, none⟩) (some ⟨g, 0, none⟩) (n - c) (n - c) c n (by simp [Act.eval, Act.put]) (by simp [Act.eval, Act.put]) g c (fillC n c) 3 HBLD.out (List.replicate k (.int .i64 (-1))) HMIN2.out HPD.out HFIT2.out (fun v hv => rep_one hv) g w HBD.out (Nat.le_refl _) ?_; intro w5 hw5 hb5)
      all_goals
        have HW5 := Lib.hid (show w5.heap[g]? = some (.cells (fillC n (c + k)).toArray 3 (0, 0)) from by
          have h1 : w5.heap[g]? = some (.cells (splice (fillC n c) c (List.replicate k (.int .i64 (-1)))).toArray 3 (0, 0)) := hw5
          rw [HNEW.out] at h1
          exact h1)
        clear hw5
        go_wp2
        go_roundw
        case rel => exact ⟨c + k, by omega, hkn, fun _ => by omega, HW5.out⟩
        case measure => simp [intOf]; omega
    · obtain rfl : c = n := by omega
      go_wp2
      go_ret
      refine ⟨g, rfl, ⟨by rw [cellsI_len, List.length_replicate, Nat.mul_one], .inr ⟨g, c, _, rfl, Nat.le_of_eq HGG.out, HBLK.out, Nat.le_refl _, HMX.out, ?_, ?_⟩⟩, ?_⟩
      · rw [List.size_toArray, fillC_len (Nat.le_refl _), Nat.mul_one]
      · show (fillC c c).take (c * 1) = _
        rw [Nat.mul_one, List.take_of_length_le (by rw [fillC_len (Nat.le_refl _)]; exact Nat.le_refl _), fillC_end]
      · have hbl : Below w.heap.size w wr := by rw [HGG.out]; exact hbl
        exact Own.of_below hbl
end Go.Proofs.Ytfhdoeajoeaddaa.CelW
