/-
  Walks of the program of package build: lengths, Check. Condition: the table of bounds lies in memory (Tab).
-/
import Derived.Test.YtighpjhipgobiaaDoorBuildMem
import Derived.Laws.Tables
import Derived.Laws.Rows
namespace Go.Proofs.YtighpjhipgobiaaDoor.BuiW
open Go.ChangeShapes Go.WideShapes Go.ChangeAt Go.RowKit
open PairW BuiP
theorem own_setRow {a w : World} (h : Own a w) {B : Nat} (hB : a.heap.size ≤ B) (cs : Array Value) : Own a (w.setRow B cs) := by
  refine ⟨h.os, h.output, by simpa [World.setRow] using h.size, fun k hk => ?_⟩
  rw [← h.block k hk]
  unfold World.setRow
  simp only [Array.getElem?_modify]
  rw [if_neg (by omega)]
theorem Blk.row {w : World} {B : Nat} {cs : Array Value} {T : TypeId} (h : Blk w B cs T) (cs' : Array Value) : Blk (w.setRow B cs') B cs' T := by
  unfold Blk at h ⊢
  unfold World.setRow
  rw [Array.getElem?_modify, if_pos rfl, h]
  rfl
theorem Blk.rowfar {w : World} {B C : Nat} {cs : Array Value} {T : TypeId} (h : Blk w B cs T) (hc : B ≠ C) (cs' : Array Value) : Blk (w.setRow C cs') B cs T := by
  unfold Blk at h ⊢
  unfold World.setRow
  rw [Array.getElem?_modify, if_neg (fun e => hc e.symm), h]
theorem info11 : (Tryd.prog.info? 82).map (·.size) = some 11 := by kernel_rfl
/-- The pointers to the lengths of a body. -/
def ptrs (B : Nat) : Array Value := #[.pointer (some ⟨B, 0, none⟩), .pointer (some ⟨B, 1, none⟩), .pointer (some ⟨B, 2, none⟩), .pointer (some ⟨B, 3, none⟩), .pointer (some ⟨B, 4, none⟩), .pointer (some ⟨B, 5, none⟩), .pointer (some ⟨B, 6, none⟩), .pointer (some ⟨B, 7, none⟩), .pointer (some ⟨B, 8, none⟩), .pointer (some ⟨B, 9, none⟩), .pointer (some ⟨B, 10, none⟩)]
theorem ptrs_at (B : Nat) {k : Nat} (hk : k < 11) : (ptrs B)[k]? = some (.pointer (some ⟨B, k, none⟩)) := by
  match k, hk with
  | 0, _ => rfl
  | 1, _ => rfl
  | 2, _ => rfl
  | 3, _ => rfl
  | 4, _ => rfl
  | 5, _ => rfl
  | 6, _ => rfl
  | 7, _ => rfl
  | 8, _ => rfl
  | 9, _ => rfl
  | 10, _ => rfl
  | n + 11, h => omega
theorem ptrs_size (B : Nat) : (ptrs B).size = 11 := rfl
set_option maxRecDepth 100000 in
theorem plengths_at (B : Nat) (w : World) :
    Calls Tryd.prog 41 #[.pointer (some ⟨B, 0, none⟩)] w fun e w' => e = .returned (.agg (ptrs B)) ∧ Own w w' := by
  go_enter Tryd.func41, Tryd.ntmps41
  go_upto_region 1 with (fail)
  go_still_tail 34, (by kernel_rfl)
  change wpList _ _ _ _ _ (World.alloc w.drew _)
  have q0 : Own w w.drew := (Own.refl w).drew
  rw [show w.heap.size = w.drew.heap.size from rfl]
  generalize w.drew = w2 at *
  have hb := Blk.new w2 #[.pointer none, .pointer none, .pointer none, .pointer none, .pointer none, .pointer none, .pointer none, .pointer none, .pointer none, .pointer none, .pointer none] 82
  have q1 := q0.alloc (.cells #[.pointer none, .pointer none, .pointer none, .pointer none, .pointer none, .pointer none, .pointer none, .pointer none, .pointer none, .pointer none, .pointer none] 82)
  have hs : w.heap.size ≤ w2.heap.size := q0.size
  refine wpList_store_row rfl _ _ _ rfl w2.heap.size (ptrs B) rfl rfl 82 _ hb info11 rfl (by simp [ptrs, Value.oneCell']) ?_
  generalize hW : (w2.alloc _).setRow _ _ = W
  have hc : Blk W w2.heap.size (ptrs B) 82 := hW ▸ hb.row _
  have q2 : Own w W := hW ▸ own_setRow q1 hs _
  clear hW
  go_wp2
  exact bodyPost_ret (results_cell_row rfl _ _ w2.heap.size 82 _ (0, 0) _ rfl hc Tryd.underlying82 rfl info11) rfl ⟨rfl, q2⟩
/-- The table of bounds in memory. -/
structure Tab (w : World) : Prop where
  lo : ∀ k, k < 11 → w.cell? ⟨0, k * 2, none⟩ = some (.int .i64 (BuiP.lo k))
  hi : ∀ k, k < 11 → w.cell? ⟨0, k * 2 + 1, none⟩ = some (.int .i64 (BuiP.hi k))
theorem Tab.own {w w' : World} (h : Tab w) (hg : Own w w') : Tab w' := ⟨fun k hk => hg.cell (h.lo k hk), fun k hk => hg.cell (h.hi k hk)⟩
theorem index_arr {P : Program} {t e : TypeId} {n : Nat} {A : Array Value} {k : Nat} {v : Value} (hu : P.underlying t = some (.array n e)) (hs : ∀ w, (sizeOf e).run P w = .ok 1 w) (hg : ∀ w, (isAgg e).run P w = .ok false w) (hk : k < n) (hv : A[k]? = some v) (w : World) :
    (Instr.index t (.agg A) (.int .i64 (k : Int))).run P w = .ok v w := by
  have h1 : (0 : Int) ≤ k ∧ (k : Int) < n := by omega
  simp [Instr.index, run_underlying hu, asIntOf, h1, part, go_sem, hs, hg, hv]
  intro h
  omega
theorem idx_ptrs (B : Nat) {k : Nat} (hk : k < 11) (w : World) : (Instr.index 82 (.agg (ptrs B)) (.int .i64 (k : Int))).run Tryd.prog w = .ok (.pointer (some ⟨B, k, none⟩)) w :=
  index_arr Tryd.underlying82 (fun w => by go_simp) (fun w => by go_simp) hk (ptrs_at B hk) w
/-- The masses of a body, as an array. -/
def mss (b : Bl) : Array Value := #[.int .i64 (b 11), .int .i64 (b 12), .int .i64 (b 13), .int .i64 (b 14)]
theorem mss_at (b : Bl) {k : Nat} (hk : k < 4) : (mss b)[k]? = some (.int .i64 (b (11 + k))) := by
  match k, hk with
  | 0, _ => rfl
  | 1, _ => rfl
  | 2, _ => rfl
  | 3, _ => rfl
  | n + 4, h => omega
theorem idx_mss (b : Bl) {k : Nat} (hk : k < 4) (w : World) : (Instr.index 22 (.agg (mss b)) (.int .i64 (k : Int))).run Tryd.prog w = .ok (.int .i64 (b (11 + k))) w :=
  index_arr Tryd.underlying22 (fun w => by go_simp) (fun w => by go_simp) hk (mss_at b hk) w
set_option maxRecDepth 100000 in
theorem pcheck_at (b : Bl) (c : Int) (w : World) (HT : Hid (Tab w)) (H : Hid (chk b = c)) :
    Calls Tryd.prog 17 #[.agg #[.int .i64 (b 0), .int .i64 (b 1), .int .i64 (b 2), .int .i64 (b 3), .int .i64 (b 4), .int .i64 (b 5), .int .i64 (b 6), .int .i64 (b 7), .int .i64 (b 8), .int .i64 (b 9), .int .i64 (b 10), .int .i64 (b 11), .int .i64 (b 12), .int .i64 (b 13), .int .i64 (b 14)]] w fun e w' => e = .returned (.int .i64 c) ∧ Own w w' := by
  have hb := Bx.new w b
  have g0 : Own w (w.alloc (.cells #[.int .i64 (b 0), .int .i64 (b 1), .int .i64 (b 2), .int .i64 (b 3), .int .i64 (b 4), .int .i64 (b 5), .int .i64 (b 6), .int .i64 (b 7), .int .i64 (b 8), .int .i64 (b 9), .int .i64 (b 10), .int .i64 (b 11), .int .i64 (b 12), .int .i64 (b 13), .int .i64 (b 14)] 24)) := (Own.refl w).alloc _
  go_enter Tryd.func17, Tryd.ntmps17
  go_upto_region 1 with (fail)
  generalize w.alloc (.cells #[.int .i64 (b 0), .int .i64 (b 1), .int .i64 (b 2), .int .i64 (b 3), .int .i64 (b 4), .int .i64 (b 5), .int .i64 (b 6), .int .i64 (b 7), .int .i64 (b 8), .int .i64 (b 9), .int .i64 (b 10), .int .i64 (b 11), .int .i64 (b 12), .int .i64 (b 13), .int .i64 (b 14)] 24) = W0 at *
  generalize w.heap.size = B at *
  have HB := Lib.hid hb
  clear hb
  go_wp2_with (go_at_call 41; with_reducible refine (plengths_at B _).mono ?_; rintro e w1 ⟨rfl, hg⟩; replace HB := Lib.hid (HB.out.own hg); replace g0 : Own w w1 := g0.trans hg; clear hg)
  go_loopw [3, 4, 8] (fun vi vp vk wr => ∃ k : Nat, vk = .int .i64 (k : Int) ∧ k ≤ 11 ∧ (∀ i, i < k → lo i ≤ b i ∧ b i ≤ BuiP.hi i) ∧ Own w1 wr) (fun _ _ vk _ => 11 - (intOf vk).toNat)
  case atStart => exact ⟨0, rfl, by omega, fun i hi => absurd hi (by omega), Own.refl _⟩
  case round =>
    obtain ⟨k, rfl, hk, hok, q⟩ := hrel
    by_cases hlt : k < 11
    · have e0 := (HB.out.own q).at (i := k) (by omega)
      have ht := HT.out.own (g0.trans q)
      have e1 := ht.lo k hlt
      have e2 := ht.hi k hlt
      have hbad := bad_len (b := b) hlt
      have hgood := fun (h : lo k ≤ b k ∧ b k ≤ BuiP.hi k) => Lib.hid (show ∀ i, i < k + 1 → lo i ≤ b i ∧ b i ≤ BuiP.hi i from fun i hi => (Nat.lt_succ_iff_lt_or_eq.1 hi).elim (hok i) (fun e => e ▸ h))
      have ix := idx_ptrs B hlt
      have hkn : (k : Int) < 11 := by omega
      clear ht hok
      by_cases c1 : b k < lo k
      · have hc := hbad (.inl c1)
        rw [H.out] at hc
        subst hc
        clear hbad hgood H HB HT
        generalize b k = x at *
        generalize lo k = l at *
        generalize BuiP.hi k = h at *
        go_upto_region 4 with (fail)
        go_quiet (fail)
        go_wp2
        go_ret
        exact ⟨rfl, (g0.trans q).drewN _⟩
      · have d1 : decide (b k < lo k) = false := decide_eq_false c1
        by_cases c2 : BuiP.hi k < b k
        · have hc := hbad (.inr c2)
          rw [H.out] at hc
          subst hc
          clear hbad hgood H HB HT c1
          generalize b k = x at *
          generalize lo k = l at *
          generalize BuiP.hi k = h at *
          go_upto_region 4 with (fail)
          go_quiet (fail)
          go_wp2
          go_ret
          exact ⟨rfl, (g0.trans q).drewN _⟩
        · have HG := hgood ⟨by omega, by omega⟩
          have d2 : decide (BuiP.hi k < b k) = false := decide_eq_false c2
          clear hbad hgood H c1 c2
          generalize hx : b k = x at e0 d1 d2
          generalize hl : lo k = l at e1 d1
          generalize hh : BuiP.hi k = h at e2 d2
          clear hx hl hh
          go_upto_region 4 with (fail)
          go_quiet (fail)
          go_wp2
          go_roundw
          case rel => exact ⟨k + 1, by go_num, hlt, HG.out, q.drewN _⟩
          case measure => simp [intOf]; omega
    · obtain rfl : k = 11 := by omega
      have HL := Lib.hid (show Lns b from hok)
      have hc := (HB.out.own q).cells
      have g1 := g0.trans q
      clear hok q hlt hk HB
      obtain ⟨-, -, -, -, -, -, -, -, -, -, -, m0, m1, m2, m3⟩ := hc
      have HX := Lib.hid (show (#[.int .i64 (b 11), .int .i64 (b 12), .int .i64 (b 13), .int .i64 (b 14)] : Array Value) = mss b from rfl)
      go_upto_region 8 with (fail)
      rw [HX.out]
      clear HX m0 m1 m2 m3
      go_loopw [6, 33] (fun vm vk wx => wr = wx ∧ ∃ k : Nat, vk = .int .i64 (k : Int) ∧ k ≤ 4 ∧ (∀ i, i < k → 1 ≤ b (11 + i) ∧ b (11 + i) ≤ 200000)) (fun _ vk _ => 4 - (intOf vk).toNat)
      case atStart => exact ⟨rfl, 0, rfl, by omega, fun i hi => absurd hi (by omega)⟩
      case round =>
        obtain ⟨rfl, k, rfl, hk, hok⟩ := hrel
        by_cases hlt : k < 4
        · have hbad := bad_mass (b := b) hlt
          have hgood := fun (h : 1 ≤ b (11 + k) ∧ b (11 + k) ≤ 200000) => Lib.hid (show ∀ i, i < k + 1 → 1 ≤ b (11 + i) ∧ b (11 + i) ≤ 200000 from fun i hi => (Nat.lt_succ_iff_lt_or_eq.1 hi).elim (hok i) (fun e => e ▸ h))
          have ix := idx_mss b hlt
          have hkn : (k : Int) < 4 := by omega
          clear hok
          by_cases c1 : b (11 + k) < 1
          · have hc := hbad (.inl c1)
            rw [H.out] at hc
            subst hc
            clear hbad hgood H HT HL
            generalize b (11 + k) = x at *
            go_wp2
            go_ret
            exact ⟨rfl, g1⟩
          · have d1 : decide (b (11 + k) < 1) = false := decide_eq_false c1
            by_cases c2 : 200000 < b (11 + k)
            · have hc := hbad (.inr c2)
              rw [H.out] at hc
              subst hc
              clear hbad hgood H HT HL
              generalize b (11 + k) = x at *
              go_wp2
              go_ret
              exact ⟨rfl, g1⟩
            · have HG := hgood ⟨by omega, by omega⟩
              have d2 : decide (200000 < b (11 + k)) = false := decide_eq_false c2
              clear hbad hgood H
              generalize hx : b (11 + k) = x at ix d1 d2 c1 c2
              clear hx
              go_wp2
              go_roundw
              case rel => exact ⟨trivial, k + 1, by go_num, hlt, HG.out⟩
              case measure => simp [intOf]; omega
        · obtain rfl : k = 4 := by omega
          have hc := H.out.symm.trans (chk_yes ⟨HL.out, hok⟩)
          subst hc
          clear hok
          go_wp2
          go_ret
          exact ⟨rfl, g1⟩
end Go.Proofs.YtighpjhipgobiaaDoor.BuiW
