/-
  Walks of the program of package build: Scaled. Condition: the table of bounds lies in memory (Tab).
-/
import Derived.Test.YtbmcompnhjbdkaaDoorBuildPC
namespace Go.Proofs.YtbmcompnhjbdkaaDoor.BuiW
open Go.ChangeShapes Go.WideShapes Go.ChangeAt Go.RowKit
open PairW BuiP
open NumP (nearV roundV roundE)
theorem infoB : (Tryd.prog.info? 24).map (·.size) = some 15 := by kernel_rfl
theorem Bx.raw {w : World} {B : Nat} {b : Bl} (h : Bx w B b) : w.heap[B]? = some (.cells #[.int .i64 (b 0), .int .i64 (b 1), .int .i64 (b 2), .int .i64 (b 3), .int .i64 (b 4), .int .i64 (b 5), .int .i64 (b 6), .int .i64 (b 7), .int .i64 (b 8), .int .i64 (b 9), .int .i64 (b 10), .int .i64 (b 11), .int .i64 (b 12), .int .i64 (b 13), .int .i64 (b 14)] 24 (0, 0)) := h
theorem Blk.raw {w : World} {B : Nat} {cs : Array Value} {T : TypeId} (h : Blk w B cs T) : w.heap[B]? = some (.cells cs T (0, 0)) := h
theorem all_cs (b : Bl) : (#[.int .i64 (b 0), .int .i64 (b 1), .int .i64 (b 2), .int .i64 (b 3), .int .i64 (b 4), .int .i64 (b 5), .int .i64 (b 6), .int .i64 (b 7), .int .i64 (b 8), .int .i64 (b 9), .int .i64 (b 10), .int .i64 (b 11), .int .i64 (b 12), .int .i64 (b 13), .int .i64 (b 14)] : Array Value).all (·.oneCell') = true := by simp [Value.oneCell']
/-- A body of nothing. -/
def zcs : Array Value := #[.int .i64 0, .int .i64 0, .int .i64 0, .int .i64 0, .int .i64 0, .int .i64 0, .int .i64 0, .int .i64 0, .int .i64 0, .int .i64 0, .int .i64 0, .int .i64 0, .int .i64 0, .int .i64 0, .int .i64 0]
theorem all_z : zcs.all (·.oneCell') = true := by simp [zcs, Value.oneCell']
/-- A body that lies in memory, as the first result of two. -/
theorem bd_results {fn : Func} {p u : Tmp} (h : fn.results = #[.cell p 24, .tmp u]) {tmps : Array Value} {w : World} {B : Nat} {cs : Array Value} {z : Value} (hp : tmps.getD p undef = .pointer (some ⟨B, 0, none⟩)) (hu : tmps.getD u undef = z) (hb : Blk w B cs 24) (hs : cs.size = 15) :
    (results fn tmps).run Tryd.prog w = .ok (.tuple #[.agg cs, z]) w := by
  rw [results_cell_tmp h, hp, hu]
  simp [asAddr, Result.andThen, run_loadVar_row w B 24 24 cs (0, 0) _ hb Tryd.underlying24 rfl (by rw [hs]; exact infoB)]
/-- A box and a body made behind it. -/
theorem box_bd (w : World) (b : Bl) : ∃ W0, (w.alloc (.cells #[.int .i64 (b 0), .int .i64 (b 1), .int .i64 (b 2), .int .i64 (b 3), .int .i64 (b 4), .int .i64 (b 5), .int .i64 (b 6), .int .i64 (b 7), .int .i64 (b 8), .int .i64 (b 9), .int .i64 (b 10), .int .i64 (b 11), .int .i64 (b 12), .int .i64 (b 13), .int .i64 (b 14)] 24)).alloc (.cells #[.int .i64 0, .int .i64 0, .int .i64 0, .int .i64 0, .int .i64 0, .int .i64 0, .int .i64 0, .int .i64 0, .int .i64 0, .int .i64 0, .int .i64 0, .int .i64 0, .int .i64 0, .int .i64 0, .int .i64 0] 24) = W0 ∧ Bx W0 w.heap.size b ∧ Blk W0 (w.heap.size + 1) zcs 24 ∧ Own w W0 := by
  refine ⟨_, rfl, (Bx.new w b).own ((Own.refl _).alloc _), ?_, ((Own.refl w).alloc _).alloc _⟩
  have := Blk.new (w.alloc (.cells #[.int .i64 (b 0), .int .i64 (b 1), .int .i64 (b 2), .int .i64 (b 3), .int .i64 (b 4), .int .i64 (b 5), .int .i64 (b 6), .int .i64 (b 7), .int .i64 (b 8), .int .i64 (b 9), .int .i64 (b 10), .int .i64 (b 11), .int .i64 (b 12), .int .i64 (b 13), .int .i64 (b 14)] 24)) zcs 24
  rw [show (w.alloc (.cells #[.int .i64 (b 0), .int .i64 (b 1), .int .i64 (b 2), .int .i64 (b 3), .int .i64 (b 4), .int .i64 (b 5), .int .i64 (b 6), .int .i64 (b 7), .int .i64 (b 8), .int .i64 (b 9), .int .i64 (b 10), .int .i64 (b 11), .int .i64 (b 12), .int .i64 (b 13), .int .i64 (b 14)] 24)).heap.size = w.heap.size + 1 by simp] at this
  exact this
/-- The body with its first lengths multiplied. -/
def up (b : Bl) (p : Int) (j : Nat) : Bl := fun i => if i < j then sc1 (b i) p else b i
theorem up_zero (b : Bl) (p : Int) : up b p 0 = b := rfl
theorem up_all (b : Bl) (p : Int) : up b p 11 = scB b p := rfl
theorem up_at (b : Bl) (p : Int) (j : Nat) : up b p j j = b j := if_neg (by omega)
theorem Bx.set {w : World} {B : Nat} {b : Bl} (h : Bx w B b) {i : Nat} (hi : i < 15) (x : Int) : Bx (w.setCell ⟨B, i, none⟩ (.int .i64 x)) B (fun k => if k = i then x else b k) := by
  have := Blk.put h i (.int .i64 x)
  match i, hi with
  | 0, _ => exact this
  | 1, _ => exact this
  | 2, _ => exact this
  | 3, _ => exact this
  | 4, _ => exact this
  | 5, _ => exact this
  | 6, _ => exact this
  | 7, _ => exact this
  | 8, _ => exact this
  | 9, _ => exact this
  | 10, _ => exact this
  | 11, _ => exact this
  | 12, _ => exact this
  | 13, _ => exact this
  | 14, _ => exact this
  | n + 15, h => omega
theorem Bx.step {w : World} {B : Nat} {b : Bl} {p : Int} {j : Nat} (h : Bx w B (up b p j)) (hj : j < 15) : Bx (w.setCell ⟨B, j, none⟩ (.int .i64 (sc1 (b j) p))) B (up b p (j + 1)) := by
  have := h.set hj (sc1 (b j) p)
  have e : (fun k => if k = j then sc1 (b j) p else up b p j k) = up b p (j + 1) := by
    funext k
    unfold up
    by_cases h1 : k = j
    · subst h1
      rw [if_pos rfl, if_pos (by omega)]
    · rw [if_neg h1]
      by_cases h2 : k < j
      · rw [if_pos h2, if_pos (by omega)]
      · rw [if_neg h2, if_neg (by omega)]
  rw [e] at this
  exact this
set_option maxRecDepth 100000 in
set_option maxHeartbeats 2000000 in
theorem pscaled_at (b s : Bl) (p c : Int) (w : World) (HT : Hid (Tab w)) (H : Hid (scV b p = s ∧ scE b p = c)) :
    Calls Tryd.prog 15 #[.agg #[.int .i64 (b 0), .int .i64 (b 1), .int .i64 (b 2), .int .i64 (b 3), .int .i64 (b 4), .int .i64 (b 5), .int .i64 (b 6), .int .i64 (b 7), .int .i64 (b 8), .int .i64 (b 9), .int .i64 (b 10), .int .i64 (b 11), .int .i64 (b 12), .int .i64 (b 13), .int .i64 (b 14)], .int .i64 p] w fun e w' => e = .returned (.tuple #[.agg #[.int .i64 (s 0), .int .i64 (s 1), .int .i64 (s 2), .int .i64 (s 3), .int .i64 (s 4), .int .i64 (s 5), .int .i64 (s 6), .int .i64 (s 7), .int .i64 (s 8), .int .i64 (s 9), .int .i64 (s 10), .int .i64 (s 11), .int .i64 (s 12), .int .i64 (s 13), .int .i64 (s 14)], .int .i64 c]) ∧ Own w w' := by
  obtain ⟨W0, hW, hb, hp, g0⟩ := box_bd w b
  obtain ⟨hs, hc⟩ := H.out
  clear H
  have hB : w.heap.size ≤ w.heap.size + 1 := by omega
  obtain ⟨C, hC⟩ : ∃ C, w.heap.size + 1 = C := ⟨_, rfl⟩
  have HLT := Lib.hid (show w.heap.size < C by omega)
  by_cases ho : Okb b
  · have HC := Lib.hid (chk_yes ho)
    by_cases hk : 500 ≤ p ∧ p ≤ 2000
    · have HL := Lib.hid (show ∀ j, j < 11 → roundV (b j * p) 1000 = sc1 (b j) p ∧ roundE (b j * p) 1000 = 0 from fun j hj => round_sc (len_bd ho.1 hj) hk)
      have HLB := Lib.hid (show ∀ j, j < 11 → 0 ≤ b j * p ∧ b j * p ≤ 3000000 from fun j hj => sc1_bd (len_bd ho.1 hj) hk)
      have x1 : decide (p < 500) = false := decide_eq_false (by omega)
      have x2 : decide (2000 < p) = false := decide_eq_false (by omega)
      obtain ⟨t, ht⟩ : ∃ t : Bl, scB b p = t := ⟨_, rfl⟩
      have HU := Lib.hid (show up b p 11 = t from ht)
      have hcc : chk t = 0 ∧ t = s ∧ c = 0 ∨ chk t = 23 ∧ s = (fun _ => 0) ∧ c = 23 := by
        by_cases hz : Okb t
        · have := sc_yes ho hk (ht ▸ hz)
          exact .inl ⟨chk_yes hz, by rw [← ht, ← this.2, hs], by rw [← hc, this.1]⟩
        · have := sc_no ho hk (ht ▸ hz)
          exact .inr ⟨chk_no hz, by rw [← hs, this.2], by rw [← hc, this.1]⟩
      have HCC := Lib.hid hcc
      clear ho hs hc ht hcc
      obtain ⟨hk0, hk7⟩ := hk
      go_enter Tryd.func15, Tryd.ntmps15
      go_upto_region 1 with (fail)
      rw [hC] at hp hB
      have HP := Lib.hid hp
      have HB := Lib.hid hb
      clear hp hb hW hC
      go_wp2_with (first | (refine wpList_load_row rfl 24 (.tmp 2) rfl w.heap.size rfl 24 _ (0, 0) _ HB.out.raw Tryd.underlying24 rfl infoB ?_) | (go_at_call 11; with_reducible refine (pcheck_at b 0 _ (Lib.hid (HT.out.own g0)) HC).mono ?_; rintro e w1 ⟨rfl, hg⟩; replace g0 : Own w w1 := g0.trans hg; replace HB := Lib.hid (HB.out.own hg); replace HP := Lib.hid (HP.out.own hg); clear hg) | (go_at_call 21; with_reducible refine (plengths_at w.heap.size _).mono ?_; rintro e w2 ⟨rfl, hg⟩; replace g0 : Own w w2 := g0.trans hg; replace HB := Lib.hid (HB.out.own hg); replace HP := Lib.hid (HP.out.own hg); clear hg))
      clear HC
      obtain ⟨D, hD⟩ : ∃ D, w.heap.size = D := ⟨_, rfl⟩
      have hDD : w.heap.size ≤ D := Nat.le_of_eq hD
      have HDC := Lib.hid (show D ≠ C from fun e => by have := HLT.out; omega)
      rw [hD] at HB ⊢
      clear hD
      go_loopw [8, 24] (fun _ vk wr => ∃ j : Nat, vk = .int .i64 (j : Int) ∧ j ≤ 11 ∧ Own w wr ∧ Bx wr D (up b p j) ∧ Blk wr C zcs 24) (fun _ vk _ => 11 - (intOf vk).toNat)
      case atStart => exact ⟨0, rfl, by omega, g0, HB.out, HP.out⟩
      case round =>
        obtain ⟨j, rfl, hj, q, hb, hp⟩ := hrel
        clear HB HP g0
        by_cases hlt : j < 11
        · have hjn : (j : Int) < 11 := by omega
          have ix := idx_ptrs D hlt
          have e0 := hb.at (i := j) (by omega)
          rw [up_at] at e0
          have HR := Lib.hid (HL.out j hlt)
          have h3 := HLB.out j hlt
          have i1 : IntKind.i64.wrap (b j * p) = b j * p := IntWalk.i64_in _ (by omega)
          have HB := Lib.hid (show Bx wr D (up b p j) from hb)
          have HP := Lib.hid hp
          have HS := Lib.hid (fun (W : World) (h : Bx W D (up b p j)) => h.step (j := j) (by omega))
          clear hb hp HL HLB HU HCC HT
          generalize sc1 (b j) p = v at *
          generalize b j = u at *
          go_wp2_with (go_at_call 24; refine (NumW.round_at (u * p) 1000 v 0 _ HR (by omega) (by omega) (by omega) (by omega)).mono ?_; rintro e w3 ⟨rfl, hd⟩; have hg := own_num hd; have q3 : Own w w3 := q.trans hg; replace HB := Lib.hid (HB.out.own hg); replace HP := Lib.hid (HP.out.own hg); replace e0 := hg.cell e0; have f0 : w3.frozen? ⟨D, j, none⟩ = false := Blk.frozen HB.out j; clear hd hg)
          have hb := HS.out _ HB.out
          have hp := HP.out.far (p := ⟨D, j, none⟩) (fun e => HDC.out e.symm) (.int .i64 v)
          have q4 := q3.setCell (p := ⟨D, j, none⟩) hDD (.int .i64 v)
          go_roundw
          case rel => exact ⟨j + 1, by go_num, hlt, q4, hb, hp⟩
          case measure => simp [intOf]; omega
        · obtain rfl : j = 11 := by omega
          rw [HU.out] at hb
          have HB := Lib.hid hb
          have HP := Lib.hid hp
          have g0 := q
          clear hb hp HL HLB HU q hlt hj
          rcases HCC.out with ⟨h1, h2, h3⟩ | ⟨h1, h2, h3⟩
          · subst h2 h3
            have HC := Lib.hid h1
            clear h1 HCC
            go_wp2_with (first | (refine wpList_load_row rfl 24 (.tmp 2) rfl D rfl 24 _ (0, 0) _ HB.out.raw Tryd.underlying24 rfl infoB ?_) | (go_at_call 11; with_reducible refine (pcheck_at t 0 _ (Lib.hid (HT.out.own g0)) HC).mono ?_; rintro e w1 ⟨rfl, hg⟩; replace g0 : Own w w1 := g0.trans hg; replace HB := Lib.hid (HB.out.own hg); replace HP := Lib.hid (HP.out.own hg); clear hg) | (refine wpList_store_row rfl 24 (.tmp 4) (.tmp 45) rfl C #[.int .i64 (t 0), .int .i64 (t 1), .int .i64 (t 2), .int .i64 (t 3), .int .i64 (t 4), .int .i64 (t 5), .int .i64 (t 6), .int .i64 (t 7), .int .i64 (t 8), .int .i64 (t 9), .int .i64 (t 10), .int .i64 (t 11), .int .i64 (t 12), .int .i64 (t 13), .int .i64 (t 14)] rfl rfl 24 _ HP.out.raw infoB rfl (all_cs t) ?_))
            have hp := HP.out.row #[.int .i64 (t 0), .int .i64 (t 1), .int .i64 (t 2), .int .i64 (t 3), .int .i64 (t 4), .int .i64 (t 5), .int .i64 (t 6), .int .i64 (t 7), .int .i64 (t 8), .int .i64 (t 9), .int .i64 (t 10), .int .i64 (t 11), .int .i64 (t 12), .int .i64 (t 13), .int .i64 (t 14)]
            exact bodyPost_ret (bd_results rfl rfl rfl hp rfl) rfl ⟨rfl, own_setRow g0 hB _⟩
          · subst h2 h3
            have HC := Lib.hid h1
            clear h1 HCC
            go_wp2_with (first | (refine wpList_load_row rfl 24 (.tmp 2) rfl D rfl 24 _ (0, 0) _ HB.out.raw Tryd.underlying24 rfl infoB ?_) | (go_at_call 11; with_reducible refine (pcheck_at t 23 _ (Lib.hid (HT.out.own g0)) HC).mono ?_; rintro e w1 ⟨rfl, hg⟩; replace g0 : Own w w1 := g0.trans hg; replace HB := Lib.hid (HB.out.own hg); replace HP := Lib.hid (HP.out.own hg); clear hg) | (refine wpList_store_row rfl 24 (.tmp 4) (.tmp 43) rfl C zcs rfl rfl 24 _ HP.out.raw infoB rfl all_z ?_))
            have hp := HP.out.row zcs
            exact bodyPost_ret (bd_results rfl rfl rfl hp rfl) rfl ⟨rfl, own_setRow g0 hB _⟩
    · obtain ⟨e1, e2⟩ := sc_range ho hk
      obtain rfl := e1.symm.trans hc
      obtain rfl := e2.symm.trans hs
      clear hs hc e1 e2 ho
      by_cases c1 : p < 500
      · clear hk
        go_enter Tryd.func15, Tryd.ntmps15
        go_upto_region 1 with (fail)
        rw [hC] at hp hB
        have HP := Lib.hid hp
        have HB := Lib.hid hb
        clear hp hb hW hC
        go_wp2_with (first | (refine wpList_load_row rfl 24 (.tmp 2) rfl w.heap.size rfl 24 _ (0, 0) _ HB.out.raw Tryd.underlying24 rfl infoB ?_) | (go_at_call 11; with_reducible refine (pcheck_at b 0 _ (Lib.hid (HT.out.own g0)) HC).mono ?_; rintro e w1 ⟨rfl, hg⟩; replace g0 : Own w w1 := g0.trans hg; replace HB := Lib.hid (HB.out.own hg); replace HP := Lib.hid (HP.out.own hg); clear hg) | (refine wpList_store_row rfl 24 (.tmp 4) (.tmp 22) rfl C zcs rfl rfl 24 _ HP.out.raw infoB rfl all_z ?_))
        have hp := HP.out.row zcs
        exact bodyPost_ret (bd_results rfl rfl rfl hp rfl) rfl ⟨rfl, own_setRow g0 hB _⟩
      · have c2 : 2000 < p := by omega
        have d1 : decide (p < 500) = false := decide_eq_false c1
        clear hk
        go_enter Tryd.func15, Tryd.ntmps15
        go_upto_region 1 with (fail)
        rw [hC] at hp hB
        have HP := Lib.hid hp
        have HB := Lib.hid hb
        clear hp hb hW hC
        go_wp2_with (first | (refine wpList_load_row rfl 24 (.tmp 2) rfl w.heap.size rfl 24 _ (0, 0) _ HB.out.raw Tryd.underlying24 rfl infoB ?_) | (go_at_call 11; with_reducible refine (pcheck_at b 0 _ (Lib.hid (HT.out.own g0)) HC).mono ?_; rintro e w1 ⟨rfl, hg⟩; replace g0 : Own w w1 := g0.trans hg; replace HB := Lib.hid (HB.out.own hg); replace HP := Lib.hid (HP.out.own hg); clear hg) | (refine wpList_store_row rfl 24 (.tmp 4) (.tmp 22) rfl C zcs rfl rfl 24 _ HP.out.raw infoB rfl all_z ?_))
        have hp := HP.out.row zcs
        exact bodyPost_ret (bd_results rfl rfl rfl hp rfl) rfl ⟨rfl, own_setRow g0 hB _⟩
  · have HC := Lib.hid (chk_no ho)
    obtain ⟨e1, e2⟩ := sc_bad (p := p) ho
    rw [chk_no ho] at e1
    obtain rfl := e1.symm.trans hc
    obtain rfl := e2.symm.trans hs
    clear hs hc e1 e2 ho
    go_enter Tryd.func15, Tryd.ntmps15
    go_upto_region 1 with (fail)
    rw [hC] at hp hB
    have HP := Lib.hid hp
    have HB := Lib.hid hb
    clear hp hb hW hC
    go_wp2_with (first | (refine wpList_load_row rfl 24 (.tmp 2) rfl w.heap.size rfl 24 _ (0, 0) _ HB.out.raw Tryd.underlying24 rfl infoB ?_) | (go_at_call 11; with_reducible refine (pcheck_at b 23 _ (Lib.hid (HT.out.own g0)) HC).mono ?_; rintro e w1 ⟨rfl, hg⟩; replace g0 : Own w w1 := g0.trans hg; replace HB := Lib.hid (HB.out.own hg); replace HP := Lib.hid (HP.out.own hg); clear hg) | (refine wpList_store_row rfl 24 (.tmp 4) (.tmp 14) rfl C zcs rfl rfl 24 _ HP.out.raw infoB rfl all_z ?_))
    have hp := HP.out.row zcs
    exact bodyPost_ret (bd_results rfl rfl rfl hp rfl) rfl ⟨rfl, own_setRow g0 hB _⟩
end Go.Proofs.YtbmcompnhjbdkaaDoor.BuiW
