/-
  Walks of the specification of layer build: Step. Condition: none.
-/
import Derived.Test.YtbmcompnhjbdkaaDoorBuildPD
import Derived.Test.YtbmcompnhjbdkaaDoorNumE
namespace Go.Proofs.YtbmcompnhjbdkaaDoor.BuiW
open Go.ChangeShapes Go.WideShapes Go.ChangeAt Go.RowKit
open PairW BuiP
open NumP (nearV roundV roundE)
theorem rround_at (a b v f : Int) (w : World) (H : Hid (roundV a b = v ∧ roundE a b = f)) :
    Calls Tryd.prog 25 #[.int .i64 a, .int .i64 b] w fun e w' => e = .returned (.tuple #[.int .i64 v, .int .i64 f]) ∧ Own w w' := by
  obtain ⟨rfl, rfl⟩ := H.out
  exact (NumW.rround_any a b w).mono fun e w' h => ⟨h.1, own_num h.2⟩
/-- All steps, as the specification lays them. -/
def alls (s h : Int) : Array Value := #[.int .i64 0, .int .i64 s, .int .i64 h, .int .i64 h, .int .i64 s, .int .i64 0, .int .i64 h, .int .i64 (-h), .int .i64 0, .int .i64 (-s), .int .i64 (-h), .int .i64 (-h), .int .i64 (-s), .int .i64 0, .int .i64 (-h), .int .i64 h]
theorem alls_at (s h : Int) {k : Nat} (hk : k < 8) : (alls s h)[k * 2]? = some (.int .i64 (stX s h k)) ∧ (alls s h)[k * 2 + 1]? = some (.int .i64 (stY s h k)) := by
  match k, hk with
  | 0, _ => exact ⟨rfl, rfl⟩
  | 1, _ => exact ⟨rfl, rfl⟩
  | 2, _ => exact ⟨rfl, rfl⟩
  | 3, _ => exact ⟨rfl, rfl⟩
  | 4, _ => exact ⟨rfl, rfl⟩
  | 5, _ => exact ⟨rfl, rfl⟩
  | 6, _ => exact ⟨rfl, rfl⟩
  | 7, _ => exact ⟨rfl, rfl⟩
  | n + 8, h => omega
set_option maxRecDepth 100000 in
set_option maxHeartbeats 2000000 in
theorem rstep_at (b : Bl) (k x y c : Int) (w : World) (H : Hid (stpX b k = x ∧ stpY b k = y ∧ stpE b k = c)) :
    Calls Tryd.prog 16 #[.agg #[.int .i64 (b 0), .int .i64 (b 1), .int .i64 (b 2), .int .i64 (b 3), .int .i64 (b 4), .int .i64 (b 5), .int .i64 (b 6), .int .i64 (b 7), .int .i64 (b 8), .int .i64 (b 9), .int .i64 (b 10), .int .i64 (b 11), .int .i64 (b 12), .int .i64 (b 13), .int .i64 (b 14)], .int .i64 k] w fun e w' => e = .returned (.tuple #[.agg #[.int .i64 x, .int .i64 y], .int .i64 c]) ∧ Own w w' := by
  obtain ⟨W0, hW, hb, hp, g0⟩ := box_pt w b
  obtain ⟨hx, hy, hc⟩ := H.out
  clear H
  have hB : w.heap.size ≤ w.heap.size + 1 := by omega
  obtain ⟨C, hC⟩ : ∃ C, w.heap.size + 1 = C := ⟨_, rfl⟩
  by_cases ho : Okb b
  · have HC := Lib.hid (chk_yes ho)
    by_cases hk : 0 ≤ k ∧ k ≤ 7
    · obtain ⟨n, rfl⟩ : ∃ n : Nat, k = (n : Int) := ⟨k.toNat, by omega⟩
      have hn : n < 8 := by omega
      obtain ⟨e1, e2, e3⟩ := stp_ok ho hn
      obtain rfl := e1.symm.trans hc
      have hs := step_bd ho
      have hh := hf_nice hs
      have HR := Lib.hid (round_hf hs)
      rw [e2] at hx
      rw [e3] at hy
      have HXY := Lib.hid (And.intro hx hy)
      clear hx hy hc e1 e2 e3 ho
      have hh1 := hh.2.2
      clear hh
      have x1 : decide ((n : Int) < 0) = false := decide_eq_false (by omega)
      have x2 : decide (7 < (n : Int)) = false := decide_eq_false (by omega)
      have x3 : (n : Int) < 8 := by omega
      go_enter Tryd.func16, Tryd.ntmps16
      go_upto_region 1 with (fail)
      rw [hC] at hp hB
      have HP := Lib.hid hp
      have HB := Lib.hid hb
      clear hp hb hW hC
      go_upto_region 6 with (first | (refine wpList_load_row rfl 24 (.tmp 2) rfl w.heap.size rfl 24 _ (0, 0) _ HB.out.raw Tryd.underlying24 rfl infoB ?_) | (go_at_call 10; with_reducible refine (rcheck_at b 0 _ HC).mono ?_; rintro e w1 ⟨rfl, hg⟩; replace g0 : Own w w1 := g0.trans hg; replace HB := Lib.hid (HB.out.own hg); replace HP := Lib.hid (HP.out.own hg); clear hg))
      have k6 : w1.cell? ⟨w.heap.size, 6, none⟩ = some (.int .i64 (b 6)) := HB.out.at (by omega)
      generalize b 6 = s at *
      generalize hf s = h at *
      have i1 : IntKind.i64.wrap (s * 11585) = s * 11585 := IntWalk.i64_in _ (by omega)
      have i2 : wrap64 (-s) = -s := by unfold wrap64; omega
      have i3 : wrap64 (-h) = -h := by unfold wrap64; omega
      clear HB
      go_upto_region 9 with (go_at_call 25; with_reducible refine (rround_at _ _ h 0 _ HR).mono ?_; rintro e w2 ⟨rfl, hg⟩; replace g0 : Own w w2 := g0.trans hg; replace HP := Lib.hid (HP.out.own hg); clear hg k6)
      obtain ⟨G, hG⟩ : ∃ G, w2.heap.size = G := ⟨_, rfl⟩
      have hall : Blk (w2.alloc (.cells (alls s h) 29)) G (alls s h) 29 := hG ▸ Blk.new w2 _ _
      have a0 := (hall.cell (n * 2)).trans (alls_at s h hn).1
      have a1 := (hall.cell (n * 2 + 1)).trans (alls_at s h hn).2
      rw [HXY.out.1] at a0
      rw [HXY.out.2] at a1
      replace HP := Lib.hid (HP.out.own ((Own.refl w2).alloc (.cells (alls s h) 29)))
      replace g0 := g0.alloc (.cells (alls s h) 29)
      clear hall HXY HR hn
      rw [hG]
      unfold alls at a0 a1 HP g0
      generalize w2.alloc (.cells #[.int .i64 0, .int .i64 s, .int .i64 h, .int .i64 h, .int .i64 s, .int .i64 0, .int .i64 h, .int .i64 (-h), .int .i64 0, .int .i64 (-s), .int .i64 (-h), .int .i64 (-h), .int .i64 (-s), .int .i64 0, .int .i64 (-h), .int .i64 h] 29) = W3 at *
      clear hG i1 i2 i3
      have p0 := HP.out.cell 0
      have p1 := HP.out.cell 1
      have f0 := HP.out.frozen 0
      have f1 := HP.out.frozen 1
      simp only [List.getElem?_toArray, List.getElem?_cons_zero, List.getElem?_cons_succ] at p0 p1
      go_wp2
      have hp := HP.out.pt (.int .i64 x) (.int .i64 y)
      exact bodyPost_ret (pt_results rfl rfl rfl hp) rfl ⟨rfl, own_pt g0 hB (.int .i64 x) (.int .i64 y)⟩
    · obtain ⟨e1, e2, e3⟩ := stp_range ho hk
      obtain rfl := e1.symm.trans hc
      obtain rfl := e2.symm.trans hx
      obtain rfl := e3.symm.trans hy
      clear hx hy hc e1 e2 e3 ho
      by_cases c1 : k < 0
      · clear hk
        go_enter Tryd.func16, Tryd.ntmps16
        go_upto_region 1 with (fail)
        rw [hC] at hp hB
        have HP := Lib.hid hp
        have HB := Lib.hid hb
        clear hp hb hW hC
        go_wp2_with (first | (refine wpList_load_row rfl 24 (.tmp 2) rfl w.heap.size rfl 24 _ (0, 0) _ HB.out.raw Tryd.underlying24 rfl infoB ?_) | (go_at_call 10; with_reducible refine (rcheck_at b 0 _ HC).mono ?_; rintro e w1 ⟨rfl, hg⟩; replace g0 : Own w w1 := g0.trans hg; replace HB := Lib.hid (HB.out.own hg); replace HP := Lib.hid (HP.out.own hg); clear hg; have p0 := HP.out.cell 0; have p1 := HP.out.cell 1; have f0 := HP.out.frozen 0; have f1 := HP.out.frozen 1; simp only [List.getElem?_toArray, List.getElem?_cons_zero, List.getElem?_cons_succ] at p0 p1))
        have hp := HP.out.pt (.int .i64 0) (.int .i64 0)
        exact bodyPost_ret (pt_results rfl rfl rfl hp) rfl ⟨rfl, own_pt g0 hB (.int .i64 0) (.int .i64 0)⟩
      · have c2 : 7 < k := by omega
        have d1 : decide (k < 0) = false := decide_eq_false c1
        clear hk
        go_enter Tryd.func16, Tryd.ntmps16
        go_upto_region 1 with (fail)
        rw [hC] at hp hB
        have HP := Lib.hid hp
        have HB := Lib.hid hb
        clear hp hb hW hC
        go_wp2_with (first | (refine wpList_load_row rfl 24 (.tmp 2) rfl w.heap.size rfl 24 _ (0, 0) _ HB.out.raw Tryd.underlying24 rfl infoB ?_) | (go_at_call 10; with_reducible refine (rcheck_at b 0 _ HC).mono ?_; rintro e w1 ⟨rfl, hg⟩; replace g0 : Own w w1 := g0.trans hg; replace HB := Lib.hid (HB.out.own hg); replace HP := Lib.hid (HP.out.own hg); clear hg; have p0 := HP.out.cell 0; have p1 := HP.out.cell 1; have f0 := HP.out.frozen 0; have f1 := HP.out.frozen 1; simp only [List.getElem?_toArray, List.getElem?_cons_zero, List.getElem?_cons_succ] at p0 p1))
        have hp := HP.out.pt (.int .i64 0) (.int .i64 0)
        exact bodyPost_ret (pt_results rfl rfl rfl hp) rfl ⟨rfl, own_pt g0 hB (.int .i64 0) (.int .i64 0)⟩
  · have HC := Lib.hid (chk_no ho)
    obtain ⟨e1, e2, e3⟩ := stp_bad (k := k) ho
    rw [chk_no ho] at e1
    obtain rfl := e1.symm.trans hc
    obtain rfl := e2.symm.trans hx
    obtain rfl := e3.symm.trans hy
    clear hx hy hc e1 e2 e3 ho
    go_enter Tryd.func16, Tryd.ntmps16
    go_upto_region 1 with (fail)
    rw [hC] at hp hB
    have HP := Lib.hid hp
    have HB := Lib.hid hb
    clear hp hb hW hC
    go_wp2_with (first | (refine wpList_load_row rfl 24 (.tmp 2) rfl w.heap.size rfl 24 _ (0, 0) _ HB.out.raw Tryd.underlying24 rfl infoB ?_) | (go_at_call 10; with_reducible refine (rcheck_at b 23 _ HC).mono ?_; rintro e w1 ⟨rfl, hg⟩; replace g0 : Own w w1 := g0.trans hg; replace HB := Lib.hid (HB.out.own hg); replace HP := Lib.hid (HP.out.own hg); clear hg; have p0 := HP.out.cell 0; have p1 := HP.out.cell 1; have f0 := HP.out.frozen 0; have f1 := HP.out.frozen 1; simp only [List.getElem?_toArray, List.getElem?_cons_zero, List.getElem?_cons_succ] at p0 p1))
    have hp := HP.out.pt (.int .i64 0) (.int .i64 0)
    exact bodyPost_ret (pt_results rfl rfl rfl hp) rfl ⟨rfl, own_pt g0 hB (.int .i64 0) (.int .i64 0)⟩
end Go.Proofs.YtbmcompnhjbdkaaDoor.BuiW
