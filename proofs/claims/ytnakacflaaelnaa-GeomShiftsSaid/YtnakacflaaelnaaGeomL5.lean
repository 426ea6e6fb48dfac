/-
  Walk of the law GeomShifts: it returns true for every input. Condition: none.
-/
import Derived.Test.YtnakacflaaelnaaGeomI
import Derived.Deep.RegionWith
import Derived.Deep.DrawnRows
import Derived.Test.YtnakacflaaelnaaRegInv
import Derived.BigCall
import Derived.Shelf.Abstract
namespace Go.Proofs.Ytnakacflaaelnaa.GeoW
open Go.ChangeShapes Go.WideShapes Go.ChangeAt Go.RowKit
open NumP NumW GeoP
attribute [local go_sem ↓] Go.wp_at_zero Go.wp_at_succ

theorem shift_dist {A B t a b : Pt} (ha : shift A t = a) (hb : shift B t = b) (o1 : okP A = true) (o2 : okP B = true) (o3 : okP a = true) (o4 : okP b = true) : ∃ d, (distV A B = d ∧ distE A B = 0) ∧ distV b a = d ∧ distE b a = 0 := by
  refine ⟨sq A B, ⟨?_, ?_⟩, ?_, ?_⟩
  · unfold distV; rw [o1, o2]; rfl
  · unfold distE; rw [o1, o2]; rfl
  · unfold distV; rw [o3, o4, ← ha, ← hb, sq_shift, sq_comm]; rfl
  · unfold distE; rw [o3, o4]; rfl
theorem shift_cross {O A B t o a b : Pt} (ho : shift O t = o) (ha : shift A t = a) (hb : shift B t = b) (o1 : okP O = true) (o2 : okP A = true) (o3 : okP B = true) (o4 : okP o = true) (o5 : okP a = true) (o6 : okP b = true) :
    ∃ l, (-8589934592 ≤ l ∧ l ≤ 8589934592) ∧ (crossV O A B = -l ∧ crossE O A B = 0) ∧ crossV o b a = l ∧ crossE o b a = 0 := by
  refine ⟨cr o b a, cr_in (small_of o4) (small_of o6) (small_of o5), ⟨?_, ?_⟩, ?_, ?_⟩
  · unfold crossV; rw [o1, o2, o3, ← ho, ← ha, ← hb, cr_shift, cr_swap O A B, Int.neg_neg]; rfl
  · unfold crossE; rw [o1, o2, o3]; rfl
  · unfold crossV; rw [o4, o5, o6]; rfl
  · unfold crossE; rw [o4, o5, o6]; rfl
/-- What shifted leaves, to the block. -/
theorem shifted_eq (p t q : Pt) (w : World) (HQ : Hid (shift p t = q)) (hp : Hid (halfP p = true)) (ht : Hid (halfP t = true)) :
    Calls Try.prog 27 #[.agg #[.int .i64 p.1, .int .i64 p.2], .agg #[.int .i64 t.1, .int .i64 t.2]] w fun e w' => e = .returned (.agg #[.int .i64 q.1, .int .i64 q.2]) ∧
      w' = ((w.alloc (.cells #[.int .i64 p.1, .int .i64 p.2] 23)).alloc (.cells #[.int .i64 t.1, .int .i64 t.2] 23)).alloc (.cells #[.int .i64 q.1, .int .i64 q.2] 23) := by
  obtain rfl := HQ.out
  have h1 := (halfP_iff p).1 hp.out
  have h2 := (halfP_iff t).1 ht.out
  clear HQ hp ht
  obtain ⟨x, y⟩ := p
  obtain ⟨a, b⟩ := t
  obtain ⟨⟨h11, h12⟩, h13, h14⟩ := h1
  obtain ⟨⟨h21, h22⟩, h23, h24⟩ := h2
  simp only at h11 h12 h13 h14 h21 h22 h23 h24
  go_enter Try.func27, Try.ntmps27
  go_wp2
  exact bodyPost_ret (v := .agg #[.int .i64 (x + a), .int .i64 (y + b)]) (by simp [results, Try.results27, go_sem]) rfl ⟨rfl, rfl⟩
/-- A variable of five integers that the region makes. -/
def Slot5 (wc W : World) (v : Value) : Prop := ∃ B : Nat, v = .pointer (some ⟨B, 0, none⟩) ∧ wc.heap.size ≤ B ∧ B < W.heap.size ∧ ∀ i : Nat, i < 5 → (∃ u, W.cell? ⟨B, i, none⟩ = some u) ∧ W.frozen? ⟨B, i, none⟩ = false
def Held5 (W : World) (v : Value) (a b c d e : Int) : Prop := ∃ B : Nat, v = .pointer (some ⟨B, 0, none⟩) ∧ W.cell? ⟨B, 0, none⟩ = some (.int .i64 a) ∧ W.cell? ⟨B, 1, none⟩ = some (.int .i64 b) ∧ W.cell? ⟨B, 2, none⟩ = some (.int .i64 c) ∧ W.cell? ⟨B, 3, none⟩ = some (.int .i64 d) ∧ W.cell? ⟨B, 4, none⟩ = some (.int .i64 e)
theorem Slot5.own {wc W W2 : World} {v : Value} (h : Slot5 wc W v) (hg : Own W W2) : Slot5 wc W2 v := by
  obtain ⟨B, h1, h2, h3, h4⟩ := h
  refine ⟨B, h1, h2, Nat.lt_of_lt_of_le h3 hg.size, fun i hi => ?_⟩
  obtain ⟨⟨u, hu⟩, hf⟩ := h4 i hi
  exact ⟨⟨u, hg.cell hu⟩, by rw [hg.frozen h3]; exact hf⟩
theorem Held5.own {W W2 : World} {v : Value} {a b c d e : Int} (h : Held5 W v a b c d e) (hg : Own W W2) : Held5 W2 v a b c d e := by
  obtain ⟨B, h1, h3, h4, h5, h6, h7⟩ := h
  exact ⟨B, h1, hg.cell h3, hg.cell h4, hg.cell h5, hg.cell h6, hg.cell h7⟩
theorem Slot5.fresh {wc W : World} {v : Value} (h : Slot5 wc W v) (e : v = .pointer (some ⟨W.heap.size, 0, none⟩)) : False := by
  obtain ⟨B, h1, _, h3, _⟩ := h
  rw [h1] at e
  injection e with e
  injection e with e
  injection e with e
  omega
theorem slot5_new {wc W : World} (h : Own wc W) (t : TypeId) : Slot5 wc (W.alloc (.cells #[.int .i64 0, .int .i64 0, .int .i64 0, .int .i64 0, .int .i64 0] t)) (.pointer (some ⟨W.heap.size, 0, none⟩)) := by
  refine ⟨W.heap.size, rfl, h.size, by simp, fun i hi => ?_⟩
  have : i = 0 ∨ i = 1 ∨ i = 2 ∨ i = 3 ∨ i = 4 := by omega
  rcases this with rfl | rfl | rfl | rfl | rfl
  all_goals exact ⟨⟨.int .i64 0, by go_simp⟩, by go_simp⟩
/-- Five integers stored into a variable of five. -/
def Store5 (W W2 : World) (B : Nat) (a b c d e : Int) : Prop := W2 = (((((W.setCell ⟨B, 0, none⟩ (.int .i64 a)).setCell ⟨B, 1, none⟩ (.int .i64 b)).setCell ⟨B, 2, none⟩ (.int .i64 c)).setCell ⟨B, 3, none⟩ (.int .i64 d)).setCell ⟨B, 4, none⟩ (.int .i64 e)) ∧
  W2.cell? ⟨B, 0, none⟩ = some (.int .i64 a) ∧ W2.cell? ⟨B, 1, none⟩ = some (.int .i64 b) ∧ W2.cell? ⟨B, 2, none⟩ = some (.int .i64 c) ∧ W2.cell? ⟨B, 3, none⟩ = some (.int .i64 d) ∧ W2.cell? ⟨B, 4, none⟩ = some (.int .i64 e)
theorem store5 {W : World} {B : Nat} {a b c d e : Int} {u0 u1 u2 u3 u4 : Value} (h0 : W.cell? ⟨B, 0, none⟩ = some u0) (h1 : W.cell? ⟨B, 1, none⟩ = some u1) (h2 : W.cell? ⟨B, 2, none⟩ = some u2) (h3 : W.cell? ⟨B, 3, none⟩ = some u3) (h4 : W.cell? ⟨B, 4, none⟩ = some u4) :
    Store5 W (((((W.setCell ⟨B, 0, none⟩ (.int .i64 a)).setCell ⟨B, 1, none⟩ (.int .i64 b)).setCell ⟨B, 2, none⟩ (.int .i64 c)).setCell ⟨B, 3, none⟩ (.int .i64 d)).setCell ⟨B, 4, none⟩ (.int .i64 e)) B a b c d e :=
  ⟨rfl, by go_simp, by go_simp, by go_simp, by go_simp, by go_simp⟩
theorem Store5.block {W W2 : World} {B : Nat} {a b c d e : Int} (h : Store5 W W2 B a b c d e) {k : Nat} (hk : k ≠ B) : W2.heap[k]? = W.heap[k]? := by
  rw [h.1]
  rw [Below.heap_setCell _ _ _ _ (by simp; omega), Below.heap_setCell _ _ _ _ (by simp; omega), Below.heap_setCell _ _ _ _ (by simp; omega), Below.heap_setCell _ _ _ _ (by simp; omega), Below.heap_setCell _ _ _ _ (by simp; omega)]
theorem Store5.own {wc W W2 : World} {B : Nat} {a b c d e : Int} (h : Store5 W W2 B a b c d e) (hO : Own wc W) (hB : wc.heap.size ≤ B) : Own wc W2 := by
  rw [h.1]
  exact ((((hO.setCell hB _).setCell hB _).setCell hB _).setCell hB _).setCell hB _
theorem Store5.size {W W2 : World} {B : Nat} {a b c d e : Int} (h : Store5 W W2 B a b c d e) : W2.heap.size = W.heap.size := by rw [h.1]; simp [World.setCell]
theorem Store5.held {W W2 : World} {B : Nat} {a b c d e : Int} {v : Value} (h : Store5 W W2 B a b c d e) (hv : v = .pointer (some ⟨B, 0, none⟩)) : Held5 W2 v a b c d e := ⟨B, hv, h.2⟩
theorem Store5.far {W W2 : World} {B B2 : Nat} {a b c d e a' b' c' d' e' : Int} {v : Value} (h : Store5 W W2 B a b c d e) (hv : v = .pointer (some ⟨B2, 0, none⟩)) (hn : ¬ B2 = B) (hh : Held5 W v a' b' c' d' e') : Held5 W2 v a' b' c' d' e' := by
  obtain ⟨B3, h1, h2⟩ := hh
  have e : B3 = B2 := by rw [h1] at hv; injection hv with hv; injection hv with hv; injection hv
  subst e
  have hc : ∀ i, W2.cell? ⟨B3, i, none⟩ = W.cell? ⟨B3, i, none⟩ := fun i => World.cell?_of_block (w := W) (a := ⟨B3, i, none⟩) (h.block hn)
  refine ⟨B3, h1, ?_⟩
  rw [hc, hc, hc, hc, hc]
  exact h2
theorem Store5.slot {wc W W2 : World} {B : Nat} {a b c d e : Int} {v : Value} (h : Store5 W W2 B a b c d e) (hs : Slot5 wc W v) : Slot5 wc W2 v := by
  obtain ⟨B3, h1, h2, h3, h4⟩ := hs
  refine ⟨B3, h1, h2, by rw [h.size]; exact h3, fun i hi => ?_⟩
  by_cases e : B3 = B
  · subst e
    have hc := h.2
    have hf : W2.frozen? ⟨B3, i, none⟩ = W.frozen? ⟨B3, i, none⟩ := by rw [h.1]; simp
    refine ⟨?_, by rw [hf]; exact (h4 i hi).2⟩
    have : i = 0 ∨ i = 1 ∨ i = 2 ∨ i = 3 ∨ i = 4 := by omega
    rcases this with rfl | rfl | rfl | rfl | rfl
    · exact ⟨_, hc.1⟩
    · exact ⟨_, hc.2.1⟩
    · exact ⟨_, hc.2.2.1⟩
    · exact ⟨_, hc.2.2.2.1⟩
    · exact ⟨_, hc.2.2.2.2⟩
  · rw [World.cell?_of_block (w := W) (a := ⟨B3, i, none⟩) (h.block e), World.frozen?_of_block (w := W) (a := ⟨B3, i, none⟩) (h.block e)]
    exact h4 i hi
set_option maxRecDepth 100000 in
set_option maxHeartbeats 8000000 in
theorem GeomShifts_walk (a0 a1 a2 a3 a4 a5 a6 a7 a8 a9 a10 : Int) (_b0 : -9223372036854775808 ≤ a0 ∧ a0 ≤ 9223372036854775807) (_b1 : -9223372036854775808 ≤ a1 ∧ a1 ≤ 9223372036854775807) (_b2 : -9223372036854775808 ≤ a2 ∧ a2 ≤ 9223372036854775807) (_b3 : -9223372036854775808 ≤ a3 ∧ a3 ≤ 9223372036854775807) (_b4 : -9223372036854775808 ≤ a4 ∧ a4 ≤ 9223372036854775807) (_b5 : -9223372036854775808 ≤ a5 ∧ a5 ≤ 9223372036854775807) (_b6 : -9223372036854775808 ≤ a6 ∧ a6 ≤ 9223372036854775807) (_b7 : -9223372036854775808 ≤ a7 ∧ a7 ≤ 9223372036854775807) (_b8 : -9223372036854775808 ≤ a8 ∧ a8 ≤ 9223372036854775807) (_b9 : -9223372036854775808 ≤ a9 ∧ a9 ≤ 9223372036854775807) (_b10 : -9223372036854775808 ≤ a10 ∧ a10 ≤ 9223372036854775807) (w : World) :
    Calls Try.prog 10 #[.agg #[.int .i64 a0, .int .i64 a1, .int .i64 a2, .int .i64 a3, .int .i64 a4, .int .i64 a5, .int .i64 a6], .agg #[.int .i64 a7, .int .i64 a8], .agg #[.int .i64 a9, .int .i64 a10]] w fun e w' => e = .returned (.bool true) ∧ Own w w' := by
  clear _b0 _b1 _b2 _b3 _b4 _b5 _b6 _b7 _b8 _b9 _b10
  obtain ⟨t0, ht0⟩ : ∃ t, halfP (a0, a1) = t := ⟨_, rfl⟩
  have H0 := Lib.hid ht0
  obtain ⟨t1, ht1⟩ : ∃ t, halfP (a2, a3) = t := ⟨_, rfl⟩
  have H1 := Lib.hid ht1
  obtain ⟨t2, ht2⟩ : ∃ t, halfP (a4, a5) = t := ⟨_, rfl⟩
  have H2 := Lib.hid ht2
  obtain ⟨t3, ht3⟩ : ∃ t, halfP (a7, a8) = t := ⟨_, rfl⟩
  have H3 := Lib.hid ht3
  obtain ⟨t4, ht4⟩ : ∃ t, halfP (a9, a10) = t := ⟨_, rfl⟩
  have H4 := Lib.hid ht4
  cases t0
  · clear ht0 ht1 ht2 ht3 ht4
    go_enter Try.func10, Try.ntmps10
    go_upto_region 1 with (fail)
    have k0 : (((w.alloc (.cells #[.int .i64 a0, .int .i64 a1, .int .i64 a2, .int .i64 a3, .int .i64 a4, .int .i64 a5, .int .i64 a6] 31)).alloc (.cells #[.int .i64 a7, .int .i64 a8] 23)).alloc (.cells #[.int .i64 a9, .int .i64 a10] 23)).cell? ⟨w.heap.size, 0, none⟩ = some (.int .i64 a0) := by go_simp
    have k1 : (((w.alloc (.cells #[.int .i64 a0, .int .i64 a1, .int .i64 a2, .int .i64 a3, .int .i64 a4, .int .i64 a5, .int .i64 a6] 31)).alloc (.cells #[.int .i64 a7, .int .i64 a8] 23)).alloc (.cells #[.int .i64 a9, .int .i64 a10] 23)).cell? ⟨w.heap.size, 1, none⟩ = some (.int .i64 a1) := by go_simp
    have k2 : (((w.alloc (.cells #[.int .i64 a0, .int .i64 a1, .int .i64 a2, .int .i64 a3, .int .i64 a4, .int .i64 a5, .int .i64 a6] 31)).alloc (.cells #[.int .i64 a7, .int .i64 a8] 23)).alloc (.cells #[.int .i64 a9, .int .i64 a10] 23)).cell? ⟨w.heap.size, 2, none⟩ = some (.int .i64 a2) := by go_simp
    have k3 : (((w.alloc (.cells #[.int .i64 a0, .int .i64 a1, .int .i64 a2, .int .i64 a3, .int .i64 a4, .int .i64 a5, .int .i64 a6] 31)).alloc (.cells #[.int .i64 a7, .int .i64 a8] 23)).alloc (.cells #[.int .i64 a9, .int .i64 a10] 23)).cell? ⟨w.heap.size, 3, none⟩ = some (.int .i64 a3) := by go_simp
    have k4 : (((w.alloc (.cells #[.int .i64 a0, .int .i64 a1, .int .i64 a2, .int .i64 a3, .int .i64 a4, .int .i64 a5, .int .i64 a6] 31)).alloc (.cells #[.int .i64 a7, .int .i64 a8] 23)).alloc (.cells #[.int .i64 a9, .int .i64 a10] 23)).cell? ⟨w.heap.size, 4, none⟩ = some (.int .i64 a4) := by go_simp
    have k5 : (((w.alloc (.cells #[.int .i64 a0, .int .i64 a1, .int .i64 a2, .int .i64 a3, .int .i64 a4, .int .i64 a5, .int .i64 a6] 31)).alloc (.cells #[.int .i64 a7, .int .i64 a8] 23)).alloc (.cells #[.int .i64 a9, .int .i64 a10] 23)).cell? ⟨w.heap.size, 5, none⟩ = some (.int .i64 a5) := by go_simp
    have k6 : (((w.alloc (.cells #[.int .i64 a0, .int .i64 a1, .int .i64 a2, .int .i64 a3, .int .i64 a4, .int .i64 a5, .int .i64 a6] 31)).alloc (.cells #[.int .i64 a7, .int .i64 a8] 23)).alloc (.cells #[.int .i64 a9, .int .i64 a10] 23)).cell? ⟨w.heap.size, 6, none⟩ = some (.int .i64 a6) := by go_simp
    have k7 : (((w.alloc (.cells #[.int .i64 a0, .int .i64 a1, .int .i64 a2, .int .i64 a3, .int .i64 a4, .int .i64 a5, .int .i64 a6] 31)).alloc (.cells #[.int .i64 a7, .int .i64 a8] 23)).alloc (.cells #[.int .i64 a9, .int .i64 a10] 23)).cell? ⟨w.heap.size + 1, 0, none⟩ = some (.int .i64 a7) := by go_simp
    have k8 : (((w.alloc (.cells #[.int .i64 a0, .int .i64 a1, .int .i64 a2, .int .i64 a3, .int .i64 a4, .int .i64 a5, .int .i64 a6] 31)).alloc (.cells #[.int .i64 a7, .int .i64 a8] 23)).alloc (.cells #[.int .i64 a9, .int .i64 a10] 23)).cell? ⟨w.heap.size + 1, 1, none⟩ = some (.int .i64 a8) := by go_simp
    have k9 : (((w.alloc (.cells #[.int .i64 a0, .int .i64 a1, .int .i64 a2, .int .i64 a3, .int .i64 a4, .int .i64 a5, .int .i64 a6] 31)).alloc (.cells #[.int .i64 a7, .int .i64 a8] 23)).alloc (.cells #[.int .i64 a9, .int .i64 a10] 23)).cell? ⟨w.heap.size + 2, 0, none⟩ = some (.int .i64 a9) := by go_simp
    have k10 : (((w.alloc (.cells #[.int .i64 a0, .int .i64 a1, .int .i64 a2, .int .i64 a3, .int .i64 a4, .int .i64 a5, .int .i64 a6] 31)).alloc (.cells #[.int .i64 a7, .int .i64 a8] 23)).alloc (.cells #[.int .i64 a9, .int .i64 a10] 23)).cell? ⟨w.heap.size + 2, 1, none⟩ = some (.int .i64 a10) := by go_simp
    have g0 : Own w (((w.alloc (.cells #[.int .i64 a0, .int .i64 a1, .int .i64 a2, .int .i64 a3, .int .i64 a4, .int .i64 a5, .int .i64 a6] 31)).alloc (.cells #[.int .i64 a7, .int .i64 a8] 23)).alloc (.cells #[.int .i64 a9, .int .i64 a10] 23)) := ((((Own.refl w).alloc _).alloc _).alloc _)
    generalize hW : (((w.alloc (.cells #[.int .i64 a0, .int .i64 a1, .int .i64 a2, .int .i64 a3, .int .i64 a4, .int .i64 a5, .int .i64 a6] 31)).alloc (.cells #[.int .i64 a7, .int .i64 a8] 23)).alloc (.cells #[.int .i64 a9, .int .i64 a10] 23)) = W0 at *
    clear hW
    go_wp2_with (first | (go_at_call 26; (first | (with_reducible refine (half_at (a0, a1) _ _ H0).mono ?_) | (with_reducible refine (half_at (a2, a3) _ _ H1).mono ?_) | (with_reducible refine (half_at (a4, a5) _ _ H2).mono ?_) | (with_reducible refine (half_at (a7, a8) _ _ H3).mono ?_) | (with_reducible refine (half_at (a9, a10) _ _ H4).mono ?_)); rintro e w1 ⟨rfl, hg⟩; replace k0 := hg.cell k0; replace k1 := hg.cell k1; replace k2 := hg.cell k2; replace k3 := hg.cell k3; replace k4 := hg.cell k4; replace k5 := hg.cell k5; replace k6 := hg.cell k6; replace k7 := hg.cell k7; replace k8 := hg.cell k8; replace k9 := hg.cell k9; replace k10 := hg.cell k10; replace g0 : Own w w1 := Own.trans (by first | exact g0 | exact Own.drewN g0 _) hg; clear hg) | (go_at_call 15; refine (awake_any _).mono ?_; rintro e w1 ⟨rfl, hg⟩; replace g0 : Own w w1 := Own.trans (by first | exact g0 | exact Own.drewN g0 _) hg; clear hg))
    go_ret
    exact ⟨rfl, g0⟩
  · skip
    cases t1
    · clear ht0 ht1 ht2 ht3 ht4
      go_enter Try.func10, Try.ntmps10
      go_upto_region 1 with (fail)
      have k0 : (((w.alloc (.cells #[.int .i64 a0, .int .i64 a1, .int .i64 a2, .int .i64 a3, .int .i64 a4, .int .i64 a5, .int .i64 a6] 31)).alloc (.cells #[.int .i64 a7, .int .i64 a8] 23)).alloc (.cells #[.int .i64 a9, .int .i64 a10] 23)).cell? ⟨w.heap.size, 0, none⟩ = some (.int .i64 a0) := by go_simp
      have k1 : (((w.alloc (.cells #[.int .i64 a0, .int .i64 a1, .int .i64 a2, .int .i64 a3, .int .i64 a4, .int .i64 a5, .int .i64 a6] 31)).alloc (.cells #[.int .i64 a7, .int .i64 a8] 23)).alloc (.cells #[.int .i64 a9, .int .i64 a10] 23)).cell? ⟨w.heap.size, 1, none⟩ = some (.int .i64 a1) := by go_simp
      have k2 : (((w.alloc (.cells #[.int .i64 a0, .int .i64 a1, .int .i64 a2, .int .i64 a3, .int .i64 a4, .int .i64 a5, .int .i64 a6] 31)).alloc (.cells #[.int .i64 a7, .int .i64 a8] 23)).alloc (.cells #[.int .i64 a9, .int .i64 a10] 23)).cell? ⟨w.heap.size, 2, none⟩ = some (.int .i64 a2) := by go_simp
      have k3 : (((w.alloc (.cells #[.int .i64 a0, .int .i64 a1, .int .i64 a2, .int .i64 a3, .int .i64 a4, .int .i64 a5, .int .i64 a6] 31)).alloc (.cells #[.int .i64 a7, .int .i64 a8] 23)).alloc (.cells #[.int .i64 a9, .int .i64 a10] 23)).cell? ⟨w.heap.size, 3, none⟩ = some (.int .i64 a3) := by go_simp
      have k4 : (((w.alloc (.cells #[.int .i64 a0, .int .i64 a1, .int .i64 a2, .int .i64 a3, .int .i64 a4, .int .i64 a5, .int .i64 a6] 31)).alloc (.cells #[.int .i64 a7, .int .i64 a8] 23)).alloc (.cells #[.int .i64 a9, .int .i64 a10] 23)).cell? ⟨w.heap.size, 4, none⟩ = some (.int .i64 a4) := by go_simp
      have k5 : (((w.alloc (.cells #[.int .i64 a0, .int .i64 a1, .int .i64 a2, .int .i64 a3, .int .i64 a4, .int .i64 a5, .int .i64 a6] 31)).alloc (.cells #[.int .i64 a7, .int .i64 a8] 23)).alloc (.cells #[.int .i64 a9, .int .i64 a10] 23)).cell? ⟨w.heap.size, 5, none⟩ = some (.int .i64 a5) := by go_simp
      have k6 : (((w.alloc (.cells #[.int .i64 a0, .int .i64 a1, .int .i64 a2, .int .i64 a3, .int .i64 a4, .int .i64 a5, .int .i64 a6] 31)).alloc (.cells #[.int .i64 a7, .int .i64 a8] 23)).alloc (.cells #[.int .i64 a9, .int .i64 a10] 23)).cell? ⟨w.heap.size, 6, none⟩ = some (.int .i64 a6) := by go_simp
      have k7 : (((w.alloc (.cells #[.int .i64 a0, .int .i64 a1, .int .i64 a2, .int .i64 a3, .int .i64 a4, .int .i64 a5, .int .i64 a6] 31)).alloc (.cells #[.int .i64 a7, .int .i64 a8] 23)).alloc (.cells #[.int .i64 a9, .int .i64 a10] 23)).cell? ⟨w.heap.size + 1, 0, none⟩ = some (.int .i64 a7) := by go_simp
      have k8 : (((w.alloc (.cells #[.int .i64 a0, .int .i64 a1, .int .i64 a2, .int .i64 a3, .int .i64 a4, .int .i64 a5, .int .i64 a6] 31)).alloc (.cells #[.int .i64 a7, .int .i64 a8] 23)).alloc (.cells #[.int .i64 a9, .int .i64 a10] 23)).cell? ⟨w.heap.size + 1, 1, none⟩ = some (.int .i64 a8) := by go_simp
      have k9 : (((w.alloc (.cells #[.int .i64 a0, .int .i64 a1, .int .i64 a2, .int .i64 a3, .int .i64 a4, .int .i64 a5, .int .i64 a6] 31)).alloc (.cells #[.int .i64 a7, .int .i64 a8] 23)).alloc (.cells #[.int .i64 a9, .int .i64 a10] 23)).cell? ⟨w.heap.size + 2, 0, none⟩ = some (.int .i64 a9) := by go_simp
      have k10 : (((w.alloc (.cells #[.int .i64 a0, .int .i64 a1, .int .i64 a2, .int .i64 a3, .int .i64 a4, .int .i64 a5, .int .i64 a6] 31)).alloc (.cells #[.int .i64 a7, .int .i64 a8] 23)).alloc (.cells #[.int .i64 a9, .int .i64 a10] 23)).cell? ⟨w.heap.size + 2, 1, none⟩ = some (.int .i64 a10) := by go_simp
      have g0 : Own w (((w.alloc (.cells #[.int .i64 a0, .int .i64 a1, .int .i64 a2, .int .i64 a3, .int .i64 a4, .int .i64 a5, .int .i64 a6] 31)).alloc (.cells #[.int .i64 a7, .int .i64 a8] 23)).alloc (.cells #[.int .i64 a9, .int .i64 a10] 23)) := ((((Own.refl w).alloc _).alloc _).alloc _)
      generalize hW : (((w.alloc (.cells #[.int .i64 a0, .int .i64 a1, .int .i64 a2, .int .i64 a3, .int .i64 a4, .int .i64 a5, .int .i64 a6] 31)).alloc (.cells #[.int .i64 a7, .int .i64 a8] 23)).alloc (.cells #[.int .i64 a9, .int .i64 a10] 23)) = W0 at *
      clear hW
      go_wp2_with (first | (go_at_call 26; (first | (with_reducible refine (half_at (a0, a1) _ _ H0).mono ?_) | (with_reducible refine (half_at (a2, a3) _ _ H1).mono ?_) | (with_reducible refine (half_at (a4, a5) _ _ H2).mono ?_) | (with_reducible refine (half_at (a7, a8) _ _ H3).mono ?_) | (with_reducible refine (half_at (a9, a10) _ _ H4).mono ?_)); rintro e w1 ⟨rfl, hg⟩; replace k0 := hg.cell k0; replace k1 := hg.cell k1; replace k2 := hg.cell k2; replace k3 := hg.cell k3; replace k4 := hg.cell k4; replace k5 := hg.cell k5; replace k6 := hg.cell k6; replace k7 := hg.cell k7; replace k8 := hg.cell k8; replace k9 := hg.cell k9; replace k10 := hg.cell k10; replace g0 : Own w w1 := Own.trans (by first | exact g0 | exact Own.drewN g0 _) hg; clear hg) | (go_at_call 15; refine (awake_any _).mono ?_; rintro e w1 ⟨rfl, hg⟩; replace g0 : Own w w1 := Own.trans (by first | exact g0 | exact Own.drewN g0 _) hg; clear hg))
      go_ret
      exact ⟨rfl, g0⟩
    · skip
      cases t2
      · clear ht0 ht1 ht2 ht3 ht4
        go_enter Try.func10, Try.ntmps10
        go_upto_region 1 with (fail)
        have k0 : (((w.alloc (.cells #[.int .i64 a0, .int .i64 a1, .int .i64 a2, .int .i64 a3, .int .i64 a4, .int .i64 a5, .int .i64 a6] 31)).alloc (.cells #[.int .i64 a7, .int .i64 a8] 23)).alloc (.cells #[.int .i64 a9, .int .i64 a10] 23)).cell? ⟨w.heap.size, 0, none⟩ = some (.int .i64 a0) := by go_simp
        have k1 : (((w.alloc (.cells #[.int .i64 a0, .int .i64 a1, .int .i64 a2, .int .i64 a3, .int .i64 a4, .int .i64 a5, .int .i64 a6] 31)).alloc (.cells #[.int .i64 a7, .int .i64 a8] 23)).alloc (.cells #[.int .i64 a9, .int .i64 a10] 23)).cell? ⟨w.heap.size, 1, none⟩ = some (.int .i64 a1) := by go_simp
        have k2 : (((w.alloc (.cells #[.int .i64 a0, .int .i64 a1, .int .i64 a2, .int .i64 a3, .int .i64 a4, .int .i64 a5, .int .i64 a6] 31)).alloc (.cells #[.int .i64 a7, .int .i64 a8] 23)).alloc (.cells #[.int .i64 a9, .int .i64 a10] 23)).cell? ⟨w.heap.size, 2, none⟩ = some (.int .i64 a2) := by go_simp
        have k3 : (((w.alloc (.cells #[.int .i64 a0, .int .i64 a1, .int .i64 a2, .int .i64 a3, .int .i64 a4, .int .i64 a5, .int .i64 a6] 31)).alloc (.cells #[.int .i64 a7, .int .i64 a8] 23)).alloc (.cells #[.int .i64 a9, .int .i64 a10] 23)).cell? ⟨w.heap.size, 3, none⟩ = some (.int .i64 a3) := by go_simp
        have k4 : (((w.alloc (.cells #[.int .i64 a0, .int .i64 a1, .int .i64 a2, .int .i64 a3, .int .i64 a4, .int .i64 a5, .int .i64 a6] 31)).alloc (.cells #[.int .i64 a7, .int .i64 a8] 23)).alloc (.cells #[.int .i64 a9, .int .i64 a10] 23)).cell? ⟨w.heap.size, 4, none⟩ = some (.int .i64 a4) := by go_simp
        have k5 : (((w.alloc (.cells #[.int .i64 a0, .int .i64 a1, .int .i64 a2, .int .i64 a3, .int .i64 a4, .int .i64 a5, .int .i64 a6] 31)).alloc (.cells #[.int .i64 a7, .int .i64 a8] 23)).alloc (.cells #[.int .i64 a9, .int .i64 a10] 23)).cell? ⟨w.heap.size, 5, none⟩ = some (.int .i64 a5) := by go_simp
        have k6 : (((w.alloc (.cells #[.int .i64 a0, .int .i64 a1, .int .i64 a2, .int .i64 a3, .int .i64 a4, .int .i64 a5, .int .i64 a6] 31)).alloc (.cells #[.int .i64 a7, .int .i64 a8] 23)).alloc (.cells #[.int .i64 a9, .int .i64 a10] 23)).cell? ⟨w.heap.size, 6, none⟩ = some (.int .i64 a6) := by go_simp
        have k7 : (((w.alloc (.cells #[.int .i64 a0, .int .i64 a1, .int .i64 a2, .int .i64 a3, .int .i64 a4, .int .i64 a5, .int .i64 a6] 31)).alloc (.cells #[.int .i64 a7, .int .i64 a8] 23)).alloc (.cells #[.int .i64 a9, .int .i64 a10] 23)).cell? ⟨w.heap.size + 1, 0, none⟩ = some (.int .i64 a7) := by go_simp
        have k8 : (((w.alloc (.cells #[.int .i64 a0, .int .i64 a1, .int .i64 a2, .int .i64 a3, .int .i64 a4, .int .i64 a5, .int .i64 a6] 31)).alloc (.cells #[.int .i64 a7, .int .i64 a8] 23)).alloc (.cells #[.int .i64 a9, .int .i64 a10] 23)).cell? ⟨w.heap.size + 1, 1, none⟩ = some (.int .i64 a8) := by go_simp
        have k9 : (((w.alloc (.cells #[.int .i64 a0, .int .i64 a1, .int .i64 a2, .int .i64 a3, .int .i64 a4, .int .i64 a5, .int .i64 a6] 31)).alloc (.cells #[.int .i64 a7, .int .i64 a8] 23)).alloc (.cells #[.int .i64 a9, .int .i64 a10] 23)).cell? ⟨w.heap.size + 2, 0, none⟩ = some (.int .i64 a9) := by go_simp
        have k10 : (((w.alloc (.cells #[.int .i64 a0, .int .i64 a1, .int .i64 a2, .int .i64 a3, .int .i64 a4, .int .i64 a5, .int .i64 a6] 31)).alloc (.cells #[.int .i64 a7, .int .i64 a8] 23)).alloc (.cells #[.int .i64 a9, .int .i64 a10] 23)).cell? ⟨w.heap.size + 2, 1, none⟩ = some (.int .i64 a10) := by go_simp
        have g0 : Own w (((w.alloc (.cells #[.int .i64 a0, .int .i64 a1, .int .i64 a2, .int .i64 a3, .int .i64 a4, .int .i64 a5, .int .i64 a6] 31)).alloc (.cells #[.int .i64 a7, .int .i64 a8] 23)).alloc (.cells #[.int .i64 a9, .int .i64 a10] 23)) := ((((Own.refl w).alloc _).alloc _).alloc _)
        generalize hW : (((w.alloc (.cells #[.int .i64 a0, .int .i64 a1, .int .i64 a2, .int .i64 a3, .int .i64 a4, .int .i64 a5, .int .i64 a6] 31)).alloc (.cells #[.int .i64 a7, .int .i64 a8] 23)).alloc (.cells #[.int .i64 a9, .int .i64 a10] 23)) = W0 at *
        clear hW
        go_wp2_with (first | (go_at_call 26; (first | (with_reducible refine (half_at (a0, a1) _ _ H0).mono ?_) | (with_reducible refine (half_at (a2, a3) _ _ H1).mono ?_) | (with_reducible refine (half_at (a4, a5) _ _ H2).mono ?_) | (with_reducible refine (half_at (a7, a8) _ _ H3).mono ?_) | (with_reducible refine (half_at (a9, a10) _ _ H4).mono ?_)); rintro e w1 ⟨rfl, hg⟩; replace k0 := hg.cell k0; replace k1 := hg.cell k1; replace k2 := hg.cell k2; replace k3 := hg.cell k3; replace k4 := hg.cell k4; replace k5 := hg.cell k5; replace k6 := hg.cell k6; replace k7 := hg.cell k7; replace k8 := hg.cell k8; replace k9 := hg.cell k9; replace k10 := hg.cell k10; replace g0 : Own w w1 := Own.trans (by first | exact g0 | exact Own.drewN g0 _) hg; clear hg) | (go_at_call 15; refine (awake_any _).mono ?_; rintro e w1 ⟨rfl, hg⟩; replace g0 : Own w w1 := Own.trans (by first | exact g0 | exact Own.drewN g0 _) hg; clear hg))
        go_ret
        exact ⟨rfl, g0⟩
      · skip
        cases t3
        · clear ht0 ht1 ht2 ht3 ht4
          go_enter Try.func10, Try.ntmps10
          go_upto_region 1 with (fail)
          have k0 : (((w.alloc (.cells #[.int .i64 a0, .int .i64 a1, .int .i64 a2, .int .i64 a3, .int .i64 a4, .int .i64 a5, .int .i64 a6] 31)).alloc (.cells #[.int .i64 a7, .int .i64 a8] 23)).alloc (.cells #[.int .i64 a9, .int .i64 a10] 23)).cell? ⟨w.heap.size, 0, none⟩ = some (.int .i64 a0) := by go_simp
          have k1 : (((w.alloc (.cells #[.int .i64 a0, .int .i64 a1, .int .i64 a2, .int .i64 a3, .int .i64 a4, .int .i64 a5, .int .i64 a6] 31)).alloc (.cells #[.int .i64 a7, .int .i64 a8] 23)).alloc (.cells #[.int .i64 a9, .int .i64 a10] 23)).cell? ⟨w.heap.size, 1, none⟩ = some (.int .i64 a1) := by go_simp
          have k2 : (((w.alloc (.cells #[.int .i64 a0, .int .i64 a1, .int .i64 a2, .int .i64 a3, .int .i64 a4, .int .i64 a5, .int .i64 a6] 31)).alloc (.cells #[.int .i64 a7, .int .i64 a8] 23)).alloc (.cells #[.int .i64 a9, .int .i64 a10] 23)).cell? ⟨w.heap.size, 2, none⟩ = some (.int .i64 a2) := by go_simp
          have k3 : (((w.alloc (.cells #[.int .i64 a0, .int .i64 a1, .int .i64 a2, .int .i64 a3, .int .i64 a4, .int .i64 a5, .int .i64 a6] 31)).alloc (.cells #[.int .i64 a7, .int .i64 a8] 23)).alloc (.cells #[.int .i64 a9, .int .i64 a10] 23)).cell? ⟨w.heap.size, 3, none⟩ = some (.int .i64 a3) := by go_simp
          have k4 : (((w.alloc (.cells #[.int .i64 a0, .int .i64 a1, .int .i64 a2, .int .i64 a3, .int .i64 a4, .int .i64 a5, .int .i64 a6] 31)).alloc (.cells #[.int .i64 a7, .int .i64 a8] 23)).alloc (.cells #[.int .i64 a9, .int .i64 a10] 23)).cell? ⟨w.heap.size, 4, none⟩ = some (.int .i64 a4) := by go_simp
          have k5 : (((w.alloc (.cells #[.int .i64 a0, .int .i64 a1, .int .i64 a2, .int .i64 a3, .int .i64 a4, .int .i64 a5, .int .i64 a6] 31)).alloc (.cells #[.int .i64 a7, .int .i64 a8] 23)).alloc (.cells #[.int .i64 a9, .int .i64 a10] 23)).cell? ⟨w.heap.size, 5, none⟩ = some (.int .i64 a5) := by go_simp
          have k6 : (((w.alloc (.cells #[.int .i64 a0, .int .i64 a1, .int .i64 a2, .int .i64 a3, .int .i64 a4, .int .i64 a5, .int .i64 a6] 31)).alloc (.cells #[.int .i64 a7, .int .i64 a8] 23)).alloc (.cells #[.int .i64 a9, .int .i64 a10] 23)).cell? ⟨w.heap.size, 6, none⟩ = some (.int .i64 a6) := by go_simp
          have k7 : (((w.alloc (.cells #[.int .i64 a0, .int .i64 a1, .int .i64 a2, .int .i64 a3, .int .i64 a4, .int .i64 a5, .int .i64 a6] 31)).alloc (.cells #[.int .i64 a7, .int .i64 a8] 23)).alloc (.cells #[.int .i64 a9, .int .i64 a10] 23)).cell? ⟨w.heap.size + 1, 0, none⟩ = some (.int .i64 a7) := by go_simp
          have k8 : (((w.alloc (.cells #[.int .i64 a0, .int .i64 a1, .int .i64 a2, .int .i64 a3, .int .i64 a4, .int .i64 a5, .int .i64 a6] 31)).alloc (.cells #[.int .i64 a7, .int .i64 a8] 23)).alloc (.cells #[.int .i64 a9, .int .i64 a10] 23)).cell? ⟨w.heap.size + 1, 1, none⟩ = some (.int .i64 a8) := by go_simp
          have k9 : (((w.alloc (.cells #[.int .i64 a0, .int .i64 a1, .int .i64 a2, .int .i64 a3, .int .i64 a4, .int .i64 a5, .int .i64 a6] 31)).alloc (.cells #[.int .i64 a7, .int .i64 a8] 23)).alloc (.cells #[.int .i64 a9, .int .i64 a10] 23)).cell? ⟨w.heap.size + 2, 0, none⟩ = some (.int .i64 a9) := by go_simp
          have k10 : (((w.alloc (.cells #[.int .i64 a0, .int .i64 a1, .int .i64 a2, .int .i64 a3, .int .i64 a4, .int .i64 a5, .int .i64 a6] 31)).alloc (.cells #[.int .i64 a7, .int .i64 a8] 23)).alloc (.cells #[.int .i64 a9, .int .i64 a10] 23)).cell? ⟨w.heap.size + 2, 1, none⟩ = some (.int .i64 a10) := by go_simp
          have g0 : Own w (((w.alloc (.cells #[.int .i64 a0, .int .i64 a1, .int .i64 a2, .int .i64 a3, .int .i64 a4, .int .i64 a5, .int .i64 a6] 31)).alloc (.cells #[.int .i64 a7, .int .i64 a8] 23)).alloc (.cells #[.int .i64 a9, .int .i64 a10] 23)) := ((((Own.refl w).alloc _).alloc _).alloc _)
          generalize hW : (((w.alloc (.cells #[.int .i64 a0, .int .i64 a1, .int .i64 a2, .int .i64 a3, .int .i64 a4, .int .i64 a5, .int .i64 a6] 31)).alloc (.cells #[.int .i64 a7, .int .i64 a8] 23)).alloc (.cells #[.int .i64 a9, .int .i64 a10] 23)) = W0 at *
          clear hW
          go_wp2_with (first | (go_at_call 26; (first | (with_reducible refine (half_at (a0, a1) _ _ H0).mono ?_) | (with_reducible refine (half_at (a2, a3) _ _ H1).mono ?_) | (with_reducible refine (half_at (a4, a5) _ _ H2).mono ?_) | (with_reducible refine (half_at (a7, a8) _ _ H3).mono ?_) | (with_reducible refine (half_at (a9, a10) _ _ H4).mono ?_)); rintro e w1 ⟨rfl, hg⟩; replace k0 := hg.cell k0; replace k1 := hg.cell k1; replace k2 := hg.cell k2; replace k3 := hg.cell k3; replace k4 := hg.cell k4; replace k5 := hg.cell k5; replace k6 := hg.cell k6; replace k7 := hg.cell k7; replace k8 := hg.cell k8; replace k9 := hg.cell k9; replace k10 := hg.cell k10; replace g0 : Own w w1 := Own.trans (by first | exact g0 | exact Own.drewN g0 _) hg; clear hg) | (go_at_call 15; refine (awake_any _).mono ?_; rintro e w1 ⟨rfl, hg⟩; replace g0 : Own w w1 := Own.trans (by first | exact g0 | exact Own.drewN g0 _) hg; clear hg))
          go_ret
          exact ⟨rfl, g0⟩
        · skip
          cases t4
          · clear ht0 ht1 ht2 ht3 ht4
            go_enter Try.func10, Try.ntmps10
            go_upto_region 1 with (fail)
            have k0 : (((w.alloc (.cells #[.int .i64 a0, .int .i64 a1, .int .i64 a2, .int .i64 a3, .int .i64 a4, .int .i64 a5, .int .i64 a6] 31)).alloc (.cells #[.int .i64 a7, .int .i64 a8] 23)).alloc (.cells #[.int .i64 a9, .int .i64 a10] 23)).cell? ⟨w.heap.size, 0, none⟩ = some (.int .i64 a0) := by go_simp
            have k1 : (((w.alloc (.cells #[.int .i64 a0, .int .i64 a1, .int .i64 a2, .int .i64 a3, .int .i64 a4, .int .i64 a5, .int .i64 a6] 31)).alloc (.cells #[.int .i64 a7, .int .i64 a8] 23)).alloc (.cells #[.int .i64 a9, .int .i64 a10] 23)).cell? ⟨w.heap.size, 1, none⟩ = some (.int .i64 a1) := by go_simp
            have k2 : (((w.alloc (.cells #[.int .i64 a0, .int .i64 a1, .int .i64 a2, .int .i64 a3, .int .i64 a4, .int .i64 a5, .int .i64 a6] 31)).alloc (.cells #[.int .i64 a7, .int .i64 a8] 23)).alloc (.cells #[.int .i64 a9, .int .i64 a10] 23)).cell? ⟨w.heap.size, 2, none⟩ = some (.int .i64 a2) := by go_simp
            have k3 : (((w.alloc (.cells #[.int .i64 a0, .int .i64 a1, .int .i64 a2, .int .i64 a3, .int .i64 a4, .int .i64 a5, .int .i64 a6] 31)).alloc (.cells #[.int .i64 a7, .int .i64 a8] 23)).alloc (.cells #[.int .i64 a9, .int .i64 a10] 23)).cell? ⟨w.heap.size, 3, none⟩ = some (.int .i64 a3) := by go_simp
            have k4 : (((w.alloc (.cells #[.int .i64 a0, .int .i64 a1, .int .i64 a2, .int .i64 a3, .int .i64 a4, .int .i64 a5, .int .i64 a6] 31)).alloc (.cells #[.int .i64 a7, .int .i64 a8] 23)).alloc (.cells #[.int .i64 a9, .int .i64 a10] 23)).cell? ⟨w.heap.size, 4, none⟩ = some (.int .i64 a4) := by go_simp
            have k5 : (((w.alloc (.cells #[.int .i64 a0, .int .i64 a1, .int .i64 a2, .int .i64 a3, .int .i64 a4, .int .i64 a5, .int .i64 a6] 31)).alloc (.cells #[.int .i64 a7, .int .i64 a8] 23)).alloc (.cells #[.int .i64 a9, .int .i64 a10] 23)).cell? ⟨w.heap.size, 5, none⟩ = some (.int .i64 a5) := by go_simp
            have k6 : (((w.alloc (.cells #[.int .i64 a0, .int .i64 a1, .int .i64 a2, .int .i64 a3, .int .i64 a4, .int .i64 a5, .int .i64 a6] 31)).alloc (.cells #[.int .i64 a7, .int .i64 a8] 23)).alloc (.cells #[.int .i64 a9, .int .i64 a10] 23)).cell? ⟨w.heap.size, 6, none⟩ = some (.int .i64 a6) := by go_simp
            have k7 : (((w.alloc (.cells #[.int .i64 a0, .int .i64 a1, .int .i64 a2, .int .i64 a3, .int .i64 a4, .int .i64 a5, .int .i64 a6] 31)).alloc (.cells #[.int .i64 a7, .int .i64 a8] 23)).alloc (.cells #[.int .i64 a9, .int .i64 a10] 23)).cell? ⟨w.heap.size + 1, 0, none⟩ = some (.int .i64 a7) := by go_simp
            have k8 : (((w.alloc (.cells #[.int .i64 a0, .int .i64 a1, .int .i64 a2, .int .i64 a3, .int .i64 a4, .int .i64 a5, .int .i64 a6] 31)).alloc (.cells #[.int .i64 a7, .int .i64 a8] 23)).alloc (.cells #[.int .i64 a9, .int .i64 a10] 23)).cell? ⟨w.heap.size + 1, 1, none⟩ = some (.int .i64 a8) := by go_simp
            have k9 : (((w.alloc (.cells #[.int .i64 a0, .int .i64 a1, .int .i64 a2, .int .i64 a3, .int .i64 a4, .int .i64 a5, .int .i64 a6] 31)).alloc (.cells #[.int .i64 a7, .int .i64 a8] 23)).alloc (.cells #[.int .i64 a9, .int .i64 a10] 23)).cell? ⟨w.heap.size + 2, 0, none⟩ = some (.int .i64 a9) := by go_simp
            have k10 : (((w.alloc (.cells #[.int .i64 a0, .int .i64 a1, .int .i64 a2, .int .i64 a3, .int .i64 a4, .int .i64 a5, .int .i64 a6] 31)).alloc (.cells #[.int .i64 a7, .int .i64 a8] 23)).alloc (.cells #[.int .i64 a9, .int .i64 a10] 23)).cell? ⟨w.heap.size + 2, 1, none⟩ = some (.int .i64 a10) := by go_simp
            have g0 : Own w (((w.alloc (.cells #[.int .i64 a0, .int .i64 a1, .int .i64 a2, .int .i64 a3, .int .i64 a4, .int .i64 a5, .int .i64 a6] 31)).alloc (.cells #[.int .i64 a7, .int .i64 a8] 23)).alloc (.cells #[.int .i64 a9, .int .i64 a10] 23)) := ((((Own.refl w).alloc _).alloc _).alloc _)
            generalize hW : (((w.alloc (.cells #[.int .i64 a0, .int .i64 a1, .int .i64 a2, .int .i64 a3, .int .i64 a4, .int .i64 a5, .int .i64 a6] 31)).alloc (.cells #[.int .i64 a7, .int .i64 a8] 23)).alloc (.cells #[.int .i64 a9, .int .i64 a10] 23)) = W0 at *
            clear hW
            go_wp2_with (first | (go_at_call 26; (first | (with_reducible refine (half_at (a0, a1) _ _ H0).mono ?_) | (with_reducible refine (half_at (a2, a3) _ _ H1).mono ?_) | (with_reducible refine (half_at (a4, a5) _ _ H2).mono ?_) | (with_reducible refine (half_at (a7, a8) _ _ H3).mono ?_) | (with_reducible refine (half_at (a9, a10) _ _ H4).mono ?_)); rintro e w1 ⟨rfl, hg⟩; replace k0 := hg.cell k0; replace k1 := hg.cell k1; replace k2 := hg.cell k2; replace k3 := hg.cell k3; replace k4 := hg.cell k4; replace k5 := hg.cell k5; replace k6 := hg.cell k6; replace k7 := hg.cell k7; replace k8 := hg.cell k8; replace k9 := hg.cell k9; replace k10 := hg.cell k10; replace g0 : Own w w1 := Own.trans (by first | exact g0 | exact Own.drewN g0 _) hg; clear hg) | (go_at_call 15; refine (awake_any _).mono ?_; rintro e w1 ⟨rfl, hg⟩; replace g0 : Own w w1 := Own.trans (by first | exact g0 | exact Own.drewN g0 _) hg; clear hg))
            go_ret
            exact ⟨rfl, g0⟩
          · skip
            have N := near_shift (r := a6) ht0 ht1 ht2 ht4
            have T := touch_shift (r := a6) ht0 ht1 ht2 ht3 ht4
            have SP := shift_ok ht0 ht4
            have SA := shift_ok ht1 ht4
            have SB := shift_ok ht2 ht4
            have SQ := shift_ok ht3 ht4
            have OP := half_ok ht0
            have OA := half_ok ht1
            have OQ := half_ok ht3
            clear ht0 ht1 ht2 ht3 ht4
            have HN := Lib.hid N
            have HT := Lib.hid T
            have HO := Lib.hid (And.intro SP (And.intro SA (And.intro SB (And.intro SQ (And.intro OP (And.intro OA OQ))))))
            clear N T SP SA SB SQ OP OA OQ
            go_enter Try.func10, Try.ntmps10
            go_upto_region 1 with (fail)
            have k0 : (((w.alloc (.cells #[.int .i64 a0, .int .i64 a1, .int .i64 a2, .int .i64 a3, .int .i64 a4, .int .i64 a5, .int .i64 a6] 31)).alloc (.cells #[.int .i64 a7, .int .i64 a8] 23)).alloc (.cells #[.int .i64 a9, .int .i64 a10] 23)).cell? ⟨w.heap.size, 0, none⟩ = some (.int .i64 a0) := by go_simp
            have k1 : (((w.alloc (.cells #[.int .i64 a0, .int .i64 a1, .int .i64 a2, .int .i64 a3, .int .i64 a4, .int .i64 a5, .int .i64 a6] 31)).alloc (.cells #[.int .i64 a7, .int .i64 a8] 23)).alloc (.cells #[.int .i64 a9, .int .i64 a10] 23)).cell? ⟨w.heap.size, 1, none⟩ = some (.int .i64 a1) := by go_simp
            have k2 : (((w.alloc (.cells #[.int .i64 a0, .int .i64 a1, .int .i64 a2, .int .i64 a3, .int .i64 a4, .int .i64 a5, .int .i64 a6] 31)).alloc (.cells #[.int .i64 a7, .int .i64 a8] 23)).alloc (.cells #[.int .i64 a9, .int .i64 a10] 23)).cell? ⟨w.heap.size, 2, none⟩ = some (.int .i64 a2) := by go_simp
            have k3 : (((w.alloc (.cells #[.int .i64 a0, .int .i64 a1, .int .i64 a2, .int .i64 a3, .int .i64 a4, .int .i64 a5, .int .i64 a6] 31)).alloc (.cells #[.int .i64 a7, .int .i64 a8] 23)).alloc (.cells #[.int .i64 a9, .int .i64 a10] 23)).cell? ⟨w.heap.size, 3, none⟩ = some (.int .i64 a3) := by go_simp
            have k4 : (((w.alloc (.cells #[.int .i64 a0, .int .i64 a1, .int .i64 a2, .int .i64 a3, .int .i64 a4, .int .i64 a5, .int .i64 a6] 31)).alloc (.cells #[.int .i64 a7, .int .i64 a8] 23)).alloc (.cells #[.int .i64 a9, .int .i64 a10] 23)).cell? ⟨w.heap.size, 4, none⟩ = some (.int .i64 a4) := by go_simp
            have k5 : (((w.alloc (.cells #[.int .i64 a0, .int .i64 a1, .int .i64 a2, .int .i64 a3, .int .i64 a4, .int .i64 a5, .int .i64 a6] 31)).alloc (.cells #[.int .i64 a7, .int .i64 a8] 23)).alloc (.cells #[.int .i64 a9, .int .i64 a10] 23)).cell? ⟨w.heap.size, 5, none⟩ = some (.int .i64 a5) := by go_simp
            have k6 : (((w.alloc (.cells #[.int .i64 a0, .int .i64 a1, .int .i64 a2, .int .i64 a3, .int .i64 a4, .int .i64 a5, .int .i64 a6] 31)).alloc (.cells #[.int .i64 a7, .int .i64 a8] 23)).alloc (.cells #[.int .i64 a9, .int .i64 a10] 23)).cell? ⟨w.heap.size, 6, none⟩ = some (.int .i64 a6) := by go_simp
            have k7 : (((w.alloc (.cells #[.int .i64 a0, .int .i64 a1, .int .i64 a2, .int .i64 a3, .int .i64 a4, .int .i64 a5, .int .i64 a6] 31)).alloc (.cells #[.int .i64 a7, .int .i64 a8] 23)).alloc (.cells #[.int .i64 a9, .int .i64 a10] 23)).cell? ⟨w.heap.size + 1, 0, none⟩ = some (.int .i64 a7) := by go_simp
            have k8 : (((w.alloc (.cells #[.int .i64 a0, .int .i64 a1, .int .i64 a2, .int .i64 a3, .int .i64 a4, .int .i64 a5, .int .i64 a6] 31)).alloc (.cells #[.int .i64 a7, .int .i64 a8] 23)).alloc (.cells #[.int .i64 a9, .int .i64 a10] 23)).cell? ⟨w.heap.size + 1, 1, none⟩ = some (.int .i64 a8) := by go_simp
            have k9 : (((w.alloc (.cells #[.int .i64 a0, .int .i64 a1, .int .i64 a2, .int .i64 a3, .int .i64 a4, .int .i64 a5, .int .i64 a6] 31)).alloc (.cells #[.int .i64 a7, .int .i64 a8] 23)).alloc (.cells #[.int .i64 a9, .int .i64 a10] 23)).cell? ⟨w.heap.size + 2, 0, none⟩ = some (.int .i64 a9) := by go_simp
            have k10 : (((w.alloc (.cells #[.int .i64 a0, .int .i64 a1, .int .i64 a2, .int .i64 a3, .int .i64 a4, .int .i64 a5, .int .i64 a6] 31)).alloc (.cells #[.int .i64 a7, .int .i64 a8] 23)).alloc (.cells #[.int .i64 a9, .int .i64 a10] 23)).cell? ⟨w.heap.size + 2, 1, none⟩ = some (.int .i64 a10) := by go_simp
            have g0 : Own w (((w.alloc (.cells #[.int .i64 a0, .int .i64 a1, .int .i64 a2, .int .i64 a3, .int .i64 a4, .int .i64 a5, .int .i64 a6] 31)).alloc (.cells #[.int .i64 a7, .int .i64 a8] 23)).alloc (.cells #[.int .i64 a9, .int .i64 a10] 23)) := ((((Own.refl w).alloc _).alloc _).alloc _)
            generalize hW : (((w.alloc (.cells #[.int .i64 a0, .int .i64 a1, .int .i64 a2, .int .i64 a3, .int .i64 a4, .int .i64 a5, .int .i64 a6] 31)).alloc (.cells #[.int .i64 a7, .int .i64 a8] 23)).alloc (.cells #[.int .i64 a9, .int .i64 a10] 23)) = W0 at *
            clear hW
            go_upto_region 3 with (first | (go_at_call 26; (first | (with_reducible refine (half_at (a0, a1) _ _ H0).mono ?_) | (with_reducible refine (half_at (a2, a3) _ _ H1).mono ?_) | (with_reducible refine (half_at (a4, a5) _ _ H2).mono ?_) | (with_reducible refine (half_at (a7, a8) _ _ H3).mono ?_) | (with_reducible refine (half_at (a9, a10) _ _ H4).mono ?_)); rintro e w1 ⟨rfl, hg⟩; replace k0 := hg.cell k0; replace k1 := hg.cell k1; replace k2 := hg.cell k2; replace k3 := hg.cell k3; replace k4 := hg.cell k4; replace k5 := hg.cell k5; replace k6 := hg.cell k6; replace k7 := hg.cell k7; replace k8 := hg.cell k8; replace k9 := hg.cell k9; replace k10 := hg.cell k10; replace g0 : Own w w1 := Own.trans (by first | exact g0 | exact Own.drewN g0 _) hg; clear hg))
            have hB0 : w.heap.size < w1.heap.size := block_lt_of_cell k0
            have hB1 : w.heap.size + 1 < w1.heap.size := block_lt_of_cell k7
            have hB2 : w.heap.size + 2 < w1.heap.size := block_lt_of_cell k9
            go_cut [7, 8] (fun sm sn wx => ∃ B7 B8 : Nat, sm = .pointer (some ⟨B7, 0, none⟩) ∧ sn = .pointer (some ⟨B8, 0, none⟩) ∧ wx.cell? ⟨B7, 0, none⟩ = some (.int .i64 a0) ∧ wx.cell? ⟨B7, 1, none⟩ = some (.int .i64 a1) ∧ wx.cell? ⟨B7, 2, none⟩ = some (.int .i64 a2) ∧ wx.cell? ⟨B7, 3, none⟩ = some (.int .i64 a3) ∧ wx.cell? ⟨B7, 4, none⟩ = some (.int .i64 a6) ∧ wx.cell? ⟨B8, 0, none⟩ = some (.int .i64 a4) ∧ wx.cell? ⟨B8, 1, none⟩ = some (.int .i64 a5) ∧ wx.cell? ⟨B8, 2, none⟩ = some (.int .i64 a7) ∧ wx.cell? ⟨B8, 3, none⟩ = some (.int .i64 a8) ∧ wx.cell? ⟨B8, 4, none⟩ = some (.int .i64 a6) ∧ Own w1 wx)
            case first =>
              go_region_held3 (fun w' => w'.cell? ⟨w.heap.size, 0, none⟩ = some (.int .i64 a0) ∧ w'.cell? ⟨w.heap.size, 1, none⟩ = some (.int .i64 a1) ∧ w'.cell? ⟨w.heap.size, 2, none⟩ = some (.int .i64 a2) ∧ w'.cell? ⟨w.heap.size, 3, none⟩ = some (.int .i64 a3) ∧ w'.cell? ⟨w.heap.size, 4, none⟩ = some (.int .i64 a4) ∧ w'.cell? ⟨w.heap.size, 5, none⟩ = some (.int .i64 a5) ∧ w'.cell? ⟨w.heap.size, 6, none⟩ = some (.int .i64 a6) ∧ w'.cell? ⟨w.heap.size + 1, 0, none⟩ = some (.int .i64 a7) ∧ w'.cell? ⟨w.heap.size + 1, 1, none⟩ = some (.int .i64 a8)) (go_keep) (fail)
              all_goals
                go_wp2
                go_meet
                exact ⟨_, _, rfl, rfl, by go_simp, by go_simp, by go_simp, by go_simp, by go_simp, by go_simp, by go_simp, by go_simp, by go_simp, by go_simp, (((Own.refl w1).alloc _).alloc _).drew⟩
            case rest =>
              obtain ⟨B7, B8, rfl, rfl, m0, m1, m2, m3, m4, n0, n1, n2, n3, n4, hO⟩ := hcut
              clear hB0 hB1 hB2
              replace k0 := hO.cell k0
              replace k1 := hO.cell k1
              replace k2 := hO.cell k2
              replace k3 := hO.cell k3
              replace k4 := hO.cell k4
              replace k5 := hO.cell k5
              replace k6 := hO.cell k6
              replace k7 := hO.cell k7
              replace k8 := hO.cell k8
              replace k9 := hO.cell k9
              replace k10 := hO.cell k10
              replace g0 : Own w wc := g0.trans hO
              clear hO
              obtain ⟨⟨px, py⟩, hp⟩ : ∃ p, shift (a0, a1) (a9, a10) = p := ⟨_, rfl⟩
              obtain ⟨⟨qx, qy⟩, hq⟩ : ∃ p, shift (a2, a3) (a9, a10) = p := ⟨_, rfl⟩
              obtain ⟨⟨rx, ry⟩, hr⟩ : ∃ p, shift (a4, a5) (a9, a10) = p := ⟨_, rfl⟩
              obtain ⟨⟨sx, sy⟩, hs⟩ : ∃ p, shift (a7, a8) (a9, a10) = p := ⟨_, rfl⟩
              have HP := Lib.hid hp
              have HQ := Lib.hid hq
              have HR := Lib.hid hr
              have HS := Lib.hid hs
              clear hp hq hr hs
              go_upto_region 4 with (fail)
              have f0 := Own.refl wc
              have f1 := (Own.refl wc).drew
              go_cut [9, 10] (fun sm sn wx => ∃ B9 B10 : Nat, sm = .pointer (some ⟨B9, 0, none⟩) ∧ sn = .pointer (some ⟨B10, 0, none⟩) ∧ wx.cell? ⟨B9, 0, none⟩ = some (.int .i64 px) ∧ wx.cell? ⟨B9, 1, none⟩ = some (.int .i64 py) ∧ wx.cell? ⟨B9, 2, none⟩ = some (.int .i64 qx) ∧ wx.cell? ⟨B9, 3, none⟩ = some (.int .i64 qy) ∧ wx.cell? ⟨B9, 4, none⟩ = some (.int .i64 a6) ∧ wx.cell? ⟨B10, 0, none⟩ = some (.int .i64 rx) ∧ wx.cell? ⟨B10, 1, none⟩ = some (.int .i64 ry) ∧ wx.cell? ⟨B10, 2, none⟩ = some (.int .i64 sx) ∧ wx.cell? ⟨B10, 3, none⟩ = some (.int .i64 sy) ∧ wx.cell? ⟨B10, 4, none⟩ = some (.int .i64 a6) ∧ Own wc wx)
              case first =>
                have hB0 : w.heap.size < wc.heap.size := block_lt_of_cell k0
                have hB1 : w.heap.size + 1 < wc.heap.size := block_lt_of_cell k7
                have hB2 : w.heap.size + 1 + 1 < wc.heap.size := block_lt_of_cell k9
                refine RegI.wp_gen ?_
                intro A hA
                have HAct := Lib.hid hA
                have e3 : (A.tmps[3]?).getD undef = .pointer (some ⟨w.heap.size, 0, none⟩) := by rw [hA]; rfl
                have e4 : (A.tmps[4]?).getD undef = .pointer (some ⟨w.heap.size + 1, 0, none⟩) := by rw [hA]; rfl
                have e5 : (A.tmps[5]?).getD undef = .pointer (some ⟨w.heap.size + 2, 0, none⟩) := by rw [hA]; rfl
                have hsz : A.tmps.size = 200 := by rw [hA]; rfl
                clear hA
                refine RegI.region_slots [63, 64, 65, 66, 67, 68, 69, 70, 71, 72, 73, 74, 75, 76, 77, 78, 79, 80, 81, 82, 83, 9, 10] (fun L x W => Own wc W ∧ (L.getD 0 false = true → x 63 = .pointer (some ⟨w.heap.size, 0, none⟩)) ∧ (L.getD 1 false = true → x 64 = .agg #[.int .i64 a0, .int .i64 a1]) ∧ (L.getD 2 false = true → x 65 = .agg #[.int .i64 a9, .int .i64 a10]) ∧ (L.getD 3 false = true → x 66 = .agg #[.int .i64 px, .int .i64 py]) ∧ (L.getD 4 false = true → x 67 = .pointer (some ⟨w.heap.size, 2, none⟩)) ∧ (L.getD 5 false = true → x 68 = .agg #[.int .i64 a2, .int .i64 a3]) ∧ (L.getD 6 false = true → x 69 = .agg #[.int .i64 a9, .int .i64 a10]) ∧ (L.getD 7 false = true → x 70 = .agg #[.int .i64 qx, .int .i64 qy]) ∧ (L.getD 8 false = true → x 71 = .pointer (some ⟨w.heap.size, 6, none⟩)) ∧ (L.getD 9 false = true → x 72 = .int .i64 a6) ∧ (L.getD 10 false = true → x 73 = .agg #[.int .i64 px, .int .i64 py, .int .i64 qx, .int .i64 qy, .int .i64 a6]) ∧ (L.getD 11 false = true → x 74 = .pointer (some ⟨w.heap.size, 4, none⟩)) ∧ (L.getD 12 false = true → x 75 = .agg #[.int .i64 a4, .int .i64 a5]) ∧ (L.getD 13 false = true → x 76 = .agg #[.int .i64 a9, .int .i64 a10]) ∧ (L.getD 14 false = true → x 77 = .agg #[.int .i64 rx, .int .i64 ry]) ∧ (L.getD 15 false = true → x 78 = .agg #[.int .i64 a7, .int .i64 a8]) ∧ (L.getD 16 false = true → x 79 = .agg #[.int .i64 a9, .int .i64 a10]) ∧ (L.getD 17 false = true → x 80 = .agg #[.int .i64 sx, .int .i64 sy]) ∧ (L.getD 18 false = true → x 81 = .pointer (some ⟨w.heap.size, 6, none⟩)) ∧ (L.getD 19 false = true → x 82 = .int .i64 a6) ∧ (L.getD 20 false = true → x 83 = .agg #[.int .i64 rx, .int .i64 ry, .int .i64 sx, .int .i64 sy, .int .i64 a6]) ∧ (L.getD 21 false = true → Slot5 wc W (x 9)) ∧ (L.getD 22 false = true → Slot5 wc W (x 10)) ∧ (L.getD 23 false = true → (L.getD 21 false = true ∧ L.getD 22 false = true) ∧ Held5 W (x 9) px py qx qy a6) ∧ (L.getD 24 false = true → (L.getD 21 false = true ∧ L.getD 22 false = true) ∧ Held5 W (x 10) rx ry sx sy a6) ∧ (L.getD 21 false = true → L.getD 22 false = true → x 9 ≠ x 10)) (by kernel_rfl) (by kernel_rfl) ?h0 ?hs ?he
                case h0 => exact ⟨(Own.refl wc).drew, fun h => (RegI.rep_false h).elim, fun h => (RegI.rep_false h).elim, fun h => (RegI.rep_false h).elim, fun h => (RegI.rep_false h).elim, fun h => (RegI.rep_false h).elim, fun h => (RegI.rep_false h).elim, fun h => (RegI.rep_false h).elim, fun h => (RegI.rep_false h).elim, fun h => (RegI.rep_false h).elim, fun h => (RegI.rep_false h).elim, fun h => (RegI.rep_false h).elim, fun h => (RegI.rep_false h).elim, fun h => (RegI.rep_false h).elim, fun h => (RegI.rep_false h).elim, fun h => (RegI.rep_false h).elim, fun h => (RegI.rep_false h).elim, fun h => (RegI.rep_false h).elim, fun h => (RegI.rep_false h).elim, fun h => (RegI.rep_false h).elim, fun h => (RegI.rep_false h).elim, fun h => (RegI.rep_false h).elim, fun h => (RegI.rep_false h).elim, fun h => (RegI.rep_false h).elim, fun h => (RegI.rep_false h).elim, fun h => (RegI.rep_false h).elim, fun h _ => (RegI.rep_false h).elim⟩
                case he =>
                  rintro L x W ⟨hO, f0, f1, f2, f3, f4, f5, f6, f7, f8, f9, f10, f11, f12, f13, f14, f15, f16, f17, f18, f19, f20, f21, f22, f23, f24, fd⟩ hall
                  obtain ⟨B9, h9, v0, v1, v2, v3, v4⟩ := (f23 (hall 23 (by decide))).2
                  obtain ⟨B10, h10, y0, y1, y2, y3, y4⟩ := (f24 (hall 24 (by decide))).2
                  clear f0 f1 f2 f3 f4 f5 f6 f7 f8 f9 f10 f11 f12 f13 f14 f15 f16 f17 f18 f19 f20 f21 f22 f23 f24 fd hall e3 e4 e5 hsz
                  rw [HAct.out]
                  clear HAct
                  simp only [RegI.FX, List.foldl_cons, List.foldl_nil, h9, h10]
                  go_simp
                  go_wp2
                  go_meet
                  exact ⟨B9, B10, rfl, rfl, v0, v1, v2, v3, v4, y0, y1, y2, y3, y4, hO⟩
                case hs =>
                  refine And.intro ?s0 (And.intro ?s1 (And.intro ?s2 (And.intro ?s3 (And.intro ?s4 (And.intro ?s5 (And.intro ?s6 (And.intro ?s7 (And.intro ?s8 (And.intro ?s9 (And.intro ?s10 (And.intro ?s11 (And.intro ?s12 (And.intro ?s13 (And.intro ?s14 (And.intro ?s15 (And.intro ?s16 (And.intro ?s17 (And.intro ?s18 (And.intro ?s19 (And.intro ?s20 (And.intro ?s21 (And.intro ?s22 (And.intro ?s23 (And.intro ?s24 (trivial)))))))))))))))))))))))))
                  case s0 =>
                    refine RegI.step_value rfl rfl rfl (by decide) ?_
                    rintro L x W ⟨hO, f0, f1, f2, f3, f4, f5, f6, f7, f8, f9, f10, f11, f12, f13, f14, f15, f16, f17, f18, f19, f20, f21, f22, f23, f24, fd⟩ hr hu
                    have v3 : ((RegI.FX A _ x).tmps[3]?).getD undef = _ := (RegI.fx_outG (D := [63, 64, 65, 66, 67, 68, 69, 70, 71, 72, 73, 74, 75, 76, 77, 78, 79, 80, 81, 82, 83, 9, 10]) (by decide)).trans e3
                    refine ⟨.pointer (some ⟨w.heap.size, 0, none⟩), W, ?_, hO, fun _ => rfl, fun h => f1 (RegI.gd_ne (by decide) h), fun h => f2 (RegI.gd_ne (by decide) h), fun h => f3 (RegI.gd_ne (by decide) h), fun h => f4 (RegI.gd_ne (by decide) h), fun h => f5 (RegI.gd_ne (by decide) h), fun h => f6 (RegI.gd_ne (by decide) h), fun h => f7 (RegI.gd_ne (by decide) h), fun h => f8 (RegI.gd_ne (by decide) h), fun h => f9 (RegI.gd_ne (by decide) h), fun h => f10 (RegI.gd_ne (by decide) h), fun h => f11 (RegI.gd_ne (by decide) h), fun h => f12 (RegI.gd_ne (by decide) h), fun h => f13 (RegI.gd_ne (by decide) h), fun h => f14 (RegI.gd_ne (by decide) h), fun h => f15 (RegI.gd_ne (by decide) h), fun h => f16 (RegI.gd_ne (by decide) h), fun h => f17 (RegI.gd_ne (by decide) h), fun h => f18 (RegI.gd_ne (by decide) h), fun h => f19 (RegI.gd_ne (by decide) h), fun h => f20 (RegI.gd_ne (by decide) h), fun h => f21 (RegI.gd_ne (by decide) h), fun h => f22 (RegI.gd_ne (by decide) h), fun h => ⟨⟨RegI.gd_keep (f23 (RegI.gd_ne (by decide) h)).1.1, RegI.gd_keep (f23 (RegI.gd_ne (by decide) h)).1.2⟩, (f23 (RegI.gd_ne (by decide) h)).2⟩, fun h => ⟨⟨RegI.gd_keep (f24 (RegI.gd_ne (by decide) h)).1.1, RegI.gd_keep (f24 (RegI.gd_ne (by decide) h)).1.2⟩, (f24 (RegI.gd_ne (by decide) h)).2⟩, fun h1 h2 => fd (RegI.gd_ne (by decide) h1) (RegI.gd_ne (by decide) h2)⟩
                    clear f0 f1 f2 f3 f4 f5 f6 f7 f8 f9 f10 f11 f12 f13 f14 f15 f16 f17 f18 f19 f20 f21 f22 f23 f24 fd hr hu hO
                    go_simp
                  case s1 =>
                    refine RegI.step_value rfl rfl rfl (by decide) ?_
                    rintro L x W ⟨hO, f0, f1, f2, f3, f4, f5, f6, f7, f8, f9, f10, f11, f12, f13, f14, f15, f16, f17, f18, f19, f20, f21, f22, f23, f24, fd⟩ hr hu
                    have l0 := hr { on := 0, ground := .data } (by simp) rfl
                    have v63 : ((RegI.FX A _ x).tmps[63]?).getD undef = _ := (RegI.fx_inG (D := [63, 64, 65, 66, 67, 68, 69, 70, 71, 72, 73, 74, 75, 76, 77, 78, 79, 80, 81, 82, 83, 9, 10]) (by decide) (by rw [hsz]; decide)).trans (f0 l0)
                    have ck0 := hO.cell k0
                    have ck1 := hO.cell k1
                    refine ⟨.agg #[.int .i64 a0, .int .i64 a1], W, ?_, hO, fun h => f0 (RegI.gd_ne (by decide) h), fun _ => rfl, fun h => f2 (RegI.gd_ne (by decide) h), fun h => f3 (RegI.gd_ne (by decide) h), fun h => f4 (RegI.gd_ne (by decide) h), fun h => f5 (RegI.gd_ne (by decide) h), fun h => f6 (RegI.gd_ne (by decide) h), fun h => f7 (RegI.gd_ne (by decide) h), fun h => f8 (RegI.gd_ne (by decide) h), fun h => f9 (RegI.gd_ne (by decide) h), fun h => f10 (RegI.gd_ne (by decide) h), fun h => f11 (RegI.gd_ne (by decide) h), fun h => f12 (RegI.gd_ne (by decide) h), fun h => f13 (RegI.gd_ne (by decide) h), fun h => f14 (RegI.gd_ne (by decide) h), fun h => f15 (RegI.gd_ne (by decide) h), fun h => f16 (RegI.gd_ne (by decide) h), fun h => f17 (RegI.gd_ne (by decide) h), fun h => f18 (RegI.gd_ne (by decide) h), fun h => f19 (RegI.gd_ne (by decide) h), fun h => f20 (RegI.gd_ne (by decide) h), fun h => f21 (RegI.gd_ne (by decide) h), fun h => f22 (RegI.gd_ne (by decide) h), fun h => ⟨⟨RegI.gd_keep (f23 (RegI.gd_ne (by decide) h)).1.1, RegI.gd_keep (f23 (RegI.gd_ne (by decide) h)).1.2⟩, (f23 (RegI.gd_ne (by decide) h)).2⟩, fun h => ⟨⟨RegI.gd_keep (f24 (RegI.gd_ne (by decide) h)).1.1, RegI.gd_keep (f24 (RegI.gd_ne (by decide) h)).1.2⟩, (f24 (RegI.gd_ne (by decide) h)).2⟩, fun h1 h2 => fd (RegI.gd_ne (by decide) h1) (RegI.gd_ne (by decide) h2)⟩
                    clear f0 f1 f2 f3 f4 f5 f6 f7 f8 f9 f10 f11 f12 f13 f14 f15 f16 f17 f18 f19 f20 f21 f22 f23 f24 fd hr hu hO
                    go_simp
                  case s2 =>
                    refine RegI.step_value rfl rfl rfl (by decide) ?_
                    rintro L x W ⟨hO, f0, f1, f2, f3, f4, f5, f6, f7, f8, f9, f10, f11, f12, f13, f14, f15, f16, f17, f18, f19, f20, f21, f22, f23, f24, fd⟩ hr hu
                    have v5 : ((RegI.FX A _ x).tmps[5]?).getD undef = _ := (RegI.fx_outG (D := [63, 64, 65, 66, 67, 68, 69, 70, 71, 72, 73, 74, 75, 76, 77, 78, 79, 80, 81, 82, 83, 9, 10]) (by decide)).trans e5
                    have ck9 := hO.cell k9
                    have ck10 := hO.cell k10
                    refine ⟨.agg #[.int .i64 a9, .int .i64 a10], W, ?_, hO, fun h => f0 (RegI.gd_ne (by decide) h), fun h => f1 (RegI.gd_ne (by decide) h), fun _ => rfl, fun h => f3 (RegI.gd_ne (by decide) h), fun h => f4 (RegI.gd_ne (by decide) h), fun h => f5 (RegI.gd_ne (by decide) h), fun h => f6 (RegI.gd_ne (by decide) h), fun h => f7 (RegI.gd_ne (by decide) h), fun h => f8 (RegI.gd_ne (by decide) h), fun h => f9 (RegI.gd_ne (by decide) h), fun h => f10 (RegI.gd_ne (by decide) h), fun h => f11 (RegI.gd_ne (by decide) h), fun h => f12 (RegI.gd_ne (by decide) h), fun h => f13 (RegI.gd_ne (by decide) h), fun h => f14 (RegI.gd_ne (by decide) h), fun h => f15 (RegI.gd_ne (by decide) h), fun h => f16 (RegI.gd_ne (by decide) h), fun h => f17 (RegI.gd_ne (by decide) h), fun h => f18 (RegI.gd_ne (by decide) h), fun h => f19 (RegI.gd_ne (by decide) h), fun h => f20 (RegI.gd_ne (by decide) h), fun h => f21 (RegI.gd_ne (by decide) h), fun h => f22 (RegI.gd_ne (by decide) h), fun h => ⟨⟨RegI.gd_keep (f23 (RegI.gd_ne (by decide) h)).1.1, RegI.gd_keep (f23 (RegI.gd_ne (by decide) h)).1.2⟩, (f23 (RegI.gd_ne (by decide) h)).2⟩, fun h => ⟨⟨RegI.gd_keep (f24 (RegI.gd_ne (by decide) h)).1.1, RegI.gd_keep (f24 (RegI.gd_ne (by decide) h)).1.2⟩, (f24 (RegI.gd_ne (by decide) h)).2⟩, fun h1 h2 => fd (RegI.gd_ne (by decide) h1) (RegI.gd_ne (by decide) h2)⟩
                    clear f0 f1 f2 f3 f4 f5 f6 f7 f8 f9 f10 f11 f12 f13 f14 f15 f16 f17 f18 f19 f20 f21 f22 f23 f24 fd hr hu hO
                    go_simp
                  case s3 =>
                    refine RegI.step_call rfl rfl rfl (by decide) ?_
                    rintro L x W ⟨hO, f0, f1, f2, f3, f4, f5, f6, f7, f8, f9, f10, f11, f12, f13, f14, f15, f16, f17, f18, f19, f20, f21, f22, f23, f24, fd⟩ hr hu
                    have l1 := hr { on := 1, ground := .data } (by simp) rfl
                    have v64 : ((RegI.FX A _ x).tmps[64]?).getD undef = _ := (RegI.fx_inG (D := [63, 64, 65, 66, 67, 68, 69, 70, 71, 72, 73, 74, 75, 76, 77, 78, 79, 80, 81, 82, 83, 9, 10]) (by decide) (by rw [hsz]; decide)).trans (f1 l1)
                    have l2 := hr { on := 2, ground := .data } (by simp) rfl
                    have v65 : ((RegI.FX A _ x).tmps[65]?).getD undef = _ := (RegI.fx_inG (D := [63, 64, 65, 66, 67, 68, 69, 70, 71, 72, 73, 74, 75, 76, 77, 78, 79, 80, 81, 82, 83, 9, 10]) (by decide) (by rw [hsz]; decide)).trans (f2 l2)
                    refine ⟨27, #[.agg #[.int .i64 a0, .int .i64 a1], .agg #[.int .i64 a9, .int .i64 a10]], ?_, ?_⟩
                    · clear f0 f1 f2 f3 f4 f5 f6 f7 f8 f9 f10 f11 f12 f13 f14 f15 f16 f17 f18 f19 f20 f21 f22 f23 f24 fd hr hu hO
                      rw [execOp_call_go]
                      simp [Act.eval, v64, v65]
                    · refine (shifted_at (a0, a1) (a9, a10) (px, py) W HP H0 H4).mono ?_
                      rintro e W2 ⟨rfl, hg⟩
                      exact ⟨_, rfl, hO.trans hg, fun h => f0 (RegI.gd_ne (by decide) h), fun h => f1 (RegI.gd_ne (by decide) h), fun h => f2 (RegI.gd_ne (by decide) h), fun _ => rfl, fun h => f4 (RegI.gd_ne (by decide) h), fun h => f5 (RegI.gd_ne (by decide) h), fun h => f6 (RegI.gd_ne (by decide) h), fun h => f7 (RegI.gd_ne (by decide) h), fun h => f8 (RegI.gd_ne (by decide) h), fun h => f9 (RegI.gd_ne (by decide) h), fun h => f10 (RegI.gd_ne (by decide) h), fun h => f11 (RegI.gd_ne (by decide) h), fun h => f12 (RegI.gd_ne (by decide) h), fun h => f13 (RegI.gd_ne (by decide) h), fun h => f14 (RegI.gd_ne (by decide) h), fun h => f15 (RegI.gd_ne (by decide) h), fun h => f16 (RegI.gd_ne (by decide) h), fun h => f17 (RegI.gd_ne (by decide) h), fun h => f18 (RegI.gd_ne (by decide) h), fun h => f19 (RegI.gd_ne (by decide) h), fun h => f20 (RegI.gd_ne (by decide) h), fun h => (f21 (RegI.gd_ne (by decide) h)).own hg, fun h => (f22 (RegI.gd_ne (by decide) h)).own hg, fun h => ⟨⟨RegI.gd_keep (f23 (RegI.gd_ne (by decide) h)).1.1, RegI.gd_keep (f23 (RegI.gd_ne (by decide) h)).1.2⟩, (f23 (RegI.gd_ne (by decide) h)).2.own hg⟩, fun h => ⟨⟨RegI.gd_keep (f24 (RegI.gd_ne (by decide) h)).1.1, RegI.gd_keep (f24 (RegI.gd_ne (by decide) h)).1.2⟩, (f24 (RegI.gd_ne (by decide) h)).2.own hg⟩, fun h1 h2 => fd (RegI.gd_ne (by decide) h1) (RegI.gd_ne (by decide) h2)⟩
                  case s4 =>
                    refine RegI.step_value rfl rfl rfl (by decide) ?_
                    rintro L x W ⟨hO, f0, f1, f2, f3, f4, f5, f6, f7, f8, f9, f10, f11, f12, f13, f14, f15, f16, f17, f18, f19, f20, f21, f22, f23, f24, fd⟩ hr hu
                    have v3 : ((RegI.FX A _ x).tmps[3]?).getD undef = _ := (RegI.fx_outG (D := [63, 64, 65, 66, 67, 68, 69, 70, 71, 72, 73, 74, 75, 76, 77, 78, 79, 80, 81, 82, 83, 9, 10]) (by decide)).trans e3
                    refine ⟨.pointer (some ⟨w.heap.size, 2, none⟩), W, ?_, hO, fun h => f0 (RegI.gd_ne (by decide) h), fun h => f1 (RegI.gd_ne (by decide) h), fun h => f2 (RegI.gd_ne (by decide) h), fun h => f3 (RegI.gd_ne (by decide) h), fun _ => rfl, fun h => f5 (RegI.gd_ne (by decide) h), fun h => f6 (RegI.gd_ne (by decide) h), fun h => f7 (RegI.gd_ne (by decide) h), fun h => f8 (RegI.gd_ne (by decide) h), fun h => f9 (RegI.gd_ne (by decide) h), fun h => f10 (RegI.gd_ne (by decide) h), fun h => f11 (RegI.gd_ne (by decide) h), fun h => f12 (RegI.gd_ne (by decide) h), fun h => f13 (RegI.gd_ne (by decide) h), fun h => f14 (RegI.gd_ne (by decide) h), fun h => f15 (RegI.gd_ne (by decide) h), fun h => f16 (RegI.gd_ne (by decide) h), fun h => f17 (RegI.gd_ne (by decide) h), fun h => f18 (RegI.gd_ne (by decide) h), fun h => f19 (RegI.gd_ne (by decide) h), fun h => f20 (RegI.gd_ne (by decide) h), fun h => f21 (RegI.gd_ne (by decide) h), fun h => f22 (RegI.gd_ne (by decide) h), fun h => ⟨⟨RegI.gd_keep (f23 (RegI.gd_ne (by decide) h)).1.1, RegI.gd_keep (f23 (RegI.gd_ne (by decide) h)).1.2⟩, (f23 (RegI.gd_ne (by decide) h)).2⟩, fun h => ⟨⟨RegI.gd_keep (f24 (RegI.gd_ne (by decide) h)).1.1, RegI.gd_keep (f24 (RegI.gd_ne (by decide) h)).1.2⟩, (f24 (RegI.gd_ne (by decide) h)).2⟩, fun h1 h2 => fd (RegI.gd_ne (by decide) h1) (RegI.gd_ne (by decide) h2)⟩
                    clear f0 f1 f2 f3 f4 f5 f6 f7 f8 f9 f10 f11 f12 f13 f14 f15 f16 f17 f18 f19 f20 f21 f22 f23 f24 fd hr hu hO
                    go_simp
                  case s5 =>
                    refine RegI.step_value rfl rfl rfl (by decide) ?_
                    rintro L x W ⟨hO, f0, f1, f2, f3, f4, f5, f6, f7, f8, f9, f10, f11, f12, f13, f14, f15, f16, f17, f18, f19, f20, f21, f22, f23, f24, fd⟩ hr hu
                    have l4 := hr { on := 4, ground := .data } (by simp) rfl
                    have v67 : ((RegI.FX A _ x).tmps[67]?).getD undef = _ := (RegI.fx_inG (D := [63, 64, 65, 66, 67, 68, 69, 70, 71, 72, 73, 74, 75, 76, 77, 78, 79, 80, 81, 82, 83, 9, 10]) (by decide) (by rw [hsz]; decide)).trans (f4 l4)
                    have ck2 := hO.cell k2
                    have ck3 := hO.cell k3
                    refine ⟨.agg #[.int .i64 a2, .int .i64 a3], W, ?_, hO, fun h => f0 (RegI.gd_ne (by decide) h), fun h => f1 (RegI.gd_ne (by decide) h), fun h => f2 (RegI.gd_ne (by decide) h), fun h => f3 (RegI.gd_ne (by decide) h), fun h => f4 (RegI.gd_ne (by decide) h), fun _ => rfl, fun h => f6 (RegI.gd_ne (by decide) h), fun h => f7 (RegI.gd_ne (by decide) h), fun h => f8 (RegI.gd_ne (by decide) h), fun h => f9 (RegI.gd_ne (by decide) h), fun h => f10 (RegI.gd_ne (by decide) h), fun h => f11 (RegI.gd_ne (by decide) h), fun h => f12 (RegI.gd_ne (by decide) h), fun h => f13 (RegI.gd_ne (by decide) h), fun h => f14 (RegI.gd_ne (by decide) h), fun h => f15 (RegI.gd_ne (by decide) h), fun h => f16 (RegI.gd_ne (by decide) h), fun h => f17 (RegI.gd_ne (by decide) h), fun h => f18 (RegI.gd_ne (by decide) h), fun h => f19 (RegI.gd_ne (by decide) h), fun h => f20 (RegI.gd_ne (by decide) h), fun h => f21 (RegI.gd_ne (by decide) h), fun h => f22 (RegI.gd_ne (by decide) h), fun h => ⟨⟨RegI.gd_keep (f23 (RegI.gd_ne (by decide) h)).1.1, RegI.gd_keep (f23 (RegI.gd_ne (by decide) h)).1.2⟩, (f23 (RegI.gd_ne (by decide) h)).2⟩, fun h => ⟨⟨RegI.gd_keep (f24 (RegI.gd_ne (by decide) h)).1.1, RegI.gd_keep (f24 (RegI.gd_ne (by decide) h)).1.2⟩, (f24 (RegI.gd_ne (by decide) h)).2⟩, fun h1 h2 => fd (RegI.gd_ne (by decide) h1) (RegI.gd_ne (by decide) h2)⟩
                    clear f0 f1 f2 f3 f4 f5 f6 f7 f8 f9 f10 f11 f12 f13 f14 f15 f16 f17 f18 f19 f20 f21 f22 f23 f24 fd hr hu hO
                    go_simp
                  case s6 =>
                    refine RegI.step_value rfl rfl rfl (by decide) ?_
                    rintro L x W ⟨hO, f0, f1, f2, f3, f4, f5, f6, f7, f8, f9, f10, f11, f12, f13, f14, f15, f16, f17, f18, f19, f20, f21, f22, f23, f24, fd⟩ hr hu
                    have v5 : ((RegI.FX A _ x).tmps[5]?).getD undef = _ := (RegI.fx_outG (D := [63, 64, 65, 66, 67, 68, 69, 70, 71, 72, 73, 74, 75, 76, 77, 78, 79, 80, 81, 82, 83, 9, 10]) (by decide)).trans e5
                    have ck9 := hO.cell k9
                    have ck10 := hO.cell k10
                    refine ⟨.agg #[.int .i64 a9, .int .i64 a10], W, ?_, hO, fun h => f0 (RegI.gd_ne (by decide) h), fun h => f1 (RegI.gd_ne (by decide) h), fun h => f2 (RegI.gd_ne (by decide) h), fun h => f3 (RegI.gd_ne (by decide) h), fun h => f4 (RegI.gd_ne (by decide) h), fun h => f5 (RegI.gd_ne (by decide) h), fun _ => rfl, fun h => f7 (RegI.gd_ne (by decide) h), fun h => f8 (RegI.gd_ne (by decide) h), fun h => f9 (RegI.gd_ne (by decide) h), fun h => f10 (RegI.gd_ne (by decide) h), fun h => f11 (RegI.gd_ne (by decide) h), fun h => f12 (RegI.gd_ne (by decide) h), fun h => f13 (RegI.gd_ne (by decide) h), fun h => f14 (RegI.gd_ne (by decide) h), fun h => f15 (RegI.gd_ne (by decide) h), fun h => f16 (RegI.gd_ne (by decide) h), fun h => f17 (RegI.gd_ne (by decide) h), fun h => f18 (RegI.gd_ne (by decide) h), fun h => f19 (RegI.gd_ne (by decide) h), fun h => f20 (RegI.gd_ne (by decide) h), fun h => f21 (RegI.gd_ne (by decide) h), fun h => f22 (RegI.gd_ne (by decide) h), fun h => ⟨⟨RegI.gd_keep (f23 (RegI.gd_ne (by decide) h)).1.1, RegI.gd_keep (f23 (RegI.gd_ne (by decide) h)).1.2⟩, (f23 (RegI.gd_ne (by decide) h)).2⟩, fun h => ⟨⟨RegI.gd_keep (f24 (RegI.gd_ne (by decide) h)).1.1, RegI.gd_keep (f24 (RegI.gd_ne (by decide) h)).1.2⟩, (f24 (RegI.gd_ne (by decide) h)).2⟩, fun h1 h2 => fd (RegI.gd_ne (by decide) h1) (RegI.gd_ne (by decide) h2)⟩
                    clear f0 f1 f2 f3 f4 f5 f6 f7 f8 f9 f10 f11 f12 f13 f14 f15 f16 f17 f18 f19 f20 f21 f22 f23 f24 fd hr hu hO
                    go_simp
                  case s7 =>
                    refine RegI.step_call rfl rfl rfl (by decide) ?_
                    rintro L x W ⟨hO, f0, f1, f2, f3, f4, f5, f6, f7, f8, f9, f10, f11, f12, f13, f14, f15, f16, f17, f18, f19, f20, f21, f22, f23, f24, fd⟩ hr hu
                    have l5 := hr { on := 5, ground := .data } (by simp) rfl
                    have v68 : ((RegI.FX A _ x).tmps[68]?).getD undef = _ := (RegI.fx_inG (D := [63, 64, 65, 66, 67, 68, 69, 70, 71, 72, 73, 74, 75, 76, 77, 78, 79, 80, 81, 82, 83, 9, 10]) (by decide) (by rw [hsz]; decide)).trans (f5 l5)
                    have l6 := hr { on := 6, ground := .data } (by simp) rfl
                    have v69 : ((RegI.FX A _ x).tmps[69]?).getD undef = _ := (RegI.fx_inG (D := [63, 64, 65, 66, 67, 68, 69, 70, 71, 72, 73, 74, 75, 76, 77, 78, 79, 80, 81, 82, 83, 9, 10]) (by decide) (by rw [hsz]; decide)).trans (f6 l6)
                    refine ⟨27, #[.agg #[.int .i64 a2, .int .i64 a3], .agg #[.int .i64 a9, .int .i64 a10]], ?_, ?_⟩
                    · clear f0 f1 f2 f3 f4 f5 f6 f7 f8 f9 f10 f11 f12 f13 f14 f15 f16 f17 f18 f19 f20 f21 f22 f23 f24 fd hr hu hO
                      rw [execOp_call_go]
                      simp [Act.eval, v68, v69]
                    · refine (shifted_at (a2, a3) (a9, a10) (qx, qy) W HQ H1 H4).mono ?_
                      rintro e W2 ⟨rfl, hg⟩
                      exact ⟨_, rfl, hO.trans hg, fun h => f0 (RegI.gd_ne (by decide) h), fun h => f1 (RegI.gd_ne (by decide) h), fun h => f2 (RegI.gd_ne (by decide) h), fun h => f3 (RegI.gd_ne (by decide) h), fun h => f4 (RegI.gd_ne (by decide) h), fun h => f5 (RegI.gd_ne (by decide) h), fun h => f6 (RegI.gd_ne (by decide) h), fun _ => rfl, fun h => f8 (RegI.gd_ne (by decide) h), fun h => f9 (RegI.gd_ne (by decide) h), fun h => f10 (RegI.gd_ne (by decide) h), fun h => f11 (RegI.gd_ne (by decide) h), fun h => f12 (RegI.gd_ne (by decide) h), fun h => f13 (RegI.gd_ne (by decide) h), fun h => f14 (RegI.gd_ne (by decide) h), fun h => f15 (RegI.gd_ne (by decide) h), fun h => f16 (RegI.gd_ne (by decide) h), fun h => f17 (RegI.gd_ne (by decide) h), fun h => f18 (RegI.gd_ne (by decide) h), fun h => f19 (RegI.gd_ne (by decide) h), fun h => f20 (RegI.gd_ne (by decide) h), fun h => (f21 (RegI.gd_ne (by decide) h)).own hg, fun h => (f22 (RegI.gd_ne (by decide) h)).own hg, fun h => ⟨⟨RegI.gd_keep (f23 (RegI.gd_ne (by decide) h)).1.1, RegI.gd_keep (f23 (RegI.gd_ne (by decide) h)).1.2⟩, (f23 (RegI.gd_ne (by decide) h)).2.own hg⟩, fun h => ⟨⟨RegI.gd_keep (f24 (RegI.gd_ne (by decide) h)).1.1, RegI.gd_keep (f24 (RegI.gd_ne (by decide) h)).1.2⟩, (f24 (RegI.gd_ne (by decide) h)).2.own hg⟩, fun h1 h2 => fd (RegI.gd_ne (by decide) h1) (RegI.gd_ne (by decide) h2)⟩
                  case s8 =>
                    refine RegI.step_value rfl rfl rfl (by decide) ?_
                    rintro L x W ⟨hO, f0, f1, f2, f3, f4, f5, f6, f7, f8, f9, f10, f11, f12, f13, f14, f15, f16, f17, f18, f19, f20, f21, f22, f23, f24, fd⟩ hr hu
                    have v3 : ((RegI.FX A _ x).tmps[3]?).getD undef = _ := (RegI.fx_outG (D := [63, 64, 65, 66, 67, 68, 69, 70, 71, 72, 73, 74, 75, 76, 77, 78, 79, 80, 81, 82, 83, 9, 10]) (by decide)).trans e3
                    refine ⟨.pointer (some ⟨w.heap.size, 6, none⟩), W, ?_, hO, fun h => f0 (RegI.gd_ne (by decide) h), fun h => f1 (RegI.gd_ne (by decide) h), fun h => f2 (RegI.gd_ne (by decide) h), fun h => f3 (RegI.gd_ne (by decide) h), fun h => f4 (RegI.gd_ne (by decide) h), fun h => f5 (RegI.gd_ne (by decide) h), fun h => f6 (RegI.gd_ne (by decide) h), fun h => f7 (RegI.gd_ne (by decide) h), fun _ => rfl, fun h => f9 (RegI.gd_ne (by decide) h), fun h => f10 (RegI.gd_ne (by decide) h), fun h => f11 (RegI.gd_ne (by decide) h), fun h => f12 (RegI.gd_ne (by decide) h), fun h => f13 (RegI.gd_ne (by decide) h), fun h => f14 (RegI.gd_ne (by decide) h), fun h => f15 (RegI.gd_ne (by decide) h), fun h => f16 (RegI.gd_ne (by decide) h), fun h => f17 (RegI.gd_ne (by decide) h), fun h => f18 (RegI.gd_ne (by decide) h), fun h => f19 (RegI.gd_ne (by decide) h), fun h => f20 (RegI.gd_ne (by decide) h), fun h => f21 (RegI.gd_ne (by decide) h), fun h => f22 (RegI.gd_ne (by decide) h), fun h => ⟨⟨RegI.gd_keep (f23 (RegI.gd_ne (by decide) h)).1.1, RegI.gd_keep (f23 (RegI.gd_ne (by decide) h)).1.2⟩, (f23 (RegI.gd_ne (by decide) h)).2⟩, fun h => ⟨⟨RegI.gd_keep (f24 (RegI.gd_ne (by decide) h)).1.1, RegI.gd_keep (f24 (RegI.gd_ne (by decide) h)).1.2⟩, (f24 (RegI.gd_ne (by decide) h)).2⟩, fun h1 h2 => fd (RegI.gd_ne (by decide) h1) (RegI.gd_ne (by decide) h2)⟩
                    clear f0 f1 f2 f3 f4 f5 f6 f7 f8 f9 f10 f11 f12 f13 f14 f15 f16 f17 f18 f19 f20 f21 f22 f23 f24 fd hr hu hO
                    go_simp
                  case s9 =>
                    refine RegI.step_value rfl rfl rfl (by decide) ?_
                    rintro L x W ⟨hO, f0, f1, f2, f3, f4, f5, f6, f7, f8, f9, f10, f11, f12, f13, f14, f15, f16, f17, f18, f19, f20, f21, f22, f23, f24, fd⟩ hr hu
                    have l8 := hr { on := 8, ground := .data } (by simp) rfl
                    have v71 : ((RegI.FX A _ x).tmps[71]?).getD undef = _ := (RegI.fx_inG (D := [63, 64, 65, 66, 67, 68, 69, 70, 71, 72, 73, 74, 75, 76, 77, 78, 79, 80, 81, 82, 83, 9, 10]) (by decide) (by rw [hsz]; decide)).trans (f8 l8)
                    have ck6 := hO.cell k6
                    refine ⟨.int .i64 a6, W, ?_, hO, fun h => f0 (RegI.gd_ne (by decide) h), fun h => f1 (RegI.gd_ne (by decide) h), fun h => f2 (RegI.gd_ne (by decide) h), fun h => f3 (RegI.gd_ne (by decide) h), fun h => f4 (RegI.gd_ne (by decide) h), fun h => f5 (RegI.gd_ne (by decide) h), fun h => f6 (RegI.gd_ne (by decide) h), fun h => f7 (RegI.gd_ne (by decide) h), fun h => f8 (RegI.gd_ne (by decide) h), fun _ => rfl, fun h => f10 (RegI.gd_ne (by decide) h), fun h => f11 (RegI.gd_ne (by decide) h), fun h => f12 (RegI.gd_ne (by decide) h), fun h => f13 (RegI.gd_ne (by decide) h), fun h => f14 (RegI.gd_ne (by decide) h), fun h => f15 (RegI.gd_ne (by decide) h), fun h => f16 (RegI.gd_ne (by decide) h), fun h => f17 (RegI.gd_ne (by decide) h), fun h => f18 (RegI.gd_ne (by decide) h), fun h => f19 (RegI.gd_ne (by decide) h), fun h => f20 (RegI.gd_ne (by decide) h), fun h => f21 (RegI.gd_ne (by decide) h), fun h => f22 (RegI.gd_ne (by decide) h), fun h => ⟨⟨RegI.gd_keep (f23 (RegI.gd_ne (by decide) h)).1.1, RegI.gd_keep (f23 (RegI.gd_ne (by decide) h)).1.2⟩, (f23 (RegI.gd_ne (by decide) h)).2⟩, fun h => ⟨⟨RegI.gd_keep (f24 (RegI.gd_ne (by decide) h)).1.1, RegI.gd_keep (f24 (RegI.gd_ne (by decide) h)).1.2⟩, (f24 (RegI.gd_ne (by decide) h)).2⟩, fun h1 h2 => fd (RegI.gd_ne (by decide) h1) (RegI.gd_ne (by decide) h2)⟩
                    clear f0 f1 f2 f3 f4 f5 f6 f7 f8 f9 f10 f11 f12 f13 f14 f15 f16 f17 f18 f19 f20 f21 f22 f23 f24 fd hr hu hO
                    go_simp
                  case s10 =>
                    refine RegI.step_value rfl rfl rfl (by decide) ?_
                    rintro L x W ⟨hO, f0, f1, f2, f3, f4, f5, f6, f7, f8, f9, f10, f11, f12, f13, f14, f15, f16, f17, f18, f19, f20, f21, f22, f23, f24, fd⟩ hr hu
                    have l3 := hr { on := 3, ground := .data } (by simp) rfl
                    have v66 : ((RegI.FX A _ x).tmps[66]?).getD undef = _ := (RegI.fx_inG (D := [63, 64, 65, 66, 67, 68, 69, 70, 71, 72, 73, 74, 75, 76, 77, 78, 79, 80, 81, 82, 83, 9, 10]) (by decide) (by rw [hsz]; decide)).trans (f3 l3)
                    have l7 := hr { on := 7, ground := .data } (by simp) rfl
                    have v70 : ((RegI.FX A _ x).tmps[70]?).getD undef = _ := (RegI.fx_inG (D := [63, 64, 65, 66, 67, 68, 69, 70, 71, 72, 73, 74, 75, 76, 77, 78, 79, 80, 81, 82, 83, 9, 10]) (by decide) (by rw [hsz]; decide)).trans (f7 l7)
                    have l9 := hr { on := 9, ground := .data } (by simp) rfl
                    have v72 : ((RegI.FX A _ x).tmps[72]?).getD undef = _ := (RegI.fx_inG (D := [63, 64, 65, 66, 67, 68, 69, 70, 71, 72, 73, 74, 75, 76, 77, 78, 79, 80, 81, 82, 83, 9, 10]) (by decide) (by rw [hsz]; decide)).trans (f9 l9)
                    refine ⟨.agg #[.int .i64 px, .int .i64 py, .int .i64 qx, .int .i64 qy, .int .i64 a6], W, ?_, hO, fun h => f0 (RegI.gd_ne (by decide) h), fun h => f1 (RegI.gd_ne (by decide) h), fun h => f2 (RegI.gd_ne (by decide) h), fun h => f3 (RegI.gd_ne (by decide) h), fun h => f4 (RegI.gd_ne (by decide) h), fun h => f5 (RegI.gd_ne (by decide) h), fun h => f6 (RegI.gd_ne (by decide) h), fun h => f7 (RegI.gd_ne (by decide) h), fun h => f8 (RegI.gd_ne (by decide) h), fun h => f9 (RegI.gd_ne (by decide) h), fun _ => rfl, fun h => f11 (RegI.gd_ne (by decide) h), fun h => f12 (RegI.gd_ne (by decide) h), fun h => f13 (RegI.gd_ne (by decide) h), fun h => f14 (RegI.gd_ne (by decide) h), fun h => f15 (RegI.gd_ne (by decide) h), fun h => f16 (RegI.gd_ne (by decide) h), fun h => f17 (RegI.gd_ne (by decide) h), fun h => f18 (RegI.gd_ne (by decide) h), fun h => f19 (RegI.gd_ne (by decide) h), fun h => f20 (RegI.gd_ne (by decide) h), fun h => f21 (RegI.gd_ne (by decide) h), fun h => f22 (RegI.gd_ne (by decide) h), fun h => ⟨⟨RegI.gd_keep (f23 (RegI.gd_ne (by decide) h)).1.1, RegI.gd_keep (f23 (RegI.gd_ne (by decide) h)).1.2⟩, (f23 (RegI.gd_ne (by decide) h)).2⟩, fun h => ⟨⟨RegI.gd_keep (f24 (RegI.gd_ne (by decide) h)).1.1, RegI.gd_keep (f24 (RegI.gd_ne (by decide) h)).1.2⟩, (f24 (RegI.gd_ne (by decide) h)).2⟩, fun h1 h2 => fd (RegI.gd_ne (by decide) h1) (RegI.gd_ne (by decide) h2)⟩
                    clear f0 f1 f2 f3 f4 f5 f6 f7 f8 f9 f10 f11 f12 f13 f14 f15 f16 f17 f18 f19 f20 f21 f22 f23 f24 fd hr hu hO
                    go_simp
                  case s11 =>
                    refine RegI.step_value rfl rfl rfl (by decide) ?_
                    rintro L x W ⟨hO, f0, f1, f2, f3, f4, f5, f6, f7, f8, f9, f10, f11, f12, f13, f14, f15, f16, f17, f18, f19, f20, f21, f22, f23, f24, fd⟩ hr hu
                    have v3 : ((RegI.FX A _ x).tmps[3]?).getD undef = _ := (RegI.fx_outG (D := [63, 64, 65, 66, 67, 68, 69, 70, 71, 72, 73, 74, 75, 76, 77, 78, 79, 80, 81, 82, 83, 9, 10]) (by decide)).trans e3
                    refine ⟨.pointer (some ⟨w.heap.size, 4, none⟩), W, ?_, hO, fun h => f0 (RegI.gd_ne (by decide) h), fun h => f1 (RegI.gd_ne (by decide) h), fun h => f2 (RegI.gd_ne (by decide) h), fun h => f3 (RegI.gd_ne (by decide) h), fun h => f4 (RegI.gd_ne (by decide) h), fun h => f5 (RegI.gd_ne (by decide) h), fun h => f6 (RegI.gd_ne (by decide) h), fun h => f7 (RegI.gd_ne (by decide) h), fun h => f8 (RegI.gd_ne (by decide) h), fun h => f9 (RegI.gd_ne (by decide) h), fun h => f10 (RegI.gd_ne (by decide) h), fun _ => rfl, fun h => f12 (RegI.gd_ne (by decide) h), fun h => f13 (RegI.gd_ne (by decide) h), fun h => f14 (RegI.gd_ne (by decide) h), fun h => f15 (RegI.gd_ne (by decide) h), fun h => f16 (RegI.gd_ne (by decide) h), fun h => f17 (RegI.gd_ne (by decide) h), fun h => f18 (RegI.gd_ne (by decide) h), fun h => f19 (RegI.gd_ne (by decide) h), fun h => f20 (RegI.gd_ne (by decide) h), fun h => f21 (RegI.gd_ne (by decide) h), fun h => f22 (RegI.gd_ne (by decide) h), fun h => ⟨⟨RegI.gd_keep (f23 (RegI.gd_ne (by decide) h)).1.1, RegI.gd_keep (f23 (RegI.gd_ne (by decide) h)).1.2⟩, (f23 (RegI.gd_ne (by decide) h)).2⟩, fun h => ⟨⟨RegI.gd_keep (f24 (RegI.gd_ne (by decide) h)).1.1, RegI.gd_keep (f24 (RegI.gd_ne (by decide) h)).1.2⟩, (f24 (RegI.gd_ne (by decide) h)).2⟩, fun h1 h2 => fd (RegI.gd_ne (by decide) h1) (RegI.gd_ne (by decide) h2)⟩
                    clear f0 f1 f2 f3 f4 f5 f6 f7 f8 f9 f10 f11 f12 f13 f14 f15 f16 f17 f18 f19 f20 f21 f22 f23 f24 fd hr hu hO
                    go_simp
                  case s12 =>
                    refine RegI.step_value rfl rfl rfl (by decide) ?_
                    rintro L x W ⟨hO, f0, f1, f2, f3, f4, f5, f6, f7, f8, f9, f10, f11, f12, f13, f14, f15, f16, f17, f18, f19, f20, f21, f22, f23, f24, fd⟩ hr hu
                    have l11 := hr { on := 11, ground := .data } (by simp) rfl
                    have v74 : ((RegI.FX A _ x).tmps[74]?).getD undef = _ := (RegI.fx_inG (D := [63, 64, 65, 66, 67, 68, 69, 70, 71, 72, 73, 74, 75, 76, 77, 78, 79, 80, 81, 82, 83, 9, 10]) (by decide) (by rw [hsz]; decide)).trans (f11 l11)
                    have ck4 := hO.cell k4
                    have ck5 := hO.cell k5
                    refine ⟨.agg #[.int .i64 a4, .int .i64 a5], W, ?_, hO, fun h => f0 (RegI.gd_ne (by decide) h), fun h => f1 (RegI.gd_ne (by decide) h), fun h => f2 (RegI.gd_ne (by decide) h), fun h => f3 (RegI.gd_ne (by decide) h), fun h => f4 (RegI.gd_ne (by decide) h), fun h => f5 (RegI.gd_ne (by decide) h), fun h => f6 (RegI.gd_ne (by decide) h), fun h => f7 (RegI.gd_ne (by decide) h), fun h => f8 (RegI.gd_ne (by decide) h), fun h => f9 (RegI.gd_ne (by decide) h), fun h => f10 (RegI.gd_ne (by decide) h), fun h => f11 (RegI.gd_ne (by decide) h), fun _ => rfl, fun h => f13 (RegI.gd_ne (by decide) h), fun h => f14 (RegI.gd_ne (by decide) h), fun h => f15 (RegI.gd_ne (by decide) h), fun h => f16 (RegI.gd_ne (by decide) h), fun h => f17 (RegI.gd_ne (by decide) h), fun h => f18 (RegI.gd_ne (by decide) h), fun h => f19 (RegI.gd_ne (by decide) h), fun h => f20 (RegI.gd_ne (by decide) h), fun h => f21 (RegI.gd_ne (by decide) h), fun h => f22 (RegI.gd_ne (by decide) h), fun h => ⟨⟨RegI.gd_keep (f23 (RegI.gd_ne (by decide) h)).1.1, RegI.gd_keep (f23 (RegI.gd_ne (by decide) h)).1.2⟩, (f23 (RegI.gd_ne (by decide) h)).2⟩, fun h => ⟨⟨RegI.gd_keep (f24 (RegI.gd_ne (by decide) h)).1.1, RegI.gd_keep (f24 (RegI.gd_ne (by decide) h)).1.2⟩, (f24 (RegI.gd_ne (by decide) h)).2⟩, fun h1 h2 => fd (RegI.gd_ne (by decide) h1) (RegI.gd_ne (by decide) h2)⟩
                    clear f0 f1 f2 f3 f4 f5 f6 f7 f8 f9 f10 f11 f12 f13 f14 f15 f16 f17 f18 f19 f20 f21 f22 f23 f24 fd hr hu hO
                    go_simp
                  case s13 =>
                    refine RegI.step_value rfl rfl rfl (by decide) ?_
                    rintro L x W ⟨hO, f0, f1, f2, f3, f4, f5, f6, f7, f8, f9, f10, f11, f12, f13, f14, f15, f16, f17, f18, f19, f20, f21, f22, f23, f24, fd⟩ hr hu
                    have v5 : ((RegI.FX A _ x).tmps[5]?).getD undef = _ := (RegI.fx_outG (D := [63, 64, 65, 66, 67, 68, 69, 70, 71, 72, 73, 74, 75, 76, 77, 78, 79, 80, 81, 82, 83, 9, 10]) (by decide)).trans e5
                    have ck9 := hO.cell k9
                    have ck10 := hO.cell k10
                    refine ⟨.agg #[.int .i64 a9, .int .i64 a10], W, ?_, hO, fun h => f0 (RegI.gd_ne (by decide) h), fun h => f1 (RegI.gd_ne (by decide) h), fun h => f2 (RegI.gd_ne (by decide) h), fun h => f3 (RegI.gd_ne (by decide) h), fun h => f4 (RegI.gd_ne (by decide) h), fun h => f5 (RegI.gd_ne (by decide) h), fun h => f6 (RegI.gd_ne (by decide) h), fun h => f7 (RegI.gd_ne (by decide) h), fun h => f8 (RegI.gd_ne (by decide) h), fun h => f9 (RegI.gd_ne (by decide) h), fun h => f10 (RegI.gd_ne (by decide) h), fun h => f11 (RegI.gd_ne (by decide) h), fun h => f12 (RegI.gd_ne (by decide) h), fun _ => rfl, fun h => f14 (RegI.gd_ne (by decide) h), fun h => f15 (RegI.gd_ne (by decide) h), fun h => f16 (RegI.gd_ne (by decide) h), fun h => f17 (RegI.gd_ne (by decide) h), fun h => f18 (RegI.gd_ne (by decide) h), fun h => f19 (RegI.gd_ne (by decide) h), fun h => f20 (RegI.gd_ne (by decide) h), fun h => f21 (RegI.gd_ne (by decide) h), fun h => f22 (RegI.gd_ne (by decide) h), fun h => ⟨⟨RegI.gd_keep (f23 (RegI.gd_ne (by decide) h)).1.1, RegI.gd_keep (f23 (RegI.gd_ne (by decide) h)).1.2⟩, (f23 (RegI.gd_ne (by decide) h)).2⟩, fun h => ⟨⟨RegI.gd_keep (f24 (RegI.gd_ne (by decide) h)).1.1, RegI.gd_keep (f24 (RegI.gd_ne (by decide) h)).1.2⟩, (f24 (RegI.gd_ne (by decide) h)).2⟩, fun h1 h2 => fd (RegI.gd_ne (by decide) h1) (RegI.gd_ne (by decide) h2)⟩
                    clear f0 f1 f2 f3 f4 f5 f6 f7 f8 f9 f10 f11 f12 f13 f14 f15 f16 f17 f18 f19 f20 f21 f22 f23 f24 fd hr hu hO
                    go_simp
                  case s14 =>
                    refine RegI.step_call rfl rfl rfl (by decide) ?_
                    rintro L x W ⟨hO, f0, f1, f2, f3, f4, f5, f6, f7, f8, f9, f10, f11, f12, f13, f14, f15, f16, f17, f18, f19, f20, f21, f22, f23, f24, fd⟩ hr hu
                    have l12 := hr { on := 12, ground := .data } (by simp) rfl
                    have v75 : ((RegI.FX A _ x).tmps[75]?).getD undef = _ := (RegI.fx_inG (D := [63, 64, 65, 66, 67, 68, 69, 70, 71, 72, 73, 74, 75, 76, 77, 78, 79, 80, 81, 82, 83, 9, 10]) (by decide) (by rw [hsz]; decide)).trans (f12 l12)
                    have l13 := hr { on := 13, ground := .data } (by simp) rfl
                    have v76 : ((RegI.FX A _ x).tmps[76]?).getD undef = _ := (RegI.fx_inG (D := [63, 64, 65, 66, 67, 68, 69, 70, 71, 72, 73, 74, 75, 76, 77, 78, 79, 80, 81, 82, 83, 9, 10]) (by decide) (by rw [hsz]; decide)).trans (f13 l13)
                    refine ⟨27, #[.agg #[.int .i64 a4, .int .i64 a5], .agg #[.int .i64 a9, .int .i64 a10]], ?_, ?_⟩
                    · clear f0 f1 f2 f3 f4 f5 f6 f7 f8 f9 f10 f11 f12 f13 f14 f15 f16 f17 f18 f19 f20 f21 f22 f23 f24 fd hr hu hO
                      rw [execOp_call_go]
                      simp [Act.eval, v75, v76]
                    · refine (shifted_at (a4, a5) (a9, a10) (rx, ry) W HR H2 H4).mono ?_
                      rintro e W2 ⟨rfl, hg⟩
                      exact ⟨_, rfl, hO.trans hg, fun h => f0 (RegI.gd_ne (by decide) h), fun h => f1 (RegI.gd_ne (by decide) h), fun h => f2 (RegI.gd_ne (by decide) h), fun h => f3 (RegI.gd_ne (by decide) h), fun h => f4 (RegI.gd_ne (by decide) h), fun h => f5 (RegI.gd_ne (by decide) h), fun h => f6 (RegI.gd_ne (by decide) h), fun h => f7 (RegI.gd_ne (by decide) h), fun h => f8 (RegI.gd_ne (by decide) h), fun h => f9 (RegI.gd_ne (by decide) h), fun h => f10 (RegI.gd_ne (by decide) h), fun h => f11 (RegI.gd_ne (by decide) h), fun h => f12 (RegI.gd_ne (by decide) h), fun h => f13 (RegI.gd_ne (by decide) h), fun _ => rfl, fun h => f15 (RegI.gd_ne (by decide) h), fun h => f16 (RegI.gd_ne (by decide) h), fun h => f17 (RegI.gd_ne (by decide) h), fun h => f18 (RegI.gd_ne (by decide) h), fun h => f19 (RegI.gd_ne (by decide) h), fun h => f20 (RegI.gd_ne (by decide) h), fun h => (f21 (RegI.gd_ne (by decide) h)).own hg, fun h => (f22 (RegI.gd_ne (by decide) h)).own hg, fun h => ⟨⟨RegI.gd_keep (f23 (RegI.gd_ne (by decide) h)).1.1, RegI.gd_keep (f23 (RegI.gd_ne (by decide) h)).1.2⟩, (f23 (RegI.gd_ne (by decide) h)).2.own hg⟩, fun h => ⟨⟨RegI.gd_keep (f24 (RegI.gd_ne (by decide) h)).1.1, RegI.gd_keep (f24 (RegI.gd_ne (by decide) h)).1.2⟩, (f24 (RegI.gd_ne (by decide) h)).2.own hg⟩, fun h1 h2 => fd (RegI.gd_ne (by decide) h1) (RegI.gd_ne (by decide) h2)⟩
                  case s15 =>
                    refine RegI.step_value rfl rfl rfl (by decide) ?_
                    rintro L x W ⟨hO, f0, f1, f2, f3, f4, f5, f6, f7, f8, f9, f10, f11, f12, f13, f14, f15, f16, f17, f18, f19, f20, f21, f22, f23, f24, fd⟩ hr hu
                    have v4 : ((RegI.FX A _ x).tmps[4]?).getD undef = _ := (RegI.fx_outG (D := [63, 64, 65, 66, 67, 68, 69, 70, 71, 72, 73, 74, 75, 76, 77, 78, 79, 80, 81, 82, 83, 9, 10]) (by decide)).trans e4
                    have ck7 := hO.cell k7
                    have ck8 := hO.cell k8
                    refine ⟨.agg #[.int .i64 a7, .int .i64 a8], W, ?_, hO, fun h => f0 (RegI.gd_ne (by decide) h), fun h => f1 (RegI.gd_ne (by decide) h), fun h => f2 (RegI.gd_ne (by decide) h), fun h => f3 (RegI.gd_ne (by decide) h), fun h => f4 (RegI.gd_ne (by decide) h), fun h => f5 (RegI.gd_ne (by decide) h), fun h => f6 (RegI.gd_ne (by decide) h), fun h => f7 (RegI.gd_ne (by decide) h), fun h => f8 (RegI.gd_ne (by decide) h), fun h => f9 (RegI.gd_ne (by decide) h), fun h => f10 (RegI.gd_ne (by decide) h), fun h => f11 (RegI.gd_ne (by decide) h), fun h => f12 (RegI.gd_ne (by decide) h), fun h => f13 (RegI.gd_ne (by decide) h), fun h => f14 (RegI.gd_ne (by decide) h), fun _ => rfl, fun h => f16 (RegI.gd_ne (by decide) h), fun h => f17 (RegI.gd_ne (by decide) h), fun h => f18 (RegI.gd_ne (by decide) h), fun h => f19 (RegI.gd_ne (by decide) h), fun h => f20 (RegI.gd_ne (by decide) h), fun h => f21 (RegI.gd_ne (by decide) h), fun h => f22 (RegI.gd_ne (by decide) h), fun h => ⟨⟨RegI.gd_keep (f23 (RegI.gd_ne (by decide) h)).1.1, RegI.gd_keep (f23 (RegI.gd_ne (by decide) h)).1.2⟩, (f23 (RegI.gd_ne (by decide) h)).2⟩, fun h => ⟨⟨RegI.gd_keep (f24 (RegI.gd_ne (by decide) h)).1.1, RegI.gd_keep (f24 (RegI.gd_ne (by decide) h)).1.2⟩, (f24 (RegI.gd_ne (by decide) h)).2⟩, fun h1 h2 => fd (RegI.gd_ne (by decide) h1) (RegI.gd_ne (by decide) h2)⟩
                    clear f0 f1 f2 f3 f4 f5 f6 f7 f8 f9 f10 f11 f12 f13 f14 f15 f16 f17 f18 f19 f20 f21 f22 f23 f24 fd hr hu hO
                    go_simp
                  case s16 =>
                    refine RegI.step_value rfl rfl rfl (by decide) ?_
                    rintro L x W ⟨hO, f0, f1, f2, f3, f4, f5, f6, f7, f8, f9, f10, f11, f12, f13, f14, f15, f16, f17, f18, f19, f20, f21, f22, f23, f24, fd⟩ hr hu
                    have v5 : ((RegI.FX A _ x).tmps[5]?).getD undef = _ := (RegI.fx_outG (D := [63, 64, 65, 66, 67, 68, 69, 70, 71, 72, 73, 74, 75, 76, 77, 78, 79, 80, 81, 82, 83, 9, 10]) (by decide)).trans e5
                    have ck9 := hO.cell k9
                    have ck10 := hO.cell k10
                    refine ⟨.agg #[.int .i64 a9, .int .i64 a10], W, ?_, hO, fun h => f0 (RegI.gd_ne (by decide) h), fun h => f1 (RegI.gd_ne (by decide) h), fun h => f2 (RegI.gd_ne (by decide) h), fun h => f3 (RegI.gd_ne (by decide) h), fun h => f4 (RegI.gd_ne (by decide) h), fun h => f5 (RegI.gd_ne (by decide) h), fun h => f6 (RegI.gd_ne (by decide) h), fun h => f7 (RegI.gd_ne (by decide) h), fun h => f8 (RegI.gd_ne (by decide) h), fun h => f9 (RegI.gd_ne (by decide) h), fun h => f10 (RegI.gd_ne (by decide) h), fun h => f11 (RegI.gd_ne (by decide) h), fun h => f12 (RegI.gd_ne (by decide) h), fun h => f13 (RegI.gd_ne (by decide) h), fun h => f14 (RegI.gd_ne (by decide) h), fun h => f15 (RegI.gd_ne (by decide) h), fun _ => rfl, fun h => f17 (RegI.gd_ne (by decide) h), fun h => f18 (RegI.gd_ne (by decide) h), fun h => f19 (RegI.gd_ne (by decide) h), fun h => f20 (RegI.gd_ne (by decide) h), fun h => f21 (RegI.gd_ne (by decide) h), fun h => f22 (RegI.gd_ne (by decide) h), fun h => ⟨⟨RegI.gd_keep (f23 (RegI.gd_ne (by decide) h)).1.1, RegI.gd_keep (f23 (RegI.gd_ne (by decide) h)).1.2⟩, (f23 (RegI.gd_ne (by decide) h)).2⟩, fun h => ⟨⟨RegI.gd_keep (f24 (RegI.gd_ne (by decide) h)).1.1, RegI.gd_keep (f24 (RegI.gd_ne (by decide) h)).1.2⟩, (f24 (RegI.gd_ne (by decide) h)).2⟩, fun h1 h2 => fd (RegI.gd_ne (by decide) h1) (RegI.gd_ne (by decide) h2)⟩
                    clear f0 f1 f2 f3 f4 f5 f6 f7 f8 f9 f10 f11 f12 f13 f14 f15 f16 f17 f18 f19 f20 f21 f22 f23 f24 fd hr hu hO
                    go_simp
                  case s17 =>
                    refine RegI.step_call rfl rfl rfl (by decide) ?_
                    rintro L x W ⟨hO, f0, f1, f2, f3, f4, f5, f6, f7, f8, f9, f10, f11, f12, f13, f14, f15, f16, f17, f18, f19, f20, f21, f22, f23, f24, fd⟩ hr hu
                    have l15 := hr { on := 15, ground := .data } (by simp) rfl
                    have v78 : ((RegI.FX A _ x).tmps[78]?).getD undef = _ := (RegI.fx_inG (D := [63, 64, 65, 66, 67, 68, 69, 70, 71, 72, 73, 74, 75, 76, 77, 78, 79, 80, 81, 82, 83, 9, 10]) (by decide) (by rw [hsz]; decide)).trans (f15 l15)
                    have l16 := hr { on := 16, ground := .data } (by simp) rfl
                    have v79 : ((RegI.FX A _ x).tmps[79]?).getD undef = _ := (RegI.fx_inG (D := [63, 64, 65, 66, 67, 68, 69, 70, 71, 72, 73, 74, 75, 76, 77, 78, 79, 80, 81, 82, 83, 9, 10]) (by decide) (by rw [hsz]; decide)).trans (f16 l16)
                    refine ⟨27, #[.agg #[.int .i64 a7, .int .i64 a8], .agg #[.int .i64 a9, .int .i64 a10]], ?_, ?_⟩
                    · clear f0 f1 f2 f3 f4 f5 f6 f7 f8 f9 f10 f11 f12 f13 f14 f15 f16 f17 f18 f19 f20 f21 f22 f23 f24 fd hr hu hO
                      rw [execOp_call_go]
                      simp [Act.eval, v78, v79]
                    · refine (shifted_at (a7, a8) (a9, a10) (sx, sy) W HS H3 H4).mono ?_
                      rintro e W2 ⟨rfl, hg⟩
                      exact ⟨_, rfl, hO.trans hg, fun h => f0 (RegI.gd_ne (by decide) h), fun h => f1 (RegI.gd_ne (by decide) h), fun h => f2 (RegI.gd_ne (by decide) h), fun h => f3 (RegI.gd_ne (by decide) h), fun h => f4 (RegI.gd_ne (by decide) h), fun h => f5 (RegI.gd_ne (by decide) h), fun h => f6 (RegI.gd_ne (by decide) h), fun h => f7 (RegI.gd_ne (by decide) h), fun h => f8 (RegI.gd_ne (by decide) h), fun h => f9 (RegI.gd_ne (by decide) h), fun h => f10 (RegI.gd_ne (by decide) h), fun h => f11 (RegI.gd_ne (by decide) h), fun h => f12 (RegI.gd_ne (by decide) h), fun h => f13 (RegI.gd_ne (by decide) h), fun h => f14 (RegI.gd_ne (by decide) h), fun h => f15 (RegI.gd_ne (by decide) h), fun h => f16 (RegI.gd_ne (by decide) h), fun _ => rfl, fun h => f18 (RegI.gd_ne (by decide) h), fun h => f19 (RegI.gd_ne (by decide) h), fun h => f20 (RegI.gd_ne (by decide) h), fun h => (f21 (RegI.gd_ne (by decide) h)).own hg, fun h => (f22 (RegI.gd_ne (by decide) h)).own hg, fun h => ⟨⟨RegI.gd_keep (f23 (RegI.gd_ne (by decide) h)).1.1, RegI.gd_keep (f23 (RegI.gd_ne (by decide) h)).1.2⟩, (f23 (RegI.gd_ne (by decide) h)).2.own hg⟩, fun h => ⟨⟨RegI.gd_keep (f24 (RegI.gd_ne (by decide) h)).1.1, RegI.gd_keep (f24 (RegI.gd_ne (by decide) h)).1.2⟩, (f24 (RegI.gd_ne (by decide) h)).2.own hg⟩, fun h1 h2 => fd (RegI.gd_ne (by decide) h1) (RegI.gd_ne (by decide) h2)⟩
                  case s18 =>
                    refine RegI.step_value rfl rfl rfl (by decide) ?_
                    rintro L x W ⟨hO, f0, f1, f2, f3, f4, f5, f6, f7, f8, f9, f10, f11, f12, f13, f14, f15, f16, f17, f18, f19, f20, f21, f22, f23, f24, fd⟩ hr hu
                    have v3 : ((RegI.FX A _ x).tmps[3]?).getD undef = _ := (RegI.fx_outG (D := [63, 64, 65, 66, 67, 68, 69, 70, 71, 72, 73, 74, 75, 76, 77, 78, 79, 80, 81, 82, 83, 9, 10]) (by decide)).trans e3
                    refine ⟨.pointer (some ⟨w.heap.size, 6, none⟩), W, ?_, hO, fun h => f0 (RegI.gd_ne (by decide) h), fun h => f1 (RegI.gd_ne (by decide) h), fun h => f2 (RegI.gd_ne (by decide) h), fun h => f3 (RegI.gd_ne (by decide) h), fun h => f4 (RegI.gd_ne (by decide) h), fun h => f5 (RegI.gd_ne (by decide) h), fun h => f6 (RegI.gd_ne (by decide) h), fun h => f7 (RegI.gd_ne (by decide) h), fun h => f8 (RegI.gd_ne (by decide) h), fun h => f9 (RegI.gd_ne (by decide) h), fun h => f10 (RegI.gd_ne (by decide) h), fun h => f11 (RegI.gd_ne (by decide) h), fun h => f12 (RegI.gd_ne (by decide) h), fun h => f13 (RegI.gd_ne (by decide) h), fun h => f14 (RegI.gd_ne (by decide) h), fun h => f15 (RegI.gd_ne (by decide) h), fun h => f16 (RegI.gd_ne (by decide) h), fun h => f17 (RegI.gd_ne (by decide) h), fun _ => rfl, fun h => f19 (RegI.gd_ne (by decide) h), fun h => f20 (RegI.gd_ne (by decide) h), fun h => f21 (RegI.gd_ne (by decide) h), fun h => f22 (RegI.gd_ne (by decide) h), fun h => ⟨⟨RegI.gd_keep (f23 (RegI.gd_ne (by decide) h)).1.1, RegI.gd_keep (f23 (RegI.gd_ne (by decide) h)).1.2⟩, (f23 (RegI.gd_ne (by decide) h)).2⟩, fun h => ⟨⟨RegI.gd_keep (f24 (RegI.gd_ne (by decide) h)).1.1, RegI.gd_keep (f24 (RegI.gd_ne (by decide) h)).1.2⟩, (f24 (RegI.gd_ne (by decide) h)).2⟩, fun h1 h2 => fd (RegI.gd_ne (by decide) h1) (RegI.gd_ne (by decide) h2)⟩
                    clear f0 f1 f2 f3 f4 f5 f6 f7 f8 f9 f10 f11 f12 f13 f14 f15 f16 f17 f18 f19 f20 f21 f22 f23 f24 fd hr hu hO
                    go_simp
                  case s19 =>
                    refine RegI.step_value rfl rfl rfl (by decide) ?_
                    rintro L x W ⟨hO, f0, f1, f2, f3, f4, f5, f6, f7, f8, f9, f10, f11, f12, f13, f14, f15, f16, f17, f18, f19, f20, f21, f22, f23, f24, fd⟩ hr hu
                    have l18 := hr { on := 18, ground := .data } (by simp) rfl
                    have v81 : ((RegI.FX A _ x).tmps[81]?).getD undef = _ := (RegI.fx_inG (D := [63, 64, 65, 66, 67, 68, 69, 70, 71, 72, 73, 74, 75, 76, 77, 78, 79, 80, 81, 82, 83, 9, 10]) (by decide) (by rw [hsz]; decide)).trans (f18 l18)
                    have ck6 := hO.cell k6
                    refine ⟨.int .i64 a6, W, ?_, hO, fun h => f0 (RegI.gd_ne (by decide) h), fun h => f1 (RegI.gd_ne (by decide) h), fun h => f2 (RegI.gd_ne (by decide) h), fun h => f3 (RegI.gd_ne (by decide) h), fun h => f4 (RegI.gd_ne (by decide) h), fun h => f5 (RegI.gd_ne (by decide) h), fun h => f6 (RegI.gd_ne (by decide) h), fun h => f7 (RegI.gd_ne (by decide) h), fun h => f8 (RegI.gd_ne (by decide) h), fun h => f9 (RegI.gd_ne (by decide) h), fun h => f10 (RegI.gd_ne (by decide) h), fun h => f11 (RegI.gd_ne (by decide) h), fun h => f12 (RegI.gd_ne (by decide) h), fun h => f13 (RegI.gd_ne (by decide) h), fun h => f14 (RegI.gd_ne (by decide) h), fun h => f15 (RegI.gd_ne (by decide) h), fun h => f16 (RegI.gd_ne (by decide) h), fun h => f17 (RegI.gd_ne (by decide) h), fun h => f18 (RegI.gd_ne (by decide) h), fun _ => rfl, fun h => f20 (RegI.gd_ne (by decide) h), fun h => f21 (RegI.gd_ne (by decide) h), fun h => f22 (RegI.gd_ne (by decide) h), fun h => ⟨⟨RegI.gd_keep (f23 (RegI.gd_ne (by decide) h)).1.1, RegI.gd_keep (f23 (RegI.gd_ne (by decide) h)).1.2⟩, (f23 (RegI.gd_ne (by decide) h)).2⟩, fun h => ⟨⟨RegI.gd_keep (f24 (RegI.gd_ne (by decide) h)).1.1, RegI.gd_keep (f24 (RegI.gd_ne (by decide) h)).1.2⟩, (f24 (RegI.gd_ne (by decide) h)).2⟩, fun h1 h2 => fd (RegI.gd_ne (by decide) h1) (RegI.gd_ne (by decide) h2)⟩
                    clear f0 f1 f2 f3 f4 f5 f6 f7 f8 f9 f10 f11 f12 f13 f14 f15 f16 f17 f18 f19 f20 f21 f22 f23 f24 fd hr hu hO
                    go_simp
                  case s20 =>
                    refine RegI.step_value rfl rfl rfl (by decide) ?_
                    rintro L x W ⟨hO, f0, f1, f2, f3, f4, f5, f6, f7, f8, f9, f10, f11, f12, f13, f14, f15, f16, f17, f18, f19, f20, f21, f22, f23, f24, fd⟩ hr hu
                    have l14 := hr { on := 14, ground := .data } (by simp) rfl
                    have v77 : ((RegI.FX A _ x).tmps[77]?).getD undef = _ := (RegI.fx_inG (D := [63, 64, 65, 66, 67, 68, 69, 70, 71, 72, 73, 74, 75, 76, 77, 78, 79, 80, 81, 82, 83, 9, 10]) (by decide) (by rw [hsz]; decide)).trans (f14 l14)
                    have l17 := hr { on := 17, ground := .data } (by simp) rfl
                    have v80 : ((RegI.FX A _ x).tmps[80]?).getD undef = _ := (RegI.fx_inG (D := [63, 64, 65, 66, 67, 68, 69, 70, 71, 72, 73, 74, 75, 76, 77, 78, 79, 80, 81, 82, 83, 9, 10]) (by decide) (by rw [hsz]; decide)).trans (f17 l17)
                    have l19 := hr { on := 19, ground := .data } (by simp) rfl
                    have v82 : ((RegI.FX A _ x).tmps[82]?).getD undef = _ := (RegI.fx_inG (D := [63, 64, 65, 66, 67, 68, 69, 70, 71, 72, 73, 74, 75, 76, 77, 78, 79, 80, 81, 82, 83, 9, 10]) (by decide) (by rw [hsz]; decide)).trans (f19 l19)
                    refine ⟨.agg #[.int .i64 rx, .int .i64 ry, .int .i64 sx, .int .i64 sy, .int .i64 a6], W, ?_, hO, fun h => f0 (RegI.gd_ne (by decide) h), fun h => f1 (RegI.gd_ne (by decide) h), fun h => f2 (RegI.gd_ne (by decide) h), fun h => f3 (RegI.gd_ne (by decide) h), fun h => f4 (RegI.gd_ne (by decide) h), fun h => f5 (RegI.gd_ne (by decide) h), fun h => f6 (RegI.gd_ne (by decide) h), fun h => f7 (RegI.gd_ne (by decide) h), fun h => f8 (RegI.gd_ne (by decide) h), fun h => f9 (RegI.gd_ne (by decide) h), fun h => f10 (RegI.gd_ne (by decide) h), fun h => f11 (RegI.gd_ne (by decide) h), fun h => f12 (RegI.gd_ne (by decide) h), fun h => f13 (RegI.gd_ne (by decide) h), fun h => f14 (RegI.gd_ne (by decide) h), fun h => f15 (RegI.gd_ne (by decide) h), fun h => f16 (RegI.gd_ne (by decide) h), fun h => f17 (RegI.gd_ne (by decide) h), fun h => f18 (RegI.gd_ne (by decide) h), fun h => f19 (RegI.gd_ne (by decide) h), fun _ => rfl, fun h => f21 (RegI.gd_ne (by decide) h), fun h => f22 (RegI.gd_ne (by decide) h), fun h => ⟨⟨RegI.gd_keep (f23 (RegI.gd_ne (by decide) h)).1.1, RegI.gd_keep (f23 (RegI.gd_ne (by decide) h)).1.2⟩, (f23 (RegI.gd_ne (by decide) h)).2⟩, fun h => ⟨⟨RegI.gd_keep (f24 (RegI.gd_ne (by decide) h)).1.1, RegI.gd_keep (f24 (RegI.gd_ne (by decide) h)).1.2⟩, (f24 (RegI.gd_ne (by decide) h)).2⟩, fun h1 h2 => fd (RegI.gd_ne (by decide) h1) (RegI.gd_ne (by decide) h2)⟩
                    clear f0 f1 f2 f3 f4 f5 f6 f7 f8 f9 f10 f11 f12 f13 f14 f15 f16 f17 f18 f19 f20 f21 f22 f23 f24 fd hr hu hO
                    go_simp
                  case s21 =>
                    refine RegI.step_value rfl rfl rfl (by decide) ?_
                    rintro L x W ⟨hO, f0, f1, f2, f3, f4, f5, f6, f7, f8, f9, f10, f11, f12, f13, f14, f15, f16, f17, f18, f19, f20, f21, f22, f23, f24, fd⟩ hr hu
                    have hg : Own W (W.alloc (.cells #[.int .i64 0, .int .i64 0, .int .i64 0, .int .i64 0, .int .i64 0] 36)) := (Own.refl W).alloc _
                    refine ⟨.pointer (some ⟨W.heap.size, 0, none⟩), W.alloc (.cells #[.int .i64 0, .int .i64 0, .int .i64 0, .int .i64 0, .int .i64 0] 36), ?_, hO.trans hg, fun h => f0 (RegI.gd_ne (by decide) h), fun h => f1 (RegI.gd_ne (by decide) h), fun h => f2 (RegI.gd_ne (by decide) h), fun h => f3 (RegI.gd_ne (by decide) h), fun h => f4 (RegI.gd_ne (by decide) h), fun h => f5 (RegI.gd_ne (by decide) h), fun h => f6 (RegI.gd_ne (by decide) h), fun h => f7 (RegI.gd_ne (by decide) h), fun h => f8 (RegI.gd_ne (by decide) h), fun h => f9 (RegI.gd_ne (by decide) h), fun h => f10 (RegI.gd_ne (by decide) h), fun h => f11 (RegI.gd_ne (by decide) h), fun h => f12 (RegI.gd_ne (by decide) h), fun h => f13 (RegI.gd_ne (by decide) h), fun h => f14 (RegI.gd_ne (by decide) h), fun h => f15 (RegI.gd_ne (by decide) h), fun h => f16 (RegI.gd_ne (by decide) h), fun h => f17 (RegI.gd_ne (by decide) h), fun h => f18 (RegI.gd_ne (by decide) h), fun h => f19 (RegI.gd_ne (by decide) h), fun h => f20 (RegI.gd_ne (by decide) h), fun _ => slot5_new hO _, fun h => (f22 (RegI.gd_ne (by decide) h)).own hg, fun h => (RegI.gd_no hu (f23 (RegI.gd_ne (by decide) h)).1.1).elim, fun h => (RegI.gd_no hu (f24 (RegI.gd_ne (by decide) h)).1.1).elim, ?_⟩
                    · clear f0 f1 f2 f3 f4 f5 f6 f7 f8 f9 f10 f11 f12 f13 f14 f15 f16 f17 f18 f19 f20 f21 f22 f23 f24 fd hr hu hO
                      go_simp
                    · intro h1 h2
                      exact fun e => (f22 (RegI.gd_ne (by decide) h2)).fresh e.symm
                  case s22 =>
                    refine RegI.step_value rfl rfl rfl (by decide) ?_
                    rintro L x W ⟨hO, f0, f1, f2, f3, f4, f5, f6, f7, f8, f9, f10, f11, f12, f13, f14, f15, f16, f17, f18, f19, f20, f21, f22, f23, f24, fd⟩ hr hu
                    have hg : Own W (W.alloc (.cells #[.int .i64 0, .int .i64 0, .int .i64 0, .int .i64 0, .int .i64 0] 36)) := (Own.refl W).alloc _
                    refine ⟨.pointer (some ⟨W.heap.size, 0, none⟩), W.alloc (.cells #[.int .i64 0, .int .i64 0, .int .i64 0, .int .i64 0, .int .i64 0] 36), ?_, hO.trans hg, fun h => f0 (RegI.gd_ne (by decide) h), fun h => f1 (RegI.gd_ne (by decide) h), fun h => f2 (RegI.gd_ne (by decide) h), fun h => f3 (RegI.gd_ne (by decide) h), fun h => f4 (RegI.gd_ne (by decide) h), fun h => f5 (RegI.gd_ne (by decide) h), fun h => f6 (RegI.gd_ne (by decide) h), fun h => f7 (RegI.gd_ne (by decide) h), fun h => f8 (RegI.gd_ne (by decide) h), fun h => f9 (RegI.gd_ne (by decide) h), fun h => f10 (RegI.gd_ne (by decide) h), fun h => f11 (RegI.gd_ne (by decide) h), fun h => f12 (RegI.gd_ne (by decide) h), fun h => f13 (RegI.gd_ne (by decide) h), fun h => f14 (RegI.gd_ne (by decide) h), fun h => f15 (RegI.gd_ne (by decide) h), fun h => f16 (RegI.gd_ne (by decide) h), fun h => f17 (RegI.gd_ne (by decide) h), fun h => f18 (RegI.gd_ne (by decide) h), fun h => f19 (RegI.gd_ne (by decide) h), fun h => f20 (RegI.gd_ne (by decide) h), fun h => (f21 (RegI.gd_ne (by decide) h)).own hg, fun _ => slot5_new hO _, fun h => (RegI.gd_no hu (f23 (RegI.gd_ne (by decide) h)).1.2).elim, fun h => (RegI.gd_no hu (f24 (RegI.gd_ne (by decide) h)).1.2).elim, ?_⟩
                    · clear f0 f1 f2 f3 f4 f5 f6 f7 f8 f9 f10 f11 f12 f13 f14 f15 f16 f17 f18 f19 f20 f21 f22 f23 f24 fd hr hu hO
                      go_simp
                    · intro h1 h2
                      exact fun e => (f21 (RegI.gd_ne (by decide) h1)).fresh e
                  case s23 =>
                    refine RegI.step_skip rfl rfl rfl ?_
                    rintro L x W ⟨hO, f0, f1, f2, f3, f4, f5, f6, f7, f8, f9, f10, f11, f12, f13, f14, f15, f16, f17, f18, f19, f20, f21, f22, f23, f24, fd⟩ hr hu
                    have l21 := hr { on := 21, ground := .data } (by simp) rfl
                    have l10 := hr { on := 10, ground := .data } (by simp) rfl
                    have v73 : ((RegI.FX A _ x).tmps[73]?).getD undef = _ := (RegI.fx_inG (D := [63, 64, 65, 66, 67, 68, 69, 70, 71, 72, 73, 74, 75, 76, 77, 78, 79, 80, 81, 82, 83, 9, 10]) (by decide) (by rw [hsz]; decide)).trans (f10 l10)
                    have hne := fd (hr { on := 21, ground := .data } (by simp) rfl) (hr { on := 22, ground := .phase } (by simp) rfl)
                    have t1 := f21 l21
                    have t2 := f22 (hr { on := 22, ground := .phase } (by simp) rfl)
                    obtain ⟨B, hB, b1, b2, b3⟩ := t1
                    obtain ⟨B2, hB2, c1, c2, c3⟩ := t2
                    have hn : ¬ B = B2 := fun e => hne (by rw [hB, hB2, e])
                    have hn2 : ¬ B2 = B := fun e => hn e.symm
                    have vp : ((RegI.FX A _ x).tmps[9]?).getD undef = _ := (RegI.fx_inG (D := [63, 64, 65, 66, 67, 68, 69, 70, 71, 72, 73, 74, 75, 76, 77, 78, 79, 80, 81, 82, 83, 9, 10]) (by decide) (by rw [hsz]; decide)).trans hB
                    obtain ⟨⟨u0, hu0⟩, z0⟩ := b3 0 (by decide)
                    obtain ⟨⟨u1, hu1⟩, z1⟩ := b3 1 (by decide)
                    obtain ⟨⟨u2, hu2⟩, z2⟩ := b3 2 (by decide)
                    obtain ⟨⟨u3, hu3⟩, z3⟩ := b3 3 (by decide)
                    obtain ⟨⟨u4, hu4⟩, z4⟩ := b3 4 (by decide)
                    have hst : Store5 W (((((W.setCell ⟨B, 0, none⟩ (.int .i64 px)).setCell ⟨B, 1, none⟩ (.int .i64 py)).setCell ⟨B, 2, none⟩ (.int .i64 qx)).setCell ⟨B, 3, none⟩ (.int .i64 qy)).setCell ⟨B, 4, none⟩ (.int .i64 a6)) B px py qx qy a6 := store5 (W := W) hu0 hu1 hu2 hu3 hu4
                    refine ⟨(((((W.setCell ⟨B, 0, none⟩ (.int .i64 px)).setCell ⟨B, 1, none⟩ (.int .i64 py)).setCell ⟨B, 2, none⟩ (.int .i64 qx)).setCell ⟨B, 3, none⟩ (.int .i64 qy)).setCell ⟨B, 4, none⟩ (.int .i64 a6)), ?_, hst.own hO b1, fun h => f0 (RegI.gd_ne (by decide) h), fun h => f1 (RegI.gd_ne (by decide) h), fun h => f2 (RegI.gd_ne (by decide) h), fun h => f3 (RegI.gd_ne (by decide) h), fun h => f4 (RegI.gd_ne (by decide) h), fun h => f5 (RegI.gd_ne (by decide) h), fun h => f6 (RegI.gd_ne (by decide) h), fun h => f7 (RegI.gd_ne (by decide) h), fun h => f8 (RegI.gd_ne (by decide) h), fun h => f9 (RegI.gd_ne (by decide) h), fun h => f10 (RegI.gd_ne (by decide) h), fun h => f11 (RegI.gd_ne (by decide) h), fun h => f12 (RegI.gd_ne (by decide) h), fun h => f13 (RegI.gd_ne (by decide) h), fun h => f14 (RegI.gd_ne (by decide) h), fun h => f15 (RegI.gd_ne (by decide) h), fun h => f16 (RegI.gd_ne (by decide) h), fun h => f17 (RegI.gd_ne (by decide) h), fun h => f18 (RegI.gd_ne (by decide) h), fun h => f19 (RegI.gd_ne (by decide) h), fun h => f20 (RegI.gd_ne (by decide) h), fun h => hst.slot (f21 (RegI.gd_ne (by decide) h)), fun h => hst.slot (f22 (RegI.gd_ne (by decide) h)), fun _ => ⟨⟨RegI.gd_keep (hr { on := 21, ground := .data } (by simp) rfl), RegI.gd_keep (hr { on := 22, ground := .phase } (by simp) rfl)⟩, hst.held hB⟩, fun h => ⟨⟨RegI.gd_keep (f24 (RegI.gd_ne (by decide) h)).1.1, RegI.gd_keep (f24 (RegI.gd_ne (by decide) h)).1.2⟩, hst.far hB2 hn2 (f24 (RegI.gd_ne (by decide) h)).2⟩, fun h1 h2 => fd (RegI.gd_ne (by decide) h1) (RegI.gd_ne (by decide) h2)⟩
                    clear f0 f1 f2 f3 f4 f5 f6 f7 f8 f9 f10 f11 f12 f13 f14 f15 f16 f17 f18 f19 f20 f21 f22 f23 f24 fd hr hu hO hst
                    go_simp
                  case s24 =>
                    refine RegI.step_skip rfl rfl rfl ?_
                    rintro L x W ⟨hO, f0, f1, f2, f3, f4, f5, f6, f7, f8, f9, f10, f11, f12, f13, f14, f15, f16, f17, f18, f19, f20, f21, f22, f23, f24, fd⟩ hr hu
                    have l22 := hr { on := 22, ground := .data } (by simp) rfl
                    have l20 := hr { on := 20, ground := .data } (by simp) rfl
                    have v83 : ((RegI.FX A _ x).tmps[83]?).getD undef = _ := (RegI.fx_inG (D := [63, 64, 65, 66, 67, 68, 69, 70, 71, 72, 73, 74, 75, 76, 77, 78, 79, 80, 81, 82, 83, 9, 10]) (by decide) (by rw [hsz]; decide)).trans (f20 l20)
                    have hne := fd (hr { on := 21, ground := .phase } (by simp) rfl) (hr { on := 22, ground := .data } (by simp) rfl)
                    have t1 := f22 l22
                    have t2 := f21 (hr { on := 21, ground := .phase } (by simp) rfl)
                    obtain ⟨B, hB, b1, b2, b3⟩ := t1
                    obtain ⟨B2, hB2, c1, c2, c3⟩ := t2
                    have hn : ¬ B = B2 := fun e => hne (by rw [hB, hB2, e])
                    have hn2 : ¬ B2 = B := fun e => hn e.symm
                    have vp : ((RegI.FX A _ x).tmps[10]?).getD undef = _ := (RegI.fx_inG (D := [63, 64, 65, 66, 67, 68, 69, 70, 71, 72, 73, 74, 75, 76, 77, 78, 79, 80, 81, 82, 83, 9, 10]) (by decide) (by rw [hsz]; decide)).trans hB
                    obtain ⟨⟨u0, hu0⟩, z0⟩ := b3 0 (by decide)
                    obtain ⟨⟨u1, hu1⟩, z1⟩ := b3 1 (by decide)
                    obtain ⟨⟨u2, hu2⟩, z2⟩ := b3 2 (by decide)
                    obtain ⟨⟨u3, hu3⟩, z3⟩ := b3 3 (by decide)
                    obtain ⟨⟨u4, hu4⟩, z4⟩ := b3 4 (by decide)
                    have hst : Store5 W (((((W.setCell ⟨B, 0, none⟩ (.int .i64 rx)).setCell ⟨B, 1, none⟩ (.int .i64 ry)).setCell ⟨B, 2, none⟩ (.int .i64 sx)).setCell ⟨B, 3, none⟩ (.int .i64 sy)).setCell ⟨B, 4, none⟩ (.int .i64 a6)) B rx ry sx sy a6 := store5 (W := W) hu0 hu1 hu2 hu3 hu4
                    refine ⟨(((((W.setCell ⟨B, 0, none⟩ (.int .i64 rx)).setCell ⟨B, 1, none⟩ (.int .i64 ry)).setCell ⟨B, 2, none⟩ (.int .i64 sx)).setCell ⟨B, 3, none⟩ (.int .i64 sy)).setCell ⟨B, 4, none⟩ (.int .i64 a6)), ?_, hst.own hO b1, fun h => f0 (RegI.gd_ne (by decide) h), fun h => f1 (RegI.gd_ne (by decide) h), fun h => f2 (RegI.gd_ne (by decide) h), fun h => f3 (RegI.gd_ne (by decide) h), fun h => f4 (RegI.gd_ne (by decide) h), fun h => f5 (RegI.gd_ne (by decide) h), fun h => f6 (RegI.gd_ne (by decide) h), fun h => f7 (RegI.gd_ne (by decide) h), fun h => f8 (RegI.gd_ne (by decide) h), fun h => f9 (RegI.gd_ne (by decide) h), fun h => f10 (RegI.gd_ne (by decide) h), fun h => f11 (RegI.gd_ne (by decide) h), fun h => f12 (RegI.gd_ne (by decide) h), fun h => f13 (RegI.gd_ne (by decide) h), fun h => f14 (RegI.gd_ne (by decide) h), fun h => f15 (RegI.gd_ne (by decide) h), fun h => f16 (RegI.gd_ne (by decide) h), fun h => f17 (RegI.gd_ne (by decide) h), fun h => f18 (RegI.gd_ne (by decide) h), fun h => f19 (RegI.gd_ne (by decide) h), fun h => f20 (RegI.gd_ne (by decide) h), fun h => hst.slot (f21 (RegI.gd_ne (by decide) h)), fun h => hst.slot (f22 (RegI.gd_ne (by decide) h)), fun h => ⟨⟨RegI.gd_keep (f23 (RegI.gd_ne (by decide) h)).1.1, RegI.gd_keep (f23 (RegI.gd_ne (by decide) h)).1.2⟩, hst.far hB2 hn2 (f23 (RegI.gd_ne (by decide) h)).2⟩, fun _ => ⟨⟨RegI.gd_keep (hr { on := 21, ground := .phase } (by simp) rfl), RegI.gd_keep (hr { on := 22, ground := .data } (by simp) rfl)⟩, hst.held hB⟩, fun h1 h2 => fd (RegI.gd_ne (by decide) h1) (RegI.gd_ne (by decide) h2)⟩
                    clear f0 f1 f2 f3 f4 f5 f6 f7 f8 f9 f10 f11 f12 f13 f14 f15 f16 f17 f18 f19 f20 f21 f22 f23 f24 fd hr hu hO hst
                    go_simp
              case rest =>
                obtain ⟨B9, B10, rfl, rfl, u0, u1, u2, u3, u4, v0, v1, v2, v3, v4, hO⟩ := hcut
                clear f0 f1
                replace k0 := hO.cell k0
                replace k1 := hO.cell k1
                replace k2 := hO.cell k2
                replace k3 := hO.cell k3
                replace k4 := hO.cell k4
                replace k5 := hO.cell k5
                replace k6 := hO.cell k6
                replace k7 := hO.cell k7
                replace k8 := hO.cell k8
                replace k9 := hO.cell k9
                replace k10 := hO.cell k10
                replace m0 := hO.cell m0
                replace m1 := hO.cell m1
                replace m2 := hO.cell m2
                replace m3 := hO.cell m3
                replace m4 := hO.cell m4
                replace n0 := hO.cell n0
                replace n1 := hO.cell n1
                replace n2 := hO.cell n2
                replace n3 := hO.cell n3
                replace n4 := hO.cell n4
                replace g0 := g0.trans hO
                clear hO
                obtain ⟨SP, SA, SB, SQ, OP, OA, OQ⟩ := HO.out
                have N := HN.out
                have T := HT.out
                rw [HP.out] at SP N T
                rw [HQ.out] at SA N T
                rw [HR.out] at SB N T
                rw [HS.out] at SQ T
                obtain ⟨d, D1, D2⟩ := shift_dist HP.out HS.out OP OQ SP SQ
                obtain ⟨l, lb, L1, L2⟩ := shift_cross HP.out HQ.out HS.out OP OA OQ SP SA SQ
                obtain ⟨t, ht⟩ : ∃ t, nrV (a0, a1) (a2, a3) (a4, a5) a6 = t := ⟨_, rfl⟩
                obtain ⟨f, hf⟩ : ∃ f, nrE (a0, a1) (a2, a3) (a4, a5) a6 = f := ⟨_, rfl⟩
                obtain ⟨t2, ht2⟩ : ∃ t, touchV ⟨(a0, a1), (a2, a3), a6⟩ ⟨(a4, a5), (a7, a8), a6⟩ = t := ⟨_, rfl⟩
                obtain ⟨f2, hf2⟩ : ∃ f, touchE ⟨(a0, a1), (a2, a3), a6⟩ ⟨(a4, a5), (a7, a8), a6⟩ = f := ⟨_, rfl⟩
                rw [ht, hf] at N
                rw [ht2, hf2] at T
                have N1 := Lib.hid (And.intro ht hf)
                have N2 := Lib.hid N
                have T1 := Lib.hid (And.intro ht2 hf2)
                have T2 := Lib.hid T
                have E1 := Lib.hid D1
                have E2 := Lib.hid D2
                have X1 := Lib.hid L1
                have X2 := Lib.hid L2
                clear SP SA SB SQ OP OA OQ N T D1 D2 L1 L2 ht hf ht2 hf2 HN HT HO HP HQ HR HS
                go_wp2_with (first
                  | (go_at_call 16; (first | (with_reducible refine (pnear_at (a0, a1) (a2, a3) (a4, a5) a6 t f _ N1).mono ?_) | (with_reducible refine (pnear_at (px, py) (qx, qy) (rx, ry) a6 t f _ N2).mono ?_)); rintro e w1 ⟨rfl, hg⟩; replace k0 := hg.cell k0; replace k1 := hg.cell k1; replace k2 := hg.cell k2; replace k3 := hg.cell k3; replace k4 := hg.cell k4; replace k5 := hg.cell k5; replace k6 := hg.cell k6; replace k7 := hg.cell k7; replace k8 := hg.cell k8; replace k9 := hg.cell k9; replace k10 := hg.cell k10; replace m0 := hg.cell m0; replace m1 := hg.cell m1; replace m2 := hg.cell m2; replace m3 := hg.cell m3; replace m4 := hg.cell m4; replace n0 := hg.cell n0; replace n1 := hg.cell n1; replace n2 := hg.cell n2; replace n3 := hg.cell n3; replace n4 := hg.cell n4; replace u0 := hg.cell u0; replace u1 := hg.cell u1; replace u2 := hg.cell u2; replace u3 := hg.cell u3; replace u4 := hg.cell u4; replace v0 := hg.cell v0; replace v1 := hg.cell v1; replace v2 := hg.cell v2; replace v3 := hg.cell v3; replace v4 := hg.cell v4; replace g0 : Own w w1 := g0.trans hg; clear hg)
                  | (go_at_call 18; (first | (with_reducible refine (ptouch_at ⟨(a0, a1), (a2, a3), a6⟩ ⟨(a4, a5), (a7, a8), a6⟩ t2 f2 _ T1).mono ?_) | (with_reducible refine (ptouch_at ⟨(px, py), (qx, qy), a6⟩ ⟨(rx, ry), (sx, sy), a6⟩ t2 f2 _ T2).mono ?_)); rintro e w1 ⟨rfl, hg⟩; replace k0 := hg.cell k0; replace k1 := hg.cell k1; replace k2 := hg.cell k2; replace k3 := hg.cell k3; replace k4 := hg.cell k4; replace k5 := hg.cell k5; replace k6 := hg.cell k6; replace k7 := hg.cell k7; replace k8 := hg.cell k8; replace k9 := hg.cell k9; replace k10 := hg.cell k10; replace m0 := hg.cell m0; replace m1 := hg.cell m1; replace m2 := hg.cell m2; replace m3 := hg.cell m3; replace m4 := hg.cell m4; replace n0 := hg.cell n0; replace n1 := hg.cell n1; replace n2 := hg.cell n2; replace n3 := hg.cell n3; replace n4 := hg.cell n4; replace u0 := hg.cell u0; replace u1 := hg.cell u1; replace u2 := hg.cell u2; replace u3 := hg.cell u3; replace u4 := hg.cell u4; replace v0 := hg.cell v0; replace v1 := hg.cell v1; replace v2 := hg.cell v2; replace v3 := hg.cell v3; replace v4 := hg.cell v4; replace g0 : Own w w1 := g0.trans hg; clear hg)
                  | (go_at_call 11; (first | (with_reducible refine (pdist_at (a0, a1) (a7, a8) d 0 _ E1).mono ?_) | (with_reducible refine (pdist_at (sx, sy) (px, py) d 0 _ E2).mono ?_)); rintro e w1 ⟨rfl, hg⟩; replace k0 := hg.cell k0; replace k1 := hg.cell k1; replace k2 := hg.cell k2; replace k3 := hg.cell k3; replace k4 := hg.cell k4; replace k5 := hg.cell k5; replace k6 := hg.cell k6; replace k7 := hg.cell k7; replace k8 := hg.cell k8; replace k9 := hg.cell k9; replace k10 := hg.cell k10; replace m0 := hg.cell m0; replace m1 := hg.cell m1; replace m2 := hg.cell m2; replace m3 := hg.cell m3; replace m4 := hg.cell m4; replace n0 := hg.cell n0; replace n1 := hg.cell n1; replace n2 := hg.cell n2; replace n3 := hg.cell n3; replace n4 := hg.cell n4; replace u0 := hg.cell u0; replace u1 := hg.cell u1; replace u2 := hg.cell u2; replace u3 := hg.cell u3; replace u4 := hg.cell u4; replace v0 := hg.cell v0; replace v1 := hg.cell v1; replace v2 := hg.cell v2; replace v3 := hg.cell v3; replace v4 := hg.cell v4; replace g0 : Own w w1 := g0.trans hg; clear hg)
                  | (go_at_call 13; (first | (with_reducible refine (pcross_at (a0, a1) (a2, a3) (a7, a8) (-l) 0 _ X1).mono ?_) | (with_reducible refine (pcross_at (px, py) (sx, sy) (qx, qy) l 0 _ X2).mono ?_)); rintro e w1 ⟨rfl, hg⟩; replace k0 := hg.cell k0; replace k1 := hg.cell k1; replace k2 := hg.cell k2; replace k3 := hg.cell k3; replace k4 := hg.cell k4; replace k5 := hg.cell k5; replace k6 := hg.cell k6; replace k7 := hg.cell k7; replace k8 := hg.cell k8; replace k9 := hg.cell k9; replace k10 := hg.cell k10; replace m0 := hg.cell m0; replace m1 := hg.cell m1; replace m2 := hg.cell m2; replace m3 := hg.cell m3; replace m4 := hg.cell m4; replace n0 := hg.cell n0; replace n1 := hg.cell n1; replace n2 := hg.cell n2; replace n3 := hg.cell n3; replace n4 := hg.cell n4; replace u0 := hg.cell u0; replace u1 := hg.cell u1; replace u2 := hg.cell u2; replace u3 := hg.cell u3; replace u4 := hg.cell u4; replace v0 := hg.cell v0; replace v1 := hg.cell v1; replace v2 := hg.cell v2; replace v3 := hg.cell v3; replace v4 := hg.cell v4; replace g0 : Own w w1 := g0.trans hg; clear hg)
                  | (go_at_call 15; refine (awake_any _).mono ?_; rintro e w1 ⟨rfl, hg⟩; replace g0 : Own w w1 := Own.trans (by first | exact g0 | exact Own.drewN g0 _) hg; clear hg))
                go_ret
                exact ⟨rfl, g0⟩
end Go.Proofs.Ytnakacflaaelnaa.GeoW
