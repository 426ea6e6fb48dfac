/-
  A row of numbers of the call's own whose places change their contents; walks of the library's swapRangeCmpFunc and rotateCmpFunc at []int. Condition: none.
-/
import Derived.Test.YtmliajkbknjacaaBytes
import Derived.Test.YtmliajkbknjacaaStablePlainB
import Derived.Deep.DeepCutAuto
import Derived.Deep.CutBlock
import Derived.Deep.CutRange
import Derived.Deep.QuietTactic
import Derived.Lib.Hide
namespace Go.Proofs.Ytmliajkbknjacaa.StaW
open Go.ChangeShapes Go.WideShapes Go.ChangeAt Go.RowKit
open PairW CelW StaP
def rowV (D : Nat → Nat) (n : Nat) : List Value := (List.range n).map fun k => Value.int .i64 (D k : Int)
theorem rowV_len {D : Nat → Nat} {n : Nat} : (rowV D n).length = n := by unfold rowV; rw [List.length_map, List.length_range]
theorem rowV_at {D : Nat → Nat} {n k : Nat} (h : k < n) : (rowV D n)[k]? = some (.int .i64 (D k : Int)) := by unfold rowV; rw [List.getElem?_map, List.getElem?_range h]; rfl
theorem rowV_set {D E : Nat → Nat} {n i x : Nat} (h : ∀ k, E k = if k = i then x else D k) : (rowV D n).set i (.int .i64 (x : Int)) = rowV E n := by
  refine List.ext_getElem? fun k => ?_
  rw [List.getElem?_set]
  by_cases e : i = k
  · subst e
    rw [if_pos rfl, rowV_len]
    by_cases hl : i < n
    · rw [if_pos hl, rowV_at hl, h i, if_pos rfl]
    · rw [if_neg hl, List.getElem?_eq_none (by rw [rowV_len]; omega)]
  · rw [if_neg e]
    by_cases hl : k < n
    · rw [rowV_at hl, rowV_at hl, h k, if_neg (fun z => e z.symm)]
    · rw [List.getElem?_eq_none (by rw [rowV_len]; omega), List.getElem?_eq_none (by rw [rowV_len]; omega)]
abbrev Rd (w : World) (base g n c : Nat) (D : Nat → Nat) : Prop := w.ownsRow base 3 1 (.slice (some ⟨g, 0, none⟩) n c) n (rowV D n)
section
variable {w w' : World} {base g n c : Nat} {D E : Nat → Nat}
theorem Rd.at (h : Rd w base g n c D) {i : Nat} (hi : i < n) : w.cell? ⟨g, i, none⟩ = some (.int .i64 (D i : Int)) ∧ w.frozen? ⟨g, i, none⟩ = false := by
  refine ⟨?_, World.ownsRow.frozenAt h i⟩
  rw [World.ownsRow.cellAt h i (by omega)]
  exact rowV_at hi
theorem Rd.put (h : Rd w base g n c D) (i x : Nat) (e : ∀ k, E k = if k = i then x else D k) : Rd (w.setCell ⟨g, i, none⟩ (.int .i64 (x : Int))) base g n c E := by
  have := (World.ownsRow.stored h i (.int .i64 (x : Int))).1
  rw [rowV_set e] at this
  exact this
theorem Rd.swap (h : Rd w base g n c D) (i j : Nat) : Rd ((w.setCell ⟨g, i, none⟩ (.int .i64 (D j : Int))).setCell ⟨g, j, none⟩ (.int .i64 (D i : Int))) base g n c (swp D i j) := by
  refine (h.put (E := fun k => if k = i then D j else D k) i (D j) fun _ => rfl).put j (D i) fun k => ?_
  show (if k = i then D j else if k = j then D i else D k) = if k = j then D i else if k = i then D j else D k
  by_cases e1 : k = j
  · by_cases e2 : k = i
    · rw [if_pos e2, if_pos e1, ← e2, e1]
    · rw [if_neg e2, if_pos e1, if_pos e1]
  · rw [if_neg e1, if_neg e1]
theorem Rd.drewN (h : Rd w base g n c D) (q : Nat) : Rd (w.drewN q) base g n c D := h
theorem Rd.bounds (h : Rd w base g n c D) : base ≤ g ∧ g < w.heap.size ∧ n ≤ c ∧ c ≤ maxLen := by
  rcases h.2 with ⟨h1, _⟩ | ⟨g', cap, cur, h1, h2, h3, h4, h5, _⟩
  · cases h1
  · injection h1 with h1 _ h6
    injection h1 with h1
    injection h1 with h1
    subst h1
    subst h6
    exact ⟨h2, (Array.getElem?_eq_some_iff.1 h3).1, h4, h5⟩
end
/-- Nothing that was there has turned but one block. -/
structure Gr (w w' : World) (g : Nat) : Prop where
  os : w'.os = w.os
  output : w'.output = w.output
  size : w.heap.size ≤ w'.heap.size
  block : ∀ k, k < w.heap.size → k ≠ g → w'.heap[k]? = w.heap[k]?
theorem Gr.refl (w : World) (g : Nat) : Gr w w g := ⟨rfl, rfl, Nat.le_refl _, fun _ _ _ => rfl⟩
theorem Gr.drewN {w w' : World} {g : Nat} (h : Gr w w' g) (n : Nat) : Gr w (w'.drewN n) g := ⟨h.os, h.output, h.size, h.block⟩
theorem Gr.drew {w w' : World} {g : Nat} (h : Gr w w' g) : Gr w w'.drew g := ⟨h.os, h.output, h.size, h.block⟩
theorem Gr.trans {a b c : World} {g : Nat} (h : Gr a b g) (k : Gr b c g) : Gr a c g := ⟨k.os.trans h.os, k.output.trans h.output, Nat.le_trans h.size k.size, fun i hi hne => (k.block i (Nat.lt_of_lt_of_le hi h.size) hne).trans (h.block i hi hne)⟩
theorem set_other (w : World) (g i : Nat) (u : Value) {k : Nat} (h : k ≠ g) : (w.setCell ⟨g, i, none⟩ u).heap[k]? = w.heap[k]? := by
  unfold World.setCell
  simp only [Array.getElem?_modify]
  rw [if_neg (fun e => h e.symm)]
theorem Gr.set {a w : World} {g : Nat} (h : Gr a w g) (i : Nat) (u : Value) : Gr a (w.setCell ⟨g, i, none⟩ u) g :=
  ⟨h.os, h.output, by simpa [World.setCell] using h.size, fun k hk hne => (set_other w g i u hne).trans (h.block k hk hne)⟩
theorem Gr.own {a w w' : World} {g : Nat} (q : Own a w) (h : Gr w w' g) (hg : a.heap.size ≤ g) : Own a w' := ⟨h.os.trans q.os, h.output.trans q.output, Nat.le_trans q.size h.size, fun k hk => (h.block k (Nat.lt_of_lt_of_le hk q.size) (by omega)).trans (q.block k hk)⟩
set_option maxRecDepth 100000 in
set_option maxHeartbeats 2000000 in
theorem swapRange_at (F : Value) (base g n c a b m : Nat) (D : Nat → Nat) (w : World) (HR : Hid (Rd w base g n c D)) (hn : n ≤ 1000000) (h1 : a + m ≤ b) (h2 : b + m ≤ n) :
    Calls Try.prog 47 #[.slice (some ⟨g, 0, none⟩) n c, .int .i64 (a : Int), .int .i64 (b : Int), .int .i64 (m : Int), F] w fun e w' => e = .returned (.tuple #[]) ∧ Rd w' base g n c (swr D a b m) ∧ Gr w w' g := by
  go_enter Try.func47, Try.ntmps47
  go_wp2
  go_loopw [10] (fun x wr => ∃ i : Nat, x = .int .i64 (i : Int) ∧ i ≤ m ∧ Rd wr base g n c (swr D a b i) ∧ Gr w wr g) (fun x _ => m - (intOf x).toNat)
  case atStart => exact ⟨0, rfl, Nat.zero_le _, by rw [swr_start]; exact HR.out, Gr.refl _ _⟩
  case round =>
    obtain ⟨i, rfl, hi, hr, hg⟩ := hrel
    by_cases hlt : i < m
    · obtain ⟨c0, f0⟩ := hr.at (i := a + i) (by omega)
      obtain ⟨c1, f1⟩ := hr.at (i := b + i) (by omega)
      have HR2 := Lib.hid (hr.swap (a + i) (b + i))
      rw [swr_step (by omega)] at HR2
      obtain ⟨x, hx⟩ : ∃ x, swr D a b i (a + i) = x := ⟨_, rfl⟩
      obtain ⟨y, hy⟩ : ∃ y, swr D a b i (b + i) = y := ⟨_, rfl⟩
      rw [hx] at c0 HR2
      rw [hy] at c1 HR2
      clear hx hy hr HR
      obtain ⟨p, hp⟩ : ∃ p, a + i = p := ⟨_, rfl⟩
      obtain ⟨q, hq⟩ : ∃ q, b + i = q := ⟨_, rfl⟩
      rw [hp] at c0 f0 HR2
      rw [hq] at c1 f1 HR2
      have e1 : IntKind.i64.wrap ((a : Int) + i) = (p : Int) := (IntWalk.i64_in _ (by omega)).trans (by omega)
      have e2 : IntKind.i64.wrap ((b : Int) + i) = (q : Int) := (IntWalk.i64_in _ (by omega)).trans (by omega)
      have l1 : (p : Int) < n := by omega
      have l2 : (q : Int) < n := by omega
      have n1 : p ≠ q := by omega
      have n2 : q ≠ p := by omega
      have hlt2 : (i : Int) < m := by omega
      have HG := Lib.hid hg
      clear hp hq hg
      go_upto_region 3 with (fail)
      go_region
      go_wp2
      go_roundw
      case rel => exact ⟨i + 1, by go_num, hlt, HR2.out, ((HG.out.set p _).set q _).drew⟩
      case measure => simp [intOf]; omega
    · obtain rfl : i = m := by omega
      go_wp2
      go_end0
      exact ⟨rfl, hr, hg⟩
set_option maxRecDepth 100000 in
set_option maxHeartbeats 2000000 in
theorem rotate_at (F : Value) (base g n c a m b : Nat) (D : Nat → Nat) (w : World) (HR : Hid (Rd w base g n c D)) (hn : n ≤ 1000000) (h1 : a < m) (h2 : m < b) (h3 : b ≤ n) :
    Calls Try.prog 46 #[.slice (some ⟨g, 0, none⟩) n c, .int .i64 (a : Int), .int .i64 (m : Int), .int .i64 (b : Int), F] w fun e w' => e = .returned (.tuple #[]) ∧ Rd w' base g n c (rot D a m b) ∧ Rch a b D (rot D a m b) ∧ Gr w w' g := by
  go_enter Try.func46, Try.ntmps46
  go_wp2
  go_loopw [10, 11] (fun x y wr => ∃ (i j : Nat) (E : Nat → Nat), x = .int .i64 (i : Int) ∧ y = .int .i64 (j : Int) ∧ 0 < i ∧ 0 < j ∧ a + i ≤ m ∧ m + j ≤ b ∧ Rd wr base g n c E ∧ Rch a b D E ∧ rot E (m - i) m (m + j) = rot D a m b ∧ Gr w wr g) (fun x y _ => (intOf x).toNat + (intOf y).toNat)
  case atStart => exact ⟨m - a, b - m, D, by go_num, by go_num, by omega, by omega, by omega, by omega, HR.out, .refl, by rw [show m - (m - a) = a by omega, show m + (b - m) = b by omega], Gr.refl _ _⟩
  case round =>
    obtain ⟨i, j, E, rfl, rfl, i0, j0, hi, hj, hr, hch, he, hg⟩ := hrel
    have HR2 := Lib.hid hr
    have HE := Lib.hid he
    have HC := Lib.hid hch
    have HG := Lib.hid hg
    have e1 : IntKind.i64.wrap ((m : Int) - i) = ((m - i : Nat) : Int) := (IntWalk.i64_in _ (by omega)).trans (by omega)
    clear hr he hch hg HR
    rcases Nat.lt_trichotomy i j with hij | hij | hij
    · have d1 : (((i : Int) == j) = false) := by simp; omega
      have d2 : decide ((j : Int) < i) = false := decide_eq_false (by omega)
      have d3 : ¬ j < i := by omega
      have e2 : IntKind.i64.wrap ((m : Int) + j) = ((m + j : Nat) : Int) := (IntWalk.i64_in _ (by omega)).trans (by omega)
      have e3 : IntKind.i64.wrap (((m + j : Nat) : Int) - i) = ((m + j - i : Nat) : Int) := (IntWalk.i64_in _ (by omega)).trans (by omega)
      have e4 : IntKind.i64.wrap ((j : Int) - i) = ((j - i : Nat) : Int) := (IntWalk.i64_in _ (by omega)).trans (by omega)
      have HE2 := Lib.hid (rot_down (D := E) (m := m) hij (by omega))
      have HC2 := Lib.hid (swr_rch (c := a) (d := b) (D := E) (a := m - i) (b := m + j - i) (n := i) (by omega) (by omega) (by omega))
      obtain ⟨p, hp⟩ : ∃ p, m - i = p := ⟨_, rfl⟩
      obtain ⟨q, hq⟩ : ∃ q, m + j - i = q := ⟨_, rfl⟩
      obtain ⟨s, hs⟩ : ∃ s, m + j = s := ⟨_, rfl⟩
      obtain ⟨t, ht⟩ : ∃ t, j - i = t := ⟨_, rfl⟩
      have hcall := fun w => swapRange_at F base g n c p q i E w
      have HCL := Lib.hid hcall
      have b1 : p + i ≤ q := by omega
      have b2 : q + i ≤ n := by omega
      have b3 : 0 < t ∧ m + t ≤ b ∧ t < j := by omega
      have HB := Lib.hid b3
      have HP := Lib.hid hp
      rw [hp] at e1 HE2 HC2
      rw [hq] at e3 HE2 HC2
      rw [hs] at e2 e3 HE2
      rw [ht] at e4 HE2
      rw [hp, hs] at HE
      clear hp hq hs ht hcall b3
      go_wp2_with (go_at_call 47; refine (HCL.out _ HR2 hn b1 b2).mono ?_; rintro e w2 ⟨rfl, hr2, hg2⟩; have HR3 := Lib.hid hr2; have HG2 := Lib.hid hg2; clear hr2 hg2)
      go_roundw
      case rel => exact ⟨i, t, _, rfl, rfl, i0, HB.out.1, hi, HB.out.2.1, HR3.out, HC.out.trans HC2.out, by rw [HP.out, HE2.out]; exact HE.out, HG.out.trans HG2.out⟩
      case measure => have := HB.out; simp [intOf]; omega
    · subst hij
      have HE2 := Lib.hid (rot_end (D := E) (m := m) (i := i) (by omega))
      have HC2 := Lib.hid (swr_rch (c := a) (d := b) (D := E) (a := m - i) (b := m) (n := i) (by omega) (by omega) (by omega))
      obtain ⟨p, hp⟩ : ∃ p, m - i = p := ⟨_, rfl⟩
      have hcall := fun w => swapRange_at F base g n c p m i E w
      have HCL := Lib.hid hcall
      have b1 : p + i ≤ m := by omega
      have b2 : m + i ≤ n := by omega
      rw [hp] at e1 HE2 HC2 HE
      clear hp hcall
      go_wp2_with (go_at_call 47; refine (HCL.out _ HR2 hn b1 b2).mono ?_; rintro e w2 ⟨rfl, hr2, hg2⟩; have HR3 := Lib.hid hr2; have HG2 := Lib.hid hg2; clear hr2 hg2)
      go_end0
      rw [HE.out] at HE2
      rw [HE2.out] at HR3 HC2
      exact ⟨rfl, HR3.out, HC.out.trans HC2.out, HG.out.trans HG2.out⟩
    · have d1 : (((i : Int) == j) = false) := by simp; omega
      have d2 : decide ((j : Int) < i) = true := decide_eq_true (by omega)
      have d3 : j < i := by omega
      have e4 : IntKind.i64.wrap ((i : Int) - j) = ((i - j : Nat) : Int) := (IntWalk.i64_in _ (by omega)).trans (by omega)
      have HE2 := Lib.hid (rot_up (D := E) (m := m) hij (by omega))
      have HC2 := Lib.hid (swr_rch (c := a) (d := b) (D := E) (a := m - i) (b := m) (n := j) (by omega) (by omega) (by omega))
      obtain ⟨p, hp⟩ : ∃ p, m - i = p := ⟨_, rfl⟩
      obtain ⟨t, ht⟩ : ∃ t, i - j = t := ⟨_, rfl⟩
      have hcall := fun w => swapRange_at F base g n c p m j E w
      have HCL := Lib.hid hcall
      have b1 : p + j ≤ m := by omega
      have b2 : m + j ≤ n := by omega
      have b3 : 0 < t ∧ a + t ≤ m ∧ t < i := by omega
      have HB := Lib.hid b3
      rw [hp] at e1 HE2 HC2 HE
      rw [ht] at e4 HE2
      clear hp ht hcall b3
      go_wp2_with (go_at_call 47; refine (HCL.out _ HR2 hn b1 b2).mono ?_; rintro e w2 ⟨rfl, hr2, hg2⟩; have HR3 := Lib.hid hr2; have HG2 := Lib.hid hg2; clear hr2 hg2)
      go_roundw
      case rel => exact ⟨t, j, _, rfl, rfl, HB.out.1, j0, HB.out.2.1, hj, HR3.out, HC.out.trans HC2.out, by rw [HE2.out]; exact HE.out, HG.out.trans HG2.out⟩
      case measure => have := HB.out; simp [intOf]; omega
end Go.Proofs.Ytmliajkbknjacaa.StaW
