/-
  Walks of the specification of package tempo: Check, Of, moment, When, Tick. Condition: none.
-/
import Derived.Test.YtlepcahangkmiaaTempoPlainB
import Derived.Lib.Hide
import Derived.Deep.DeepCutAuto
namespace Go.Proofs.Ytlepcahangkmiaa.TemW
open Go.ChangeShapes Go.WideShapes Go.ChangeAt Go.RowKit
open PairW TemP
set_option maxRecDepth 100000 in
set_option maxHeartbeats 1000000 in
theorem rcheck_at (l : List Pt) (sv : Value) (f : Int) (w : World) (HP : Hid (Pts w sv l)) (H : Hid (chkE l = f)) :
    Calls Try.prog 27 #[sv] w fun e w' => e = .returned (.int .i64 f) ∧ Own w w' := by
  obtain ⟨A, cap, rfl, ha1, ha2, ha⟩ := HP.out.open
  unfold maxLen at ha2
  have HA := Lib.hid ha
  clear ha HP
  obtain ⟨n, hn⟩ : ∃ n, l.length = n := ⟨_, rfl⟩
  rw [hn] at HA ha1 ⊢
  have HN := Lib.hid hn
  clear hn
  by_cases h0 : n = 0
  · obtain rfl : 4 = f := by rw [← H.out]; exact (chk_empty (HN.out.trans h0)).symm
    subst h0
    clear H HA
    go_enter Try.func27, Try.ntmps27
    go_wp2
    go_ret
    exact ⟨rfl, Own.refl w⟩
  have d0 : ((n : Int) == 0) = false := beq_eq_false_iff_ne.2 (by omega)
  by_cases h1 : 64 < n
  · obtain rfl : 3 = f := by rw [← H.out]; exact (chk_many (l := l) (by rw [HN.out]; exact h1)).symm
    have d1 : (64 : Int) < n := by omega
    clear H HA
    go_enter Try.func27, Try.ntmps27
    go_wp2
    go_ret
    exact ⟨rfl, Own.refl w⟩
  have d1 : ¬ (64 : Int) < n := by omega
  obtain ⟨b, off, rfl, hcc⟩ := HA.out (by omega)
  have HC := Lib.hid hcc
  clear hcc HA
  have dn0 : (0 : Int) < n := by omega
  go_enter Try.func27, Try.ntmps27
  go_wp2
  go_loopw [3] (fun vi wr => ∃ k : Nat, vi = .int .i64 (k : Int) ∧ k ≤ n ∧ Own w wr ∧ ∀ j, j < k → okT (at' l j) = true) (fun vi _ => n - (intOf vi).toNat)
  case atStart => exact ⟨0, rfl, Nat.zero_le _, Own.refl w, fun j hj => absurd hj (Nat.not_lt_zero _)⟩
  case round =>
    obtain ⟨k, rfl, hk, g0, hok⟩ := hrel
    have HOK := Lib.hid hok
    clear hok
    by_cases hlt : k < n
    · have e0 := g0.cell (HC.out k hlt).1
      have e1 := g0.cell (HC.out k hlt).2
      obtain ⟨t, ht⟩ : ∃ t, okT (at' l k) = t := ⟨_, rfl⟩
      have HB := Lib.hid (fun (e : t = false) => chk_bad (l := l) (i := k) (by rw [HN.out]; exact h0) (by rw [HN.out]; omega) (by rw [HN.out]; exact hlt) (ht.trans e))
      obtain ⟨⟨x, y⟩, hp⟩ : ∃ p, at' l k = p := ⟨_, rfl⟩
      have HTT := Lib.hid ht
      rw [hp] at e0 e1 ht
      simp only at e0 e1
      clear hp
      have hkn : (k : Int) < n := by omega
      cases t with
      | true =>
        have ho := (okT_iff _).1 ht
        simp only at ho
        obtain ⟨⟨o1, o2⟩, o3, o4⟩ := ho
        have x1 : ¬ x < 0 := by omega
        have x2 : ¬ 8192 < x := by omega
        have x3 : ¬ y < 1 := by omega
        have x4 : ¬ 4194304 < y := by omega
        clear ht o1 o2 o3 o4
        go_wp2
        go_roundw
        case rel => exact ⟨k + 1, by go_num, hlt, g0, fun j hj => by
          by_cases e : j = k
          · rw [e]; exact HTT.out
          · exact HOK.out j (by omega)⟩
        case measure => simp [intOf]; omega
      | false =>
        obtain rfl : 1 = f := by rw [← H.out]; exact (HB.out rfl).symm
        have hno : x < 0 ∨ ¬ x < 0 ∧ 8192 < x ∨ ¬ x < 0 ∧ ¬ 8192 < x ∧ y < 1 ∨ ¬ x < 0 ∧ ¬ 8192 < x ∧ ¬ y < 1 ∧ 4194304 < y := by
          have := mt (okT_iff (x, y)).2 (by rw [ht]; decide)
          simp only at this
          omega
        clear ht
        rcases hno with x1 | ⟨x1, x2⟩ | ⟨x1, x2, x3⟩ | ⟨x1, x2, x3, x4⟩
        all_goals
          go_wp2
          go_ret
          exact ⟨rfl, g0⟩
    · obtain rfl : k = n := by omega
      have HO := Lib.hid (show Ok l from ok_upto (by rw [HN.out]; exact HOK.out))
      have hl : l.length ≤ 64 := by rw [HN.out]; omega
      have hl0 : l.length ≠ 0 := by rw [HN.out]; exact h0
      have e0 := g0.cell (HC.out 0 (by omega)).1
      obtain ⟨x0, hx0⟩ : ∃ x, (at' l 0).1 = x := ⟨_, rfl⟩
      rw [hx0] at e0
      simp only [Nat.zero_mul, Nat.add_zero] at e0
      by_cases h2 : x0 = 0
      · subst h2
        have HF := Lib.hid hx0
        have good : (∀ i, i + 1 < k → (at' l i).1 < (at' l (i + 1)).1) → 0 = f := fun h => by
          rw [← H.out]
          exact (chk_map.2 ⟨by rw [HN.out]; omega, hl, HO.out, HF.out, by rw [HN.out]; exact h⟩).symm
        have GD := Lib.hid good
        generalize hwc : wr = wc at *
        clear hwc hx0 hlt HOK good
        go_wp2
        go_loopw [4] (fun vi wr => ∃ i : Nat, vi = .int .i64 (i : Int) ∧ 1 ≤ i ∧ i ≤ k ∧ Own w wr ∧ ∀ j, j + 1 < i → (at' l j).1 < (at' l (j + 1)).1) (fun vi _ => k - (intOf vi).toNat)
        case atStart => exact ⟨1, rfl, Nat.le_refl _, by omega, g0, fun j hj => by omega⟩
        case round =>
          obtain ⟨i, rfl, hi1, hi, q0, hup⟩ := hrel
          have HUP := Lib.hid hup
          clear hup
          by_cases hlt : i < k
          · obtain ⟨j, hj⟩ : ∃ j, i = j + 1 := ⟨i - 1, by omega⟩
            have HJ := Lib.hid hj
            have c0 := q0.cell (HC.out j (by omega)).1
            have c1 := q0.cell (HC.out i (by omega)).1
            have HX := Lib.hid (fun (h : (at' l (j + 1)).1 ≤ (at' l j).1) => chk_back hl0 hl HO.out (i := j) (by rw [HN.out]; omega) h)
            obtain ⟨x, hx⟩ : ∃ x, (at' l j).1 = x := ⟨_, rfl⟩
            obtain ⟨y, hy⟩ : ∃ x, (at' l i).1 = x := ⟨_, rfl⟩
            have HXE := Lib.hid hx
            have HYE := Lib.hid hy
            rw [hx] at c0
            rw [hy] at c1
            have him : (i : Int) < k := by omega
            have i1 : IntKind.i64.wrap ((i : Int) - 1) = (j : Int) := (IntWalk.i64_in _ (by omega)).trans (by omega)
            have d5 : (0 : Int) ≤ (j : Int) := by omega
            have d6 : (j : Int) < k := by omega
            clear hx hy hj
            go_upto_region 15 with (fail)
            by_cases hyx : y ≤ x
            · obtain rfl : 5 = f := by rw [← H.out]; exact (HX.out (by rw [HXE.out, ← HJ.out, HYE.out]; exact hyx)).symm
              have dd : decide (y ≤ x) = true := decide_eq_true hyx
              go_quiet (fail)
              go_wp2
              go_ret
              exact ⟨rfl, q0.drewN _⟩
            · have dd : decide (y ≤ x) = false := decide_eq_false hyx
              go_quiet (fail)
              go_wp2
              go_roundw
              case rel => exact ⟨i + 1, by go_num, by omega, hlt, q0.drewN _, fun m hm => by
                by_cases e : m = j
                · rw [e, HXE.out, ← HJ.out, HYE.out]; omega
                · exact HUP.out m (by have := HJ.out; omega)⟩
              case measure => simp [intOf]; omega
          · obtain rfl : i = k := by omega
            obtain rfl := GD.out (fun j hj => HUP.out j (by omega))
            go_wp2
            go_ret
            exact ⟨rfl, q0⟩
      · obtain rfl : 5 = f := by rw [← H.out]; exact (chk_first hl0 hl HO.out (by rw [hx0]; exact h2)).symm
        have d2 : (x0 != 0) = true := bne_iff_ne.2 h2
        clear hx0
        go_wp2
        go_ret
        exact ⟨rfl, g0⟩
end Go.Proofs.Ytlepcahangkmiaa.TemW
