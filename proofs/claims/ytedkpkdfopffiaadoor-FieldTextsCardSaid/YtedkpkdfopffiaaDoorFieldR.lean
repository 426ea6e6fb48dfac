/-
  Walks of the specification of package field: Same, SameLines, Numbers; and the laws' own few: what a call returns. Condition: none.
-/
import Derived.Test.YtedkpkdfopffiaaDoorFieldN
import Derived.Test.YtedkpkdfopffiaaDoorFieldE
namespace Go.Proofs.YtedkpkdfopffiaaDoor.NamW
open Go.ChangeShapes Go.WideShapes Go.ChangeAt Go.RowKit
open PairW NamP StrW FldP
theorem Drew.cell {w w' : World} {a : Addr} {v : Value} (h : Drew w w') (hc : w.cell? a = some v) : w'.cell? a = some v := by
  obtain ⟨n, rfl⟩ := h
  exact hc
theorem Drew.more {w w' : World} (h : Drew w w') (n : Nat) : Drew w (w'.drewN n) := by
  obtain ⟨m, rfl⟩ := h
  exact ⟨m + n, by rw [World.drewN_drewN]⟩
theorem Drew.refl' (w : World) : Drew w w := ⟨0, rfl⟩
set_option maxRecDepth 100000 in
theorem same_yes (l : Ss) (va vb : Value) (w : World) (HA : Hid (Strs w va l)) (HB : Hid (Strs w vb l)) :
    Calls Tryd.prog 16 #[va, vb] w fun e w' => e = .returned (.bool true) ∧ Drew w w' := by
  obtain ⟨A, ca, rfl, ha1, ha2, ha⟩ := HA.out
  obtain ⟨B, cb, rfl, hb1, hb2, hb⟩ := HB.out
  unfold maxLen at ha2 hb2
  have HCA := Lib.hid ha
  have HCB := Lib.hid hb
  clear ha hb HA HB
  obtain ⟨n, hn⟩ : ∃ n, l.length = n := ⟨_, rfl⟩
  rw [hn] at HCA HCB ha1 hb1 ⊢
  clear hn
  go_enter Tryd.func16, Tryd.ntmps16
  go_wp2
  go_loopw [5] (fun i wr => ∃ k : Nat, i = .int .i64 k ∧ k ≤ n ∧ Drew w wr) (fun i _ => n - (intOf i).toNat)
  case atStart => exact ⟨0, rfl, Nat.zero_le _, Drew.refl' w⟩
  case round =>
    obtain ⟨k, rfl, hk, q⟩ := hrel
    by_cases hlt : k < n
    · obtain ⟨b, off, rfl, hc⟩ := HCA.out (by omega)
      obtain ⟨b2, off2, rfl, hc2⟩ := HCB.out (by omega)
      have e0 := Drew.cell q (hc k hlt)
      have e1 := Drew.cell q (hc2 k hlt)
      clear hc hc2
      have hkn : (k : Int) < n := by omega
      obtain ⟨x, hx⟩ : ∃ x, atS l k = x := ⟨_, rfl⟩
      rw [hx] at e0 e1
      clear hx
      go_upto_region 6 with (fail)
      go_quiet (fail)
      go_wp2
      go_roundw
      case rel => exact ⟨k + 1, by go_num, hlt, Drew.more q _⟩
      case measure => simp [intOf]; omega
    · obtain rfl : n = k := by omega
      go_wp2
      go_ret
      exact ⟨rfl, q⟩
/-- What the laws' few says. -/
def fewB (l : Ss) : Bool := decide (l.length ≤ 16) && l.all fun s => decide (s.size ≤ 300)
theorem few_no {l : Ss} {k : Nat} (h : k < l.length) (hb : 300 < (atS l k).size) : fewB l = false := Bool.of_not_eq_true fun e => by
  unfold fewB at e
  rw [Bool.and_eq_true] at e
  have := List.all_eq_true.1 e.2 _ (atS_mem h)
  rw [decide_eq_true_eq] at this
  omega
theorem few_big {l : Ss} (h : 16 < l.length) : fewB l = false := by
  unfold fewB
  rw [decide_eq_false (by omega)]
  rfl
theorem few_yes {l : Ss} (h : l.length ≤ 16) (hs : ∀ k, k < l.length → (atS l k).size ≤ 300) : fewB l = true := by
  unfold fewB
  rw [decide_eq_true h, Bool.true_and, List.all_eq_true]
  intro x hx
  obtain ⟨i, hi, e⟩ := List.mem_iff_getElem.1 hx
  have := hs i hi
  rw [atS_get hi, e] at this
  exact decide_eq_true this
theorem few_facts {l : Ss} (h : fewB l = true) : l.length ≤ 16 ∧ ∀ s ∈ l, s.size ≤ 300 := by
  unfold fewB at h
  rw [Bool.and_eq_true, decide_eq_true_eq, List.all_eq_true] at h
  exact ⟨h.1, fun s hs => of_decide_eq_true (h.2 s hs)⟩
set_option maxRecDepth 100000 in
theorem few_at (l : Ss) (sv : Value) (t : Bool) (w : World) (HP : Hid (Strs w sv l)) (H : Hid (fewB l = t)) :
    Calls Tryd.prog 10 #[sv] w fun e w' => e = .returned (.bool t) ∧ w = w' := by
  obtain ⟨A, ca, rfl, ha1, ha2, ha⟩ := HP.out
  unfold maxLen at ha2
  have HCA := Lib.hid ha
  clear ha HP
  have HN := Lib.hid (fun k (h : k < l.length) hb => few_no (l := l) (k := k) h hb)
  have HB := Lib.hid (few_big (l := l))
  have HY := Lib.hid (few_yes (l := l))
  rw [H.out] at HN HB HY
  obtain ⟨n, hn⟩ : ∃ n, l.length = n := ⟨_, rfl⟩
  rw [hn] at HCA ha1 HN HB HY ⊢
  clear hn H
  go_enter Tryd.func10, Tryd.ntmps10
  go_wp2
  go_loop [3] (fun i => ∃ k : Nat, i = .int .i64 k ∧ k ≤ n ∧ k ≤ 16 ∧ ∀ j, j < k → (atS l j).size ≤ 300) (fun i => 16 - (intOf i).toNat)
  case atStart => exact ⟨0, rfl, Nat.zero_le _, Nat.zero_le _, fun j hj => absurd hj (Nat.not_lt_zero _)⟩
  case round =>
    obtain ⟨k, rfl, hk, hk16, hok⟩ := hrel
    have HOK := Lib.hid hok
    clear hok
    by_cases hlt : k < n
    · have hkn : (k : Int) < n := by omega
      by_cases h16 : k < 16
      · have hki : (k : Int) < 16 := by omega
        obtain ⟨b, off, rfl, hc⟩ := HCA.out (by omega)
        have e0 := hc k hlt
        have hbad := HN.out k hlt
        clear hc
        obtain ⟨x, hx⟩ : ∃ x, atS l k = x := ⟨_, rfl⟩
        rw [hx] at e0 hbad
        by_cases hs : 300 < x.size
        · obtain rfl := hbad hs
          have hsi : (300 : Int) < x.size := by omega
          clear hbad hx
          go_wp2
          go_ret
          exact ⟨rfl, rfl⟩
        · have hsi : ¬ (300 : Int) < x.size := by omega
          have HSX := Lib.hid (show (atS l k).size ≤ 300 by rw [hx]; omega)
          clear hbad hx
          go_wp2
          go_round
          case rel => exact ⟨k + 1, by go_num, hlt, h16, fun j hj => by
              by_cases e : j = k
              · rw [e]; exact HSX.out
              · exact HOK.out j (by omega)⟩
          case measure => simp [intOf]; omega
      · have hki : ¬ (k : Int) < 16 := by omega
        obtain rfl := HB.out (by omega)
        have hn16 : ¬ (n : Int) ≤ 16 := by omega
        go_wp2
        go_ret
        exact ⟨rfl, rfl⟩
    · obtain rfl : n = k := by omega
      obtain rfl := HY.out hk16 (fun j hj => HOK.out j hj)
      have hn16 : (n : Int) ≤ 16 := by omega
      go_wp2
      go_ret
      exact ⟨rfl, rfl⟩
end Go.Proofs.YtedkpkdfopffiaaDoor.NamW
