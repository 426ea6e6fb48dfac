/-
  Walks of find and Sort of the specification of package ident, and of same of its laws: what a call returns for every input. Condition: none.
-/
import Derived.Test.YtifiljmiehddfaaDoorIdentB
import Derived.Test.YtifiljmiehddfaaDoorStrs
import Derived.Deep.AppendLies
import Derived.OwnWalk
namespace Go.Proofs.YtifiljmiehddfaaDoor.NamW
open Go.ChangeShapes Go.WideShapes Go.ChangeAt Go.RowKit
open PairW NamP StrW
set_option maxRecDepth 100000 in
theorem find_at (l : Ss) (sv : Value) (s : ByteArray) (r : Int) (w : World) (HP : Hid (Strs w sv l)) (H : Hid (findI s l = r)) :
    Calls Tryd.prog 36 #[sv, .string s] w fun e w' => e = .returned (.int .i64 r) ∧ Own w w' := by
  obtain ⟨A, cap, rfl, ha1, ha2, ha⟩ := HP.out
  unfold maxLen at ha2
  have HA := Lib.hid ha
  clear ha HP
  obtain ⟨n, hn⟩ : ∃ n, l.length = n := ⟨_, rfl⟩
  rw [hn] at HA ha1 ⊢
  have HN := Lib.hid hn
  clear hn
  go_enter Tryd.func36, Tryd.ntmps36
  go_wp2
  go_loopw [5] (fun i wr => ∃ k : Nat, i = .int .i64 k ∧ k ≤ n ∧ Own w wr ∧ ∀ j, j < k → atS l j ≠ s) (fun i _ => n - (intOf i).toNat)
  case atStart => exact ⟨0, rfl, Nat.zero_le _, Own.refl w, fun j hj => absurd hj (Nat.not_lt_zero _)⟩
  case round =>
    obtain ⟨k, rfl, hk, g0, hno⟩ := hrel
    have HNO := Lib.hid hno
    clear hno
    by_cases hlt : k < n
    · obtain ⟨b, off, rfl, hc⟩ := HA.out (by omega)
      have e0 := g0.cell (hc k hlt)
      clear hc
      obtain ⟨x, hx⟩ : ∃ x, atS l k = x := ⟨_, rfl⟩
      rw [hx] at e0
      have HX := Lib.hid hx
      clear hx
      have hki : (k : Int) < n := by omega
      by_cases c : x = s
      · obtain rfl : (k : Int) = r := by rw [← H.out]; exact (find_hit (by rw [HN.out]; exact hlt) HNO.out (HX.out.trans c)).symm
        have c1 := str_eq c
        clear H HX c
        go_wp2
        go_ret
        exact ⟨rfl, g0⟩
      · have c1 := str_ne c
        have HC := Lib.hid c
        clear c
        go_wp2
        go_roundw
        case rel => exact ⟨k + 1, by go_num, hlt, g0, fun j hj => by
            by_cases e : j = k
            · rw [e, HX.out]; exact HC.out
            · exact HNO.out j (by omega)⟩
        case measure => simp [intOf]; omega
    · obtain rfl : n = k := by omega
      obtain rfl : -1 = r := by rw [← H.out]; exact (find_none (by rw [HN.out]; exact HNO.out)).symm
      clear H
      go_wp2
      go_ret
      exact ⟨rfl, g0⟩
set_option maxRecDepth 100000 in
set_option maxHeartbeats 2000000 in
theorem same_at (la lb : Ss) (sa sb : Value) (t : Bool) (w : World) (HA : Hid (Strs w sa la)) (HB : Hid (Strs w sb lb)) (H : Hid (decide (la = lb) = t)) :
    Calls Tryd.prog 25 #[sa, sb] w fun e w' => e = .returned (.bool t) ∧ Own w w' := by
  obtain ⟨A, ca, rfl, ha1, ha2, ha⟩ := HA.out
  obtain ⟨B, cb, rfl, hb1, hb2, hb⟩ := HB.out
  clear HA HB
  unfold maxLen at ha2 hb2
  have HA := Lib.hid ha
  have HB := Lib.hid hb
  clear ha hb
  obtain ⟨n, hn⟩ : ∃ n, la.length = n := ⟨_, rfl⟩
  obtain ⟨m, hm⟩ : ∃ m, lb.length = m := ⟨_, rfl⟩
  rw [hn] at HA ha1 ⊢
  rw [hm] at HB hb1 ⊢
  by_cases hl : n = m
  · subst hl
    have HN := Lib.hid hn
    have HM := Lib.hid hm
    clear hn hm
    go_enter Tryd.func25, Tryd.ntmps25
    go_wp2
    go_loopw [5] (fun i wr => ∃ k : Nat, i = .int .i64 k ∧ k ≤ n ∧ Own w wr ∧ ∀ j, j < k → atS la j = atS lb j) (fun i _ => n - (intOf i).toNat)
    case atStart => exact ⟨0, rfl, Nat.zero_le _, Own.refl w, fun j hj => absurd hj (Nat.not_lt_zero _)⟩
    case round =>
      obtain ⟨k, rfl, hk, g0, heq⟩ := hrel
      have HE := Lib.hid heq
      clear heq
      by_cases hlt : k < n
      · obtain ⟨b, off, rfl, hc⟩ := HA.out (by omega)
        obtain ⟨b', off', rfl, hc'⟩ := HB.out (by omega)
        have e0 := g0.cell (hc k hlt)
        have e2 := g0.cell (hc' k hlt)
        clear hc hc'
        have hki : (k : Int) < n := by omega
        by_cases hs : atS la k = atS lb k
        · have HS := Lib.hid hs
          rw [hs] at e0
          obtain ⟨x, hp⟩ : ∃ p, atS lb k = p := ⟨_, rfl⟩
          rw [hp] at e0 e2
          clear hs hp
          have hb1 : (x.toList == x.toList) = true := str_eq rfl
          go_upto_region 6 with (fail)
          go_quiet (fail)
          clear hb1
          go_wp2
          go_roundw
          case rel => exact ⟨k + 1, by go_num, hlt, g0.drewN _, fun j hj => by
              by_cases e : j = k
              · rw [e]; exact HS.out
              · exact HE.out j (by omega)⟩
          case measure => simp [intOf]; omega
        · obtain rfl : false = t := by rw [← H.out]; exact (decide_eq_false fun e => hs (by rw [e])).symm
          obtain ⟨x, hp⟩ : ∃ p, atS la k = p := ⟨_, rfl⟩
          obtain ⟨y, hp2⟩ : ∃ p, atS lb k = p := ⟨_, rfl⟩
          rw [hp] at e0 hs
          rw [hp2] at e2 hs
          have hb1 := str_ne hs
          clear hs hp hp2 H
          go_upto_region 6 with (fail)
          go_quiet (fail)
          go_wp2
          go_ret
          exact ⟨rfl, g0.drewN _⟩
      · obtain rfl : n = k := by omega
        obtain rfl : true = t := by rw [← H.out]; exact (decide_eq_true (strs_eq (HN.out.trans HM.out.symm) (by rw [HN.out]; exact HE.out))).symm
        clear H
        go_wp2
        go_ret
        exact ⟨rfl, g0⟩
  · obtain rfl : false = t := by rw [← H.out]; exact (decide_eq_false (fun e => hl (by rw [← hn, ← hm, e]))).symm
    have hne : ((n : Int) != (m : Int)) = true := bne_iff_ne.2 (by omega)
    clear hn hm hl H
    go_enter Tryd.func25, Tryd.ntmps25
    go_wp2
    go_ret
    exact ⟨rfl, Own.refl w⟩
end Go.Proofs.YtifiljmiehddfaaDoor.NamW
