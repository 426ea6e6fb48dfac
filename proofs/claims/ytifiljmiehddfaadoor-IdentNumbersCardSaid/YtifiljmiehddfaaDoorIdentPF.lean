/-
  Walk of slices.Clone at texts. Condition: none.
-/
import Derived.Test.YtifiljmiehddfaaDoorIdentPE
import Derived.Lib.SliceRun
namespace Go.Proofs.YtifiljmiehddfaaDoor.NamW
open Go.ChangeShapes Go.WideShapes Go.ChangeAt Go.RowKit Go.Maps Go.WideMaps
open PairW NamP StrW
set_option maxRecDepth 100000 in
theorem clone_at (l : Ss) (sv : Value) (w : World) (HP : Hid (Strs w sv l)) (hn : l.length ≤ 100000) :
    Calls Tryd.prog 34 #[sv] w fun e w' => ∃ v, e = .returned v ∧ w'.ownsRow w.heap.size 9 1 v l.length (cellsS l) ∧ Own w w' := by
  obtain ⟨A, c, rfl, ha1, ha2, ha⟩ := HP.out
  have q24 : ∀ (w : World) (a : Option Addr) (n c n' c' : Nat), (binOp .eql 25 (.slice a n c) (.slice none n' c')).run Tryd.prog w = .ok (.bool a.isNone) w := fun w a n c n' c' => Lib.run_eql_slice_nil w _ _ a n c n' c' Tryd.underlying25
  obtain ⟨i0, hi, hz0, hz1, hz2⟩ := info_parts (show (Tryd.prog.info? 9).map (fun i => (i.zero, i.size, i.bytes)) = some (some (.string ⟨#[]⟩), 1, 16) by kernel_rfl)
  have HI := Lib.hid hi
  have HZ0 := Lib.hid hz0
  have HZ1 := Lib.hid hz1
  have HZ2 := Lib.hid hz2
  clear hi hz0 hz1 hz2
  have HA := Lib.hid ha
  have HL := Lib.hid (show (cellsS l).length = l.length from by unfold cellsS; exact List.length_map ..)
  have HG := Lib.hid (fun j (hj : j < l.length) => show (cellsS l)[j]? = some (.string (atS l j)) from by
    unfold cellsS
    rw [List.getElem?_map, List.getElem?_eq_getElem hj, atS_get hj]
    rfl)
  have HO := Lib.hid (show ∀ u ∈ cellsS l, u.oneCell' = true from fun u hu => by
    unfold cellsS at hu
    obtain ⟨x, _, rfl⟩ := List.mem_map.1 hu
    rfl)
  clear ha HP
  generalize cellsS l = L at HL HG HO ⊢
  obtain ⟨n, hn0⟩ : ∃ n, l.length = n := ⟨_, rfl⟩
  rw [hn0] at hn ha1 HA HL HG ⊢
  clear hn0
  cases A with
  | none =>
    obtain rfl : n = 0 := by
      by_cases h : 0 < n
      · obtain ⟨b, off, e, _⟩ := HA.out h
        cases e
      · omega
    obtain rfl : L = [] := List.eq_nil_of_length_eq_zero HL.out
    go_enter Tryd.func34, Tryd.ntmps34
    go_wp2
    go_ret
    exact ⟨_, rfl, World.ownsRow_nil _ _ _ _, Own.refl w⟩
  | some a =>
    have HC : Hid (∀ (j : Nat) u, L[j]? = some u → (w.alloc (.cells #[] 9)).cell? (a.add j) = some u) := Lib.hid fun j u hj => by
      have hjn : j < n := by
        have := (List.getElem?_eq_some_iff.1 hj).1
        rw [HL.out] at this
        exact this
      obtain ⟨b, off, e, hc⟩ := HA.out (by omega)
      injection e with e
      subst e
      rw [Addr.add_lit]
      refine Lib.cell?_alloc_some _ ?_
      rw [hc j hjn, ← hj, HG.out j hjn]
    go_enter Tryd.func34, Tryd.ntmps34
    go_wp2_with (at_builtin; refine wpList_append_own _ rfl _ _ 25 rfl w.heap.size 9 i0 (.string ⟨#[]⟩) 1 16 Tryd.underlying25 HI.out HZ0.out HZ1.out HZ2.out rfl (by decide) _ _ _ rfl (World.ownsRow_made w #[] 0 (Nat.le_refl _) (Nat.zero_le _) rfl) a n c L rfl (by rw [HL.out]; omega) HC.out HO.out (by unfold maxLen; omega) (by omega) (by simp) ?_; intro v' w1 hown hgrow hnil)
    go_wp2
    go_ret
    refine ⟨v', rfl, by simpa using hown, ?_⟩
    exact Own.grown ((Own.refl w).alloc _) hgrow (by intro k hk; injection hk with hk; exact Nat.le_of_eq hk)
theorem clone_to (l : Ss) (sv : Value) (n : Nat) (w : World) (HP : Hid (Strs w sv l)) (HN : Hid (l.length = n)) (hn : n ≤ 100000) :
    Calls Tryd.prog 34 #[sv] w fun e w' => ∃ A c, e = .returned (.slice A n c) ∧ w'.ownsRow w.heap.size 9 1 (.slice A n c) n (cellsS l) ∧ Own w w' := by
  refine (clone_at l sv w HP (by rw [HN.out]; exact hn)).mono ?_
  rintro e w1 ⟨v1, rfl, hrow, hg⟩
  obtain ⟨A1, cap1, rfl, _⟩ := strs_of_row hrow
  rw [HN.out] at hrow
  refine ⟨A1, cap1, ?_, hrow, hg⟩
  rw [HN.out]
end Go.Proofs.YtifiljmiehddfaaDoor.NamW
