/-
  Walk of Sort of the specification of package ident: what a call returns for every input. Condition: none.
-/
import Derived.Test.YtifiljmiehddfaaDoorIdentC
import Derived.Test.YtifiljmiehddfaaDoorNamePlainB
namespace Go.Proofs.YtifiljmiehddfaaDoor.NamW
open Go.ChangeShapes Go.WideShapes Go.ChangeAt Go.RowKit
open PairW NamP StrW
theorem swap_two (X Y : Value) : ∀ (p q : List Value), ((p ++ Y :: X :: q).set (p.length + 1) Y).set p.length X = p ++ X :: Y :: q
  | [], _ => rfl
  | z :: p, q => congrArg (z :: ·) (swap_two X Y p q)
theorem swap_cells {o : Ss} {x : ByteArray} {i : Nat} (h : i < o.length) :
    ((cellsS (o.take (i + 1) ++ x :: o.drop (i + 1))).set (i + 1) (.string (atS o i))).set i (.string x) = cellsS (o.take i ++ x :: o.drop i) := by
  have e1 : o.take (i + 1) = o.take i ++ [atS o i] := by rw [List.take_succ_eq_append_getElem h, atS_get h]
  have e2 : o.drop i = atS o i :: o.drop (i + 1) := by rw [List.drop_eq_getElem_cons h, atS_get h]
  have hl : (cellsS (o.take i)).length = i := by rw [cellsS_len, List.length_take]; omega
  have := swap_two (.string x) (.string (atS o i)) (cellsS (o.take i)) (cellsS (o.drop (i + 1)))
  rw [hl] at this
  rw [e1, e2]
  unfold cellsS at this ⊢
  simpa [List.map_append] using this
theorem mid_at {o : Ss} {x : ByteArray} {i : Nat} (h : i ≤ o.length) : atS (o.take i ++ x :: o.drop i) i = x := by
  have hl : (o.take i).length = i := by rw [List.length_take]; omega
  unfold atS
  rw [List.getD_eq_getElem?_getD, List.getElem?_append_right (by omega), hl, Nat.sub_self]
  rfl
theorem mid_before {o : Ss} {x : ByteArray} {i : Nat} (h : i < o.length) : atS (o.take (i + 1) ++ x :: o.drop (i + 1)) i = atS o i := by
  have hl : (o.take (i + 1)).length = i + 1 := by rw [List.length_take]; omega
  unfold atS
  rw [List.getD_eq_getElem?_getD, List.getD_eq_getElem?_getD, List.getElem?_append_left (by omega), List.getElem?_take_of_lt (by omega)]
theorem mid_len {o : Ss} {x : ByteArray} {i : Nat} (h : i ≤ o.length) : (o.take i ++ x :: o.drop i).length = o.length + 1 := by simp; omega
theorem takeS {l : Ss} {k : Nat} (h : k < l.length) : l.take (k + 1) = l.take k ++ [atS l k] := by rw [List.take_succ_eq_append_getElem h, atS_get h]
set_option maxRecDepth 100000 in
set_option maxHeartbeats 4000000 in
theorem rsort_at (l : Ss) (sv : Value) (w : World) (HP : Hid (Strs w sv l)) (HS : Hid (Short l)) (hlen : l.length ≤ 1000) :
    Calls Tryd.prog 38 #[sv] w fun e w' => ∃ v, e = .returned v ∧ w'.ownsRow w.heap.size 9 1 v l.length (cellsS (sortS l)) ∧ Own w w' := by
  obtain ⟨i0, hi, hz0, hz1, hz2⟩ := info_parts (show (Tryd.prog.info? 9).map (fun i => (i.zero, i.size, i.bytes)) = some (some (.string ⟨#[]⟩), 1, 16) by kernel_rfl)
  have HI := Lib.hid hi
  have HZ0 := Lib.hid hz0
  have HZ1 := Lib.hid hz1
  have HZ2 := Lib.hid hz2
  clear hi hz0 hz1 hz2
  obtain ⟨A, cap, rfl, ha1, ha2, ha⟩ := HP.out
  unfold maxLen at ha2
  have HA := Lib.hid ha
  clear ha HP
  have HTK := Lib.hid (fun k (h : k < l.length) => takeS h)
  have HAM := Lib.hid (fun k (h : k < l.length) => HS.out.at_ h)
  have HSO := Lib.hid (fun k (s : ByteArray) (h : s ∈ sortS (l.take k)) => HS.out s (List.mem_of_mem_take ((sort_perm (l.take k)).mem_iff.1 h)))
  obtain ⟨n, hn⟩ : ∃ n, l.length = n := ⟨_, rfl⟩
  rw [hn] at HA ha1 hlen HTK HAM ⊢
  have HN := Lib.hid hn
  clear hn HS
  go_enter Tryd.func38, Tryd.ntmps38
  go_wp2
  go_loopw [3, 4] (fun v i wr => ∃ k : Nat, i = .int .i64 k ∧ k ≤ n ∧ Own w wr ∧ wr.ownsRow w.heap.size 9 1 v k (cellsS (sortS (l.take k)))) (fun _ i _ => n - (intOf i).toNat)
  case atStart => exact ⟨0, rfl, Nat.zero_le _, Own.refl w, World.ownsRow_nil w _ _ _⟩
  case round =>
    obtain ⟨k, rfl, hk, q, hrow⟩ := hrel
    have HROW := Lib.hid hrow
    clear hrow
    by_cases hlt : k < n
    · obtain ⟨b, off, rfl, hc⟩ := HA.out (by omega)
      have e0 := q.cell (hc k hlt)
      have hbl : b < w.heap.size := block_lt_of_cell (hc k hlt)
      clear hc
      have hkn : (k : Int) < n := by omega
      have HK := Lib.hid (HTK.out k hlt)
      have hxs := HAM.out k hlt
      obtain ⟨x, hx⟩ : ∃ x, atS l k = x := ⟨_, rfl⟩
      rw [hx] at e0 HK hxs
      have HXS := Lib.hid hxs
      clear hx hxs
      have hol : (sortS (l.take k)).length = k := by rw [sort_len, List.length_take, HN.out]; omega
      have HSO2 := Lib.hid (HSO.out k)
      obtain ⟨o, ho⟩ : ∃ o, sortS (l.take k) = o := ⟨_, rfl⟩
      have HO := Lib.hid ho
      rw [ho] at HROW hol HSO2
      clear ho
      have HOL := Lib.hid hol
      clear hol
      generalize wr = wa at *
      have g2 : Own w (wa.alloc (.cells #[.string x] 9)) := q.alloc _
      have HROW1 := Lib.hid (HROW.out.alloc (.cells #[.string x] 9))
      have i1 : IntKind.i64.wrap (((k + 1 : Nat) : Int) - 1) = (k : Int) := by rw [show ((k + 1 : Nat) : Int) - 1 = (k : Int) by omega]; exact IntWalk.i64_in _ (by omega)
      have i1b : IntKind.i64.wrap ((k : Int) + 1 - 1) = (k : Int) := by rw [show (k : Int) + 1 - 1 = (k : Int) by omega]; exact IntWalk.i64_in _ (by omega)
      go_wp2_with (at_builtin; refine wpList_append_lies _ rfl _ _ 25 rfl w.heap.size 9 i0 _ 1 16 Tryd.underlying25 HI.out HZ0.out HZ1.out HZ2.out rfl (by omega) _ _ _ rfl HROW1.out ⟨wa.heap.size, 0, none⟩ 1 1 [.string x] rfl rfl (World.news_of_block (cs := #[.string x]) (t := 9) (fr := (0, 0)) (heap_alloc_new wa _)) (by simp [Value.oneCell']) (by omega) (by unfold maxLen; omega) (by omega) g2.size _ rfl ?_)
      intro g gcap w4 hown hgr hat hlt4
      have hO : Own w w4 := g2.grown hgr (fun j hj => (HROW1.out.lt j hj).1)
      have HR4 := Lib.hid (show w4.ownsRow w.heap.size 9 1 (.slice (some ⟨g, 0, none⟩) (k + 1) gcap) (k + 1) (cellsS (o.take k ++ x :: o.drop k)) by
        rw [List.take_of_length_le (by rw [HOL.out]; exact Nat.le_refl _), List.drop_eq_nil_of_le (by rw [HOL.out]; exact Nat.le_refl _), cellsS_snoc]; exact hown)
      have hgb : w.heap.size ≤ g := (hown.lt g rfl).1
      clear hown hgr hat HROW HROW1 e0 q g2
      have HKO := Lib.hid (show k ≤ o.length by rw [HOL.out]; exact Nat.le_refl _)
      go_wp2
      go_loopw [5] (fun v wr => ∃ j : Nat, v = .int .i64 j ∧ j ≤ k ∧ (∀ t, j ≤ t → t < k → lessS x (atS o t) = true) ∧ Own w wr ∧ wr.ownsRow w.heap.size 9 1 (.slice (some ⟨g, 0, none⟩) (k + 1) gcap) (k + 1) (cellsS (o.take j ++ x :: o.drop j))) (fun v _ => (intOf v).toNat)
      case atStart => exact ⟨k, by go_num, Nat.le_refl _, fun t h1 h2 => by omega, hO, HR4.out⟩
      case round =>
        obtain ⟨j, rfl, hj, hle, q, hrow⟩ := hrel
        have HROW := Lib.hid hrow
        have HLE := Lib.hid hle
        clear hrow hle
        have last : ∀ (w' : World), Own wr w' → (j = 0 ∨ lessS x (atS o (j - 1)) = false) → w'.ownsRow w.heap.size 9 1 (.slice (some ⟨g, 0, none⟩) (k + 1) gcap) (k + 1) (cellsS (sortS (l.take (k + 1)))) := fun w' hg h => by
          rw [HK.out, sort_snoc, HO.out, ins_at (by rw [HOL.out]; exact hj) (by rw [HOL.out]; exact HLE.out) h]
          exact row_own HROW.out hg
        have LAST := Lib.hid last
        clear last
        rcases Nat.eq_zero_or_pos j with h0 | h0
        · subst h0
          have d0 : decide ((0 : Int) < ((0 : Nat) : Int)) = false := rfl
          go_upto_region 7 with (fail)
          go_quiet (fail)
          clear d0
          go_wp2
          go_roundw
          case rel => exact ⟨k + 1, by go_num, hlt, q.drewN _, LAST.out _ ((Own.refl wr).drewN _) (.inl rfl)⟩
          case measure => simp [intOf]; omega
        · obtain ⟨i, rfl⟩ : ∃ i, j = i + 1 := ⟨j - 1, by omega⟩
          have hio : i < o.length := by rw [HOL.out]; omega
          obtain ⟨y, hy⟩ : ∃ y, atS o i = y := ⟨_, rfl⟩
          have HYS := Lib.hid (show y.size ≤ maxLen by rw [← hy]; exact HSO2.out _ (atS_mem hio))
          obtain ⟨tl, htl⟩ : ∃ t, lessS x y = t := ⟨_, rfl⟩
          have HTL : Hid (lessB (bs x) (bs y) = tl) := Lib.hid htl
          have HT2 := Lib.hid (show lessS x (atS o i) = tl by rw [hy]; exact htl)
          have e0 : wr.cell? ⟨g, i + 1, none⟩ = some (.string x) := by
            rw [World.ownsRow.cellAt HROW.out (i + 1) (by omega), cellsS_at (by rw [mid_len (by omega), HOL.out]; omega), mid_at (by omega)]
          have e1 : wr.cell? ⟨g, i, none⟩ = some (.string y) := by
            rw [World.ownsRow.cellAt HROW.out i (by omega), cellsS_at (by rw [mid_len (by omega), HOL.out]; omega), mid_before hio, hy]
          have HSW := Lib.hid (swap_cells (x := x) hio)
          rw [hy] at HSW
          clear hy htl hio
          have hi0 : 0 ≤ (i : Int) := by omega
          have hi1 : 0 ≤ (i : Int) + 1 := by omega
          have hi2 : ((i : Int) + 1).toNat = i + 1 := by omega
          have hi3 : (i : Int) + 1 < (k : Int) + 1 := by omega
          have hi4 : (i : Int) < (k : Int) + 1 := by omega
          have hi5 : (0 : Int) < (i : Int) + 1 := by omega
          have hi6 : i + 1 < k + 1 := by omega
          have hi7 : i < k + 1 := by omega
          have hi8 : decide ((0 : Int) < (i : Int) + 1) = true := decide_eq_true hi5
          have j1 : IntKind.i64.wrap (((i + 1 : Nat) : Int) - 1) = (i : Int) := by rw [show ((i + 1 : Nat) : Int) - 1 = (i : Int) by omega]; exact IntWalk.i64_in _ (by omega)
          have j2 : IntKind.i64.wrap ((i : Int) + 1 - 1) = (i : Int) := by rw [show (i : Int) + 1 - 1 = (i : Int) by omega]; exact IntWalk.i64_in _ (by omega)
          have c0 : ∀ z : After wr, z.w.cell? ⟨g, i + 1, none⟩ = some (.string x) := fun z => z.o.cell e0
          have c1 : ∀ z : After wr, z.w.cell? ⟨g, i, none⟩ = some (.string y) := fun z => z.o.cell e1
          go_upto_region 7 with (fail)
          refine region_after wr (by kernel_rfl) (by kernel_rfl) ?_
          repeat (first | go_big_quiet_step ((go_at_call 15; with_reducible refine (rless_at x y tl _ HXS.out HYS.out HTL).mono ?_; rintro e wq ⟨rfl, hgq⟩; exact ⟨rfl, ⟨wq, (After.o _).trans hgq⟩, rfl⟩)) | quiet_step ((go_at_call 15; with_reducible refine (rless_at x y tl _ HXS.out HYS.out HTL).mono ?_; rintro e wq ⟨rfl, hgq⟩; exact ⟨rfl, ⟨wq, (After.o _).trans hgq⟩, rfl⟩)))
          refine wpQuiet_nil ?_
          rintro _ ⟨z, rfl⟩
          have d4 := z.o
          generalize z.w = w5 at *
          clear c0 c1
          cases tl
          · go_wp2
            go_roundw
            case rel => exact ⟨k + 1, by go_num, hlt, q.trans d4, LAST.out _ d4 (.inr HT2.out)⟩
            case measure => simp [intOf]; omega
          · have HR5 := Lib.hid (row_own HROW.out d4)
            replace e0 := d4.cell e0
            replace e1 := d4.cell e1
            replace q := q.trans d4
            have z0 := World.ownsRow.frozenAt HR5.out (i + 1)
            have z1 := World.ownsRow.frozenAt HR5.out i
            clear d4 HROW LAST
            have hst := ((HR5.out.stored (i + 1) (.string y)).1.stored i (.string x)).1
            rw [HSW.out] at hst
            have HST := Lib.hid hst
            clear hst
            go_wp2
            refine ⟨⟨i, rfl, by omega, fun t h1 h2 => ?_, (q.setCell hgb _).setCell hgb _, HST.out⟩, by simp [intOf]⟩
            by_cases e : t = i
            · rw [e]; exact HT2.out
            · exact HLE.out t (by omega) h2
    · obtain rfl : n = k := by omega
      have HE := Lib.hid (show l.take n = l by rw [← HN.out]; exact List.take_length)
      rw [HE.out] at HROW
      go_wp2
      go_ret
      exact ⟨_, rfl, HROW.out, q⟩
end Go.Proofs.YtifiljmiehddfaaDoor.NamW
