/-
  Walk of the law IdentSorted. Condition: none.
-/
import Derived.Test.YtifiljmiehddfaaDoorIdentL3
namespace Go.Proofs.YtifiljmiehddfaaDoor.NamW
open Go.ChangeShapes Go.WideShapes Go.ChangeAt Go.RowKit
open PairW NamP StrW
/-- A name of the sorted list stands in the list. -/
theorem sort_find {l : Ss} {i : Nat} (h : i < l.length) : ∃ k : Nat, findI (atS (sortS l) i) l = k ∧ k < l.length ∧ atS l k = atS (sortS l) i := by
  have hm : atS (sortS l) i ∈ l := (sort_perm l).mem_iff.1 (atS_mem (by rw [sort_len]; exact h))
  rcases find_cases (atS (sortS l) i) l with ⟨_, h2⟩ | ⟨k, h1, h2, h3, _⟩
  · exact absurd hm h2
  · exact ⟨k, h1, h2, h3⟩
theorem sort_step {l : Ss} (hv : l.all vldS = true) (hd : l.Nodup) {i : Nat} (h : i + 1 < l.length) : lessS (atS (sortS l) i) (atS (sortS l) (i + 1)) = true := by
  have ha := sort_asc (List.all_eq_true.1 hv) hd
  have h1 : i + 1 < (sortS l).length := by rw [sort_len]; exact h
  have := List.pairwise_iff_getElem.1 ha i (i + 1) (by omega) h1 (by omega)
  rw [atS_get h1, atS_get (show i < (sortS l).length by omega)]
  exact this
theorem row_shape1 {w : World} {base : Nat} {e : TypeId} {A : Option Addr} {n cap : Nat} {xs : List Value} (h : w.ownsRow base e 1 (.slice A n cap) n xs) (h0 : 0 < n) : ∃ g, A = some ⟨g, 0, none⟩ ∧ base ≤ g ∧ g < w.heap.size := by
  obtain ⟨g, cap', h1, h2, h3⟩ := row_form h h0
  injection h1 with h1
  exact ⟨g, h1, h2, h3⟩
set_option maxRecDepth 100000 in
set_option maxHeartbeats 4000000 in
theorem IdentSorted_walk {T : World → (Nat → Prop) → Nat → Ss → Prop} (C : IdentC T) (l : Ss) (sv : Value) (w : World) (HP : Hid (Strs w sv l)) (HS : Hid (Short l)) :
    Calls Tryd.prog 9 #[sv] w fun e w' => e = .returned (.bool true) ∧ Own w w' := by
  obtain ⟨A, cap, rfl, hc1, hcm, hcell⟩ := HP.out
  unfold maxLen at hcm
  obtain ⟨f, hf⟩ : ∃ f, newE l = f := ⟨_, rfl⟩
  have HF := Lib.hid hf
  clear hf
  have HC := Lib.hid hcell
  have HL := Lib.hid (show ∀ n, l.length = n → n ≤ 40 → l.length ≤ 1000 from fun n h1 h2 => by omega)
  have HFI := Lib.hid (fun i (h : i < l.length) => sort_find h)
  have HST := Lib.hid (fun (h : newE l = 0) i (hi : i + 1 < l.length) => sort_step (new_zero h).1 (new_zero h).2.1 hi)
  have HSS := Lib.hid (fun i (h : i < l.length) => show (atS (sortS l) i).size ≤ maxLen from HS.out _ ((sort_perm l).mem_iff.1 (atS_mem (by rw [sort_len]; exact h))))
  have HCA := Lib.hid (fun i (h : i < l.length) => cellsS_at (l := sortS l) (i := i) (by rw [sort_len]; exact h))
  obtain ⟨n, hn⟩ : ∃ n, l.length = n := ⟨_, rfl⟩
  have HN := Lib.hid hn
  rw [hn] at HP HC HFI HST HSS HCA
  rw [hn]
  clear hn hcell
  by_cases c : 40 < n
  · have c1 : (40 : Int) < n := by omega
    go_enter Tryd.func9, Tryd.ntmps9
    go_wp2_with (go_at_call 13; refine (awake_any C _).mono ?_; rintro e w3 ⟨rfl, hg⟩)
    go_ret
    exact ⟨rfl, hg⟩
  · have c1 : ¬ (40 : Int) < n := by omega
    have hn40 : n ≤ 40 := by omega
    by_cases d : f = 0
    · subst d
      replace HST := Lib.hid (HST.out HF.out)
      go_enter Tryd.func9, Tryd.ntmps9
      go_upto_region 8 with (go_at_call 16; refine (C.new l _ 0 _ HP HS (HL.out n HN.out hn40) HF).mono ?_; rintro e w1 hq; obtain ⟨tg, F, rfl, g, hT, _⟩ := hq.ok; clear hq)
      have HT := Lib.hid hT
      clear hT HP HS HL HF
      go_upto_region 9 with (go_at_call 26; refine (C.sorted l tg n F _ HT HN.out (by omega)).mono ?_; rintro e w2 ⟨B, cb, rfl, hrow, hg⟩)
      have HROW := Lib.hid hrow
      have HT2 := Lib.hid (C.own HT.out hg)
      have HDI := Lib.hid (show ∀ j, F j → ¬ (w1.heap.size ≤ j ∧ j < w2.heap.size) from fun j h1 h2 => by have := C.lt HT.out h1; omega)
      have HW1 := Lib.hid g.size
      replace g := g.trans hg
      clear hrow hg HT
      go_wp2
      go_loopw [6] (fun v wr => ∃ i : Nat, v = .int .i64 i ∧ i ≤ n ∧ Own w2 wr) (fun v _ => n - (intOf v).toNat)
      case atStart => exact ⟨0, rfl, Nat.zero_le _, Own.refl w2⟩
      case round =>
        obtain ⟨i, rfl, hi, q⟩ := hrel
        by_cases hlt : i < n
        · have hin : (i : Int) < n := by omega
          obtain ⟨rg, rfl, hr1, hr2⟩ := row_shape1 HROW.out (by omega)
          obtain ⟨b, off, rfl, hc⟩ := HC.out (by omega)
          have e0 : wr.cell? ⟨rg, i, none⟩ = some (.string (atS (sortS l) i)) := q.cell ((World.ownsRow.cellAt HROW.out i (by omega)).trans (HCA.out i hlt))
          obtain ⟨k, hk1, hk2, hk3⟩ := HFI.out i hlt
          have hck := q.cell (g.cell (hc k hk2))
          have hys := HSS.out i hlt
          rw [hk3] at hck
          have hprev : 0 < i → ∃ z : ByteArray, wr.cell? ⟨rg, i - 1, none⟩ = some (.string z) ∧ z.size ≤ maxLen ∧ lessS z (atS (sortS l) i) = true := fun h0 => by
            have h1 : i - 1 < n := by omega
            refine ⟨atS (sortS l) (i - 1), q.cell ((World.ownsRow.cellAt HROW.out (i - 1) (by omega)).trans (HCA.out (i - 1) h1)), HSS.out (i - 1) h1, ?_⟩
            have := HST.out (i - 1) (by omega)
            rw [show i - 1 + 1 = i by omega] at this
            exact this
          have HPR := Lib.hid hprev
          obtain ⟨y, hy⟩ : ∃ y, atS (sortS l) i = y := ⟨_, rfl⟩
          rw [hy] at e0 hk1 hck hys HPR
          have HYS := Lib.hid hys
          have HIX := Lib.hid (show idxV l y = k ∧ decide (0 ≤ findI y l) = true from ⟨by unfold idxV; rw [hk1, if_neg (by omega)], by rw [hk1]; exact decide_eq_true (by omega)⟩)
          have HE0 := Lib.hid e0
          have HCK := Lib.hid hck
          have hkn : (k : Int) < n := by omega
          have hk0 : ¬ (k : Int) < 0 := by omega
          have hkn2 : ¬ (n : Int) ≤ k := by omega
          clear hc hk1 hk3 hck hys hprev hy
          go_upto_region 15 with (go_at_call 18; refine (C.index l y tg F k true _ HYS.out (Lib.hid (C.own HT2.out q)) HIX).mono ?_; rintro e w4 ⟨rfl, hg4⟩)
          have e1 := hg4.cell HE0.out
          have e2 := hg4.cell HCK.out
          have hyy : (y.toList == y.toList) = true := str_eq rfl
          clear e0
          rcases Nat.eq_zero_or_pos i with h0 | h0
          · subst h0
            have c2 : ∀ z : After w4, z.w.cell? ⟨rg, 0, none⟩ = some (.string y) := fun z => z.o.cell e1
            have c3 : ∀ z : After w4, z.w.cell? ⟨b, off + k, none⟩ = some (.string y) := fun z => z.o.cell e2
            refine region_after w4 (by kernel_rfl) (by kernel_rfl) ?_
            repeat (first | go_big_quiet_step (fail) | quiet_step (fail))
            refine wpQuiet_nil ?_
            rintro _ ⟨z, rfl⟩
            have d4 := z.o
            generalize z.w = w5 at *
            clear c2 c3 hyy
            go_wp2
            go_roundw
            case rel => exact ⟨1, by go_num, hlt, (q.trans hg4).trans d4⟩
            case measure => simp [intOf]; omega
          · obtain ⟨x, hx1, hx2, hx3⟩ := HPR.out h0
            have e3 := hg4.cell hx1
            have HXS := Lib.hid hx2
            have HLT : Hid (lessB (bs x) (bs y) = true) := Lib.hid hx3
            clear hx1 hx2 hx3
            obtain ⟨j, rfl⟩ : ∃ j, i = j + 1 := ⟨i - 1, by omega⟩
            rw [Nat.add_sub_cancel] at e3
            have j0 : 0 ≤ (j : Int) := by omega
            have j1 : 0 ≤ (j : Int) + 1 := by omega
            have j2 : ((j : Int) + 1).toNat = j + 1 := by omega
            have j3 : (j : Int) + 1 < n := by omega
            have j4 : (j : Int) < n := by omega
            have j5 : (0 : Int) < (j : Int) + 1 := by omega
            have j6 : decide ((0 : Int) < (j : Int) + 1) = true := decide_eq_true j5
            have j7 : IntKind.i64.wrap (((j + 1 : Nat) : Int) - 1) = (j : Int) := by rw [show ((j + 1 : Nat) : Int) - 1 = (j : Int) by omega]; exact IntWalk.i64_in _ (by omega)
            have j8 : IntKind.i64.wrap ((j : Int) + 1 - 1) = (j : Int) := by rw [show (j : Int) + 1 - 1 = (j : Int) by omega]; exact IntWalk.i64_in _ (by omega)
            have c2 : ∀ z : After w4, z.w.cell? ⟨rg, j + 1, none⟩ = some (.string y) := fun z => z.o.cell e1
            have c3 : ∀ z : After w4, z.w.cell? ⟨b, off + k, none⟩ = some (.string y) := fun z => z.o.cell e2
            have c4 : ∀ z : After w4, z.w.cell? ⟨rg, j, none⟩ = some (.string x) := fun z => z.o.cell e3
            refine region_after w4 (by kernel_rfl) (by kernel_rfl) ?_
            repeat (first | go_big_quiet_step ((go_at_call 14; with_reducible refine (C.less x y true _ HXS.out HYS.out HLT).mono ?_; rintro e wq ⟨rfl, hgq⟩; exact ⟨rfl, ⟨wq, (After.o _).trans hgq⟩, rfl⟩)) | quiet_step ((go_at_call 14; with_reducible refine (C.less x y true _ HXS.out HYS.out HLT).mono ?_; rintro e wq ⟨rfl, hgq⟩; exact ⟨rfl, ⟨wq, (After.o _).trans hgq⟩, rfl⟩)))
            refine wpQuiet_nil ?_
            rintro _ ⟨z, rfl⟩
            have d4 := z.o
            generalize z.w = w5 at *
            clear c2 c3 c4 hyy
            go_wp2
            go_roundw
            case rel => exact ⟨j + 1 + 1, by go_num, hlt, (q.trans hg4).trans d4⟩
            case measure => simp [intOf]; omega
        · obtain rfl : n = i := by omega
          have HROW3 := Lib.hid (row_own HROW.out q)
          have HT3 := Lib.hid (C.own HT2.out q)
          have HW2 := Lib.hid q.size
          have g3 : Own w wr := g.trans q
          have HRS := Lib.hid (fun h0 => row_shape1 HROW.out h0)
          clear HROW HT2 hlt hi q g
          generalize wr = w3 at *
          go_wp2
          go_loopw [9] (fun v wr => ∃ (i : Nat) (ys : List Value), v = .int .i64 i ∧ i ≤ n ∧ Chg (fun j => w1.heap.size ≤ j ∧ j < w2.heap.size) w3 wr ∧ wr.ownsRow w1.heap.size 9 1 (.slice B n cb) n ys) (fun v _ => n - (intOf v).toNat)
          case atStart => exact ⟨0, _, rfl, Nat.zero_le _, Chg.refl _ _, HROW3.out⟩
          case round =>
            obtain ⟨i, ys, rfl, hi, q, hrow⟩ := hrel
            have HROW := Lib.hid hrow
            clear hrow
            by_cases hlt : i < n
            · obtain ⟨rg, rfl, hr1, hr2⟩ := HRS.out (by omega)
              have hin : (i : Int) < n := by omega
              have hl := HROW.out.1
              have e0 : wr.cell? ⟨rg, i, none⟩ = some ys[i] := by rw [World.ownsRow.cellAt HROW.out i (by omega), List.getElem?_eq_getElem]
              have z0 := World.ownsRow.frozenAt HROW.out i
              generalize ys[i] = u0 at e0
              have HST := Lib.hid ((HROW.out.stored i (.string ⟨#[120]⟩)).1)
              have HQ := Lib.hid (q.setCell (p := ⟨rg, i, none⟩) ⟨hr1, hr2⟩ (.string ⟨#[120]⟩))
              clear hl
              go_wp2
              go_roundw
              case rel => exact ⟨i + 1, _, by go_num, hlt, HQ.out, HST.out⟩
              case measure => simp [intOf]; omega
            · obtain rfl : n = i := by omega
              have HT4 := Lib.hid (C.chg HT3.out q HDI.out)
              have g4 := q.own g3 (fun j hj => Nat.le_trans HW1.out hj.1)
              clear HROW q hlt hi HROW3 HT3 g3
              generalize wr = w4 at *
              go_upto_region 22 with (go_at_call 26; refine (C.sorted l tg n F _ HT4 HN.out (by omega)).mono ?_; rintro e w5 ⟨D, cd, rfl, hrow, hg⟩)
              have HROW5 := Lib.hid hrow
              have HT5 := Lib.hid (C.own HT4.out hg)
              replace g4 := g4.trans hg
              clear hrow hg HT4
              go_wp2
              go_loopw [11] (fun v wr => ∃ i : Nat, v = .int .i64 i ∧ i ≤ n ∧ Own w5 wr) (fun v _ => n - (intOf v).toNat)
              case atStart => exact ⟨0, rfl, Nat.zero_le _, Own.refl w5⟩
              case round =>
                obtain ⟨i, rfl, hi, q⟩ := hrel
                by_cases hlt : i < n
                · have hin : (i : Int) < n := by omega
                  obtain ⟨rd, rfl, hr1, hr2⟩ := row_shape1 HROW5.out (by omega)
                  have e0 : wr.cell? ⟨rd, i, none⟩ = some (.string (atS (sortS l) i)) := q.cell ((World.ownsRow.cellAt HROW5.out i (by omega)).trans (HCA.out i hlt))
                  obtain ⟨k, hk1, hk2, hk3⟩ := HFI.out i hlt
                  have hys := HSS.out i hlt
                  obtain ⟨y, hy⟩ : ∃ y, atS (sortS l) i = y := ⟨_, rfl⟩
                  rw [hy] at e0 hk1 hys
                  have HYS := Lib.hid hys
                  have HIX := Lib.hid (show idxV l y = k ∧ decide (0 ≤ findI y l) = true from ⟨by unfold idxV; rw [hk1, if_neg (by omega)], by rw [hk1]; exact decide_eq_true (by omega)⟩)
                  clear hk1 hk3 hys hy
                  go_wp2_with (go_at_call 18; refine (C.index l y tg F k true _ HYS.out (Lib.hid (C.own HT5.out q)) HIX).mono ?_; rintro e w6 ⟨rfl, hg6⟩)
                  go_roundw
                  case rel => exact ⟨i + 1, by go_num, hlt, q.trans hg6⟩
                  case measure => simp [intOf]; omega
                · obtain rfl : n = i := by omega
                  go_wp2_with (go_at_call 13; refine (awake_any C _).mono ?_; rintro e w7 ⟨rfl, hg⟩)
                  go_ret
                  exact ⟨rfl, (g4.trans q).trans hg⟩
    · have HD := Lib.hid d
      clear d
      go_enter Tryd.func9, Tryd.ntmps9
      have hne : (f != 0) = true := bne_iff_ne.2 HD.out
      go_wp2_with (first
        | (go_at_call 16; refine (C.new l _ f _ HP HS (HL.out n HN.out hn40) HF).mono ?_; rintro e w1 hq; obtain ⟨rfl, g⟩ := hq.no HD.out; clear hq)
        | (go_at_call 13; refine (awake_any C _).mono ?_; rintro e w7 ⟨rfl, hg⟩))
      go_ret
      exact ⟨rfl, g.trans hg⟩
end Go.Proofs.YtifiljmiehddfaaDoor.NamW
