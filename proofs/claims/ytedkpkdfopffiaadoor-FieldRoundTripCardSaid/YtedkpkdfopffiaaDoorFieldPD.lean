/-
  Walk of the program of package field: Lines. Condition: none.
-/
import Derived.Test.YtedkpkdfopffiaaDoorFieldPC
import Derived.Test.YtedkpkdfopffiaaDoorFieldU
namespace Go.Proofs.YtedkpkdfopffiaaDoor.NamW
open Go.ChangeShapes Go.WideShapes Go.ChangeAt Go.RowKit
open PairW NamP StrW FldP CelW
open Go.Lib (index index_ge)
theorem idx_none : ∀ {s : Bs}, index s [10] = -1 → ∀ c ∈ s, c ≠ 10
  | [], _, c, hc => by cases hc
  | b :: l, h, c, hc => by
    rw [index] at h
    by_cases k : ([10] : Bs).isPrefixOf (b :: l) = true
    · rw [if_pos k] at h; cases h
    · rw [if_neg k] at h
      have hb : b ≠ 10 := fun e => k (by rw [e]; simp [List.isPrefixOf])
      have hge := index_ge l [10]
      by_cases m : index l [10] = -1
      · rcases List.mem_cons.1 hc with rfl | hc
        · exact hb
        · exact idx_none m c hc
      · rw [if_neg (fun e => m (beq_iff_eq.1 e))] at h
        omega
theorem seg_cut : ∀ {s : Bs} {acc : Bs} {j : Nat}, index s [10] = (j : Nat) → segs acc s = (acc.reverse ++ s.take j) :: segs [] (s.drop (j + 1)) ∧ j < s.length
  | [], _, j, h => by rw [index] at h; simp at h
  | b :: l, acc, j, h => by
    rw [index] at h
    by_cases k : ([10] : Bs).isPrefixOf (b :: l) = true
    · rw [if_pos k] at h
      obtain rfl : j = 0 := by omega
      have hb : b = 10 := by
        simp [List.isPrefixOf] at k
        exact k.symm
      refine ⟨?_, by simp⟩
      show (if b = 10 then acc.reverse :: segs [] l else segs (b :: acc) l) = _
      rw [if_pos hb]
      simp
    · rw [if_neg k] at h
      have hb : b ≠ 10 := fun e => k (by rw [e]; simp [List.isPrefixOf])
      have hge := index_ge l [10]
      by_cases m : index l [10] = -1
      · rw [if_pos (beq_iff_eq.2 m)] at h; omega
      · rw [if_neg (fun e => m (beq_iff_eq.1 e))] at h
        obtain ⟨i, rfl⟩ : ∃ i, j = i + 1 := ⟨j - 1, by omega⟩
        obtain ⟨h1, h2⟩ := seg_cut (acc := b :: acc) (j := i) (show index l [10] = (i : Nat) by omega)
        refine ⟨?_, by simp; omega⟩
        show (if b = 10 then acc.reverse :: segs [] l else segs (b :: acc) l) = _
        rw [if_neg hb, h1]
        simp
theorem idx_some {s : Bs} (h : s.getLast? = some 10) : ∃ j : Nat, index s [10] = j := by
  have hge := index_ge s [10]
  by_cases m : index s [10] = -1
  · exact absurd rfl (idx_none m 10 (List.mem_of_getLast? h))
  · exact ⟨(index s [10]).toNat, by omega⟩
/-- The first line of a text that ends with a line feed, and the rest. -/
theorem lines_cut {s : Bs} (h : s.getLast? = some 10) : ∃ j : Nat, index s [10] = j ∧ j < s.length ∧ linesOf s = (if passed (s.take j) = true then linesOf (s.drop (j + 1)) else s.take j :: linesOf (s.drop (j + 1))) ∧
    (s.drop (j + 1) = [] ∨ (s.drop (j + 1)).getLast? = some 10) := by
  obtain ⟨j, hj⟩ := idx_some h
  obtain ⟨h1, h2⟩ := seg_cut (acc := []) hj
  refine ⟨j, hj, h2, ?_, ?_⟩
  · unfold linesOf
    rw [h1, List.reverse_nil, List.nil_append, List.filter_cons]
    cases passed (s.take j) <;> rfl
  · by_cases k : s.length ≤ j + 1
    · exact .inl (List.drop_eq_nil_of_le k)
    · refine .inr ?_
      rw [List.getLast?_drop, if_neg k]
      exact h
theorem cutl_at (s : ByteArray) (w : World) (M : Hid (Mx w)) (hs : s.size ≤ 100000) (h : (bs s).getLast? = some 10) :
    Calls Tryd.prog 32 #[.string s, .string ⟨#[10]⟩] w fun e w' => ∃ x z, e = .returned (.tuple #[.string x, .string z, .bool true]) ∧ x.size + z.size + 1 = s.size ∧
      linesOf (bs s) = (if passed (bs x) = true then linesOf (bs z) else bs x :: linesOf (bs z)) ∧ (bs z = [] ∨ (bs z).getLast? = some 10) ∧ Own w w' := by
  obtain ⟨m, hm⟩ := M.out
  obtain ⟨j, hj, hl, h1, h2⟩ := lines_cut h
  refine (Any.strings_Cut Tryd.lays145 s ⟨#[10]⟩ m w (by omega) hm).mono ?_
  rintro e w' ⟨rfl, n, rfl⟩
  have hc : Lib.cut (bs s) [10] = ((bs s).take j, (bs s).drop (j + 1), true) := by
    unfold Lib.cut
    rw [hj, if_pos (by omega), Int.toNat_natCast]
    rfl
  have hc' : Lib.cut s.data.toList (⟨#[10]⟩ : ByteArray).data.toList = ((bs s).take j, (bs s).drop (j + 1), true) := hc
  refine ⟨⟨((bs s).take j).toArray⟩, ⟨((bs s).drop (j + 1)).toArray⟩, by rw [hc'], ?_, h1, h2, (Own.refl w).drewN n⟩
  rw [size_list, size_list, List.length_take, List.length_drop]
  rw [bs_len] at hl ⊢
  omega
/-- What Lines has done: D the lines behind it. -/
def DoneC (T rest : Bs) (L : List Ss) : Prop := ∃ D : List Bs, linesOf T = D ++ linesOf rest ∧ firstE D = 0 ∧ L.map fl = D.map splitV
theorem DoneC.start (T : Bs) : DoneC T T [] := ⟨[], rfl, rfl, rfl⟩
theorem DoneC.pass {T r x z : Bs} {L : List Ss} (h : DoneC T r L) (hc : linesOf r = if passed x = true then linesOf z else x :: linesOf z) (hp : passed x = true) : DoneC T z L := by
  obtain ⟨D, h1, h2, h3⟩ := h
  rw [if_pos hp] at hc
  exact ⟨D, by rw [h1, hc], h2, h3⟩
theorem DoneC.take {T r x z : Bs} {L : List Ss} {l : Ss} (h : DoneC T r L) (hc : linesOf r = if passed x = true then linesOf z else x :: linesOf z) (hp : passed x = false) (he : splitE x = 0) (hl : fl l = splitV x) : DoneC T z (L ++ [l]) := by
  obtain ⟨D, h1, h2, h3⟩ := h
  rw [if_neg (by rw [hp]; decide)] at hc
  refine ⟨D ++ [x], by rw [h1, hc]; simp, by rw [first_snoc h2]; exact he, ?_⟩
  rw [List.map_append, List.map_append, h3]
  show _ ++ [fl l] = _ ++ [splitV x]
  rw [hl]
theorem DoneC.bad {T r x z : Bs} {L : List Ss} (h : DoneC T r L) (ht : ¬ (T ≠ [] ∧ T.getLast? ≠ some 10)) (hc : linesOf r = if passed x = true then linesOf z else x :: linesOf z) (hp : passed x = false) (he : splitE x ≠ 0) : linesE T = splitE x ∧ linesV T = [] := by
  obtain ⟨D, h1, h2, h3⟩ := h
  rw [if_neg (by rw [hp]; decide)] at hc
  have hE : linesE T = splitE x := by
    unfold linesE
    rw [if_neg ht, h1, hc, first_append, if_neg (by rw [h2]; decide)]
    show (if splitE x ≠ 0 then splitE x else _) = _
    rw [if_pos he]
  exact ⟨hE, by unfold linesV; rw [if_neg (by rw [hE]; exact he)]⟩
theorem DoneC.stop {T : Bs} {L : List Ss} (h : DoneC T [] L) (ht : ¬ (T ≠ [] ∧ T.getLast? ≠ some 10)) : linesE T = 0 ∧ linesV T = L.map fl := by
  obtain ⟨D, h1, h2, h3⟩ := h
  have hD : linesOf T = D := by rw [h1]; exact List.append_nil D
  have hE : linesE T = 0 := by unfold linesE; rw [if_neg ht, hD]; exact h2
  exact ⟨hE, by unfold linesV; rw [if_pos hE, hD, h3]⟩
set_option maxRecDepth 100000 in
set_option maxHeartbeats 4000000 in
theorem plines_at (s : ByteArray) (f : Int) (w : World) (hs : s.size ≤ 100000) (H : Hid (linesE (bs s) = f)) (M : Hid (Mx w)) :
    Calls Tryd.prog 17 #[.string s] w fun e w' => ∃ L v, e = .returned (.tuple #[v, .int .i64 f]) ∧ Lns w' v L ∧ L.map fl = linesV (bs s) ∧ Own w w' := by
  obtain ⟨i0, hi, hz0, hz1, hz2⟩ := info_parts (show (Tryd.prog.info? 22).map (fun i => (i.zero, i.size, i.bytes)) = some (some (.slice none 0 0), 1, 24) by kernel_rfl)
  have HI := Lib.hid hi
  have HZ0 := Lib.hid hz0
  have HZ1 := Lib.hid hz1
  have HZ2 := Lib.hid hz2
  clear hi hz0 hz1 hz2
  have HNIL : Hid (∀ w' : World, Own w w' → linesV (bs s) = [] → ∃ L v, (.returned (.tuple #[.slice none 0 0, .int .i64 f]) : Ending) = .returned (.tuple #[v, .int .i64 f]) ∧ Lns w' v L ∧ L.map fl = linesV (bs s) ∧ Own w w') :=
    Lib.hid fun w' hg hv => ⟨[], _, rfl, ⟨none, 0, rfl, Nat.le_refl _, Nat.zero_le _, fun h => absurd h (by simp)⟩, hv.symm, hg⟩
  have HSZ := Lib.hid hs
  by_cases h0 : 0 < s.size
  · have hne := nonempty_at h0
    obtain ⟨t, ht⟩ : ∃ t, decide ((bs s).getLast? = some 10) = t := ⟨_, rfl⟩
    have HL := Lib.hid ht
    cases t
    · have hl := of_decide_eq_false ht
      have hf := lines_form (T := bs s) ⟨fun e => by have := bs_len s; rw [e, List.length_nil] at this; omega, hl⟩
      obtain rfl : 2 = f := by rw [← H.out, hf.1]
      have HV := Lib.hid hf.2
      clear hl hf ht h0
      go_enter Tryd.func17, Tryd.ntmps17
      go_wp2_with (go_at_call 31; with_reducible refine (suf_at s 10 _ _ HSZ.out HL).mono ?_; rintro e w1 ⟨rfl, rfl⟩)
      go_ret2
      exact HNIL.out _ (Own.refl _) HV.out
    · have hl := of_decide_eq_true ht
      have HT := Lib.hid (fun (e : bs s ≠ [] ∧ (bs s).getLast? ≠ some 10) => e.2 hl)
      have HLL := Lib.hid hl
      clear ht hl h0
      go_enter Tryd.func17, Tryd.ntmps17
      go_upto_region 4 with (go_at_call 31; with_reducible refine (suf_at s 10 _ _ HSZ.out HL).mono ?_; rintro e w1 ⟨rfl, rfl⟩)
      clear hne
      go_wp2
      go_loopw [4, 5] (fun v r wr => ∃ (rest : ByteArray) (L : List Ss) (xs : List Value), r = .string rest ∧ L.length + rest.size ≤ s.size ∧ (bs rest = [] ∨ (bs rest).getLast? = some 10) ∧ Own w wr ∧ wr.ownsRow w.heap.size 22 1 v L.length xs ∧ RowsL wr xs L ∧ DoneC (bs s) (bs rest) L ∧ ∀ sv ∈ xs, ∀ b, sv.ownBlock = some b → b < wr.heap.size ∧ v.ownBlock ≠ some b) (fun _ r _ => match r with | .string q => q.size | _ => 0)
      case atStart => exact ⟨s, [], [], rfl, by simp, .inr HLL.out, Own.refl w, World.ownsRow_nil w _ _ _, RowsL.nil w, DoneC.start _, fun sv hs => (by cases hs)⟩
      case round =>
        obtain ⟨rest, L, xs, rfl, hll, hend, q, hrow, hrl, hdone, hdj⟩ := hrel
        have HDJ := Lib.hid hdj
        have HROW := Lib.hid hrow
        have HRL := Lib.hid hrl
        have HLN := Lib.hid hll
        have HDN := Lib.hid hdone
        have HRZ := Lib.hid (show rest.size ≤ 100000 by omega)
        have HM := mxo M q
        clear hrow hrl hll hdj hdone
        by_cases hlt : 0 < rest.size
        · have hre := nonempty_at hlt
          have HEND := Lib.hid (show (bs rest).getLast? = some 10 from hend.elim (fun e => by have := bs_len rest; rw [e, List.length_nil] at this; omega) id)
          clear hend hlt
          go_upto_region 8 with (go_at_call 32; with_reducible refine (cutl_at rest _ HM HRZ.out HEND.out).mono ?_; rintro e w0 ⟨ln, z, rfl, hsz0, hcut, hend2, hg0⟩)
          clear hre
          have HC := Lib.hid hcut
          have HE2 := Lib.hid hend2
          have HSZ0 := Lib.hid hsz0
          have HLS := Lib.hid (show ln.size ≤ 100000 by have := HRZ.out; omega)
          have q0 := q.trans hg0
          have HROW0 := Lib.hid (row_own HROW.out hg0)
          have HRL0 := Lib.hid (HRL.out.own hg0)
          have HM0 := mxo M q0
          have hs0 := hg0.size
          clear hcut hend2 hsz0
          by_cases hz : 0 < ln.size
          · have hze := nonempty_at hz
            have hzi : (0 : Int) < ln.size := by omega
            have hzp := passed_at hz
            by_cases p : ln[0].toNat = 37
            · have p1 : ((ln[0].toNat : Int) == 37) = true := beq_iff_eq.2 (by omega)
              have HD := Lib.hid (HDN.out.pass HC.out (by rw [hzp, decide_eq_true p]))
              have HDJ0 := Lib.hid (fun sv hs b hb => show b < w0.heap.size ∧ u4.ownBlock ≠ some b from ⟨Nat.lt_of_lt_of_le (HDJ.out sv hs b hb).1 hs0, (HDJ.out sv hs b hb).2⟩)
              clear hzp p
              go_wp2
              refine ⟨⟨z, L, xs, rfl, by have := HLN.out; have := HSZ0.out; omega, HE2.out, q0, HROW0.out, HRL0.out, HD.out, HDJ0.out⟩, ?_⟩
              show z.size < rest.size
              have := HSZ0.out
              omega
            · have p1 : ((ln[0].toNat : Int) == 37) = false := beq_eq_false_iff_ne.2 (by omega)
              have HNP := Lib.hid (show passed (bs ln) = false by rw [hzp, decide_eq_false p])
              obtain ⟨g, hg⟩ : ∃ g, splitE (bs ln) = g := ⟨_, rfl⟩
              have HG := Lib.hid hg
              clear hzp p hg
              by_cases g0 : g = 0
              · subst g0
                go_upto_region 12 with (go_at_call 14; with_reducible refine (psplit_row ln 0 _ HLS.out HG HM0).mono ?_; rintro e w1 ⟨l, lA, lc, rfl, hrl, hfl, hg1⟩)
                have HD := Lib.hid (HDN.out.take (l := l) HC.out HNP.out HG.out hfl)
                have HSL := Lib.hid (strs_of_row hrl)
                have q1 : Own w (w1.alloc (.cells #[.slice lA l.length lc] 22)) := (q0.trans hg1).alloc _
                have HROW1 := Lib.hid ((row_own HROW0.out hg1).alloc (.cells #[.slice lA l.length lc] 22))
                have HRL1 := Lib.hid ((HRL0.out.own hg1).own ((Own.refl w1).alloc (.cells #[.slice lA l.length lc] 22)))
                have HSL1 := Lib.hid (HSL.out.own ((Own.refl w1).alloc (.cells #[.slice lA l.length lc] 22)))
                have HLB := Lib.hid (fun b (h : (Value.slice lA l.length lc).ownBlock = some b) => hrl.lt b h)
                have HOB := Lib.hid (fun b (h : u4.ownBlock = some b) => HROW.out.lt b h)
                have hw1 := hg1.size
                have hsz : (w1.alloc (.cells #[.slice lA l.length lc] 22)).heap.size = w1.heap.size + 1 := by first | go_simp | simp
                have hLs : L.length ≤ 100000 := by have := HLN.out; have := HSZ.out; omega
                have HLN2 := Lib.hid (show L.length + 1 + z.size ≤ s.size by have := HLN.out; have := HSZ0.out; omega)
                have HZR := Lib.hid (show z.size < rest.size by have := HSZ0.out; omega)
                clear HROW HRL hrl HSL HROW0 HRL0 q q0
                go_wp2_with (at_builtin; refine wpList_append_lies _ rfl _ _ 34 rfl w.heap.size 22 i0 _ 1 24 Tryd.underlying34 HI.out HZ0.out HZ1.out HZ2.out rfl (by omega) _ _ _ rfl HROW1.out ⟨w1.heap.size, 0, none⟩ 1 1 [.slice lA l.length lc] rfl rfl (World.news_of_block (cs := #[.slice lA l.length lc]) (t := 22) (fr := (0, 0)) (heap_alloc_new w1 _)) (by simp [Value.oneCell']) (by omega) (by unfold maxLen; omega) (by omega) q1.size _ rfl ?_)
                intro gg cap4 w4 hown hgr hat hlt4
                have hO : Own w w4 := q1.grown hgr (fun j hj => (HROW1.out.lt j hj).1)
                have hne1 : ∀ sv ∈ xs, ∀ b, sv.ownBlock = some b → u4.ownBlock ≠ some b := fun sv hs b hb => (HDJ.out sv hs b hb).2
                have hne2 : ∀ b, (Value.slice lA l.length lc).ownBlock = some b → u4.ownBlock ≠ some b := fun b hb e => by
                  have := (HLB.out b hb).1
                  have := (HOB.out b e).2
                  omega
                have HRL4 := Lib.hid ((HRL1.out.grown hgr hne1).snoc (strs_grown HSL1.out hgr hne2))
                have HDJ4 : Hid (∀ sv ∈ xs ++ [.slice lA l.length lc], ∀ b, sv.ownBlock = some b → b < w4.heap.size ∧ (Value.slice (some ⟨gg, 0, none⟩) (L.length + 1) cap4).ownBlock ≠ some b) := Lib.hid fun sv hs b hb => by
                  have h4 := hgr.size
                  rcases List.mem_append.1 hs with k | k
                  · obtain ⟨h1, h2⟩ := HDJ.out sv k b hb
                    refine ⟨by omega, fun e => ?_⟩
                    injection e with e
                    have e : gg = b := e
                    rcases hat with k | k
                    · exact h2 (by rw [k, e])
                    · omega
                  · obtain rfl := List.mem_singleton.1 k
                    have h1 := HLB.out b hb
                    refine ⟨by omega, fun e => ?_⟩
                    injection e with e
                    have e : gg = b := e
                    rcases hat with k | k
                    · exact hne2 b hb (by rw [k, e])
                    · omega
                have HROW4 := Lib.hid hown
                have HLEN := Lib.hid (show (L ++ [l]).length = L.length + 1 by rw [List.length_append]; rfl)
                clear hown hgr hat HROW1 HRL1 HSL1 HLB HOB hw1 hsz hne1 hne2 HDJ
                go_wp2
                refine ⟨⟨z, L ++ [l], xs ++ [.slice lA l.length lc], rfl, by rw [HLEN.out]; exact HLN2.out, HE2.out, hO, by rw [HLEN.out]; exact HROW4.out, HRL4.out, HD.out, HDJ4.out⟩, ?_⟩
                show z.size < rest.size
                exact HZR.out
              · have hb := HDN.out.bad HT.out HC.out HNP.out (by rw [HG.out]; exact g0)
                obtain rfl : g = f := by rw [← HG.out, ← hb.1, H.out]
                have HV := Lib.hid hb.2
                have gb : (g != 0) = true := bne_iff_ne.2 g0
                clear hb
                go_wp2_with (go_at_call 14; with_reducible refine (psplit_row ln g _ HLS.out HG HM0).mono ?_; rintro e w1 ⟨l, lA, lc, rfl, hrl, hfl, hg1⟩)
                go_ret2
                exact HNIL.out _ (q0.trans hg1) HV.out
          · have hze := empty_at hz
            have HD := Lib.hid (HDN.out.pass HC.out (passed_none hz))
            have HDJ0 := Lib.hid (fun sv hs b hb => show b < w0.heap.size ∧ u4.ownBlock ≠ some b from ⟨Nat.lt_of_lt_of_le (HDJ.out sv hs b hb).1 hs0, (HDJ.out sv hs b hb).2⟩)
            go_wp2
            refine ⟨⟨z, L, xs, rfl, by have := HLN.out; have := HSZ0.out; omega, HE2.out, q0, HROW0.out, HRL0.out, HD.out, HDJ0.out⟩, ?_⟩
            show z.size < rest.size
            have := HSZ0.out
            omega
        · have hre := empty_at hlt
          have hr0 : bs rest = [] := List.eq_nil_of_length_eq_zero (by rw [bs_len]; omega)
          have hstop := DoneC.stop (by have := HDN.out; rwa [hr0] at this) HT.out
          obtain rfl : 0 = f := by rw [← H.out, hstop.1]
          have HV := Lib.hid hstop.2
          clear hstop hr0 hend hlt
          go_wp2
          go_ret2
          exact ⟨L, _, rfl, (lns_of_row HROW.out HRL.out).1, HV.out.symm, q⟩
  · have hne := empty_at h0
    have hb0 : bs s = [] := List.eq_nil_of_length_eq_zero (by rw [bs_len]; omega)
    have hE : linesE (bs s) = 0 := by rw [hb0]; rfl
    obtain rfl : 0 = f := by rw [← H.out, hE]
    have HV := Lib.hid (show linesV (bs s) = [] by rw [hb0]; rfl)
    clear hE hb0 h0
    go_enter Tryd.func17, Tryd.ntmps17
    go_wp2
    go_loopw [4, 5] (fun v r wr => v = .slice none 0 0 ∧ r = .string s ∧ Own w wr) (fun _ _ _ => 0)
    case atStart => exact ⟨rfl, rfl, Own.refl w⟩
    case round =>
      obtain ⟨rfl, rfl, q⟩ := hrel
      go_wp2
      go_ret2
      exact HNIL.out _ q HV.out
end Go.Proofs.YtedkpkdfopffiaaDoor.NamW
