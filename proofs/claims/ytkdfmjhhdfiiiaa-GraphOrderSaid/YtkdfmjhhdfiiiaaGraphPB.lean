/-
  Walks of the comparison of arcs that the program of package graph hands over, of slices.Clone at arcs, and of the library's sort of them. Condition: none.
-/
import Derived.Test.YtkdfmjhhdfiiiaaGraphE
import Derived.Test.YtkdfmjhhdfiiiaaGraphPlainE
import Derived.Test.YtkdfmjhhdfiiiaaGraphShelf
import Derived.Test.YtkdfmjhhdfiiiaaSortRows
import Derived.Shelf.SlSortCmp.NoneTotal
import Derived.Sort.Grow
import Derived.LoopN
import Derived.Lib.SliceRun
namespace Go.Proofs.Ytkdfmjhhdfiiiaa.GraW
open Go.ChangeShapes Go.WideShapes Go.ChangeAt Go.RowKit
open PairW CelW GraP
open Go.Sort (SWO PermIn SortedIn)
/-- The world w' is w, with answers drawn from the tape and memory laid behind all that there is. -/
def Lays (w w' : World) : Prop := ∃ q os, w' = Sort.grow (w.drewN q) os
theorem Lays.refl (w : World) : Lays w w := ⟨0, #[], by rw [Sort.grow_empty]; rfl⟩
theorem Lays.drewN {a w : World} (h : Lays a w) (n : Nat) : Lays a (w.drewN n) := by
  obtain ⟨q, os, rfl⟩ := h
  refine ⟨q + n, os, ?_⟩
  show Sort.grow ((a.drewN q).drewN n) os = _
  rw [World.drewN_drewN]
theorem Lays.grow {a w : World} (h : Lays a w) (os : Array Obj) : Lays a (Sort.grow w os) := by
  obtain ⟨q, os', rfl⟩ := h
  exact ⟨q, _, Sort.grow_grow _ _ _⟩
theorem Lays.alloc {a w : World} (h : Lays a w) (o : Obj) : Lays a (w.alloc o) := by
  rw [Sort.alloc_eq_grow]
  exact h.grow _
def c3 (a b : Int) : Int := if a < b then -1 else if b < a then 1 else 0
theorem c3_lt {a b : Int} (h : a < b) : c3 a b = -1 := by unfold c3; rw [if_pos h]
theorem c3_gt {a b : Int} (h : b < a) : c3 a b = 1 := by unfold c3; rw [if_neg (by omega), if_pos h]
theorem c3_eq {a b : Int} (h : a = b) : c3 a b = 0 := by unfold c3; rw [if_neg (by omega), if_neg (by omega)]
def orI (a b : Int) : Int := if a = 0 then b else a
/-- The order of arcs. -/
def cfA (p q : Ar) : Int := orI (c3 p.1 q.1) (c3 p.2 q.2)
theorem cfA_lt (p q : Ar) : cfA p q < 0 ↔ arLt p q := by
  unfold cfA orI arLt
  rcases Int.lt_trichotomy p.1 q.1 with h | h | h
  · rw [c3_lt h, if_neg (by decide)]
    exact ⟨fun _ => .inl h, fun _ => by decide⟩
  · rw [c3_eq h, if_pos rfl]
    rcases Int.lt_trichotomy p.2 q.2 with k | k | k
    · rw [c3_lt k]; exact ⟨fun _ => .inr ⟨h, k⟩, fun _ => by decide⟩
    · rw [c3_eq k]; exact ⟨fun e => absurd e (by decide), fun e => by omega⟩
    · rw [c3_gt k]; exact ⟨fun e => absurd e (by decide), fun e => by omega⟩
  · rw [c3_gt h, if_neg (by decide)]
    exact ⟨fun e => absurd e (by decide), fun e => by omega⟩
theorem ltA (p q : Ar) : ltOf cfA p q = true ↔ arLt p q := by
  rw [← cfA_lt]
  unfold ltOf
  exact decide_eq_true_iff
theorem ltA_no (p q : Ar) : ltOf cfA p q = false ↔ ¬ arLt p q := by rw [← ltA, Bool.not_eq_true]
theorem swoA : SWO (ltOf cfA) where
  irrefl x := by rw [ltA_no]; unfold arLt; omega
  trans x y z h k := by
    rw [ltA] at h k ⊢
    unfold arLt at *
    omega
  ntrans x y z h k := by
    rw [ltA_no] at h k ⊢
    unfold arLt at *
    omega
theorem cmpI_at (p q v : Int) (w : World) (H : Hid (c3 p q = v)) :
    Calls Try.prog 47 #[.int .i64 p, .int .i64 q] w fun e w' => e = .returned (.int .i64 v) ∧ w = w' := by
  obtain rfl := H.out
  clear H
  by_cases h1 : p < q
  · rw [c3_lt h1]
    go_enter Try.func47, Try.ntmps47
    go_wp2
    go_ret
    exact ⟨rfl, rfl⟩
  · by_cases h2 : q < p
    · rw [c3_gt h2]
      go_enter Try.func47, Try.ntmps47
      go_wp2
      go_ret
      exact ⟨rfl, rfl⟩
    · rw [c3_eq (show p = q by omega)]
      go_enter Try.func47, Try.ntmps47
      go_wp2
      go_ret
      exact ⟨rfl, rfl⟩
/-- cmp.Or of two integers. -/
theorem or2_at (a b v : Int) (B : Nat) (w : World) (H : Hid (orI a b = v)) (h0 : w.cell? ⟨B, 0, none⟩ = some (.int .i64 a)) (h1 : w.cell? ⟨B, 1, none⟩ = some (.int .i64 b)) :
    Calls Try.prog 46 #[.slice (some ⟨B, 0, none⟩) 2 2] w fun e w' => e = .returned (.int .i64 v) ∧ w = w' := by
  by_cases ha : a = 0
  · have hv : b = v := by rw [← H.out]; unfold orI; rw [if_pos ha]
    subst ha
    subst hv
    clear H
    by_cases hb : b = 0
    · subst hb
      go_enter Try.func46, Try.ntmps46
      go_wp2
      refine wp_loop_rounds 4 ?_
      rw [rounds_succ]
      go_wp2
      rw [rounds_succ]
      go_wp2
      rw [rounds_succ]
      go_wp2
      go_ret
      exact ⟨rfl, rfl⟩
    · have hb2 : (b != 0) = true := bne_iff_ne.2 hb
      go_enter Try.func46, Try.ntmps46
      go_wp2
      refine wp_loop_rounds 4 ?_
      rw [rounds_succ]
      go_wp2
      rw [rounds_succ]
      go_wp2
      go_ret
      exact ⟨rfl, rfl⟩
  · have hv : a = v := by rw [← H.out]; unfold orI; rw [if_neg ha]
    subst hv
    clear H
    have ha2 : (a != 0) = true := bne_iff_ne.2 ha
    go_enter Try.func46, Try.ntmps46
    go_wp2
    refine wp_loop_rounds 4 ?_
    rw [rounds_succ]
    go_wp2
    go_ret
    exact ⟨rfl, rfl⟩
set_option maxRecDepth 100000 in
set_option maxHeartbeats 4000000 in
theorem pcomp_at (p q : Ar) (v : Int) (w : World) (H : Hid (cfA p q = v)) :
    Calls Try.prog 45 #[.agg #[.int .i64 p.1, .int .i64 p.2], .agg #[.int .i64 q.1, .int .i64 q.2]] w fun e w' => e = .returned (.int .i64 v) ∧ Lays w w' := by
  obtain ⟨xa, ya⟩ := p
  obtain ⟨xb, yb⟩ := q
  obtain ⟨u, hu⟩ : ∃ u, c3 xa xb = u := ⟨_, rfl⟩
  obtain ⟨t, ht⟩ : ∃ t, c3 ya yb = t := ⟨_, rfl⟩
  have HU := Lib.hid hu
  have HT := Lib.hid ht
  have HV := Lib.hid (show orI u t = v by rw [← hu, ← ht]; exact H.out)
  clear hu ht H
  go_enter Try.func45, Try.ntmps45
  go_upto_region 1 with (fail)
  have k0 : ((w.alloc (.cells #[.int .i64 xa, .int .i64 ya] 46)).alloc (.cells #[.int .i64 xb, .int .i64 yb] 46)).cell? ⟨w.heap.size, 0, none⟩ = some (.int .i64 xa) := by go_simp
  have k1 : ((w.alloc (.cells #[.int .i64 xa, .int .i64 ya] 46)).alloc (.cells #[.int .i64 xb, .int .i64 yb] 46)).cell? ⟨w.heap.size, 1, none⟩ = some (.int .i64 ya) := by go_simp
  have k2 : ((w.alloc (.cells #[.int .i64 xa, .int .i64 ya] 46)).alloc (.cells #[.int .i64 xb, .int .i64 yb] 46)).cell? ⟨w.heap.size + 1, 0, none⟩ = some (.int .i64 xb) := by go_simp
  have k3 : ((w.alloc (.cells #[.int .i64 xa, .int .i64 ya] 46)).alloc (.cells #[.int .i64 xb, .int .i64 yb] 46)).cell? ⟨w.heap.size + 1, 1, none⟩ = some (.int .i64 yb) := by go_simp
  have g0 : Lays w ((w.alloc (.cells #[.int .i64 xa, .int .i64 ya] 46)).alloc (.cells #[.int .i64 xb, .int .i64 yb] 46)) := (((Lays.refl w).alloc _).alloc _)
  generalize hW : ((w.alloc (.cells #[.int .i64 xa, .int .i64 ya] 46)).alloc (.cells #[.int .i64 xb, .int .i64 yb] 46)) = W0 at *
  clear hW
  have f0 := Own.refl W0
  have f1 := (Own.refl W0).drew
  have hB0 : w.heap.size < W0.heap.size := block_lt_of_cell k0
  have hB1 : w.heap.size + 1 < W0.heap.size := block_lt_of_cell k2
  go_region_held3 (fun w' => w'.cell? ⟨w.heap.size, 0, none⟩ = some (.int .i64 xa) ∧ w'.cell? ⟨w.heap.size, 1, none⟩ = some (.int .i64 ya) ∧ w'.cell? ⟨w.heap.size + 1, 0, none⟩ = some (.int .i64 xb) ∧ w'.cell? ⟨w.heap.size + 1, 1, none⟩ = some (.int .i64 yb)) (go_keep)
    (first | (go_at_call 47; (first | (with_reducible refine (cmpI_at xa xb _ _ HU).mono ?_) | (with_reducible refine (cmpI_at ya yb _ _ HT).mono ?_)); rintro e w1 ⟨rfl, rfl⟩) | (go_at_call 46; (refine (or2_at u t v _ _ HV (by go_simp) (by go_simp)).mono ?_); rintro e w1 ⟨rfl, rfl⟩))
  all_goals
    go_wp2
    go_ret
    exact ⟨rfl, (g0.alloc _).drewN 1⟩
/-! ### Arcs in order -/
def encA (p : Ar) : List Value := [.int .i64 p.1, .int .i64 p.2]
theorem cells_enc (l : List Ar) : cellsP l = l.flatMap encA := rfl
theorem flat_arcs (d : Array Ar) : (Sort.flatK encA 2 d).toList = cellsP d.toList := by
  refine List.ext_getElem? fun t => ?_
  have hl : (cellsP d.toList).length = d.size * 2 := by rw [cellsP_len, Array.length_toList]
  by_cases h : t < d.size * 2
  · have hs : t < (Sort.flatK encA 2 d).size := by rw [Sort.size_flatK]; exact h
    have e1 := Sort.get_flatK encA 2 d t h
    rw [getElem!_pos _ t hs] at e1
    rw [Array.getElem?_toList, Array.getElem?_eq_getElem hs, e1]
    have hi : t / 2 < d.size := by omega
    have hd : d[t / 2]! = at' d.toList (t / 2) := by
      rw [getElem!_pos d _ hi, at_get (by rw [Array.length_toList]; exact hi)]
      simp
    rw [hd]
    obtain ⟨k1, k2⟩ := cellsP_at d.toList (t / 2) (by rw [Array.length_toList]; exact hi)
    rcases Nat.mod_two_eq_zero_or_one t with e | e
    · rw [e]
      rw [show t / 2 * 2 = t by omega] at k1
      rw [k1]
      rfl
    · rw [e]
      rw [show t / 2 * 2 + 1 = t by omega] at k2
      rw [k2]
      rfl
  · rw [List.getElem?_eq_none (by rw [Array.length_toList, Sort.size_flatK]; omega), List.getElem?_eq_none (by omega)]
theorem cmp_lays (blk off size : Nat) (w : World) : CmpLays Try.prog 45 #[] encA 2 cfA blk off size w := fun m os dk _ x y => by
  refine (pcomp_at x y _ _ (Lib.hid rfl)).mono ?_
  rintro e w' ⟨rfl, q, os', rfl⟩
  exact ⟨rfl, q, os', rfl⟩
/-- What the library makes of a list of arcs: the same ones, none less than an earlier one. -/
theorem sorted_arcs {l : List Ar} {d' : Array Ar} (hp : PermIn 0 l.toArray.size l.toArray d') (hs : SortedIn (ltOf cfA) 0 l.toArray.size d') : d'.size = l.length ∧ d'.toList.Perm l ∧ Srt d'.toList := by
  obtain ⟨h1, _, h3⟩ := hp
  have hz : l.toArray.size = l.length := List.size_toArray ..
  rw [hz] at h1 h3 hs
  have e1 : d'.extract 0 l.length = d' := by rw [← h1]; exact Array.extract_size
  have e2 : l.toArray.extract 0 l.length = l.toArray := by
    rw [← hz]; exact Array.extract_size
  rw [e1, e2] at h3
  refine ⟨h1, by simpa using h3, fun i j hij hj => ?_⟩
  rw [Array.length_toList, h1] at hj
  have k := hs i j (Nat.zero_le _) hij hj
  rw [getElem!_pos d' j (by omega), getElem!_pos d' i (by omega), ltA_no] at k
  rw [at_get (by rw [Array.length_toList]; omega), at_get (by rw [Array.length_toList]; omega)]
  simpa using k
theorem sortA_to (l : List Ar) (A : Option Addr) (n cap base : Nat) (w : World) (HR : Hid (w.ownsRow base 46 2 (.slice A n cap) n (cellsP l))) (hl : l.length = n) (hn : n ≤ 1000) :
    Calls Try.prog 44 #[.slice A n cap, .func (.func 45) #[] #[]] w fun e w' => e = .returned (.tuple #[]) ∧ ∃ S : List Ar, S.Perm l ∧ Srt S ∧ w'.ownsRow base 46 2 (.slice A n cap) n (cellsP S) ∧ w.grownBy w' (Value.slice A n cap).ownBlock := by
  have hR := HR.out
  by_cases h0 : n = 0
  · subst h0
    obtain rfl := List.eq_nil_of_length_eq_zero hl
    refine (AnyF.slices_SortFunc_none (P := Try.prog) (ρ := Try.sortA_ren) { Try.sortA with } A cap _ w).mono ?_
    rintro e w' ⟨rfl, rfl⟩
    exact ⟨rfl, [], List.Perm.refl _, fun i j _ h => absurd h (Nat.not_lt_zero _), hR, World.grownBy.refl _ _⟩
  · rcases hR.2 with ⟨_, h⟩ | ⟨g, gcap, cur, hv, hg1, hg2, hg3, hg4, hg5, hg6⟩
    · exact absurd h h0
    · injection hv with e1 e2 e3
      subst e1
      subst e3
      have hgl : g < w.heap.size := (Array.getElem?_eq_some_iff.1 hg2).1
      have hfl : (Sort.flatK encA 2 l.toArray) = (cellsP l).toArray := by
        apply Array.toList_inj.1
        rw [flat_arcs]
      have hho : Sort.HoldsK encA 2 w g 0 l.toArray := by
        show Sort.Holds id w g 0 (Sort.flatK encA 2 l.toArray)
        rw [hfl]
        exact SorR.row_holds (c := id) (xs := cellsP l) hg2 (by rw [cellsP_len, hl, hg6, List.map_id])
      have hsz : l.toArray.size = n := by rw [List.size_toArray, hl]
      have hs := AnyQ.slices_SortFunc Try.sortA 2 Try.isAgg46 Try.sizeOf46 encA (fun _ => rfl) (fun x v hv => by simp [encA] at hv; rcases hv with rfl | rfl <;> rfl) cfA swoA 45 #[] g 0 cap l.toArray w (enters_of Try.func45 (by kernel_rfl) rfl) (cmp_lays _ _ _ _) hho hgl (by rw [hsz]; omega)
      rw [hsz] at hs
      refine hs.mono ?_
      rintro e w' ⟨rfl, d', nn, os, hp, hso, rfl⟩
      have hq := sorted_arcs (l := l) (by rw [hsz]; exact hp) (by rw [hsz]; exact hso)
      have hfs : (Sort.flatK encA 2 d').size = n * 2 := by rw [Sort.size_flatK, hq.1, hl]
      refine ⟨rfl, d'.toList, hq.2.1, hq.2.2, ⟨by rw [cellsP_len, hq.2.1.length_eq, hl], .inr ⟨g, cap, _, rfl, hg1, SorR.sorted_block (c := id) (n := nn) (os := os) (Sort.flatK encA 2 d') hg2, hg3, hg4, ?_, ?_⟩⟩, SorR.sorted_grown (c := id) (Sort.flatK encA 2 d')⟩
      · unfold Sort.putCells
        rw [Array.size_mapIdx, hg5]
      · have := SorR.put_take (c := id) (cur := cur) (Sort.flatK encA 2 d') (by rw [hfs, hg5]; omega)
        rw [hfs, List.map_id, flat_arcs] at this
        exact this
set_option maxRecDepth 100000 in
theorem cloneA_at (l : List Ar) (sv : Value) (n : Nat) (w : World) (HP : Hid (Pts w sv l)) (hl : l.length = n) (hn : n ≤ 1000) :
    Calls Try.prog 43 #[sv] w fun e w' => ∃ A c, e = .returned (.slice A n c) ∧ w'.ownsRow w.heap.size 46 2 (.slice A n c) n (cellsP l) ∧ Own w w' := by
  obtain ⟨A, c, rfl, ha1, ha2, ha⟩ := HP.out
  unfold maxLen at ha2
  have q24 : ∀ (w : World) (a : Option Addr) (n c n' c' : Nat), (binOp .eql 22 (.slice a n c) (.slice none n' c')).run Try.prog w = .ok (.bool a.isNone) w := fun w a n c n' c' => Lib.run_eql_slice_nil w _ _ a n c n' c' Try.underlying22
  obtain ⟨i0, hi, hz0, hz1, hz2⟩ := info_parts (show (Try.prog.info? 46).map (fun i => (i.zero, i.size, i.bytes)) = some (some (.agg #[.int .i64 0, .int .i64 0]), 2, 16) by kernel_rfl)
  have HI := Lib.hid hi
  have HZ0 := Lib.hid hz0
  have HZ1 := Lib.hid hz1
  have HZ2 := Lib.hid hz2
  clear hi hz0 hz1 hz2
  have HA := Lib.hid ha
  rw [hl] at ha1
  have HL := Lib.hid (show (cellsP l).length = n * 2 by rw [cellsP_len, hl])
  have HN := Lib.hid hl
  have HO := Lib.hid (cellsP_one l)
  clear ha HP
  cases A with
  | none =>
    obtain rfl : n = 0 := by
      by_cases h : 0 < n
      · obtain ⟨b, off, e, _⟩ := HA.out (by omega)
        cases e
      · omega
    obtain rfl := List.eq_nil_of_length_eq_zero hl
    go_enter Try.func43, Try.ntmps43
    go_wp2
    go_ret
    exact ⟨none, 0, rfl, World.ownsRow_nil _ _ _ _, Own.refl w⟩
  | some a =>
    have HC : Hid (∀ (j : Nat) u, (cellsP l)[j]? = some u → (w.alloc (.cells #[] 46)).cell? (a.add j) = some u) := Lib.hid fun j u hj => by
      have hjn : j < n * 2 := by
        have := (List.getElem?_eq_some_iff.1 hj).1
        rwa [HL.out] at this
      obtain ⟨b, off, e, hc⟩ := HA.out (by omega)
      injection e with e
      subst e
      rw [Addr.add_lit]
      refine Lib.cell?_alloc_some _ ?_
      obtain ⟨k1, k2⟩ := cellsP_at l (j / 2) (by omega)
      obtain ⟨m1, m2⟩ := hc (j / 2) (by omega)
      rcases Nat.mod_two_eq_zero_or_one j with e | e
      · have e2 : j / 2 * 2 = j := by omega
        rw [e2] at k1 m1
        rw [m1, ← hj, k1]
      · have e2 : j / 2 * 2 + 1 = j := by omega
        rw [e2] at k2
        rw [Nat.add_assoc, e2] at m2
        rw [m2, ← hj, k2]
    clear hl
    go_enter Try.func43, Try.ntmps43
    rw [HN.out]
    go_wp2_with (at_builtin; refine wpList_append_own _ rfl _ _ 22 rfl w.heap.size 46 i0 (.agg #[.int .i64 0, .int .i64 0]) 2 16 Try.underlying22 HI.out HZ0.out HZ1.out HZ2.out rfl (by decide) _ _ _ rfl (World.ownsRow_made w #[] 0 (Nat.le_refl _) (Nat.zero_le _) rfl) a n c (cellsP l) rfl (by rw [HL.out]) HC.out HO.out (by unfold maxLen; omega) (by omega) (by simp) ?_; intro v' w1 hown hgrow hnil)
    obtain ⟨A1, c1, rfl⟩ : ∃ A1 c1, v' = .slice A1 n c1 := by
      rcases hown.2 with ⟨h1, h2⟩ | ⟨g, cap, cur, rfl, _⟩
      · have h2 : n = 0 := by omega
        subst h2
        exact ⟨none, 0, h1⟩
      · exact ⟨_, cap, by rw [Nat.zero_add]⟩
    have HOWN := Lib.hid hown
    have HG := Lib.hid hgrow
    clear hown hgrow hnil
    go_wp2
    go_ret
    refine ⟨A1, c1, rfl, by simpa using HOWN.out, ?_⟩
    exact Own.grown ((Own.refl w).alloc _) HG.out (by intro k hk; injection hk with hk; exact Nat.le_of_eq hk)
end Go.Proofs.Ytkdfmjhhdfiiiaa.GraW
