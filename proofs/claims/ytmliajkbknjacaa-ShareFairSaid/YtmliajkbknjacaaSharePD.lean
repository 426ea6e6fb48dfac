/-
  Walks of the program's stages and Stages of package share: a range over a function. Condition: none.
-/
import Derived.Test.YtmliajkbknjacaaSharePC
import Derived.Test.YtmliajkbknjacaaRangeDrew
import Derived.Test.YtmliajkbknjacaaNumC
import Derived.RangeFuncNested
import Derived.RangeFuncCalls
import Derived.RangeFuncLeaves
import Derived.Shelf.Abstract
import Derived.WalkKit
import Derived.OwnWalkIn
import Derived.TacticsInMore
import Derived.LoopNIn
import Derived.LoopIn
import Derived.Maps.AppendAt
namespace Go.Proofs.Ytmliajkbknjacaa.ShaW
open Go.ChangeShapes Go.WideShapes Go.ChangeAt Go.RowKit
open PairW CelW MchW ShaP RanW NumP
attribute [local go_sem] Oper.semAt_some
/-- What the rounds leave to the iterator: its two boxes. -/
structure Kb (B : Nat) (W W' : World) : Prop where
  same : ∀ (k : Nat) (o : Obj), k = B ∨ k = B + 1 → W.heap[k]? = some o → W'.heap[k]? = some o
theorem Kb.trans {B : Nat} {a b c : World} (h : Kb B a b) (k : Kb B b c) : Kb B a c := ⟨fun i o hi ho => k.same i o hi (h.same i o hi ho)⟩
theorem row_stp {w w' : World} {B base n : Nat} {v : Value} {xs : List Value} (r : w.ownsRow base 3 1 v n xs) (q : Stp B w w') : w'.ownsRow base 3 1 v n xs := by
  refine ⟨r.1, ?_⟩
  rcases r.2 with h | ⟨g, cap, cur, h1, h2, h3, h4⟩
  · exact .inl h
  · exact .inr ⟨g, cap, cur, h1, h2, q.same g _ h3 (.inl rfl), h4⟩
/-- What one append within a row of one's own, and the store of the slice, leave. -/
theorem appended_else {W w' : World} {tmp : Obj} {g b k : Nat} (v : Value) (hg : (W.alloc tmp).grownBy w' (some g)) (hk : k < W.heap.size) (h1 : k ≠ g) (h2 : k ≠ b) : (w'.setCell ⟨b, 0, none⟩ v).heap[k]? = W.heap[k]? := by
  rw [StaW.set_other w' b 0 v h2, hg.block k (by rw [World.size_alloc]; omega) (by simpa using h1)]
  exact ((PairW.Own.refl W).alloc tmp).block k hk
/-- The two boxes. -/
structure Bx (B : Nat) (t n : Int) (W : World) : Prop where
  b0 : W.heap[B]? = some (.cells #[.int .i64 t] 3 (0, 0))
  b1 : W.heap[B + 1]? = some (.cells #[.int .i64 n] 3 (0, 0))
section
variable {B : Nat} {t n : Int} {W W' : World}
theorem Bx.cell (h : Bx B t n W) : W.cell? ⟨B, 0, none⟩ = some (.int .i64 t) ∧ W.cell? ⟨B + 1, 0, none⟩ = some (.int .i64 n) := by
  constructor
  · simp [World.cell?, h.b0]
  · simp [World.cell?, h.b1]
theorem Bx.own (h : Bx B t n W) (q : PairW.Own W W') : Bx B t n W' := ⟨(q.block _ (Array.getElem?_eq_some_iff.1 h.b0).1).trans h.b0, (q.block _ (Array.getElem?_eq_some_iff.1 h.b1).1).trans h.b1⟩
theorem Bx.kb (h : Bx B t n W) (q : Kb B W W') : Bx B t n W' := ⟨q.same _ _ (.inl rfl) h.b0, q.same _ _ (.inr rfl) h.b1⟩
end
set_option maxRecDepth 100000 in
set_option maxHeartbeats 4000000 in
theorem stages_seq (t : Int) (n B m : Nat) (w : World) (ht : 0 ≤ t ∧ t ≤ 1099511627776) (hn : 1 ≤ n ∧ n ≤ 512) (hB : Bx B t n w) (hm : 1 ≤ m) :
    SeqD Fence.wide m Try.prog 35 #[.pointer (some ⟨B + 1, 0, none⟩), .pointer (some ⟨B, 0, none⟩)] (fun x : Int => #[.int .i64 x]) (Kb B) (fun ys => ys = mpF (staF t n) n) (fun _ => True) n w := by
  intro l J Jx W hO hJ hJx hY h0
  have hb := hB.own hO
  obtain ⟨ht0, ht1⟩ := ht
  obtain ⟨hn0, hn1⟩ := hn
  have hc1 := hb.cell.2
  have HB := Lib.hid hb
  have HY := Lib.hid hY
  have HJ := Lib.hid hJ
  have H0 := Lib.hid h0
  clear hB hO hJ hJx hY h0 hb
  have hpos : ∀ k : Nat, k ≤ n → 0 ≤ t * (k : Int) ∧ t * (k : Int) ≤ 562949953421312 := fun k hk => by
    have h1 : t * (k : Int) ≤ 1099511627776 * (k : Int) := Int.mul_le_mul_of_nonneg_right ht1 (Int.natCast_nonneg _)
    exact ⟨Int.mul_nonneg ht0 (Int.natCast_nonneg _), by omega⟩
  have HPOS := Lib.hid hpos
  clear hpos
  show CallsIn Fence.wide m Try.prog 35 #[.func (.yield l) #[] #[], .pointer (some ⟨B + 1, 0, none⟩), .pointer (some ⟨B, 0, none⟩)] W _
  refine callsIn_of_wp Try.func35 rfl trivial ?_ rfl
  simp only [Try.ntmps35, List.size_toArray, List.length_cons, List.length_nil, Nat.reduceAdd, Nat.reduceSub, Array.replicate_succ, Array.replicate_zero, List.push_toArray, List.append_toArray, List.nil_append, List.cons_append]
  gi_wp2
  gi_loopw [4, 5, 6, 7, 8, 10] (fun x _ _ _ _ y wr => ∃ (k : Nat) (z : Int), x = .int .i64 z ∧ y = .int .i64 (k : Int) ∧ k ≤ n ∧ t * (k : Int) / n = z ∧ Bx B t n wr ∧ J (mpF (staF t n) k) wr) (fun _ _ _ _ _ y _ => n - (RowKit.intOf y).toNat)
  case atStart => exact ⟨0, 0, rfl, rfl, Nat.zero_le _, by simp, HB.out, H0.out⟩
  case round =>
    obtain ⟨k, z, rfl, rfl, hk, hz, hb, hj⟩ := hrel
    by_cases hlt : k < n
    · obtain ⟨c0, c1⟩ := hb.cell
      obtain ⟨p0, p1⟩ := HPOS.out (k + 1) hlt
      obtain ⟨q0, q1⟩ := HPOS.out k hk
      obtain ⟨p, hp⟩ : ∃ p, t * ((k + 1 : Nat) : Int) = p := ⟨_, rfl⟩
      obtain ⟨due, hdue⟩ : ∃ due, p / n = due := ⟨_, rfl⟩
      have hz0 : 0 ≤ z ∧ z ≤ 562949953421312 := by
        rw [← hz]
        exact ⟨Int.ediv_nonneg q0 (by omega), Int.le_trans (Int.ediv_le_self _ q0) q1⟩
      rw [hp] at p0 p1
      have hd0 : 0 ≤ due ∧ due ≤ 562949953421312 := by
        rw [← hdue]
        exact ⟨Int.ediv_nonneg p0 (by omega), Int.le_trans (Int.ediv_le_self _ p0) p1⟩
      obtain ⟨e1, e2, e3⟩ := floor_ok (a := p) (b := (n : Int)) ((small_iff _).2 (by omega)) ((small_iff _).2 (by omega)) (by omega)
      have hfl := fun w => NumW.floor_at p n due (p % n) 0 w (Lib.hid ⟨by rw [e2, hdue], e3, e1⟩)
      have HFL := Lib.hid hfl
      obtain ⟨s, hs⟩ : ∃ s, due - z = s := ⟨_, rfl⟩
      have hst : staF t n k = s := by unfold staF; rw [← hs, ← hdue, ← hp, ← hz]; simp
      have hsuc : mpF (staF t n) (k + 1) = mpF (staF t n) k ++ [s] := by rw [mpF_succ, hst]
      have k1 : IntKind.i64.wrap ((k : Int) + 1) = ((k + 1 : Nat) : Int) := (IntWalk.i64_in _ (by omega)).trans (by omega)
      have k2 : IntKind.i64.wrap (t * ((k + 1 : Nat) : Int)) = p := by rw [hp]; exact IntWalk.i64_in _ (by omega)
      have k3 : IntKind.i64.wrap (due - z) = s := (IntWalk.i64_in _ (by omega)).trans hs
      obtain ⟨k', hk'⟩ : ∃ k', k + 1 = k' := ⟨_, rfl⟩
      rw [hk'] at k1 k2 hsuc
      have HJW := Lib.hid hj
      have HBW := Lib.hid hb
      have HSUC := Lib.hid hsuc
      have HDUE := Lib.hid (show t * (k' : Int) / n = due by rw [← hk', hp]; exact hdue)
      have HK := Lib.hid hk'
      have hkn : (k : Int) < n := by omega
      have hlen : (mpF (staF t n) k).length < n := by rw [mpF_len]; exact hlt
      have HLEN := Lib.hid hlen
      clear e1 e2 e3 hfl hs hst hsuc hb hj hp hdue hz hz0 hd0 p0 p1 q0 q1 hk' hlen
      gi_wp2_with (refine ⟨trivial, ?_⟩; gi_at_call 36; refine (callsIn_wide.2 (HFL.out _)).mono ?_; rintro e w5 ⟨rfl, hd⟩; have hO5 := PairW.Own.of_drew hd; obtain ⟨fn, tmps, assign, body, hy, hR⟩ := HY.out _ s w5 (HJ.out _ _ _ HJW.out hO5) HLEN.out; have HB5 := Lib.hid (HBW.out.own hO5); clear hd hO5)
      refine hR.mono ?_
      rintro e W3 (⟨rfl, hJ3, hk3⟩ | ⟨rfl, hJx3⟩)
      · have HB3 := Lib.hid (HB5.out.kb hk3)
        have HJ3 := Lib.hid hJ3
        clear hJ3 hk3 hy hR
        gi_wp2
        go_roundw
        case rel =>
          have := HK.out
          exact ⟨k', due, rfl, rfl, by omega, HDUE.out, HB3.out, by rw [HSUC.out]; exact HJ3.out⟩
        case measure => have := HK.out; simp [RowKit.intOf]; omega
      · gi_wp2
        refine bodyPost_ret (results_none rfl _ _ _) rfl ?_
        exact ⟨⟨_, rfl⟩, .inr ⟨_, trivial, hJx3⟩⟩
    · obtain rfl : k = n := by omega
      gi_wp2
      go_end0
      exact ⟨⟨_, rfl⟩, .inl ⟨_, rfl, hj⟩⟩
set_option maxRecDepth 100000 in
theorem pstage_at (t n : Int) (w : World) :
    Calls Try.prog 24 #[.int .i64 t, .int .i64 n] w fun e w' => e = .returned (.func (.func 35) #[] #[.pointer (some ⟨w.heap.size + 1, 0, none⟩), .pointer (some ⟨w.heap.size, 0, none⟩)]) ∧ w' = (w.alloc (.cells #[.int .i64 t] 3)).alloc (.cells #[.int .i64 n] 3) := by
  go_enter Try.func24, Try.ntmps24
  go_wp2
  go_ret
  exact ⟨rfl, rfl⟩
set_option maxRecDepth 100000 in
set_option maxHeartbeats 4000000 in
theorem pstages_good (t : Int) (n : Nat) (w : World) (ht : okW t = true) (hn : 1 ≤ n ∧ n ≤ 512) :
    Calls Try.prog 13 #[.int .i64 t, .int .i64 (n : Int)] w fun e w' => ∃ x, e = .returned (.tuple #[x, .int .i64 0]) ∧ Cel w' x (cellsI (mpF (staF t n) n)) ∧ PairW.Own w w' := by
  obtain ⟨ht0, ht1⟩ := okW_iff.1 ht
  obtain ⟨hn0, hn1⟩ := hn
  obtain ⟨i0, hi, hz0, hz1, hz2⟩ := info_parts (show (Try.prog.info? 3).map (fun i => (i.zero, i.size, i.bytes)) = some (some (.int .i64 0), 1, 8) by kernel_rfl)
  have HI := Lib.hid hi
  have HZ0 := Lib.hid hz0
  have HZ1 := Lib.hid hz1
  have HBY := Lib.hid (show i0.bytes * n ≤ 281474976710656 by rw [hz2]; omega)
  have HMX := Lib.hid (show n ≤ maxLen by unfold maxLen; omega)
  clear hi hz0 hz1 hz2
  have hamt := pamount_at t true w (Lib.hid ht)
  have d0 : decide ((n : Int) < 1) = false := decide_eq_false (by omega)
  have d1 : decide ((512 : Int) < n) = false := decide_eq_false (by omega)
  have d2 : ¬ (n : Int) < 1 := by omega
  have d3 : ¬ (512 : Int) < n := by omega
  refine (callsIn_wide (n := 5)).1 ?_
  refine callsIn_of_wp_marks Try.func13 rfl trivial ?_ rfl
  simp only [Try.ntmps13, List.size_toArray, List.length_cons, List.length_nil, Nat.reduceAdd, Nat.reduceSub, Array.replicate_succ, Array.replicate_zero, List.push_toArray, List.append_toArray, List.nil_append, List.cons_append]
  gi_wp2_with (first
    | (refine ⟨trivial, ?_⟩; gi_at_call 16; refine (callsIn_wide.2 hamt).mono ?_; rintro e w1 ⟨rfl, rfl⟩)
    | (refine ⟨trivial, ?_⟩; gi_at_call 24; refine (callsIn_wide.2 (pstage_at t n _)).mono ?_; rintro e w1 ⟨rfl, rfl⟩)
    | (gi_at_make; refine wpListIn_make_own _ rfl _ _ 22 rfl w.heap.size 3 i0 (.int .i64 0) 1 Try.underlying22 HI.out HZ0.out HZ1.out _ _ _ n rfl rfl rfl HBY.out HMX.out (Nat.le_refl _) ?_; intro w3 hown3 hg3))
  have hO3 : PairW.Own w w3 := (PairW.Own.refl w).grown hg3 (by simp)
  have hO0 : PairW.Own w3 (((w3.alloc (.cells #[.slice (some ⟨w.heap.size, 0, none⟩) 0 n] 22)).alloc (.cells #[.int .i64 t] 3)).alloc (.cells #[.int .i64 (n : Int)] 3)) := (((PairW.Own.refl w3).alloc _).alloc _).alloc _
  have hb0 : Boxed (((w3.alloc (.cells #[.slice (some ⟨w.heap.size, 0, none⟩) 0 n] 22)).alloc (.cells #[.int .i64 t] 3)).alloc (.cells #[.int .i64 (n : Int)] 3)) w3.heap.size 22 (.slice (some ⟨w.heap.size, 0, none⟩) 0 n) := ((Boxed.new w3 22 _).alloc _).alloc _
  have hb1 : Boxed (((w3.alloc (.cells #[.slice (some ⟨w.heap.size, 0, none⟩) 0 n] 22)).alloc (.cells #[.int .i64 t] 3)).alloc (.cells #[.int .i64 (n : Int)] 3)) (w3.heap.size + 1) 3 (.int .i64 t) := by
    have := (Boxed.new (w3.alloc (.cells #[.slice (some ⟨w.heap.size, 0, none⟩) 0 n] 22)) 3 (.int .i64 t)).alloc (.cells #[.int .i64 (n : Int)] 3)
    rwa [World.size_alloc] at this
  have hb2 : Boxed (((w3.alloc (.cells #[.slice (some ⟨w.heap.size, 0, none⟩) 0 n] 22)).alloc (.cells #[.int .i64 t] 3)).alloc (.cells #[.int .i64 (n : Int)] 3)) (w3.heap.size + 1 + 1) 3 (.int .i64 (n : Int)) := by
    have := Boxed.new ((w3.alloc (.cells #[.slice (some ⟨w.heap.size, 0, none⟩) 0 n] 22)).alloc (.cells #[.int .i64 t] 3)) 3 (.int .i64 (n : Int))
    rwa [World.size_alloc, World.size_alloc] at this
  have hgl : w.heap.size < w3.heap.size := (row_blk_le hown3).2
  have hr0 := row_old hown3 hO0
  obtain ⟨W0, hW0⟩ : ∃ W0, (((w3.alloc (.cells #[.slice (some ⟨w.heap.size, 0, none⟩) 0 n] 22)).alloc (.cells #[.int .i64 t] 3)).alloc (.cells #[.int .i64 (n : Int)] 3)) = W0 := ⟨_, rfl⟩
  rw [hW0] at hO0 hb0 hb1 hb2 hr0 ⊢
  obtain ⟨g, hg⟩ : ∃ g, w.heap.size = g := ⟨_, rfl⟩
  obtain ⟨b, hb⟩ : ∃ b, w3.heap.size = b := ⟨_, rfl⟩
  have hO := hO3.trans hO0
  simp only [hg, hb] at hb0 hb1 hb2 hr0 hgl ⊢
  clear hW0 hg3 hown3 hO3 hO0 hamt
  have hlt2 : b + 1 + 1 < W0.heap.size := hb2.lt
  have eg : ∀ args w, (callFunc 35 args).run Try.prog w = .ok (.enter 35 args) w := enters_of Try.func35 (by kernel_rfl) rfl
  refine wpIn_rangeFunc_D rfl (by omega) (gf := 35) (lb := #[.pointer (some ⟨b + 1 + 1, 0, none⟩), .pointer (some ⟨b + 1, 0, none⟩)]) rfl trivial eg
    (stages_seq t n (b + 1) (5 - 1) W0 ⟨ht0, ht1⟩ ⟨hn0, hn1⟩ ⟨hb1, hb2⟩ (by omega)) (fun h k => h.trans k) (fun q => ⟨fun k o hk ho => q.same k o ho (.inr (by omega))⟩) (fun _ => rfl)
    (fun pre W => Boxed W b 22 (.slice (some ⟨g, 0, none⟩) pre.length n) ∧ W.ownsRow g 3 1 (.slice (some ⟨g, 0, none⟩) pre.length n) pre.length (cellsI pre) ∧ PairW.Own w W)
    (fun _ _ _ => False) (fun h q => ⟨q.same _ _ h.1 (.inl rfl), row_stp h.2.1 q, q.own h.2.2 (by rw [hg]; omega)⟩) (fun h _ => h.elim) ⟨hb0, hr0, hO⟩
    (fun x => { tmps := #[.int .i64 t, .int .i64 (n : Int), undef, undef, .slice none 0 0, .int .i64 0, .pointer (some ⟨b, 0, none⟩), .int .i64 x, .int .i64 t, .bool true, .bool false, .bool false, .int .i64 (n : Int), .bool false, .bool false, .bool false, .int .i64 (n : Int), .bool false, .bool false, .int .i64 (n : Int), .slice (some ⟨g, 0, none⟩) 0 n, .int .i64 t, .int .i64 (n : Int), .func (.func 35) #[] #[.pointer (some ⟨b + 1 + 1, 0, none⟩), .pointer (some ⟨b + 1, 0, none⟩)], .int .i64 x, undef, undef, undef, undef, undef], defers := [] }) ?assign ?body ?done ?stop
  case assign =>
    intro l x W K hK
    gi_wp2
    exact hK
  case body =>
    rintro l pre x W ⟨hbx, hr, ho⟩ hlt
    have hc := hbx.cell
    have hbs := hbx.lt
    have hgs := (row_blk_le hr).2
    gi_wp2_with (gi_at_builtin; refine wpListIn_append_fits _ rfl _ _ 22 rfl g 3 i0 1 Try.underlying22 HI.out HZ1.out g pre.length n (cellsI pre) rfl (hr.alloc _) ⟨W.heap.size, 0, none⟩ 1 1 [.int .i64 x] rfl rfl (cell_one_new _ _ _) (by simp [Value.oneCell']) (by omega) ?_; intro w1 hown1 hgrow; have hb1 : Boxed w1 b 22 (.slice (some ⟨g, 0, none⟩) pre.length n) := (hbx.alloc _).kept hgrow (by simp; omega); have hc1 := hb1.cell; have hf1 := hb1.frozen)
    have hsz := hgrow.size
    rw [World.size_alloc] at hsz
    refine ⟨?_, ⟨fun k o hk hko => ?_⟩, ?_⟩
    · exact (((KeepsOthers.alloc W _).from _).trans (KeepsFrom.of_grownBy hgrow fun j hj => by cases hj; omega)).trans ((KeepsOthers.setCell _ _ _).from _)
    · rw [appended_else _ hgrow (Array.getElem?_eq_some_iff.1 hko).1 (by omega) (by omega)]
      exact hko
    · refine ⟨?_, ?_, ?_⟩
      · rw [List.length_append]
        exact hb1.set _
      · have := set_kept (b := b) (i := 0) (u := .slice (some ⟨g, 0, none⟩) (pre.length + 1) n) hown1 (by omega)
        rw [List.length_append, cellsI_app]
        exact this
      · refine ⟨hgrow.os.trans ho.os, hgrow.output.trans ho.output, ?_, fun k hk => ?_⟩
        · show w.heap.size ≤ (World.setCell _ _ _).heap.size
          have := ho.size
          simp [World.setCell]
          omega
        · rw [appended_else _ hgrow (Nat.lt_of_lt_of_le hk ho.size) (by omega) (by omega)]
          exact ho.block k hk
  case done =>
    rintro D ys W hD rfl ⟨hbx, hr, ho⟩ hK
    have hc := hbx.cell
    gi_wp2
    refine ⟨by simp, .inl ⟨_, _, rfl, run_takeDeferred hK, ?_⟩⟩
    have hst := Stp.put (B := W0.heap.size) (.deferred none) hD hK rfl
    exact ⟨_, results_tmp2 rfl _ _ _, _, rfl, cel_of_row (row_stp hr hst), hst.own ho (by rw [hg]; omega)⟩
  case stop =>
    rintro D c pre W _ _ h _
    exact h.elim
set_option maxRecDepth 100000 in
theorem pstages_at (t n f : Int) (M : List Int) (w : World) (HF : Hid (staE t n = f)) (HM : Hid (staV t n = M)) :
    Calls Try.prog 13 #[.int .i64 t, .int .i64 n] w fun e w' => ∃ x, e = .returned (.tuple #[x, .int .i64 f]) ∧ Cel w' x (cellsI M) ∧ PairW.Own w w' := by
  obtain ⟨b0, hb0⟩ : ∃ b, okW t = b := ⟨_, rfl⟩
  have hamt := pamount_at t b0 w (Lib.hid hb0)
  by_cases hall : okW t = true ∧ 1 ≤ n ∧ n ≤ 512
  · obtain rfl : f = 0 := by rw [← HF.out]; exact if_pos hall
    obtain ⟨m, rfl⟩ : ∃ m : Nat, n = m := ⟨n.toNat, by omega⟩
    obtain rfl : mpF (staF t m) m = M := by
      rw [← HM.out]
      unfold staV
      rw [if_pos HF.out]
      rfl
    exact pstages_good t m w hall.1 ⟨by omega, by omega⟩
  · have hf : staE t n = 1 := if_neg hall
    obtain rfl : f = 1 := by rw [← HF.out]; exact hf
    obtain rfl : M = [] := by
      rw [← HM.out]
      unfold staV
      rw [if_neg (by rw [hf]; decide)]
    clear HF HM
    cases b0 with
    | false =>
      clear hf hall hb0
      go_enter Try.func13, Try.ntmps13
      go_wp2_with (go_at_call 16; refine hamt.mono ?_; rintro e w1 ⟨rfl, rfl⟩)
      go_ret2
      exact ⟨_, rfl, cel_nil _, PairW.Own.refl _⟩
    | true =>
      by_cases h1 : n < 1
      · clear hf hall hb0
        go_enter Try.func13, Try.ntmps13
        go_wp2_with (go_at_call 16; refine hamt.mono ?_; rintro e w1 ⟨rfl, rfl⟩)
        go_ret2
        exact ⟨_, rfl, cel_nil _, PairW.Own.refl _⟩
      · have h2 : (512 : Int) < n := by
          refine Int.not_le.1 fun h => hall ⟨hb0, by omega, h⟩
        clear hf hall hb0
        go_enter Try.func13, Try.ntmps13
        go_wp2_with (go_at_call 16; refine hamt.mono ?_; rintro e w1 ⟨rfl, rfl⟩)
        go_ret2
        exact ⟨_, rfl, cel_nil _, PairW.Own.refl _⟩
end Go.Proofs.Ytmliajkbknjacaa.ShaW
