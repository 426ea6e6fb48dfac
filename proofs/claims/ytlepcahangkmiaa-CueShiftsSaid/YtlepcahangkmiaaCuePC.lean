/-
  Walks of the program's ways of package cue: the iterator over neighbouring cues. Condition: none.
-/
import Derived.Test.YtlepcahangkmiaaCuePB
import Derived.Test.YtlepcahangkmiaaRangeDrewX
import Derived.RangeFuncNested
import Derived.RangeFuncCalls
import Derived.RangeFuncLeaves
import Derived.Shelf.Abstract
import Derived.WalkKit
import Derived.OwnWalkIn
import Derived.TacticsInMore
import Derived.LoopNIn
import Derived.LoopIn
import Derived.Maps.AppendAt
import Derived.Stop.RegionWithIn
namespace Go.Proofs.Ytlepcahangkmiaa.CueW
open Go.ChangeShapes Go.WideShapes Go.ChangeAt Go.RowKit
open PairW CelW RanW CueP
attribute [local go_sem] Oper.semAt_some
/-- Two cues, the second after the first, both in range. -/
def Good (x : Pt × Pt) : Prop := (0 ≤ x.1.1 ∧ x.1.1 < x.2.1 ∧ x.2.1 ≤ 8192) ∧ 0 ≤ x.1.2 ∧ x.1.2 < x.2.2 ∧ x.2.2 ≤ 1099511627776
instance (x : Pt × Pt) : Decidable (Good x) := by unfold Good; infer_instance
abbrev Way := { x : Pt × Pt // Good x }
def toW (x : Pt × Pt) : Way := if h : Good x then ⟨x, h⟩ else ⟨((0, 0), (1, 1)), ⟨⟨by decide, by decide, by decide⟩, by decide, by decide, by decide⟩⟩
theorem toW_is {x : Pt × Pt} (h : Good x) : (toW x).1 = x := by unfold toW; rw [dif_pos h]
theorem good_at {l : List Pt} (h : Cues l) {k : Nat} (hk : k + 1 < l.length) : Good (at' l k, at' l (k + 1)) := by
  have a := h.bd (i := k) (by omega)
  have b := h.bd (i := k + 1) hk
  have c := h.asc k hk
  exact ⟨⟨a.1.1, c.1, b.1.2⟩, a.2.1, c.2, b.2.2⟩
def wys (l : List Pt) (k : Nat) : List Way := (List.range k).map fun j => toW (at' l j, at' l (j + 1))
theorem wys_len (l : List Pt) (k : Nat) : (wys l k).length = k := by unfold wys; rw [List.length_map, List.length_range]
theorem wys_succ (l : List Pt) (k : Nat) : wys l (k + 1) = wys l k ++ [toW (at' l k, at' l (k + 1))] := by unfold wys; rw [List.range_succ, List.map_append]; rfl
theorem wys_mem {l : List Pt} {k : Nat} {x : Way} (h : x ∈ wys l k) : ∃ j, j < k ∧ toW (at' l j, at' l (j + 1)) = x := by
  unfold wys at h
  obtain ⟨j, hj, e⟩ := List.mem_map.1 h
  exact ⟨j, List.mem_range.1 hj, e⟩
def encW (x : Way) : Array Value := #[.agg #[.int .i64 x.1.1.1, .int .i64 x.1.1.2], .agg #[.int .i64 x.1.2.1, .int .i64 x.1.2.2]]
/-- What the rounds leave as it was: what lies below B0, and the iterator's box. -/
structure Kw (B0 B : Nat) (W W' : World) : Prop where
  same : ∀ (k : Nat) (o : Obj), k < B0 ∨ k = B → W.heap[k]? = some o → W'.heap[k]? = some o
theorem Kw.trans {B0 B : Nat} {a b c : World} (h : Kw B0 B a b) (k : Kw B0 B b c) : Kw B0 B a c := ⟨fun i o hi ho => k.same i o hi (h.same i o hi ho)⟩
theorem Kw.cell {B0 B : Nat} {W W' : World} (h : Kw B0 B W W') {p : Addr} {v : Value} (hp : p.block < B0 ∨ p.block = B) (hc : W.cell? p = some v) : W'.cell? p = some v := by
  have hl := block_lt_of_cell hc
  rw [World.cell?_of_block (w := W) ((h.same p.block _ hp (Array.getElem?_eq_getElem hl)).trans (Array.getElem?_eq_getElem hl).symm)]
  exact hc
/-- The iterator's box, and the cues. -/
structure Wy (B b off n cap : Nat) (l : List Pt) (W : World) : Prop where
  box : W.cell? ⟨B, 0, none⟩ = some (.slice (some ⟨b, off, none⟩) n cap)
  cues : ∀ i, i < n → W.cell? ⟨b, off + i * 2, none⟩ = some (.int .i64 (at' l i).1) ∧ W.cell? ⟨b, off + i * 2 + 1, none⟩ = some (.int .i64 (at' l i).2)
section
variable {B0 B b off n cap : Nat} {l : List Pt} {W W' : World}
theorem Wy.own (h : Wy B b off n cap l W) (q : PairW.Own W W') : Wy B b off n cap l W' := ⟨q.cell h.box, fun i hi => ⟨q.cell (h.cues i hi).1, q.cell (h.cues i hi).2⟩⟩
theorem Wy.kw (h : Wy B b off n cap l W) (hb : b < B0) (q : Kw B0 B W W') : Wy B b off n cap l W' := ⟨q.cell (.inr rfl) h.box, fun i hi => ⟨q.cell (.inl hb) (h.cues i hi).1, q.cell (.inl hb) (h.cues i hi).2⟩⟩
end
set_option maxRecDepth 100000 in
set_option maxHeartbeats 4000000 in
theorem ways_seq (l : List Pt) (B0 B b off n cap m : Nat) (w : World) (hc : Cues l) (hln : l.length = n) (hn : 2 ≤ n ∧ n ≤ 64 ∧ n ≤ cap ∧ cap ≤ maxLen) (hb0 : b < B0) (hW : Wy B b off n cap l w) (hm : 1 ≤ m) :
    SeqD Fence.wide m Try.prog 35 #[.pointer (some ⟨B, 0, none⟩)] encW (Kw B0 B) (fun ys => ys = wys l (n - 1)) (fun pre => ∃ k, k ≤ n - 1 ∧ pre = wys l k) (n - 1) w := by
  intro L J Jx W hO hJ hJx hY h0
  obtain ⟨n0, n1, n2, n3⟩ := hn
  unfold maxLen at n3
  have HB := Lib.hid (hW.own hO)
  have HY := Lib.hid hY
  have HJ := Lib.hid hJ
  have H0 := Lib.hid h0
  have HB0 := Lib.hid hb0
  have HGD := Lib.hid (fun k (hk : k + 1 < n) => good_at hc (k := k) (by rw [hln]; exact hk))
  clear hW hO hJ hJx hY h0 hb0 hc hln
  show CallsIn Fence.wide m Try.prog 35 #[.func (.yield L) #[] #[], .pointer (some ⟨B, 0, none⟩)] W _
  refine callsIn_of_wp Try.func35 rfl trivial ?_ rfl
  simp only [Try.ntmps35, List.size_toArray, List.length_cons, List.length_nil, Nat.reduceAdd, Nat.reduceSub, Array.replicate_succ, Array.replicate_zero, List.push_toArray, List.append_toArray, List.nil_append, List.cons_append]
  gi_wp2
  gi_loopw [3] (fun y wr => ∃ (i k : Nat), i = k + 1 ∧ y = .int .i64 (i : Int) ∧ i ≤ n ∧ Wy B b off n cap l wr ∧ J (wys l k) wr) (fun y _ => n - (RowKit.intOf y).toNat)
  case atStart => exact ⟨1, 0, rfl, rfl, by omega, HB.out, H0.out⟩
  case round =>
    obtain ⟨i, k, hik, rfl, hi, hwy, hj⟩ := hrel
    have c0 := hwy.box
    by_cases hlt : i < n
    · have HW := Lib.hid hwy
      have HJW := Lib.hid hj
      have e0 := (hwy.cues k (by omega)).1
      have e1 := (hwy.cues k (by omega)).2
      have e2 := (hwy.cues i hlt).1
      have e3 := (hwy.cues i hlt).2
      obtain ⟨g, hg⟩ : ∃ g, toW (at' l k, at' l i) = g := ⟨_, rfl⟩
      have hg1 : g.1 = (at' l k, at' l i) := by rw [← hg]; exact toW_is (by rw [hik]; exact HGD.out k (by omega))
      have HSUC := Lib.hid (show wys l i = wys l k ++ [g] by rw [← hg, hik, wys_succ])
      obtain ⟨⟨x, u⟩, hx⟩ : ∃ p, at' l k = p := ⟨_, rfl⟩
      obtain ⟨⟨y, v⟩, hy⟩ : ∃ p, at' l i = p := ⟨_, rfl⟩
      rw [hx] at e0 e1 hg1
      rw [hy] at e2 e3 hg1
      simp only at e0 e1 e2 e3
      have hO : PairW.Own wr wr.drew := (PairW.Own.refl wr).drew
      obtain ⟨fn, tmps, assign, body, hyy, hR⟩ := HY.out (wys l k) g wr.drew (HJ.out _ _ _ hj hO) (by rw [wys_len]; omega)
      have HR := Lib.hid (RoundIn.mono hR (R' := fun e W' => ∃ t, e = .returned (.bool t) ∧ ((t = true ∧ J (wys l k ++ [g]) W' ∧ Kw B0 B wr.drew W') ∨ (t = false ∧ Jx (wys l k ++ [g]) W'))) (by
        rintro e W' (⟨rfl, h⟩ | ⟨rfl, h⟩)
        · exact ⟨true, rfl, .inl ⟨rfl, h⟩⟩
        · exact ⟨false, rfl, .inr ⟨rfl, h⟩⟩))
      unfold encW at hyy
      rw [hg1] at hyy
      simp only at hyy
      have i1 : IntKind.i64.wrap ((i : Int) - 1) = (k : Int) := (IntWalk.i64_in _ (by omega)).trans (by omega)
      have d5 : (0 : Int) ≤ (k : Int) := by omega
      have d6 : (k : Int) < n := by omega
      have him : (i : Int) < n := by omega
      have HIK := Lib.hid hik
      clear hx hy hik hR hj hwy hg hg1
      gi_wp2
      gi_region_with (refine HR.out.mono ?_; rintro e W3 ⟨t, rfl, ht⟩; have HT := Lib.hid ht; clear ht)
      all_goals
        rcases HT.out with ⟨rfl, h1, h2⟩ | ⟨rfl, h1⟩
        · have HW3 := Lib.hid ((HW.out.own hO).kw HB0.out h2)
          have HJ3 := Lib.hid h1
          clear h1 h2 HT e0 e1 e2 e3 c0 hyy
          gi_wp2
          go_roundw
          case rel => exact ⟨i + 1, i, rfl, by go_num, hlt, HW3.out, by rw [HSUC.out]; exact HJ3.out⟩
          case measure => simp [RowKit.intOf]; omega
        · have HJ3 := Lib.hid h1
          clear h1 HT e0 e1 e2 e3 c0 hyy
          gi_wp2
          refine bodyPost_ret (results_none rfl _ _ _) rfl ?_
          exact ⟨⟨_, rfl⟩, .inr ⟨_, ⟨i, by omega, HSUC.out.symm⟩, HJ3.out⟩⟩
    · obtain rfl : i = n := by omega
      have hk1 : k = i - 1 := by omega
      rw [hk1] at hj
      have HJE := Lib.hid hj
      clear hik hk1 hj
      gi_wp2
      go_end0
      exact ⟨⟨_, rfl⟩, .inl ⟨_, rfl, HJE.out⟩⟩
set_option maxRecDepth 100000 in
theorem pways_at (A : Option Addr) (n cap : Nat) (w : World) :
    Calls Try.prog 24 #[.slice A n cap] w fun e w' => e = .returned (.func (.func 35) #[] #[.pointer (some ⟨w.heap.size, 0, none⟩)]) ∧ w' = w.alloc (.cells #[.slice A n cap] 22) := by
  go_enter Try.func24, Try.ntmps24
  go_wp2
  go_ret
  exact ⟨rfl, rfl⟩
end Go.Proofs.Ytlepcahangkmiaa.CueW
