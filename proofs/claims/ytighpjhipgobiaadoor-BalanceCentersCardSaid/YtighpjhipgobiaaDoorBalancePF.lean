/-
  Walks of the program of package balance: supports, an iterator. Condition: none.
-/
import Derived.Test.YtighpjhipgobiaaDoorBalancePE
import Derived.Test.YtighpjhipgobiaaDoorPartMore
import Derived.Test.YtighpjhipgobiaaDoorRangeDrew
import Derived.RangeFuncNested
import Derived.RangeFuncCalls
import Derived.RangeFuncLeaves
import Derived.Shelf.Abstract
import Derived.WalkKit
import Derived.OwnWalkIn
import Derived.TacticsInMore
import Derived.LoopNIn
import Derived.LoopIn
namespace Go.Proofs.YtighpjhipgobiaaDoor.BalW
open Go.ChangeShapes Go.WideShapes Go.ChangeAt Go.RowKit
open PairW AimP AimW BlkW PrtW PstP PstW JntP JntW BalP RanW
attribute [local go_sem] Oper.semAt_some
/-- The first error, the first tick, of a list of ticks. -/
def eL (b : Vl) (f : Nat → Vl) (q : Nat → Int) (m : Nat) (l : List Nat) : Int := l.foldl (fun e k => if e = 0 then joE b (f k) (su q m k) else e) 0
def tL (b : Vl) (f : Nat → Vl) (q : Nat → Int) (m : Nat) (l : List Nat) : Int := l.foldl (fun t k => if t < 0 ∧ stV b (f k) (su q m k) = false then (k : Int) else t) (-1)
theorem eL_snoc (b : Vl) (f : Nat → Vl) (q : Nat → Int) (m : Nat) (l : List Nat) (k : Nat) : eL b f q m (l ++ [k]) = if eL b f q m l = 0 then joE b (f k) (su q m k) else eL b f q m l := by unfold eL; rw [List.foldl_append]; rfl
theorem tL_snoc (b : Vl) (f : Nat → Vl) (q : Nat → Int) (m : Nat) (l : List Nat) (k : Nat) : tL b f q m (l ++ [k]) = if tL b f q m l < 0 ∧ stV b (f k) (su q m k) = false then (k : Int) else tL b f q m l := by unfold tL; rw [List.foldl_append]; rfl
theorem eL_all (b : Vl) (f : Nat → Vl) (q : Nat → Int) (m : Nat) : ∀ n, eL b f q m (List.range n) = fA b f q m n
  | 0 => rfl
  | n + 1 => by rw [List.range_succ, eL_snoc, eL_all b f q m n]; rfl
theorem tL_all (b : Vl) (f : Nat → Vl) (q : Nat → Int) (m : Nat) : ∀ n, tL b f q m (List.range n) = tA b f q m n
  | 0 => rfl
  | n + 1 => by rw [List.range_succ, tL_snoc, tL_all b f q m n]; rfl
/-- The first k of n ticks. -/
def toF {n : Nat} (h : 0 < n) (k : Nat) : Fin n := if g : k < n then ⟨k, g⟩ else ⟨0, h⟩
theorem toF_is {n : Nat} (h : 0 < n) {k : Nat} (g : k < n) : (toF h k).1 = k := by unfold toF; rw [dif_pos g]
def wys {n : Nat} (h : 0 < n) (k : Nat) : List (Fin n) := (List.range k).map (toF h)
theorem wys_len {n : Nat} (h : 0 < n) (k : Nat) : (wys h k).length = k := by unfold wys; rw [List.length_map, List.length_range]
theorem wys_succ {n : Nat} (h : 0 < n) (k : Nat) : wys h (k + 1) = wys h k ++ [toF h k] := by unfold wys; rw [List.range_succ, List.map_append]; rfl
theorem wys_val {n : Nat} (h : 0 < n) : ∀ {k : Nat}, k ≤ n → (wys h k).map (·.1) = List.range k
  | 0, _ => rfl
  | k + 1, hk => by rw [wys_succ, List.map_append, wys_val h (by omega), List.range_succ, List.map_cons, List.map_nil, toF_is h (by omega)]
def encF (q : Nat → Int) (m : Nat) {n : Nat} (x : Fin n) : Array Value := #[.int .i64 (x.1 : Int), .int .i64 (su q m x.1)]
/-- A movement in memory. -/
structure Mov (sv tv : Value) (f : Nat → Vl) (q : Nat → Int) (n m : Nat) (w : World) : Prop where
  ps : ∃ A c, sv = .slice A n c ∧ (0 < n → ∃ B off, A = some ⟨B, off, none⟩ ∧ ∀ i, i < n → Lie w B (off + i * 22) (cz 22 (f i)))
  ss : ∃ A c, tv = .slice A m c ∧ (0 < m → ∃ B off, A = some ⟨B, off, none⟩ ∧ ∀ i, i < m → w.cell? ⟨B, off + i, none⟩ = some (.int .i64 (q i)))
  nl : n ≤ maxLen
  ml : m ≤ maxLen
theorem Mov.own {sv tv : Value} {f : Nat → Vl} {q : Nat → Int} {n m : Nat} {w w' : World} (h : Mov sv tv f q n m w) (g : PairW.Own w w') : Mov sv tv f q n m w' := by
  obtain ⟨⟨A, c, h1, h2⟩, ⟨A', c', h3, h4⟩, h5, h6⟩ := h
  refine ⟨⟨A, c, h1, fun h => ?_⟩, ⟨A', c', h3, fun h => ?_⟩, h5, h6⟩
  · obtain ⟨B, off, e, hl⟩ := h2 h
    exact ⟨B, off, e, fun i hi => (hl i hi).own g⟩
  · obtain ⟨B, off, e, hl⟩ := h4 h
    exact ⟨B, off, e, fun i hi => g.cell (hl i hi)⟩
/-- What the rounds leave as it was: what lies below B0, and the iterator's box. -/
structure Kw (B0 B : Nat) (W W' : World) : Prop where
  same : ∀ (k : Nat) (o : Obj), k < B0 ∨ k = B → W.heap[k]? = some o → W'.heap[k]? = some o
theorem Kw.trans {B0 B : Nat} {a b c : World} (h : Kw B0 B a b) (k : Kw B0 B b c) : Kw B0 B a c := ⟨fun i o hi ho => k.same i o hi (h.same i o hi ho)⟩
theorem Kw.cell {B0 B : Nat} {W W' : World} (h : Kw B0 B W W') {p : Addr} {v : Value} (hp : p.block < B0 ∨ p.block = B) (hc : W.cell? p = some v) : W'.cell? p = some v := by
  have hl := block_lt_of_cell hc
  rw [World.cell?_of_block (w := W) ((h.same p.block _ hp (Array.getElem?_eq_getElem hl)).trans (Array.getElem?_eq_getElem hl).symm)]
  exact hc
/-- The iterator's box, and the supports. -/
structure Wy (B b off : Nat) (sv : Value) (m cap : Nat) (q : Nat → Int) (W : World) : Prop where
  box : Blk W B #[sv, .slice (some ⟨b, off, none⟩) m cap] 52
  sup : ∀ i, i < m → W.cell? ⟨b, off + i, none⟩ = some (.int .i64 (q i))
section
variable {B0 B b off m cap : Nat} {sv : Value} {q : Nat → Int} {W W' : World}
theorem Wy.own (h : Wy B b off sv m cap q W) (g : PairW.Own W W') : Wy B b off sv m cap q W' := ⟨h.box.own g, fun i hi => g.cell (h.sup i hi)⟩
theorem Wy.kw (h : Wy B b off sv m cap q W) (hb : b < B0) (g : Kw B0 B W W') : Wy B b off sv m cap q W' := ⟨g.same _ _ (.inr rfl) h.box, fun i hi => g.cell (.inl hb) (h.sup i hi)⟩
end
theorem min2_at {P : Program} (x y : Int) (w : World) (ts : Array TypeId) (t : TypeId) : (Builtin.min_ ts t #[.int .i64 x, .int .i64 y]).run P w = .ok (.int .i64 (min x y)) w := by
  simp [Builtin.min_, Builtin.min2]
  split <;> omega
set_option maxRecDepth 100000 in
set_option maxHeartbeats 4000000 in
theorem sup_seq (q : Nat → Int) (B0 B b off n m cap : Nat) (A : Option Addr) (c r : Nat) (w : World) (hn : 0 < n) (hm0 : 0 < m) (hnl : n ≤ maxLen) (hml : m ≤ maxLen) (hb0 : b < B0) (hW : Wy B b off (.slice A n c) m cap q w) (hr : 1 ≤ r) :
    SeqD Fence.wide r Tryd.prog 73 #[.pointer (some ⟨B, 0, none⟩)] (encF q m) (Kw B0 B) (fun ys : List (Fin n) => ys = wys hn n) (fun pre => ∃ k, k ≤ n ∧ pre = wys hn k) n w := by
  intro L J Jx W hO hJ hJx hY h0
  have HB := Lib.hid (hW.own hO)
  have HY := Lib.hid hY
  have H0 := Lib.hid h0
  have HB0 := Lib.hid hb0
  unfold maxLen at hnl hml
  clear hW hO hJ hJx hY h0 hb0
  show CallsIn Fence.wide r Tryd.prog 73 #[.func (.yield L) #[] #[], .pointer (some ⟨B, 0, none⟩)] W _
  refine callsIn_of_wp Tryd.func73 rfl trivial ?_ rfl
  simp only [Tryd.ntmps73, List.size_toArray, List.length_cons, List.length_nil, Nat.reduceAdd, Nat.reduceSub, Array.replicate_succ, Array.replicate_zero, List.push_toArray, List.append_toArray, List.nil_append, List.cons_append]
  have c0 := HB.out.box.cell 0
  have c1 := HB.out.box.cell 1
  gi_wp2
  clear c0 c1
  gi_loopw [7] (fun y wr => ∃ k : Nat, y = .int .i64 (k : Int) ∧ k ≤ n ∧ Wy B b off (.slice A n c) m cap q wr ∧ J (wys hn k) wr) (fun y _ => n - (RowKit.intOf y).toNat)
  case atStart => exact ⟨0, rfl, by omega, HB.out, H0.out⟩
  case round =>
    obtain ⟨k, rfl, hk, hwy, hj⟩ := hrel
    have c0 := hwy.box.cell 0
    have c1 := hwy.box.cell 1
    by_cases hlt : k < n
    · have HW := Lib.hid hwy
      obtain ⟨mi, hmi⟩ : ∃ x, min k (m - 1) = x := ⟨_, rfl⟩
      have hsu : su q m k = q mi := by unfold su; rw [hmi]
      have i1 : IntKind.i64.wrap ((m : Int) - 1) = ((m - 1 : Nat) : Int) := (IntWalk.i64_in _ (by omega)).trans (by omega)
      have hmn := fun (w : World) (ts : Array TypeId) (t : TypeId) => min2_at (P := Tryd.prog) (k : Int) ((m - 1 : Nat) : Int) w ts t
      rw [show min (k : Int) ((m - 1 : Nat) : Int) = (mi : Int) by omega] at hmn
      have hmlt : mi < m := by omega
      have hmz : (mi : Int) < m := by omega
      have e0 := hwy.sup mi hmlt
      have hkn : (k : Int) < n := by omega
      have HSUC := Lib.hid (wys_succ hn k)
      obtain ⟨g, hg⟩ : ∃ g, toF hn k = g := ⟨_, rfl⟩
      have hg1 : g.1 = k := by rw [← hg]; exact toF_is hn hlt
      rw [hg] at HSUC
      obtain ⟨fn, tmps, assign, body, hyy, hR⟩ := HY.out (wys hn k) g wr hj (by rw [wys_len]; exact hlt)
      unfold encF at hyy
      rw [hg1, hsu] at hyy
      have HR := Lib.hid hR
      clear hmi hsu hmlt hj hwy hg hg1 hR
      gi_wp2
      refine HR.out.mono ?_
      rintro e W3 (⟨rfl, hJ3, hk3⟩ | ⟨rfl, hJx3⟩)
      · have HW3 := Lib.hid (HW.out.kw HB0.out hk3)
        have HJ3 := Lib.hid hJ3
        clear hJ3 hk3 e0 c0 c1 hyy hmn i1
        gi_wp2
        go_roundw
        case rel => exact ⟨k + 1, by go_num, hlt, HW3.out, by rw [HSUC.out]; exact HJ3.out⟩
        case measure => simp [RowKit.intOf]; omega
      · have HJ3 := Lib.hid hJx3
        clear hJx3 e0 c0 c1 hyy hmn i1
        gi_wp2
        refine bodyPost_ret (results_none rfl _ _ _) rfl ?_
        exact ⟨⟨_, rfl⟩, .inr ⟨_, ⟨k + 1, hlt, HSUC.out.symm⟩, HJ3.out⟩⟩
    · obtain rfl : k = n := by omega
      have HJE := Lib.hid hj
      clear hj hwy c0 c1
      gi_wp2
      go_end0
      exact ⟨⟨_, rfl⟩, .inl ⟨_, rfl, HJE.out⟩⟩
set_option maxRecDepth 100000 in
theorem bsup_at (sv tv : Value) (w : World) :
    Calls Tryd.prog 42 #[.agg #[sv, tv]] w fun e w' => e = .returned (.func (.func 73) #[] #[.pointer (some ⟨w.heap.size, 0, none⟩)]) ∧ w' = w.alloc (.cells #[sv, tv] 52) := by
  go_enter Tryd.func42, Tryd.ntmps42
  go_wp2
  go_ret
  exact ⟨rfl, rfl⟩
end Go.Proofs.YtighpjhipgobiaaDoor.BalW
