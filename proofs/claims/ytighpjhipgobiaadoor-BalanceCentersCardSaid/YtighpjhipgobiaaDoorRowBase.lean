/-
  Several texts in one file: Cells, Bytes, AppendRow. Condition: those of each.
-/
import Derived.Test.YtighpjhipgobiaaDoorPairs
import Derived.Lib.ConvBytes
import Derived.Laws.AppendOwn
/-
  Slices of one-cell elements in memory, whatever is in the cells; a slice appended to a row of one's own. Nothing of the program. Condition: none.
-/
namespace Go.Proofs.YtighpjhipgobiaaDoor.CelW
open Go.ChangeShapes Go.WideShapes Go.ChangeAt Go.RowKit
open PairW
/-- The slice value v holds the cells xs. -/
def Cel (w : World) (v : Value) (xs : List Value) : Prop :=
  ∃ (A : Option Addr) (cap : Nat), v = .slice A xs.length cap ∧ xs.length ≤ cap ∧ cap ≤ maxLen ∧
    (0 < xs.length → ∃ b off : Nat, A = some ⟨b, off, none⟩ ∧ ∀ i u, xs[i]? = some u → w.cell? ⟨b, off + i, none⟩ = some u)
theorem Cel.own {w w' : World} {v : Value} {xs : List Value} (h : Cel w v xs) (hg : Own w w') : Cel w' v xs := by
  obtain ⟨A, cap, h1, h2, h3, h4⟩ := h
  refine ⟨A, cap, h1, h2, h3, fun h0 => ?_⟩
  obtain ⟨b, off, h5, h6⟩ := h4 h0
  exact ⟨b, off, h5, fun i u hu => hg.cell (h6 i u hu)⟩
theorem cel_nil (w : World) : Cel w (.slice none 0 0) [] := ⟨none, 0, rfl, Nat.le_refl _, Nat.zero_le _, fun h => absurd h (by simp)⟩
theorem cel_of_row {w : World} {base n : Nat} {e : TypeId} {v : Value} {xs : List Value} (h : w.ownsRow base e 1 v n xs) : Cel w v xs := by
  have hn : n = xs.length := by have := h.1; omega
  subst hn
  rcases h.2 with ⟨h1, h2⟩ | ⟨g, cap, cur, rfl, hb, hh, hn, hm, hs, ht⟩
  · obtain rfl := List.eq_nil_of_length_eq_zero h2
    rw [h1]
    exact cel_nil w
  · refine ⟨_, cap, rfl, hn, hm, fun _ => ⟨g, 0, rfl, fun i u hu => ?_⟩⟩
    rw [Nat.zero_add]
    exact (World.ownsRow.cellAt h i (by have := (List.getElem?_eq_some_iff.1 hu).1; omega)).trans hu
/-- The form of a slice (an arm of a walk opens no definition). -/
theorem cel_form {w : World} {v : Value} {xs : List Value} (h : Cel w v xs) : ∃ A cap, v = .slice A xs.length cap ∧ xs.length ≤ cap ∧ cap ≤ maxLen := by
  obtain ⟨A, cap, h1, h2, h3, _⟩ := h
  exact ⟨A, cap, h1, h2, h3⟩
theorem cel_open {w : World} {A : Option Addr} {n c : Nat} {xs : List Value} (h : Cel w (.slice A n c) xs) : xs.length = n ∧ (A = none → n = 0) ∧ ∀ ad, A = some ad → ∀ j u, xs[j]? = some u → w.cell? (ad.add j) = some u := by
  obtain ⟨A', c', hv, _, _, h4⟩ := h
  injection hv with e1 e2 e3
  subst e1
  subst e2
  refine ⟨rfl, fun hA => ?_, fun ad hA j u hu => ?_⟩
  · by_cases h0 : 0 < xs.length
    · obtain ⟨b, off, hb, _⟩ := h4 h0
      rw [hA] at hb
      cases hb
    · omega
  · have hj := (List.getElem?_eq_some_iff.1 hu).1
    obtain ⟨b, off, hb, hc⟩ := h4 (by omega)
    rw [hA] at hb
    injection hb with hb
    subst hb
    rw [Addr.add_lit]
    exact hc j u hu
/-- A slice appended to a row of one's own, at an operation that may be guarded. -/
theorem wpList_append_c {P : Program} {ops : Array Oper} {rest : List Oper} {o : Oper} {a : Act} {Q : Exit → Act → World → Prop} {w : World} (hw : Region.wanted o (yielded ops a.tmps) = true) (s x : Operand) (t : TypeId)
    (ho : o.op = .call { callee := .builtin .append, args := #[s, x], argTypes := #[t, t] })
    (base : Nat) (e : TypeId) (i : TypeInfo) (z : Value) (bytes : Nat) (ht : P.underlying t = some (.slice e)) (hi : P.info? e = some i) (hz : i.zero = some z) (hsize : i.size = 1) (hby : i.bytes = bytes) (hzs : z.cells.size = 1)
    (g n cap : Nat) (xs : List Value) (hs : a.eval s = .slice (some ⟨g, 0, none⟩) n cap) (hown : w.ownsRow base e 1 (.slice (some ⟨g, 0, none⟩) n cap) n xs)
    (v : Value) (news : List Value) (hx : a.eval x = v) (hv : Cel w v news) (h1 : ∀ u ∈ news, u.oneCell' = true)
    (k : Nat) (hk : n + news.length = k) (h63 : k ≤ maxLen) (hbytes : k * bytes ≤ 140737488355328) (hbase : base ≤ w.heap.size)
    (h : ∀ g' cap' w', w'.ownsRow base e 1 (.slice (some ⟨g', 0, none⟩) k cap') k (xs ++ news) → w.grownBy w' (some g) → wpList P ops Q rest (a.put o.dst (.slice (some ⟨g', 0, none⟩) k cap')) w') :
    wpList P ops Q (o :: rest) a w := by
  subst hk
  refine wpList_step fun K hK => ?_
  rw [if_pos hw]
  obtain ⟨A, c, rfl, _, _⟩ := cel_form hv
  obtain ⟨_, hA, hnews⟩ := cel_open hv
  cases A with
  | none =>
    have hm := hA rfl
    obtain rfl : news = [] := List.eq_nil_of_length_eq_zero hm
    have hcap : n ≤ cap := by
      rcases hown.2 with ⟨h, _⟩ | ⟨_, _, _, hv, _, _, hn, _⟩
      · cases h
      · injection hv with _ _ e3
        rw [e3]; exact hn
    have hr := run_append_empty_geo (P := P) w t o.type e i ht hi g n cap none c hcap
    unfold Oper.wp execOp
    simp only [ho, resolve, invoke, builtin, Sem.run_bind, Sem.run_pure, Result.andThen_ok, List.map_toArray, List.map_cons, List.map_nil, hs, hx, List.length_nil, hr]
    refine hK _ _ (h g cap w ?_ (World.grownBy.refl w _))
    rw [List.append_nil]
    exact hown
  | some ad =>
    refine wp_append_own w s x t ho base e i z 1 bytes ht hi hz hsize hby hzs (by omega) _ n xs hs hown ad news.length c news hx (by omega) (hnews ad rfl) h1 h63 hbytes hbase fun v' w' h2 h3 h4 => hK _ _ ?_
    rcases h2.2 with ⟨hv, _⟩ | ⟨g', cap', cur, rfl, hrest⟩
    · exact absurd (h4.1 hv).1 (by simp)
    · exact h g' cap' w' ⟨h2.1, .inr ⟨g', cap', cur, rfl, hrest⟩⟩ h3
theorem own_app {w w' : World} {o : Obj} (h : (w.alloc o).grownBy w' (some w.heap.size)) : Own w w' := Own.grown ((Own.refl w).alloc o) h fun k hk => by
  injection hk with hk
  exact Nat.le_of_eq hk
/-- Another append to a row of one's own. -/
theorem own_more {w wr wa w4 : World} {base g n cap : Nat} {e : TypeId} {xs : List Value} (hO : Own w wa) (h : wa.grownBy w4 (some g)) (hr : wr.ownsRow base e 1 (.slice (some ⟨g, 0, none⟩) n cap) n xs) (hb : w.heap.size ≤ base) : Own w w4 := hO.grown h fun k hk => by
  have := (hr.lt g rfl).1
  injection hk with hk
  omega
/-! ### Bytes and integers -/
def cellsU (b : List UInt8) : List Value := b.map fun c => Value.int .u8 (c.toNat : Int)
theorem cellsU_len (b : List UInt8) : (cellsU b).length = b.length := List.length_map ..
theorem cellsU_app (a b : List UInt8) : cellsU (a ++ b) = cellsU a ++ cellsU b := List.map_append
theorem cellsU_one (b : List UInt8) : ∀ u ∈ cellsU b, u.oneCell' = true := fun u hu => by
  obtain ⟨c, _, rfl⟩ := List.mem_map.1 hu
  rfl
theorem cellsU_at {b : List UInt8} {i : Nat} (h : i < b.length) : (cellsU b)[i]? = some (.int .u8 (b[i].toNat : Int)) := by
  unfold cellsU
  rw [List.getElem?_map, List.getElem?_eq_getElem h]
  rfl
theorem cel_byte {w : World} {T : TypeId} {z : Int} {c : UInt8} (h : (c.toNat : Int) = z) : Cel (w.alloc (.cells #[.int .u8 z] T)) (.slice (some ⟨w.heap.size, 0, none⟩) 1 1) (cellsU [c]) := by
  refine ⟨_, 1, rfl, Nat.le_refl _, by unfold maxLen; decide, fun _ => ⟨w.heap.size, 0, rfl, fun i u hu => ?_⟩⟩
  have hi : i < 1 := (List.getElem?_eq_some_iff.1 hu).1
  obtain rfl : i = 0 := by omega
  have hu : some (Value.int .u8 (c.toNat : Int)) = some u := hu
  rw [← hu, h]
  go_simp
end Go.Proofs.YtighpjhipgobiaaDoor.CelW

/-
  A slice appended to a row of one's own that may be nil; a text as a new row of bytes. Nothing of the program. Condition: none.
-/
namespace Go.Proofs.YtighpjhipgobiaaDoor.CelW
open Go.ChangeShapes Go.WideShapes Go.ChangeAt Go.RowKit
open PairW
theorem row_shape {w : World} {base n : Nat} {e : TypeId} {v : Value} {xs : List Value} (h : w.ownsRow base e 1 v n xs) : ∃ A cap, v = .slice A n cap := by
  rcases h.2 with ⟨h1, h2⟩ | ⟨g, cap, cur, rfl, _⟩
  · subst h2
    exact ⟨none, 0, h1⟩
  · exact ⟨_, cap, rfl⟩
/-- A row of one's own that has grown: what was there before it stays. -/
theorem row_after {w0 w w' : World} {base n : Nat} {e : TypeId} {v : Value} {xs : List Value} (q : Own w0 w) (h : w.ownsRow base e 1 v n xs) (hg : w.grownBy w' v.ownBlock) (hb : w0.heap.size ≤ base) : Own w0 w' := q.grown hg fun k hk => by
  have := (h.lt k hk).1
  omega
/-- Nothing appended to nil. -/
theorem run_append_nil_empty {P : Program} (w : World) (t ty e : TypeId) (i : TypeInfo) (ht : P.underlying t = some (.slice e)) (hi : P.info? e = some i) (A : Option Addr) (c : Nat) :
    (Builtin.append_ #[t, t] ty #[.slice none 0 0, .slice A 0 c]).run P w = .ok (.slice none 0 0) w := by
  cases A <;> simp [Builtin.append_, run_underlying ht, sizeOf, typeInfo, hi, Builtin.lenOf, Builtin.firstCells, loadCells, loadCellsFrom]
/-- Where the longer row lies: where it lay, or in a new block. -/
theorem append_fresh {P : Program} {w w' : World} {base : Nat} {t ty e : TypeId} {i : TypeInfo} {z : Value} {bytes : Nat} (ht : P.underlying t = some (.slice e)) (hi : P.info? e = some i) (hz : i.zero = some z) (hsize : i.size = 1) (hby : i.bytes = bytes)
    {v v' : Value} {n : Nat} {xs : List Value} (hown : w.ownsRow base e 1 v n xs) {ad : Addr} {m c : Nat} {news : List Value} (hl : news.length = m * 1) (hnews : ∀ j u, news[j]? = some u → w.cell? (ad.add j) = some u) (h1 : ∀ u ∈ news, u.oneCell' = true)
    (h63 : n + m ≤ maxLen) (hbytes : (n + m) * bytes ≤ 140737488355328) (hr : (Builtin.append_ #[t, t] ty #[v, .slice (some ad) m c]).run P w = .ok v' w') (h4 : v' = .slice none 0 0 ↔ v = .slice none 0 0 ∧ m = 0) : v'.ownBlock = v.ownBlock ∨ v'.ownBlock = some w.heap.size := by
  subst hby
  have h63' : n + m ≤ 9223372036854775807 := by simp only [maxLen] at h63; omega
  have hl' : news.length = m * i.size := by rw [hsize]; exact hl
  rcases hown.2 with ⟨rfl, rfl⟩ | ⟨g, cap, cur, rfl, hbg, hg, hnc, hcm, hcs, htake⟩
  · by_cases hm : m = 0
    · exact .inl (by rw [h4.2 ⟨rfl, hm⟩])
    · have hr2 := run_append_nil (P := P) w t ty e i z ht hi hz ad m c news hl' hnews (by omega) (by omega) (by rw [Nat.zero_add] at hbytes; omega)
      rw [hr2] at hr
      injection hr with e1 _
      exact .inr (by rw [← e1]; rfl)
  · by_cases hroom : n + m ≤ cap
    · have hr2 := run_append_room (P := P) w t ty e i ht hi g n cap cur hg ad m c news hl' hnews h1 hroom (by rw [hl', hsize, hcs, ← Nat.add_mul]; exact Nat.mul_le_mul_right _ hroom)
      rw [hr2] at hr
      injection hr with e1 _
      exact .inl (by rw [← e1]; rfl)
    · have holds : ∀ j u, xs[j]? = some u → w.cell? ((⟨g, 0, none⟩ : Addr).add j) = some u := hown.cells (g := g) rfl
      have hr2 := run_append_grow (P := P) w t ty e i z ht hi hz ⟨g, 0, none⟩ n cap xs (by rw [hsize]; exact hown.1) holds ad m c news hl' hnews (by omega) (by omega) (growslice_fits (by omega) hbytes)
      rw [hr2] at hr
      injection hr with e1 _
      exact .inr (by rw [← e1]; rfl)
/-- A slice appended to a row of one's own, nil or not, at an operation that may be guarded: what else there is stays. -/
theorem wpList_append_f {P : Program} {ops : Array Oper} {rest : List Oper} {o : Oper} {a : Act} {Q : Exit → Act → World → Prop} {w : World} (hw : Region.wanted o (yielded ops a.tmps) = true) (s x : Operand) (t : TypeId)
    (ho : o.op = .call { callee := .builtin .append, args := #[s, x], argTypes := #[t, t] })
    (base : Nat) (e : TypeId) (i : TypeInfo) (z : Value) (bytes : Nat) (ht : P.underlying t = some (.slice e)) (hi : P.info? e = some i) (hz : i.zero = some z) (hsize : i.size = 1) (hby : i.bytes = bytes) (hzs : z.cells.size = 1)
    (v0 : Value) (n : Nat) (xs : List Value) (hs : a.eval s = v0) (hown : w.ownsRow base e 1 v0 n xs)
    (v : Value) (news : List Value) (hx : a.eval x = v) (hv : Cel w v news) (h1 : ∀ u ∈ news, u.oneCell' = true)
    (k : Nat) (hk : n + news.length = k) (h63 : k ≤ maxLen) (hbytes : k * bytes ≤ 140737488355328) (hbase : base ≤ w.heap.size)
    (h : ∀ v' w', w'.ownsRow base e 1 v' k (xs ++ news) → w.grownBy w' v0.ownBlock → (v'.ownBlock = v0.ownBlock ∨ v'.ownBlock = some w.heap.size) → wpList P ops Q rest (a.put o.dst v') w') :
    wpList P ops Q (o :: rest) a w := by
  subst hk
  refine wpList_step fun K hK => ?_
  rw [if_pos hw]
  obtain ⟨A, c, rfl, _, _⟩ := cel_form hv
  obtain ⟨_, hA, hnews⟩ := cel_open hv
  cases A with
  | none =>
    have hm := hA rfl
    obtain rfl : news = [] := List.eq_nil_of_length_eq_zero hm
    have hrow : w.ownsRow base e 1 v0 n (xs ++ []) := by rw [List.append_nil]; exact hown
    have hfin := h v0 w hrow (World.grownBy.refl w _) (.inl rfl)
    rcases hown.2 with ⟨rfl, _⟩ | ⟨g, cap, cur, rfl, _, _, hn, _⟩
    · have hr := run_append_nil_empty (P := P) w t o.type e i ht hi none c
      unfold Oper.wp execOp
      simp only [ho, resolve, invoke, builtin, Sem.run_bind, Sem.run_pure, Result.andThen_ok, List.map_toArray, List.map_cons, List.map_nil, hs, hx, List.length_nil, hr]
      exact hK _ _ hfin
    · have hr := run_append_empty_geo (P := P) w t o.type e i ht hi g n cap none c hn
      unfold Oper.wp execOp
      simp only [ho, resolve, invoke, builtin, Sem.run_bind, Sem.run_pure, Result.andThen_ok, List.map_toArray, List.map_cons, List.map_nil, hs, hx, List.length_nil, hr]
      exact hK _ _ hfin
  | some ad =>
    obtain ⟨v', w', hr, h2, h3, h4⟩ := run_append_own (P := P) w base t o.type e i z 1 bytes ht hi hz hsize hby hzs (by omega) v0 n xs hown ad news.length c news (by omega) (hnews ad rfl) h1 h63 hbytes hbase
    have h5 := append_fresh ht hi hz hsize hby hown (by omega) (hnews ad rfl) h1 h63 hbytes hr h4
    unfold Oper.wp execOp
    simp only [ho, resolve, invoke, builtin, Sem.run_bind, Sem.run_pure, Result.andThen_ok, List.map_toArray, List.map_cons, List.map_nil, hs, hx, hr]
    exact hK _ _ (h v' w' h2 h3 h5)
/-- A slice appended to a row of one's own, nil or not, at an operation that may be guarded: what else there is stays. -/
theorem wpList_append_k {P : Program} {ops : Array Oper} {rest : List Oper} {o : Oper} {a : Act} {Q : Exit → Act → World → Prop} {w : World} (hw : Region.wanted o (yielded ops a.tmps) = true) (s x : Operand) (t : TypeId)
    (ho : o.op = .call { callee := .builtin .append, args := #[s, x], argTypes := #[t, t] })
    (base : Nat) (e : TypeId) (i : TypeInfo) (z : Value) (bytes : Nat) (ht : P.underlying t = some (.slice e)) (hi : P.info? e = some i) (hz : i.zero = some z) (hsize : i.size = 1) (hby : i.bytes = bytes) (hzs : z.cells.size = 1)
    (v0 : Value) (n : Nat) (xs : List Value) (hs : a.eval s = v0) (hown : w.ownsRow base e 1 v0 n xs)
    (v : Value) (news : List Value) (hx : a.eval x = v) (hv : Cel w v news) (h1 : ∀ u ∈ news, u.oneCell' = true)
    (k : Nat) (hk : n + news.length = k) (h63 : k ≤ maxLen) (hbytes : k * bytes ≤ 140737488355328) (hbase : base ≤ w.heap.size)
    (h : ∀ v' w', w'.ownsRow base e 1 v' k (xs ++ news) → w.grownBy w' v0.ownBlock → wpList P ops Q rest (a.put o.dst v') w') :
    wpList P ops Q (o :: rest) a w :=
  wpList_append_f hw s x t ho base e i z bytes ht hi hz hsize hby hzs v0 n xs hs hown v news hx hv h1 k hk h63 hbytes hbase fun v' w' hr hg _ => h v' w' hr hg
/-- A slice appended to a row of one's own, nil or not, at an operation that may be guarded. -/
theorem wpList_append_r {P : Program} {ops : Array Oper} {rest : List Oper} {o : Oper} {a : Act} {Q : Exit → Act → World → Prop} {w : World} (hw : Region.wanted o (yielded ops a.tmps) = true) (s x : Operand) (t : TypeId)
    (ho : o.op = .call { callee := .builtin .append, args := #[s, x], argTypes := #[t, t] })
    (base : Nat) (e : TypeId) (i : TypeInfo) (z : Value) (bytes : Nat) (ht : P.underlying t = some (.slice e)) (hi : P.info? e = some i) (hz : i.zero = some z) (hsize : i.size = 1) (hby : i.bytes = bytes) (hzs : z.cells.size = 1)
    (v0 : Value) (n : Nat) (xs : List Value) (hs : a.eval s = v0) (hown : w.ownsRow base e 1 v0 n xs)
    (v : Value) (news : List Value) (hx : a.eval x = v) (hv : Cel w v news) (h1 : ∀ u ∈ news, u.oneCell' = true)
    (k : Nat) (hk : n + news.length = k) (h63 : k ≤ maxLen) (hbytes : k * bytes ≤ 140737488355328) (hbase : base ≤ w.heap.size)
    (h : ∀ v' w', w'.ownsRow base e 1 v' k (xs ++ news) → (∀ w0, Own w0 w → w0.heap.size ≤ base → Own w0 w') → w.heap.size ≤ w'.heap.size → wpList P ops Q rest (a.put o.dst v') w') :
    wpList P ops Q (o :: rest) a w :=
  wpList_append_k hw s x t ho base e i z bytes ht hi hz hsize hby hzs v0 n xs hs hown v news hx hv h1 k hk h63 hbytes hbase fun v' w' hr hg => h v' w' hr (fun _ q hb => row_after q hown hg hb) hg.size
/-- Two rows of elements of two kinds lie apart. -/
theorem rows_apart {w : World} {b1 b2 n m : Nat} {e1 e2 : TypeId} {v u : Value} {xs ys : List Value} (h : w.ownsRow b1 e1 1 v n xs) (k : w.ownsRow b2 e2 1 u m ys) (he : e1 ≠ e2) : v.ownBlock = none ∨ v.ownBlock ≠ u.ownBlock := by
  rcases h.2 with ⟨rfl, _⟩ | ⟨g, cap, cur, rfl, _, hg, _⟩
  · exact .inl rfl
  · rcases k.2 with ⟨rfl, _⟩ | ⟨g2, cap2, cur2, rfl, _, hg2, _⟩
    · exact .inr (by simp [Value.ownBlock])
    · refine .inr fun e => he ?_
      obtain rfl : g = g2 := by simpa [Value.ownBlock] using e
      rw [hg] at hg2
      injection hg2 with hg2
      injection hg2
/-- A text's bytes as a new row. -/
theorem own_bytes (w : World) (e : TypeId) (s : ByteArray) : Own w (Lib.bytesWorld w e s) := by
  have h := (((Own.refl w).drew).alloc (.cells (Lib.bytesCells w e s) e))
  refine ⟨h.os, h.output, ?_, fun k hk => Lib.bytesWorld_at_old w e s k hk⟩
  rw [Lib.bytesWorld_size]
  omega
theorem cel_bytes (w : World) (e : TypeId) (s : ByteArray) (h : s.size ≤ maxLen) : Cel (Lib.bytesWorld w e s) (.slice (some ⟨w.heap.size, 0, none⟩) s.size (grownCap w s.size 0 e)) (cellsU s.data.toList) := by
  have hl : (cellsU s.data.toList).length = s.size := by rw [cellsU_len]; exact Array.length_toList
  refine ⟨_, _, by rw [hl], by rw [hl]; exact grownCap_ge w s.size 0 e, grownCap_le_maxLen w s.size 0 e h, fun _ => ⟨w.heap.size, 0, rfl, fun i u hu => ?_⟩⟩
  have hi : i < s.data.toList.length := by have := (List.getElem?_eq_some_iff.1 hu).1; rwa [cellsU_len] at this
  have hi2 : i < s.size := by rw [cellsU_len] at hl; omega
  rw [cellsU_at hi] at hu
  rw [Nat.zero_add, Lib.bytesWorld_cell w e s i hi2, ← hu, List.getD_eq_getElem?_getD, List.getElem?_eq_getElem hi]
  rfl
end Go.Proofs.YtighpjhipgobiaaDoor.CelW

/-
  append to a row that the call owns, whatever the shape of what is appended. Nothing of the program. Condition: none.
-/
namespace Go.Proofs.YtighpjhipgobiaaDoor.RowA
open Go.ChangeShapes Go.WideShapes Go.ChangeAt Go.RowKit
open PairW
theorem run_append_nil_empty (P : Program) (w : World) (t ty e : TypeId) (i : TypeInfo) (ht : P.underlying t = some (.slice e)) (hi : P.info? e = some i) (A : Option Addr) (c : Nat) :
    (Builtin.append_ #[t, t] ty #[.slice none 0 0, .slice A 0 c]).run P w = .ok (.slice none 0 0) w := by
  cases A <;> simp [Builtin.append_, run_underlying ht, sizeOf, typeInfo, hi, Builtin.lenOf, Builtin.firstCells, loadCells, loadCellsFrom]
/-- 'append' to a row that the call owns, whatever the shape of what is appended. -/
theorem run_append_row_any {P : Program} (w : World) (base : Nat) (t ty e : TypeId) (i : TypeInfo) (z : Value) (size bytes : Nat) (ht : P.underlying t = some (.slice e)) (hi : P.info? e = some i) (hz : i.zero = some z)
    (hsize : i.size = size) (hby : i.bytes = bytes) (hzs : z.cells.size = size) (hsz : 0 < size) (v : Value) (n : Nat) (xs : List Value) (hown : w.ownsRow base e size v n xs)
    (ao : Option Addr) (m c : Nat) (news : List Value) (hl : news.length = m * size) (hao : 0 < m → ∃ ad, ao = some ad ∧ ∀ j u, news[j]? = some u → w.cell? (ad.add j) = some u) (h1 : ∀ u ∈ news, u.oneCell' = true)
    (h63 : n + m ≤ maxLen) (hbytes : (n + m) * bytes ≤ 140737488355328) (hbase : base ≤ w.heap.size) :
    ∃ v' w', (Builtin.append_ #[t, t] ty #[v, .slice ao m c]).run P w = .ok v' w' ∧ w'.ownsRow base e size v' (n + m) (xs ++ news) ∧ w.grownBy w' v.ownBlock ∧ (v'.ownBlock = v.ownBlock ∨ v'.ownBlock = some w.heap.size) := by
  by_cases hm : m = 0
  · subst hm
    obtain rfl : news = [] := List.eq_nil_of_length_eq_zero (by simpa using hl)
    rw [Nat.add_zero, List.append_nil]
    refine ⟨v, w, ?_, hown, ⟨rfl, rfl, rfl, Nat.le_refl _, fun _ _ _ => rfl⟩, .inl rfl⟩
    rcases hown.2 with ⟨rfl, rfl⟩ | ⟨g, cap, cur, rfl, _, _, hn, _⟩
    · exact run_append_nil_empty P w t ty e i ht hi ao c
    · exact run_append_empty_geo w t ty e i ht hi g n cap ao c hn
  · obtain ⟨ad, rfl, hc⟩ := hao (by omega)
    obtain ⟨v', w', r1, r2, r3, _, r5⟩ := run_append_own_at (P := P) w base t ty e i z size bytes ht hi hz hsize hby hzs hsz v n xs hown ad m c news hl hc h1 h63 hbytes hbase
    exact ⟨v', w', r1, r2, r3, r5⟩
/-- 'append' to a row that the call owns, in a plain region. -/
theorem wpList_append_row_any {P : Program} {ops : Array Oper} {rest : List Oper} {o : Oper} {a : Act} {Q : Exit → Act → World → Prop} (w : World) (hgd : o.guard = none) (s x : Operand) (t : TypeId)
    (ho : o.op = .call { callee := .builtin .append, args := #[s, x], argTypes := #[t, t] }) (base : Nat) (e : TypeId) (i : TypeInfo) (z : Value) (size bytes : Nat) (ht : P.underlying t = some (.slice e)) (hi : P.info? e = some i) (hz : i.zero = some z)
    (hsize : i.size = size) (hby : i.bytes = bytes) (hzs : z.cells.size = size) (hsz : 0 < size) (v : Value) (n : Nat) (xs : List Value) (hs : a.eval s = v) (hown : w.ownsRow base e size v n xs)
    (ao : Option Addr) (m c : Nat) (news : List Value) (hx : a.eval x = .slice ao m c) (hl : news.length = m * size) (hao : 0 < m → ∃ ad, ao = some ad ∧ ∀ j u, news[j]? = some u → w.cell? (ad.add j) = some u) (h1 : ∀ u ∈ news, u.oneCell' = true)
    (h63 : n + m ≤ maxLen) (hbytes : (n + m) * bytes ≤ 140737488355328) (hbase : base ≤ w.heap.size)
    (h : ∀ v' w', w'.ownsRow base e size v' (n + m) (xs ++ news) → w.grownBy w' v.ownBlock → (v'.ownBlock = v.ownBlock ∨ v'.ownBlock = some w.heap.size) → wpList P ops Q rest (a.put o.dst v') w') :
    wpList P ops Q (o :: rest) a w := by
  refine wpList_plain hgd fun K hK => ?_
  obtain ⟨v', w', hr, h2, h3, h4⟩ := run_append_row_any (P := P) w base t o.type e i z size bytes ht hi hz hsize hby hzs hsz v n xs hown ao m c news hl hao h1 h63 hbytes hbase
  unfold Oper.wp execOp
  simp only [ho, resolve, invoke, builtin, Sem.run_bind, Sem.run_pure, Result.andThen_ok, List.map_toArray, List.map_cons, List.map_nil, hs, hx, hr]
  exact hK _ _ (h v' w' h2 h3 h4)
theorem cellsP_app (l m : List Pt) : cellsP (l ++ m) = cellsP l ++ cellsP m := by unfold cellsP; rw [List.flatMap_append]
/-- A list of spans as a source of an append. -/
theorem pts_src {w : World} {sv : Value} {l : List Pt} (h : Pts w sv l) : ∃ (A : Option Addr) (c : Nat), sv = .slice A l.length c ∧ (0 < l.length → ∃ ad, A = some ad ∧ ∀ j u, (cellsP l)[j]? = some u → w.cell? (ad.add j) = some u) := by
  obtain ⟨A, c, h1, h2, _, h3⟩ := h
  refine ⟨A, c, h1, fun h0 => ?_⟩
  obtain ⟨b, off, e, _⟩ := h3 h0
  exact ⟨_, e, pts_row_cells h3 h2 _ e⟩
end Go.Proofs.YtighpjhipgobiaaDoor.RowA
