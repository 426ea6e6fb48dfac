/-
  A row of pairs that is written over in place: what a compaction leaves. Nothing of the program. Condition: none.
-/
import Derived.Test.YtpgeiflbmcjaaaaTempoMem
import Derived.Test.YtpgeiflbmcjaaaaTempoPlainB
import Derived.Lib.SliceRun
namespace Go.Proofs.Ytpgeiflbmcjaaaa.TemW
open Go.ChangeShapes Go.WideShapes Go.ChangeAt Go.RowKit
open PairW TemP
/-- A row with room behind it, its cells those of f. -/
def Fk (w : World) (base g n cap : Nat) (e : TypeId) (size : Nat) (f : Nat → Value) : Prop := w.ownsRow base e size (.slice (some ⟨g, 0, none⟩) n cap) n ((List.range (n * size)).map f)
section
variable {w w' : World} {base g n cap : Nat} {e : TypeId} {size : Nat} {f : Nat → Value}
theorem Fk.cell (h : Fk w base g n cap e size f) {j : Nat} (hj : j < n * size) : w.cell? ⟨g, j, none⟩ = some (f j) := by
  rw [World.ownsRow.cellAt h j hj, List.getElem?_map, List.getElem?_range hj]
  rfl
theorem Fk.frozen (h : Fk w base g n cap e size f) (j : Nat) : w.frozen? ⟨g, j, none⟩ = false := World.ownsRow.frozenAt h j
theorem Fk.own (h : Fk w base g n cap e size f) (hg : Own w w') : Fk w' base g n cap e size f := row_own h hg
theorem Fk.ge (h : Fk w base g n cap e size f) : base ≤ g := (World.ownsRow.lt h g rfl).1
theorem Fk.lt (h : Fk w base g n cap e size f) : g < w.heap.size := (World.ownsRow.lt h g rfl).2
theorem Fk.put (h : Fk w base g n cap e size f) (j : Nat) (u : Value) : Fk (w.setCell ⟨g, j, none⟩ u) base g n cap e size (st j u f) := by
  have := (World.ownsRow.stored h j u).1
  unfold Fk
  rw [show (List.range (n * size)).map (st j u f) = ((List.range (n * size)).map f).set j u from ?_]
  · exact this
  · refine List.ext_getElem? fun i => ?_
    rw [List.getElem?_set, List.getElem?_map, List.getElem?_map, List.length_map, List.length_range]
    by_cases hi : i < n * size
    · rw [List.getElem?_range hi]
      by_cases hj : j = i
      · subst hj
        simp [hi, st]
      · simp [hj, Ne.symm hj, st]
    · rw [List.getElem?_eq_none (by rw [List.length_range]; omega)]
      by_cases hj : j = i
      · subst hj
        simp [hi]
      · simp [hj]
theorem Fk.puts : ∀ (vs : List Value) (o : Nat) {w : World} {f : Nat → Value}, Fk w base g n cap e size f → ∃ f', Fk (w.setCells g o vs) base g n cap e size f' ∧ ∀ j, j < o → f' j = f j
  | [], _, _, f, h => ⟨f, h, fun _ _ => rfl⟩
  | v :: r, o, _, _, h => by
    obtain ⟨f', h1, h2⟩ := Fk.puts r (o + 1) (h.put o v)
    exact ⟨f', h1, fun j hj => by rw [h2 j (by omega), st_ne (by omega)]⟩
theorem Fk.take (h : Fk w base g n cap e size f) {m : Nat} (hm : m ≤ n) : Fk w base g m cap e size f := by
  have hms : m * size ≤ n * size := Nat.mul_le_mul_right _ hm
  refine ⟨by simp, .inr ?_⟩
  rcases h.2 with ⟨h1, _⟩ | ⟨g', cap', cur, h1, h2, h3, h4, h5, h6, h7⟩
  · cases h1
  · injection h1 with e1 e2 e3
    injection e1 with e1
    injection e1 with e1
    subst e1
    subst e3
    refine ⟨g, cap, cur, rfl, h2, h3, by omega, h5, h6, ?_⟩
    have := congrArg (List.take (m * size)) h7
    rw [List.take_take, Nat.min_eq_left hms] at this
    rw [this, ← List.map_take, List.take_range, Nat.min_eq_left hms]
/-- One pair of a row. -/
def pr (f : Nat → Value) (i : Nat) (p : Pt) : Prop := f (i * 2) = .int .i64 p.1 ∧ f (i * 2 + 1) = .int .i64 p.2
theorem pr_far {i k : Nat} {u v : Value} {p : Pt} (h : pr f i p) (hk : i ≠ k) : pr (st (k * 2 + 1) v (st (k * 2) u f)) i p :=
  ⟨by rw [st_ne (by omega), st_ne (by omega)]; exact h.1, by rw [st_ne (by omega), st_ne (by omega)]; exact h.2⟩
theorem pr_new {k : Nat} {p : Pt} : pr (st (k * 2 + 1) (.int .i64 p.2) (st (k * 2) (.int .i64 p.1) f)) k p :=
  ⟨by rw [st_ne (by omega), st_eq rfl], st_eq rfl _ _⟩
theorem Fk.of_pairs {l : List Pt} (h : w.ownsRow base e 2 (.slice (some ⟨g, 0, none⟩) n cap) n (cellsP l)) (hl : l.length = n) : ∃ f, Fk w base g n cap e 2 f ∧ ∀ i, i < n → pr f i (at' l i) := by
  refine ⟨fun j => (cellsP l).getD j undef, ?_, fun i hi => ?_⟩
  · unfold Fk
    rw [show (List.range (n * 2)).map (fun j => (cellsP l).getD j undef) = cellsP l from ?_]
    · exact h
    · refine List.ext_getElem? fun i => ?_
      have hc := cellsP_len l
      rw [List.getElem?_map]
      by_cases hi : i < n * 2
      · rw [List.getElem?_range hi]
        simp [List.getD_eq_getElem?_getD, List.getElem?_eq_getElem (show i < (cellsP l).length by omega)]
      · rw [List.getElem?_eq_none (l := cellsP l) (by omega), List.getElem?_eq_none (by rw [List.length_range]; omega)]
        rfl
  · obtain ⟨c0, c1⟩ := cellsP_at l i (by omega)
    exact ⟨by show (cellsP l).getD (i * 2) undef = _; rw [List.getD_eq_getElem?_getD, c0]; rfl, by show (cellsP l).getD (i * 2 + 1) undef = _; rw [List.getD_eq_getElem?_getD, c1]; rfl⟩
theorem Fk.pairs (h : Fk w base g n cap e 2 f) {M : List Pt} (hl : M.length = n) (hc : ∀ k, k < n → pr f k (at' M k)) : w.ownsRow base e 2 (.slice (some ⟨g, 0, none⟩) n cap) n (cellsP M) := by
  unfold Fk at h
  rw [show cellsP M = (List.range (n * 2)).map f from ?_]
  · exact h
  · refine List.ext_getElem? fun i => ?_
    rw [List.getElem?_map]
    by_cases hi : i < n * 2
    · rw [List.getElem?_range hi]
      obtain ⟨c0, c1⟩ := cellsP_at M (i / 2) (by omega)
      obtain ⟨d0, d1⟩ := hc (i / 2) (by omega)
      rcases Nat.mod_two_eq_zero_or_one i with x | x
      · have e : i = i / 2 * 2 := by omega
        rw [e, c0, ← d0]
        rfl
      · have e : i = i / 2 * 2 + 1 := by omega
        rw [e, c1, ← d1]
        rfl
    · rw [List.getElem?_eq_none (l := cellsP M) (by rw [cellsP_len]; omega), List.getElem?_eq_none (by rw [List.length_range]; omega)]
      rfl
end
/-- Nothing has turned but one block, and what is new. -/
structure Off (g : Nat) (w w' : World) : Prop where
  os : w'.os = w.os
  output : w'.output = w.output
  size : w.heap.size ≤ w'.heap.size
  block : ∀ k, k < w.heap.size → k ≠ g → w'.heap[k]? = w.heap[k]?
theorem Off.refl (g : Nat) (w : World) : Off g w w := ⟨rfl, rfl, Nat.le_refl _, fun _ _ _ => rfl⟩
theorem Off.own {g : Nat} {a b c : World} (h : Off g a b) (q : Own b c) : Off g a c := ⟨q.os.trans h.os, q.output.trans h.output, Nat.le_trans h.size q.size, fun k hk hn => (q.block k (Nat.lt_of_lt_of_le hk h.size)).trans (h.block k hk hn)⟩
theorem Off.set {g : Nat} {a w : World} (h : Off g a w) (i : Nat) (u : Value) : Off g a (w.setCell ⟨g, i, none⟩ u) :=
  ⟨h.os, h.output, by simpa [World.setCell] using h.size, fun k hk hne => by
    rw [← h.block k hk hne]
    unfold World.setCell
    simp only [Array.getElem?_modify]
    rw [if_neg (fun e => hne e.symm)]⟩
theorem Off.sets {g : Nat} {a : World} : ∀ (vs : List Value) (o : Nat) {w : World}, Off g a w → Off g a (w.setCells g o vs)
  | [], _, _, h => h
  | v :: r, o, _, h => Off.sets r (o + 1) (h.set o v)
/-- A block of the call's own is no old one. -/
theorem Off.mine {g : Nat} {a b c : World} (q : Own a b) (h : Off g b c) (hg : a.heap.size ≤ g) : Own a c := ⟨h.os.trans q.os, h.output.trans q.output, Nat.le_trans q.size h.size, fun k hk => (h.block k (Nat.lt_of_lt_of_le hk q.size) (by omega)).trans (q.block k hk)⟩
theorem run_clear_pairs {P : Program} (w : World) (t e ty : TypeId) (ht : P.underlying t = some (.slice e)) (hv : ∀ w, (zeroValue e).run P w = .ok (.agg #[.int .i64 0, .int .i64 0]) w) (b o n c : Nat) (hn : 0 < n)
    (hc : ∀ j, j < n * 2 → (w.cell? ⟨b, o + j, none⟩).isSome = true) (hf : ∀ j, j < n * 2 → w.frozen? ⟨b, o + j, none⟩ = false) :
    (Builtin.clear_ #[t] ty #[.slice (some ⟨b, o, none⟩) n c]).run P w = .ok (.tuple #[]) (w.setCells b o (List.replicate (n * 2) (.int .i64 0))) := by
  have hzc : (Builtin.zeroCells (Value.agg #[.int .i64 0, .int .i64 0]).cells n).toList = List.replicate (n * 2) (.int .i64 0) := by
    have hz2 : (Value.agg #[.int .i64 0, .int .i64 0]).cells = #[.int .i64 0, .int .i64 0] := rfl
    rw [hz2]
    simp only [Builtin.zeroCells]
    apply List.ext_getElem
    · simp
    · intro i h1 h2
      simp
      rcases Nat.mod_two_eq_zero_or_one i with x | x <;> simp [x]
  have hst := run_storeCells_cells (P := P) b o (List.replicate (n * 2) (.int .i64 0)) 0 w (by simpa using hc) (by simpa using hf) (by intro v hv'; rw [List.eq_of_mem_replicate hv']; rfl)
  simp only [Nat.add_zero] at hst
  obtain ⟨m, rfl⟩ : ∃ m, n = m + 1 := ⟨n - 1, by omega⟩
  simp [Builtin.clear_, run_underlying ht, hv, hzc, hst]
/-! ### The compaction -/
/-- Up to the tempo cur the row is compacted to kk elements; from the one before on it is as it was. -/
structure Cmp (l : List Pt) (cur kk : Nat) (f : Nat → Value) : Prop where
  len : (nrm l cur).length = kk
  lt : kk + 1 ≤ cur
  lo : ∀ i, i < kk → pr f i (at' (nrm l cur) i)
  hi : ∀ i, cur ≤ i + 1 → i < l.length → pr f i (at' l i)
theorem cmp_start {l : List Pt} {k : Nat} {f : Nat → Value} (h0 : 0 < k) (hk : k < l.length) (hno : ∀ i, 0 < i → i < k → (at' l i).2 ≠ (at' l (i - 1)).2) (he : (at' l k).2 = (at' l (k - 1)).2) (hf : ∀ i, i < l.length → pr f i (at' l i)) : Cmp l (k + 1) k f := by
  have e : nrm l (k + 1) = l.take k := by rw [nrm_skip h0 he, nrm_all (by omega) hno]
  refine ⟨by rw [e, List.length_take]; omega, Nat.le_refl _, fun i hi => ?_, fun i _ hi => hf i hi⟩
  rw [e, show at' (l.take k) i = at' l i by unfold at'; rw [List.getD_eq_getElem?_getD, List.getElem?_take_of_lt hi, ← List.getD_eq_getElem?_getD]]
  exact hf i (by omega)
theorem Cmp.skip {l : List Pt} {cur kk : Nat} {f : Nat → Value} (h : Cmp l cur kk f) (he : (at' l cur).2 = (at' l (cur - 1)).2) : Cmp l (cur + 1) kk f := by
  have := h.lt
  have e : nrm l (cur + 1) = nrm l cur := nrm_skip (by omega) he
  exact ⟨by rw [e]; exact h.len, by omega, fun i hi => by rw [e]; exact h.lo i hi, fun i h1 h2 => h.hi i (by omega) h2⟩
theorem Cmp.keep {l : List Pt} {cur kk : Nat} {f : Nat → Value} {p : Pt} (h : Cmp l cur kk f) (he : (at' l cur).2 ≠ (at' l (cur - 1)).2) (hp : at' l cur = p) : Cmp l (cur + 1) (kk + 1) (st (kk * 2 + 1) (.int .i64 p.2) (st (kk * 2) (.int .i64 p.1) f)) := by
  have := h.lt
  have e : nrm l (cur + 1) = nrm l cur ++ [p] := by rw [nrm_add (.inr he), hp]
  refine ⟨by rw [e, List.length_append, h.len]; rfl, by omega, fun i hi => ?_, fun i h1 h2 => pr_far (h.hi i (by omega) h2) (by omega)⟩
  rw [e]
  rcases Nat.lt_or_ge i kk with x | x
  · rw [at_app_lt (by rw [h.len]; exact x)]
    exact pr_far (h.lo i x) (by omega)
  · obtain rfl : i = kk := by omega
    rw [at_app_eq h.len.symm]
    exact pr_new
end Go.Proofs.Ytpgeiflbmcjaaaa.TemW
