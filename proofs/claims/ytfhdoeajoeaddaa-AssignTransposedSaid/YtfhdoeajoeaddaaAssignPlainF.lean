/-
  Prices that grow, a search over places without slack, and columns that are handed on: a way to an assignment of least cost, as plain mathematics. No word of the program. Condition: none.
-/
import Derived.Test.YtfhdoeajoeaddaaAssignPlainD
namespace Go.Proofs.Ytfhdoeajoeaddaa.AsgP
open MchP (rel_le map_nodup PM Mx)
theorem gset {l : List Int} {i : Nat} (x : Int) (j : Nat) (h : i < l.length) : (l.set i x).getD j 0 = if i = j then x else l.getD j 0 := by
  rw [List.getD_eq_getElem?_getD, List.getElem?_set, List.getD_eq_getElem?_getD]
  by_cases e : i = j
  · rw [if_pos e, if_pos e, if_pos h]; rfl
  · rw [if_neg e, if_neg e]
theorem gset_of {l : List Int} {i : Nat} (h : i < l.length) (x : Int) : (l.set i x).getD i 0 = x := by rw [gset x i h, if_pos rfl]
theorem gset_ne {l : List Int} {i j : Nat} (x : Int) (h : i < l.length) (e : i ≠ j) : (l.set i x).getD j 0 = l.getD j 0 := by rw [gset x j h, if_neg e]
theorem gext {k l : List Int} {n : Nat} (hk : k.length = n) (hl : l.length = n) (h : ∀ i, i < n → k.getD i 0 = l.getD i 0) : k = l := by
  refine List.ext_getElem (hk.trans hl.symm) fun i q1 q2 => ?_
  have := h i (by omega)
  rw [List.getD_eq_getElem?_getD, List.getD_eq_getElem?_getD, List.getElem?_eq_getElem q1, List.getElem?_eq_getElem q2] at this
  exact this
theorem idx_eq {l : List Nat} (h : l.Nodup) {i j x : Nat} (h1 : l[i]? = some x) (h2 : l[j]? = some x) : i = j := by
  obtain ⟨q1, e1⟩ := List.getElem?_eq_some_iff.1 h1
  obtain ⟨q2, e2⟩ := List.getElem?_eq_some_iff.1 h2
  exact (List.getElem_inj h).1 (e1.trans e2.symm)
theorem mem_idx {l : List Nat} {x : Nat} (h : x ∈ l) : ∃ i : Nat, l[i]? = some x := by
  obtain ⟨i, hi, e⟩ := List.mem_iff_getElem.1 h
  exact ⟨i, by rw [List.getElem?_eq_getElem hi, e]⟩
theorem mem_of {l : List Nat} {i x : Nat} (h : l[i]? = some x) : x ∈ l := List.mem_of_getElem? h
theorem few {R : List Nat} {n : Nat} (h1 : R.Nodup) (h2 : ∀ r ∈ R, r < n) : R.length ≤ n := by
  have := rel_le (fun a b => a = b) R (List.range n) h1 (fun a ha => ⟨a, List.mem_range.2 (h2 a ha), rfl⟩) fun a _ b _ x q r => q.trans r.symm
  rwa [List.length_range] at this
/-- By how much a place costs more than its prices. -/
def sl (c : Tb) (U V : List Int) (i j : Nat) : Int := ct c i j - U.getD i 0 - V.getD j 0
/-- Prices that are at most the costs, within bounds. -/
structure Fe (c : Tb) (n : Nat) (U V : List Int) : Prop where
  lu : U.length = n
  lv : V.length = n
  ge : ∀ i, i < n → ∀ j, j < n → 0 ≤ sl c U V i j
  bu : ∀ i, i < n → 0 ≤ U.getD i 0 ∧ U.getD i 0 ≤ 1099511627776
  bv : ∀ j, j < n → -1099511627776 ≤ V.getD j 0 ∧ V.getD j 0 ≤ 0
theorem Fe.ub {c : Tb} {n : Nat} {U V : List Int} (f : Fe c n U V) (hc : Okc c 1099511627776) {i j : Nat} (hi : i < n) (hj : j < n) : sl c U V i j ≤ 2199023255552 := by
  have h1 := f.bu i hi
  have h2 := f.bv j hj
  have h3 := hc i j
  unfold sl
  omega
/-- Rows and columns have each other, but for the row s and the column h. -/
structure Mh (n s h : Nat) (L H : List Int) : Prop where
  ll : L.length = n
  lh : H.length = n
  row : ∀ r, r < n → r ≠ s → L.getD r 0 = -1 ∨ ∃ j : Nat, j < n ∧ j ≠ h ∧ L.getD r 0 = j ∧ H.getD j 0 = r
  col : ∀ j, j < n → j ≠ h → H.getD j 0 = -1 ∨ ∃ r : Nat, r < n ∧ r ≠ s ∧ H.getD j 0 = r ∧ L.getD r 0 = j
section
variable {n s h : Nat} {L H : List Int}
theorem Mh.held (m : Mh n s h L H) {j r : Nat} (hj : j < n) (hjh : j ≠ h) (e : H.getD j 0 = (r : Int)) : r < n ∧ r ≠ s ∧ L.getD r 0 = (j : Int) := by
  rcases m.col j hj hjh with q | ⟨r', h1, h2, h3, h4⟩
  · omega
  · obtain rfl : r' = r := by omega
    exact ⟨h1, h2, h4⟩
theorem Mh.has (m : Mh n s h L H) {j r : Nat} (hr : r < n) (hrs : r ≠ s) (e : L.getD r 0 = (j : Int)) : j < n ∧ j ≠ h ∧ H.getD j 0 = (r : Int) := by
  rcases m.row r hr hrs with q | ⟨j', h1, h2, h3, h4⟩
  · omega
  · obtain rfl : j' = j := by omega
    exact ⟨h1, h2, h4⟩
/-- A row without a column is left out. -/
theorem Mh.leave (m : Mh n n n L H) {k : Nat} (hk : k < n) (e : L.getD k 0 = -1) : Mh n k n L H :=
  ⟨m.ll, m.lh, fun r hr _ => m.row r hr (by omega), fun j hj hjn => (m.col j hj hjn).imp id fun ⟨r, h1, _, h3, h4⟩ => ⟨r, h1, fun e2 => by subst e2; omega, h3, h4⟩⟩
/-- A column without a row is left out. -/
theorem Mh.hole (m : Mh n s n L H) {f : Nat} (e : H.getD f 0 = -1) : Mh n s f L H :=
  ⟨m.ll, m.lh, fun r hr hrs => (m.row r hr hrs).imp id fun ⟨j, h1, _, h3, h4⟩ => ⟨j, h1, fun e2 => by subst e2; omega, h3, h4⟩, fun j hj _ => m.col j hj (by omega)⟩
/-- The hole is handed on. -/
theorem Mh.next (m : Mh n s h L H) {q x : Nat} (hh : h < n) (hq : q < n) (hqs : q ≠ s) (e : L.getD q 0 = (x : Int)) : Mh n s x (L.set q h) (H.set h q) := by
  obtain ⟨x1, x2, x3⟩ := m.has hq hqs e
  have lq : q < L.length := by rw [m.ll]; exact hq
  have lh : h < H.length := by rw [m.lh]; exact hh
  refine ⟨by rw [List.length_set]; exact m.ll, by rw [List.length_set]; exact m.lh, fun r hr hrs => ?_, fun j hj hjx => ?_⟩
  · by_cases d : q = r
    · subst d
      exact .inr ⟨h, hh, fun e2 => x2 e2.symm, gset_of lq _, gset_of lh _⟩
    · rw [gset_ne _ lq d]
      refine (m.row r hr hrs).imp id fun ⟨j, h1, h2, h3, h4⟩ => ⟨j, h1, fun e2 => ?_, h3, ?_⟩
      · subst e2; omega
      · rw [gset_ne _ lh fun e2 => h2 e2.symm]; exact h4
  · by_cases d : h = j
    · subst d
      exact .inr ⟨q, hq, hqs, gset_of lh _, gset_of lq _⟩
    · rw [gset_ne _ lh d]
      refine (m.col j hj fun e2 => d e2.symm).imp id fun ⟨r, h1, h2, h3, h4⟩ => ⟨r, h1, h2, h3, ?_⟩
      rw [gset_ne _ lq fun e2 => by subst e2; omega]
      exact h4
/-- The last row gets the hole. -/
theorem Mh.last (m : Mh n s h L H) (hh : h < n) (hs : s < n) : Mh n n n (L.set s h) (H.set h s) := by
  have lq : s < L.length := by rw [m.ll]; exact hs
  have lh : h < H.length := by rw [m.lh]; exact hh
  refine ⟨by rw [List.length_set]; exact m.ll, by rw [List.length_set]; exact m.lh, fun r hr _ => ?_, fun j hj _ => ?_⟩
  · by_cases d : s = r
    · subst d
      exact .inr ⟨h, hh, by omega, gset_of lq _, gset_of lh _⟩
    · rw [gset_ne _ lq d]
      refine (m.row r hr fun e2 => d e2.symm).imp id fun ⟨j, h1, h2, h3, h4⟩ => ⟨j, h1, by omega, h3, ?_⟩
      rw [gset_ne _ lh fun e2 => h2 e2.symm]
      exact h4
  · by_cases d : h = j
    · subst d
      exact .inr ⟨s, hs, by omega, gset_of lh _, gset_of lq _⟩
    · rw [gset_ne _ lh d]
      refine (m.col j hj fun e2 => d e2.symm).imp id fun ⟨r, h1, h2, h3, h4⟩ => ⟨r, h1, by omega, h3, ?_⟩
      rw [gset_ne _ lq fun e2 => h2 e2.symm]
      exact h4
end
/-! ### The search -/
/-- What is reached from the row s. -/
structure Bb (n : Nat) (T : Nat → Nat → Prop) (H : List Int) (s fst : Nat) (R : List Nat) (F : List Int) : Prop where
  len : F.length = n
  hd : R[0]? = some s
  nd : R.Nodup
  lt : ∀ r ∈ R, r < n
  ge : ∀ r ∈ R, fst ≤ r
  back : ∀ (t r : Nat), R[t + 1]? = some r → ∃ j p q : Nat, j < n ∧ H.getD j 0 = (r : Int) ∧ F.getD j 0 = (q : Int) ∧ p ≤ t ∧ R[p]? = some q ∧ T q j
/-- .. and no free column among it. -/
structure Bf (n : Nat) (T : Nat → Nat → Prop) (H : List Int) (s fst : Nat) (R : List Nat) (F : List Int) : Prop where
  bb : Bb n T H s fst R F
  frm : ∀ j, j < n → F.getD j 0 = -1 ∨ ∃ r : Nat, H.getD j 0 = (r : Int) ∧ r ∈ R
/-- .. with a free column. -/
structure Sf (n : Nat) (T : Nat → Nat → Prop) (H : List Int) (s fst : Nat) (R : List Nat) (F : List Int) (free : Nat) : Prop where
  bb : Bb n T H s fst R F
  lt : free < n
  no : H.getD free 0 = -1
  at' : ∃ p q : Nat, F.getD free 0 = (q : Int) ∧ R[p]? = some q ∧ T q free
/-- The columns that one row leads to are reached. -/
def ClR (n : Nat) (T : Nat → Nat → Prop) (H : List Int) (fst : Nat) (F : List Int) (r m : Nat) : Prop := ∀ j, j < m → j < n → F.getD j 0 ≠ -1 ∨ ¬ T r j ∨ (H.getD j 0 ≠ -1 ∧ H.getD j 0 < (fst : Int))
def Clo (n : Nat) (T : Nat → Nat → Prop) (H : List Int) (fst : Nat) (R : List Nat) (F : List Int) (m : Nat) : Prop := ∀ k r : Nat, k < m → R[k]? = some r → ClR n T H fst F r n
section
variable {n : Nat} {T : Nat → Nat → Prop} {L H : List Int} {s fst : Nat} {R : List Nat} {F : List Int}
theorem bf_start {n : Nat} (T : Nat → Nat → Prop) (H : List Int) {s fst : Nat} (hs : s < n) (hf : fst ≤ s) : Bf n T H s fst [s] (List.replicate n (-1)) := by
  refine ⟨⟨List.length_replicate .., rfl, List.nodup_cons.2 ⟨List.not_mem_nil, List.nodup_nil⟩, fun r hr => ?_, fun r hr => ?_, fun t r h => ?_⟩, fun j hj => .inl ?_⟩
  · obtain rfl := List.mem_singleton.1 hr; exact hs
  · obtain rfl := List.mem_singleton.1 hr; exact hf
  · simp at h
  · rw [List.getD_eq_getElem?_getD, List.getElem?_replicate, if_pos hj]; rfl
theorem Bf.few (b : Bf n T H s fst R F) : R.length ≤ n := AsgP.few b.bb.nd b.bb.lt
theorem Bb.s_in (b : Bb n T H s fst R F) : s ∈ R := mem_of b.hd
theorem Bb.pos (b : Bb n T H s fst R F) : 0 < R.length := (List.getElem?_eq_some_iff.1 b.hd).1
/-- The holder of a column that is not reached is none of the rows. -/
theorem Bf.new (b : Bf n T H s fst R F) (m : Mh n s n L H) {j r : Nat} (hj : j < n) (h0 : F.getD j 0 = -1) (e : H.getD j 0 = (r : Int)) : r ∉ R := by
  intro hr
  obtain ⟨h1, h2, h3⟩ := m.held hj (by omega) e
  obtain ⟨t, ht⟩ := mem_idx hr
  cases t with
  | zero => rw [b.bb.hd] at ht; injection ht with ht; exact h2 ht.symm
  | succ t =>
    obtain ⟨j2, p, q, g1, g2, g3, _⟩ := b.bb.back t r ht
    obtain ⟨_, _, g4⟩ := m.held g1 (by omega) g2
    obtain rfl : j = j2 := by omega
    omega
/-- One column more, with its row. -/
theorem Bf.more (b : Bf n T H s fst R F) (m : Mh n s n L H) {j r p q : Nat} (hj : j < n) (h0 : F.getD j 0 = -1) (e : H.getD j 0 = (r : Int)) (hf : fst ≤ r) (hp : R[p]? = some q) (ht : T q j) : Bf n T H s fst (R ++ [r]) (F.set j q) := by
  have hn := b.new m hj h0 e
  have lj : j < F.length := by rw [b.bb.len]; exact hj
  refine ⟨⟨by rw [List.length_set]; exact b.bb.len, ?_, ?_, fun x hx => ?_, fun x hx => ?_, fun t x hx => ?_⟩, fun x hx => ?_⟩
  · rw [List.getElem?_append_left b.bb.pos]; exact b.bb.hd
  · exact List.nodup_append.2 ⟨b.bb.nd, List.nodup_cons.2 ⟨List.not_mem_nil, List.nodup_nil⟩, fun x hx y hy e2 => by
      obtain rfl := List.mem_singleton.1 hy; subst e2; exact hn hx⟩
  · rcases List.mem_append.1 hx with h | h
    · exact b.bb.lt x h
    · obtain rfl := List.mem_singleton.1 h; exact (m.held hj (by omega) e).1
  · rcases List.mem_append.1 hx with h | h
    · exact b.bb.ge x h
    · obtain rfl := List.mem_singleton.1 h; exact hf
  · have hp2 : p < R.length := (List.getElem?_eq_some_iff.1 hp).1
    by_cases d : t + 1 < R.length
    · rw [List.getElem?_append_left d] at hx
      obtain ⟨j2, p2, q2, g1, g2, g3, g4, g5, g6⟩ := b.bb.back t x hx
      refine ⟨j2, p2, q2, g1, g2, ?_, g4, ?_, g6⟩
      · rw [gset_ne _ lj fun e2 => by subst e2; omega]; exact g3
      · rw [List.getElem?_append_left (by omega)]; exact g5
    · have d2 : t + 1 < (R ++ [r]).length := (List.getElem?_eq_some_iff.1 hx).1
      rw [List.length_append, List.length_singleton] at d2
      rw [List.getElem?_append_right (by omega), show t + 1 - R.length = 0 by omega] at hx
      injection hx with hx
      subst hx
      exact ⟨j, p, q, hj, e, gset_of lj _, by omega, by rw [List.getElem?_append_left hp2]; exact hp, ht⟩
  · by_cases d : j = x
    · subst d
      exact .inr ⟨r, e, List.mem_append.2 (.inr (List.mem_singleton.2 rfl))⟩
    · rw [gset_ne _ lj d]
      exact (b.frm x hx).imp id fun ⟨y, h1, h2⟩ => ⟨y, h1, List.mem_append.2 (.inl h2)⟩
theorem ClR.more {j q : Nat} {m r : Nat} (c : ClR n T H fst F r m) (hj : j < F.length) : ClR n T H fst (F.set j (q : Nat)) r m := fun x hx hxn => by
  by_cases d : j = x
  · subst d
    rw [gset_of hj]
    exact .inl (by omega)
  · rw [gset_ne _ hj d]
    exact c x hx hxn
theorem Clo.more {j q m y : Nat} (c : Clo n T H fst R F m) (hj : j < F.length) (hm : m ≤ R.length) : Clo n T H fst (R ++ [y]) (F.set j (q : Nat)) m := fun k r hk hr => by
  rw [List.getElem?_append_left (by omega)] at hr
  exact (c k r hk hr).more hj
theorem ClR.next {r m : Nat} (c : ClR n T H fst F r m) (h : F.getD m 0 ≠ -1 ∨ ¬ T r m ∨ (H.getD m 0 ≠ -1 ∧ H.getD m 0 < (fst : Int))) : ClR n T H fst F r (m + 1) := fun x hx hxn => by
  by_cases d : x = m
  · subst d; exact h
  · exact c x (by omega) hxn
theorem Clo.next {m r : Nat} (c : Clo n T H fst R F m) (hr : R[m]? = some r) (h : ClR n T H fst F r n) : Clo n T H fst R F (m + 1) := fun k x hk hx => by
  by_cases d : k = m
  · subst d
    rw [hr] at hx
    injection hx with hx
    subst hx
    exact h
  · exact c k x (by omega) hx
/-- A free column is reached. -/
theorem Bf.found (b : Bf n T H s fst R F) {j p q : Nat} (hj : j < n) (e : H.getD j 0 = -1) (hp : R[p]? = some q) (ht : T q j) : Sf n T H s fst R (F.set j q) j := by
  have lj : j < F.length := by rw [b.bb.len]; exact hj
  refine ⟨⟨by rw [List.length_set]; exact b.bb.len, b.bb.hd, b.bb.nd, b.bb.lt, b.bb.ge, fun t r h => ?_⟩, hj, e, p, q, gset_of lj _, hp, ht⟩
  obtain ⟨j2, p2, q2, g1, g2, g3, g4, g5, g6⟩ := b.bb.back t r h
  exact ⟨j2, p2, q2, g1, g2, by rw [gset_ne _ lj fun e2 => by subst e2; omega]; exact g3, g4, g5, g6⟩
end
/-- What a search says: a free column, or none and everything closed. -/
def Sea (n : Nat) (T : Nat → Nat → Prop) (H : List Int) (s fst : Nat) (R : List Nat) (F : List Int) (f : Int) : Prop :=
  (f = -1 ∧ Bf n T H s fst R F ∧ Clo n T H fst R F R.length) ∨ ∃ free : Nat, f = free ∧ Sf n T H s fst R F free
/-! ### Columns handed on -/
/-- Before the column h is given to the row at p. -/
structure Sh (n : Nat) (T : Nat → Nat → Prop) (L0 H0 : List Int) (s : Nat) (R : List Nat) (F : List Int) (h p : Nat) (L H : List Int) : Prop where
  lt : h < n
  at' : ∃ q : Nat, F.getD h 0 = (q : Int) ∧ R[p]? = some q ∧ T q h
  mh : Mh n s h L H
  tg : ∀ r j : Nat, r < n → r ≠ s → L.getD r 0 = (j : Int) → T r j
  low : ∀ t r : Nat, t ≤ p → R[t]? = some r → L.getD r 0 = L0.getD r 0
  out : ∀ r, r < n → r ∉ R → L.getD r 0 = L0.getD r 0
  hz : ∀ j, j < n → H.getD j 0 = -1 → H0.getD j 0 = -1
  ps : ∀ r, r < n → r ≠ s → 0 ≤ L0.getD r 0 → 0 ≤ L.getD r 0
/-- All handed on. -/
structure Sd (n : Nat) (T : Nat → Nat → Prop) (L0 H0 : List Int) (s : Nat) (R : List Nat) (L H : List Int) : Prop where
  mh : Mh n n n L H
  tg : ∀ r j : Nat, r < n → L.getD r 0 = (j : Int) → T r j
  out : ∀ r, r < n → r ∉ R → L.getD r 0 = L0.getD r 0
  hz : ∀ j, j < n → H.getD j 0 = -1 → H0.getD j 0 = -1
  ps : ∀ r, r < n → (r = s ∨ 0 ≤ L0.getD r 0) → 0 ≤ L.getD r 0
section
variable {n : Nat} {T : Nat → Nat → Prop} {L H L0 H0 : List Int} {s fst : Nat} {R : List Nat} {F : List Int} {h p : Nat}
theorem sh_start {free : Nat} (f : Sf n T H0 s fst R F free) (m : Mh n s n L0 H0) (tg : ∀ r j : Nat, r < n → r ≠ s → L0.getD r 0 = (j : Int) → T r j) : ∃ p, Sh n T L0 H0 s R F free p L0 H0 := by
  obtain ⟨p, q, h1, h2, h3⟩ := f.at'
  exact ⟨p, f.lt, ⟨q, h1, h2, h3⟩, m.hole f.no, tg, fun _ _ _ _ => rfl, fun _ _ _ => rfl, fun _ _ e => e, fun _ _ _ e => e⟩
/-- One row gets the column, its own goes on. -/
theorem Sh.step (g : Sh n T L0 H0 s R F h p L H) (b : Bb n T H0 s fst R F) (m0 : Mh n s n L0 H0) {q : Nat} (hq : R[p]? = some q) (hqs : q ≠ s) : ∃ x p' : Nat, L.getD q 0 = (x : Int) ∧ p' < p ∧ Sh n T L0 H0 s R F x p' (L.set q h) (H.set h q) := by
  obtain ⟨q', e1, e2, e3⟩ := g.at'
  obtain rfl : q' = q := by rw [hq] at e2; injection e2 with e2; exact e2.symm
  have qn := b.lt _ (mem_of hq)
  cases p with
  | zero => rw [b.hd] at hq; injection hq with hq; exact absurd hq.symm hqs
  | succ t =>
    obtain ⟨x, p', q2, g1, g2, g3, g4, g5, g6⟩ := b.back t q' hq
    obtain ⟨_, _, lx0⟩ := m0.held g1 (by omega) g2
    have lx : L.getD q' 0 = (x : Int) := by rw [g.low (t + 1) q' (Nat.le_refl _) hq]; exact lx0
    have lq : q' < L.length := by rw [g.mh.ll]; exact qn
    have lh : h < H.length := by rw [g.mh.lh]; exact g.lt
    refine ⟨x, p', lx, by omega, g1, ⟨q2, g3, g5, g6⟩, g.mh.next g.lt qn hqs lx, fun r j hr hrs e => ?_, fun k r hk hr => ?_, fun r hr hrR => ?_, fun j hj e => ?_, fun r hr hrs e => ?_⟩
    · by_cases d : q' = r
      · subst d
        rw [gset_of lq] at e
        obtain rfl : h = j := by omega
        exact e3
      · rw [gset_ne _ lq d] at e
        exact g.tg r j hr hrs e
    · rw [gset_ne _ lq fun e => ?_]
      · exact g.low k r (by omega) hr
      · subst e
        have := idx_eq b.nd hr hq
        omega
    · rw [gset_ne _ lq fun e => hrR (by rw [← e]; exact mem_of hq)]
      exact g.out r hr hrR
    · by_cases d : h = j
      · subst d
        rw [gset_of lh] at e
        omega
      · rw [gset_ne _ lh d] at e
        exact g.hz j hj e
    · by_cases d : q' = r
      · subst d
        rw [gset_of lq]
        omega
      · rw [gset_ne _ lq d]
        exact g.ps r hr hrs e
theorem Sh.fin (g : Sh n T L0 H0 s R F h p L H) (hs : s < n) (hR : s ∈ R) (hq : R[p]? = some s) : Sd n T L0 H0 s R (L.set s h) (H.set h s) := by
  obtain ⟨q', e1, e2, e3⟩ := g.at'
  obtain rfl : q' = s := by rw [hq] at e2; injection e2 with e2; exact e2.symm
  have lq : q' < L.length := by rw [g.mh.ll]; exact hs
  have lh : h < H.length := by rw [g.mh.lh]; exact g.lt
  refine ⟨g.mh.last g.lt hs, fun r j hr e => ?_, fun r hr hrR => ?_, fun j hj e => ?_, fun r hr e => ?_⟩
  · by_cases d : q' = r
    · subst d
      rw [gset_of lq] at e
      obtain rfl : h = j := by omega
      exact e3
    · rw [gset_ne _ lq d] at e
      exact g.tg r j hr (fun e2 => d e2.symm) e
  · rw [gset_ne _ lq fun e => hrR (by rw [← e]; exact hR)]
    exact g.out r hr hrR
  · by_cases d : h = j
    · subst d
      rw [gset_of lh] at e
      omega
    · rw [gset_ne _ lh d] at e
      exact g.hz j hj e
  · by_cases d : q' = r
    · subst d
      rw [gset_of lq]
      omega
    · rw [gset_ne _ lq d]
      rcases e with e | e
      · exact absurd e.symm d
      · exact g.ps r hr (fun e2 => d e2.symm) e
end
end Go.Proofs.Ytfhdoeajoeaddaa.AsgP
