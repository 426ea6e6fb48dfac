/-
  Prices raised, one more row placed, and least columns row after row: why what comes out is the least assignment of least cost. No word of the program. Condition: none.
-/
import Derived.Test.YtfhdoeajoeaddaaAssignPlainF
namespace Go.Proofs.Ytfhdoeajoeaddaa.AsgP
open MchP (rel_le map_nodup PM Mx)
/-- No slack. -/
def Ti (c : Tb) (U V : List Int) (i j : Nat) : Prop := sl c U V i j ≤ 0
/-! ### Prices raised -/
/-- The least slack so far: of the rows before the m-th, and of the first x columns of that. -/
structure Lm (c : Tb) (U V : List Int) (n : Nat) (R : List Nat) (F : List Int) (m x : Nat) (b : Int) : Prop where
  le : ∀ k r : Nat, R[k]? = some r → ∀ j, j < n → (k < m ∨ (k = m ∧ j < x)) → F.getD j 0 = -1 → b ≤ sl c U V r j
  eq : b = 9223372036854775807 ∨ ∃ r ∈ R, ∃ j, j < n ∧ F.getD j 0 = -1 ∧ b = sl c U V r j
/-- Prices after they were raised by b. -/
structure Rai (n : Nat) (R : List Nat) (F : List Int) (b : Int) (U V U' V' : List Int) : Prop where
  lu : U'.length = n
  lv : V'.length = n
  u : ∀ i, i < n → U'.getD i 0 = U.getD i 0 + if i ∈ R then b else 0
  v : ∀ j, j < n → V'.getD j 0 = V.getD j 0 - if F.getD j 0 = -1 then 0 else b
section
variable {c : Tb} {n : Nat} {U V U' V' L H : List Int} {R : List Nat} {F : List Int} {b : Int} {s : Nat}
theorem Lm.start : Lm c U V n R F 0 0 9223372036854775807 := ⟨fun k r _ j _ h => by omega, .inl rfl⟩
theorem Lm.skip {m x : Nat} (l : Lm c U V n R F m x b) (h : F.getD x 0 ≠ -1) : Lm c U V n R F m (x + 1) b := ⟨fun k r hr j hj hk e => by
  by_cases d : j = x
  · subst d; exact absurd e h
  · exact l.le k r hr j hj (by omega) e, l.eq⟩
theorem Lm.take {m x r : Nat} (l : Lm c U V n R F m x b) (hr : R[m]? = some r) (hx : x < n) (h : F.getD x 0 = -1) : Lm c U V n R F m (x + 1) (min b (sl c U V r x)) := by
  refine ⟨fun k r' hr' j hj hk e => ?_, ?_⟩
  · by_cases d : k = m ∧ j = x
    · obtain ⟨rfl, rfl⟩ := d
      rw [hr] at hr'
      injection hr' with hr'
      subst hr'
      omega
    · have := l.le k r' hr' j hj (by omega) e
      omega
  · by_cases d : b ≤ sl c U V r x
    · rw [show min b (sl c U V r x) = b by omega]; exact l.eq
    · exact .inr ⟨r, mem_of hr, x, hx, h, by omega⟩
theorem Lm.row {m : Nat} (l : Lm c U V n R F m n b) : Lm c U V n R F (m + 1) 0 b := ⟨fun k r hr j hj hk e => l.le k r hr j hj (by omega) e, l.eq⟩
/-- All seen: b is a slack, and the least. -/
theorem Lm.all (l : Lm c U V n R F R.length 0 b) (f : Fe c n U V) (hc : Okc c 1099511627776) (hR : ∀ r ∈ R, r < n) (h0 : 0 < R.length) {j : Nat} (hj : j < n) (e : F.getD j 0 = -1) : (∃ r ∈ R, ∃ j, j < n ∧ F.getD j 0 = -1 ∧ b = sl c U V r j) ∧ ∀ r ∈ R, ∀ j, j < n → F.getD j 0 = -1 → b ≤ sl c U V r j := by
  have key : ∀ r ∈ R, ∀ j, j < n → F.getD j 0 = -1 → b ≤ sl c U V r j := fun r hr j hj e => by
    obtain ⟨k, hk⟩ := mem_idx hr
    exact l.le k r hk j hj (.inl (List.getElem?_eq_some_iff.1 hk).1) e
  refine ⟨l.eq.resolve_left fun q => ?_, key⟩
  have h1 := key R[0] (List.getElem_mem h0) j hj e
  have h2 := f.ub hc (hR _ (List.getElem_mem h0)) hj
  omega
/-- Between reached rows and reached columns nothing turns. -/
theorem Rai.same (a : Rai n R F b U V U' V') {i j : Nat} (hi : i < n) (hj : j < n) (h : i ∈ R ↔ F.getD j 0 ≠ -1) : sl c U' V' i j = sl c U V i j := by
  unfold sl
  rw [a.u i hi, a.v j hj]
  by_cases d : i ∈ R
  · rw [if_pos d, if_neg (h.1 d)]; omega
  · rw [if_neg d, if_pos (Classical.not_not.1 fun e => d (h.2 e))]; omega
/-- What a search without a free column says of the rows' columns. -/
theorem Bf.both {T : Nat → Nat → Prop} {fst : Nat} (g : Bf n T H s fst R F) (m : Mh n s n L H) {r j : Nat} (hr : r < n) (hrs : r ≠ s) (e : L.getD r 0 = (j : Int)) : r ∈ R ↔ F.getD j 0 ≠ -1 := by
  obtain ⟨h1, h2, h3⟩ := m.has hr hrs e
  constructor
  · intro q
    obtain ⟨t, ht⟩ := mem_idx q
    cases t with
    | zero => rw [g.bb.hd] at ht; injection ht with ht; exact absurd ht.symm hrs
    | succ t =>
      obtain ⟨j2, p, q, g1, g2, g3, _⟩ := g.bb.back t r ht
      obtain ⟨_, _, g4⟩ := m.held g1 (by omega) g2
      obtain rfl : j = j2 := by omega
      omega
  · intro q
    rcases g.frm j h1 with e2 | ⟨r', e2, e3⟩
    · exact absurd e2 q
    · obtain rfl : r = r' := by omega
      exact e3
/-- Raised prices are prices. -/
theorem Rai.fe (a : Rai n R F b U V U' V') (f : Fe c n U V) (hc : Okc c 1099511627776) (g : Bf n (Ti c U V) H s 0 R F) (m : Mh n s n L H) (tg : ∀ r j : Nat, r < n → r ≠ s → L.getD r 0 = (j : Int) → Ti c U V r j)
    (hb : 0 ≤ b) (hl : ∀ r ∈ R, ∀ j, j < n → F.getD j 0 = -1 → b ≤ sl c U V r j) {j0 : Nat} (hj0 : j0 < n) (z0 : H.getD j0 0 = -1) (z : ∀ j, j < n → H.getD j 0 = -1 → V.getD j 0 = 0) :
    Fe c n U' V' ∧ (∀ j, j < n → H.getD j 0 = -1 → V'.getD j 0 = 0) ∧ ∀ r j : Nat, r < n → r ≠ s → L.getD r 0 = (j : Int) → Ti c U' V' r j := by
  have un : ∀ j, j < n → H.getD j 0 = -1 → F.getD j 0 = -1 := fun j hj e => (g.frm j hj).resolve_right fun ⟨r, h1, _⟩ => by omega
  have ge : ∀ i, i < n → ∀ j, j < n → 0 ≤ sl c U' V' i j := fun i hi j hj => by
    have h0 := f.ge i hi j hj
    unfold sl at h0 ⊢
    rw [a.u i hi, a.v j hj]
    by_cases d1 : i ∈ R <;> by_cases d2 : F.getD j 0 = -1
    · have := hl i d1 j hj d2
      unfold sl at this
      rw [if_pos d1, if_pos d2]; omega
    · rw [if_pos d1, if_neg d2]; omega
    · rw [if_neg d1, if_pos d2]; omega
    · rw [if_neg d1, if_neg d2]; omega
  have z' : ∀ j, j < n → H.getD j 0 = -1 → V'.getD j 0 = 0 := fun j hj e => by
    rw [a.v j hj, if_pos (un j hj e), z j hj e]; rfl
  have tg' : ∀ r j : Nat, r < n → r ≠ s → L.getD r 0 = (j : Int) → Ti c U' V' r j := fun r j hr hrs e => by
    unfold Ti
    rw [a.same hr (m.has hr hrs e).1 (g.both m hr hrs e)]
    exact tg r j hr hrs e
  have bu : ∀ i, i < n → 0 ≤ U'.getD i 0 ∧ U'.getD i 0 ≤ 1099511627776 := fun i hi => by
    have h1 := ge i hi j0 hj0
    have h2 := hc i j0
    have h3 := z' j0 hj0 z0
    have h4 := f.bu i hi
    have h5 := a.u i hi
    unfold sl at h1
    refine ⟨?_, by omega⟩
    rw [h5]
    split <;> omega
  refine ⟨⟨a.lu, a.lv, ge, bu, fun j hj => ?_⟩, z', tg'⟩
  rcases m.col j hj (by omega) with e | ⟨r, h1, h2, h3, h4⟩
  · rw [z' j hj e]; omega
  · have t1 := tg' r j h1 h2 h4
    have t2 := bu r h1
    have t3 := hc r j
    have t4 := a.v j hj
    have t5 := f.bv j hj
    unfold Ti sl at t1
    refine ⟨by omega, ?_⟩
    rw [t4]
    split <;> omega
/-- After prices were raised a search without a free column reaches more. -/
theorem Rai.far (a : Rai n R F b U V U' V') (g : Bf n (Ti c U V) H s 0 R F) (m : Mh n s n L H) (he : ∃ r ∈ R, ∃ j, j < n ∧ F.getD j 0 = -1 ∧ b = sl c U V r j)
    {R' : List Nat} {F' : List Int} (g' : Bf n (Ti c U' V') H s 0 R' F') (k' : Clo n (Ti c U' V') H 0 R' F' R'.length) : R.length < R'.length := by
  have reach : ∀ q ∈ R', ∀ j, j < n → Ti c U' V' q j → ∃ r : Nat, H.getD j 0 = (r : Int) ∧ r ∈ R' := fun q hq j hj ht => by
    obtain ⟨k, hk⟩ := mem_idx hq
    rcases k' k q (List.getElem?_eq_some_iff.1 hk).1 hk j hj hj with e | e | ⟨e1, e2⟩
    · exact (g'.frm j hj).resolve_left e
    · exact absurd ht e
    · rcases m.col j hj (by omega) with h | ⟨r, _, _, h, _⟩ <;> omega
  have sub : ∀ t r : Nat, R[t]? = some r → r ∈ R' := by
    intro t
    induction t using Nat.strongRecOn with
    | ind t ih =>
      intro r hr
      cases t with
      | zero => rw [g.bb.hd] at hr; injection hr with hr; rw [← hr]; exact g'.bb.s_in
      | succ t =>
        obtain ⟨j, p, q, h1, h2, h3, h4, h5, h6⟩ := g.bb.back t r hr
        have qn := g.bb.lt q (mem_of h5)
        have ht : Ti c U' V' q j := by
          unfold Ti
          rw [a.same qn h1 ⟨fun _ => by omega, fun _ => mem_of h5⟩]
          exact h6
        obtain ⟨r', e1, e2⟩ := reach q (ih p (by omega) q h5) j h1 ht
        obtain rfl : r = r' := by omega
        exact e2
  obtain ⟨i, hi, j, hj, h0, hb⟩ := he
  obtain ⟨ti, hti⟩ := mem_idx hi
  have ht : Ti c U' V' i j := by
    have := g.bb.lt i hi
    unfold Ti sl
    rw [a.u i this, a.v j hj, if_pos hi, if_pos h0]
    unfold sl at hb
    omega
  obtain ⟨x, e1, e2⟩ := reach i (sub ti i hti) j hj ht
  have hx := g.new m hj h0 e1
  have := rel_le (fun a b : Nat => a = b) (x :: R) R' (List.nodup_cons.2 ⟨hx, g.bb.nd⟩) (fun y hy => by
    rcases List.mem_cons.1 hy with rfl | hy
    · exact ⟨_, e2, rfl⟩
    · obtain ⟨k, hk⟩ := mem_idx hy
      exact ⟨_, sub k y hk, rfl⟩) fun a _ b _ x q r => q.trans r.symm
  rw [List.length_cons] at this
  omega
end
/-! ### Rows placed -/
/-- The first k rows have columns. -/
structure Pc (c : Tb) (n k : Nat) (U V L H : List Int) : Prop where
  fe : Fe c n U V
  mh : Mh n n n L H
  tg : ∀ r j : Nat, r < n → L.getD r 0 = (j : Int) → Ti c U V r j
  on : ∀ r, r < k → r < n → 0 ≤ L.getD r 0
  off : ∀ r, k ≤ r → r < n → L.getD r 0 = -1
  z : ∀ j, j < n → H.getD j 0 = -1 → V.getD j 0 = 0
section
variable {c : Tb} {n k : Nat} {U V U' V' L H L' H' : List Int} {R : List Nat} {F : List Int} {b : Int} {s : Nat}
theorem rep_at {n i : Nat} {x : Int} (h : i < n) : (List.replicate n x).getD i 0 = x := by rw [List.getD_eq_getElem?_getD, List.getElem?_replicate, if_pos h]; rfl
theorem Pc.start (hc : Okc c 1099511627776) (n : Nat) : Pc c n 0 (List.replicate n 0) (List.replicate n 0) (List.replicate n (-1)) (List.replicate n (-1)) := by
  have ll : ∀ x : Int, (List.replicate n x).length = n := fun x => List.length_replicate ..
  refine ⟨⟨ll 0, ll 0, fun i hi j hj => ?_, fun i hi => ?_, fun j hj => ?_⟩, ⟨ll _, ll _, fun r hr _ => .inl (rep_at hr), fun j hj _ => .inl (rep_at hj)⟩, fun r j hr e => ?_, fun r hr => absurd hr (by omega), fun r _ hr => rep_at hr, fun j hj _ => rep_at hj⟩
  · unfold sl
    rw [rep_at hi, rep_at hj]
    have := hc i j
    omega
  · rw [rep_at hi]; omega
  · rw [rep_at hj]; omega
  · rw [rep_at hr] at e; omega
theorem Pc.free (p : Pc c n k U V L H) (hk : k < n) : ∃ j, j < n ∧ H.getD j 0 = -1 := by
  refine Classical.byContradiction fun hne => ?_
  have := rel_le (fun j r : Nat => H.getD j 0 = (r : Int)) (List.range n) (List.range k) List.nodup_range (fun j hj => by
    have hj := List.mem_range.1 hj
    rcases p.mh.col j hj (by omega) with e | ⟨r, h1, _, h3, h4⟩
    · exact absurd ⟨j, hj, e⟩ hne
    · refine ⟨r, List.mem_range.2 ?_, h3⟩
      rcases Nat.lt_or_ge r k with q | q
      · exact q
      · have := p.off r q h1; omega) (fun j hj j2 hj2 r e1 e2 => by
    have a1 := (p.mh.held (List.mem_range.1 hj) (by have := List.mem_range.1 hj; omega) e1).2.2
    have a2 := (p.mh.held (List.mem_range.1 hj2) (by have := List.mem_range.1 hj2; omega) e2).2.2
    omega)
  rw [List.length_range, List.length_range] at this
  omega
/-- While the row k is being placed. -/
structure Pw (c : Tb) (n k : Nat) (U V L H : List Int) : Prop where
  fe : Fe c n U V
  mh : Mh n k n L H
  tg : ∀ r j : Nat, r < n → r ≠ k → L.getD r 0 = (j : Int) → Ti c U V r j
  on : ∀ r, r < k → r < n → 0 ≤ L.getD r 0
  off : ∀ r, k ≤ r → r < n → L.getD r 0 = -1
  z : ∀ j, j < n → H.getD j 0 = -1 → V.getD j 0 = 0
  fr : ∃ j, j < n ∧ H.getD j 0 = -1
theorem Pc.begin (p : Pc c n k U V L H) (hk : k < n) : Pw c n k U V L H := ⟨p.fe, p.mh.leave hk (p.off k (Nat.le_refl _) hk), fun r j hr _ => p.tg r j hr, p.on, p.off, p.z, p.free hk⟩
theorem Pw.raise (p : Pw c n k U V L H) (hc : Okc c 1099511627776) (g : Bf n (Ti c U V) H k 0 R F) (a : Rai n R F b U V U' V') (l : Lm c U V n R F R.length 0 b) : Pw c n k U' V' L H ∧ ∃ r ∈ R, ∃ j, j < n ∧ F.getD j 0 = -1 ∧ b = sl c U V r j := by
  obtain ⟨j0, h1, h2⟩ := p.fr
  have un : F.getD j0 0 = -1 := (g.frm j0 h1).resolve_right fun ⟨r, h1, _⟩ => by omega
  obtain ⟨e1, e2⟩ := l.all p.fe hc g.bb.lt g.bb.pos h1 un
  have hb : 0 ≤ b := by
    obtain ⟨r, hr, j, hj, _, e⟩ := e1
    rw [e]
    exact p.fe.ge r (g.bb.lt r hr) j hj
  obtain ⟨f1, f2, f3⟩ := a.fe p.fe hc g p.mh p.tg hb e2 h1 h2 p.z
  exact ⟨⟨f1, p.mh, f3, p.on, p.off, f2, p.fr⟩, e1⟩
theorem Pw.done (p : Pw c n k U V L H) (g : Sd n (Ti c U V) L H k R L' H') (hR : ∀ r ∈ R, r = k ∨ 0 ≤ L.getD r 0) : Pc c n (k + 1) U V L' H' := by
  refine ⟨p.fe, g.mh, g.tg, fun r hr hn => g.ps r hn ?_, fun r hr hn => ?_, fun j hj e => p.z j hj (g.hz j hj e)⟩
  · by_cases d : r = k
    · exact .inl d
    · exact .inr (p.on r (by omega) hn)
  · have h0 := p.off r (by omega) hn
    rw [g.out r hn fun q => ?_]
    · exact h0
    · rcases hR r q with e | e <;> omega
theorem Bb.rows {T : Nat → Nat → Prop} {fst : Nat} (g : Bb n T H s fst R F) (m : Mh n s n L H) : ∀ r ∈ R, r = s ∨ 0 ≤ L.getD r 0 := fun r hr => by
  obtain ⟨t, ht⟩ := mem_idx hr
  cases t with
  | zero => rw [g.hd] at ht; injection ht with ht; exact .inl ht.symm
  | succ t =>
    obtain ⟨j2, p, q, g1, g2, g3, _⟩ := g.back t r ht
    have := (m.held g1 (by omega) g2).2.2
    exact .inr (by omega)
end
/-! ### Least columns -/
/-- All rows have columns, without slack. -/
structure Pf (c : Tb) (n : Nat) (U V L H : List Int) : Prop where
  fe : Fe c n U V
  mh : Mh n n n L H
  tg : ∀ r j : Nat, r < n → L.getD r 0 = (j : Int) → Ti c U V r j
  on : ∀ r, r < n → 0 ≤ L.getD r 0
/-- No assignment without slack has the columns of L in the rows before i, and j in the row i. -/
def Nx (c : Tb) (U V : List Int) (n : Nat) (L : List Int) (i j : Nat) : Prop := ∀ l, IsA n l → (∀ r, r < n → Ti c U V r (cl l r)) → (∀ r, r < i → l.getD r 0 = L.getD r 0) → l.getD i 0 ≠ (j : Int)
section
variable {c : Tb} {n k : Nat} {U V L H L' H' : List Int} {R : List Nat} {F : List Int} {i j : Nat}
theorem Pc.full (p : Pc c n n U V L H) : Pf c n U V L H := ⟨p.fe, p.mh, p.tg, fun r hr => p.on r hr hr⟩
theorem Pf.at (p : Pf c n U V L H) {r : Nat} (hr : r < n) : ∃ j : Nat, j < n ∧ L.getD r 0 = (j : Int) ∧ H.getD j 0 = (r : Int) := by
  rcases p.mh.row r hr (by omega) with e | ⟨j, h1, _, h3, h4⟩
  · have := p.on r hr; omega
  · exact ⟨j, h1, h3, h4⟩
theorem Pf.asg (p : Pf c n U V L H) : IsA n L := by
  refine isA_mk p.mh.ll fun a ha => ?_
  obtain ⟨j, h1, h2, h3⟩ := p.at ha
  refine ⟨by omega, fun b hb e => ?_⟩
  obtain ⟨j2, g1, g2, g3⟩ := p.at (r := b) (by omega)
  obtain rfl : j = j2 := by omega
  omega
theorem Pf.col (p : Pf c n U V L H) {j : Nat} (hj : j < n) : ∃ r : Nat, r < n ∧ H.getD j 0 = (r : Int) ∧ L.getD r 0 = (j : Int) := by
  obtain ⟨r, hr, e⟩ := p.asg.onto hj
  obtain ⟨j2, h1, h2, h3⟩ := p.at hr
  have : j2 = j := by unfold cl at e; omega
  subst this
  exact ⟨r, hr, h3, h2⟩
theorem cl_of {l : List Int} {r j : Nat} (h : l.getD r 0 = (j : Int)) : cl l r = j := by unfold cl; omega
theorem nx_taken (p : Pf c n U V L H) {h : Nat} (hi : i < n) (hj : j < n) (e : H.getD j 0 = (h : Int)) (hh : h < i) : Nx c U V n L i j := fun l hl _ hb e2 => by
  have h1 := (p.mh.held hj (by omega) e).2.2
  have h2 := hb h hh
  have := hl.inj (i := h) (j := i) (by omega) hi (by rw [cl_of e2, cl_of (h2.trans h1)])
  omega
theorem nx_slack (hi : i < n) (h : ¬ Ti c U V i j) : Nx c U V n L i j := fun l _ ht _ e => h (by have := ht i hi; rwa [cl_of e] at this)
/-- What stands before the search for a lesser column. -/
theorem Pf.try (p : Pf c n U V L H) {h old : Nat} (hi : i < n) (hj : j < n) (e : H.getD j 0 = (h : Int)) (eo : L.getD i 0 = (old : Int)) (hjo : j ≠ old) : h < n ∧ h ≠ i ∧ old < n ∧ Mh n h n (L.set i j) ((H.set j i).set old (-1)) ∧ (((H.set j i).set old (-1)).getD old 0 = -1) := by
  obtain ⟨h1, h2, h3⟩ := p.mh.held hj (by omega) e
  obtain ⟨o1, o2, o3⟩ := p.mh.has hi (by omega) eo
  have hne : h ≠ i := fun e2 => by subst e2; omega
  have li : i < L.length := by rw [p.mh.ll]; exact hi
  have lj : j < H.length := by rw [p.mh.lh]; exact hj
  have lo : old < (H.set j i).length := by rw [List.length_set, p.mh.lh]; exact o1
  refine ⟨h1, hne, o1, ⟨by rw [List.length_set]; exact p.mh.ll, by rw [List.length_set, List.length_set]; exact p.mh.lh, fun r hr hrh => ?_, fun x hx _ => ?_⟩, gset_of lo _⟩
  · by_cases d : i = r
    · subst d
      exact .inr ⟨j, hj, by omega, gset_of li _, by rw [gset_ne _ lo fun q => hjo q.symm, gset_of lj]⟩
    · rw [gset_ne _ li d]
      refine (p.mh.row r hr (by omega)).imp id fun ⟨y, y1, y2, y3, y4⟩ => ⟨y, y1, y2, y3, ?_⟩
      rw [gset_ne _ lo fun q => ?_, gset_ne _ lj fun q => ?_]
      · exact y4
      · subst q; omega
      · subst q; omega
  · by_cases d1 : old = x
    · subst d1; exact .inl (gset_of lo _)
    · rw [gset_ne _ lo d1]
      by_cases d2 : j = x
      · subst d2
        exact .inr ⟨i, hi, fun q => hne q.symm, gset_of lj _, gset_of li _⟩
      · rw [gset_ne _ lj d2]
        refine (p.mh.col x hx (by omega)).imp id fun ⟨r, r1, r2, r3, r4⟩ => ⟨r, r1, fun q => ?_, r3, ?_⟩
        · subst q; omega
        · rw [gset_ne _ li fun q => ?_]
          · exact r4
          · subst q; omega
/-- No free column: no such assignment. -/
theorem Pf.nx (p : Pf c n U V L H) {h old : Nat} (hi : i < n) (hj : j < n) (e : H.getD j 0 = (h : Int)) (eo : L.getD i 0 = (old : Int)) (hjo : j ≠ old)
    (g : Bf n (Ti c U V) ((H.set j i).set old (-1)) h (i + 1) R F) (k : Clo n (Ti c U V) ((H.set j i).set old (-1)) (i + 1) R F R.length) : Nx c U V n L i j := fun l hl ht hb e2 => by
  obtain ⟨h1, hne, o1, m, _⟩ := p.try hi hj e eo hjo
  have li : i < L.length := by rw [p.mh.ll]; exact hi
  generalize (H.set j i).set old (-1) = H1 at *
  have same : ∀ r, r < i + 1 → (L.set i j).getD r 0 = l.getD r 0 := fun r hr => by
    by_cases d : i = r
    · subst d; rw [gset_of li, e2]
    · rw [gset_ne _ li d, hb r (by omega)]
  have key : ∀ r ∈ R, ∃ r' : Nat, H1.getD (cl l r) 0 = (r' : Int) ∧ r' ∈ R ∧ r' ≠ h := fun r hr => by
    have rn := g.bb.lt r hr
    have xn := hl.lt rn
    obtain ⟨t, ht2⟩ := mem_idx hr
    rcases k t r (List.getElem?_eq_some_iff.1 ht2).1 ht2 _ xn xn with q | q | ⟨q1, q2⟩
    · obtain ⟨r', s1, s2⟩ := (g.frm _ xn).resolve_left q
      exact ⟨r', s1, s2, (m.held xn (by omega) s1).2.1⟩
    · exact absurd (ht r rn) q
    · exfalso
      rcases m.col _ xn (by omega) with w | ⟨y, y1, y2, y3, y4⟩
      · exact q1 w
      · have hy : y < i + 1 := by omega
        have := same y hy
        have := hl.inj y1 rn (by rw [cl_of (show l.getD y 0 = ((cl l r : Nat) : Int) by omega)])
        have := g.bb.ge r hr
        omega
  have := rel_le (fun r r' : Nat => H1.getD (cl l r) 0 = (r' : Int)) R (R.erase h) g.bb.nd (fun r hr => by
    obtain ⟨r', s1, s2, s3⟩ := key r hr
    exact ⟨r', (List.mem_erase_of_ne s3).2 s2, s1⟩) (fun a ha b hb x q1 q2 => by
    have an := g.bb.lt a ha
    have bn := g.bb.lt b hb
    have := (m.held (hl.lt an) (by have := hl.lt an; omega) q1).2.2
    have := (m.held (hl.lt bn) (by have := hl.lt bn; omega) q2).2.2
    exact hl.inj an bn (by omega))
  rw [List.length_erase_of_mem g.bb.s_in] at this
  have := g.bb.pos
  omega
/-- Put back. -/
theorem Pf.back (p : Pf c n U V L H) {h old : Nat} (hi : i < n) (hj : j < n) (e : H.getD j 0 = (h : Int)) (eo : L.getD i 0 = (old : Int)) : ((L.set i j).set i old).set h j = L ∧ ((((H.set j i).set old (-1)).set old i).set j h) = H := by
  obtain ⟨h1, h2, h3⟩ := p.mh.held hj (by omega) e
  obtain ⟨o1, o2, o3⟩ := p.mh.has hi (by omega) eo
  have hl := p.mh.ll
  have hh := p.mh.lh
  refine ⟨gext (n := n) (by simp [hl]) hl fun x hx => ?_, gext (n := n) (by simp [hh]) hh fun x hx => ?_⟩
  · rw [gset _ _ (by simp [hl]; omega), gset _ _ (by simp [hl]; omega), gset _ _ (by omega)]
    split
    · next q => subst q; omega
    · split
      · next q => subst q; omega
      · rfl
  · rw [gset _ _ (by simp [hh]; omega), gset _ _ (by simp [hh]; omega), gset _ _ (by simp [hh]; omega), gset _ _ (by omega)]
    split
    · next q => subst q; omega
    · split
      · next q => subst q; omega
      · rfl
/-- A free column: the row gets the lesser one. -/
theorem Pf.lower (p : Pf c n U V L H) {h old free : Nat} (hi : i < n)
    (g : Sf n (Ti c U V) ((H.set j i).set old (-1)) h (i + 1) R F free) (d : Sd n (Ti c U V) (L.set i j) ((H.set j i).set old (-1)) h R L' H') : Pf c n U V L' H' ∧ (∀ r, r < i → L'.getD r 0 = L.getD r 0) ∧ L'.getD i 0 = (j : Int) := by
  have li : i < L.length := by rw [p.mh.ll]; exact hi
  refine ⟨⟨p.fe, d.mh, d.tg, fun r hr => d.ps r hr (.inr ?_)⟩, fun r hr => ?_, ?_⟩
  · by_cases q : i = r
    · subst q; rw [gset_of li]; omega
    · rw [gset_ne _ li q]; exact p.on r hr
  · rw [d.out r (by omega) fun q => by have := g.bb.ge r q; omega, gset_ne _ li (by omega)]
  · rw [d.out i hi fun q => by have := g.bb.ge i q; omega, gset_of li]
/-- The lists before the search have no slack but at the row that has lost its column. -/
theorem Pf.tight (p : Pf c n U V L H) {h : Nat} (hi : i < n) (t : Ti c U V i j) : ∀ r x : Nat, r < n → r ≠ h → (L.set i j).getD r 0 = (x : Int) → Ti c U V r x := fun r x hr _ e => by
  have li : i < L.length := by rw [p.mh.ll]; exact hi
  by_cases q : i = r
  · subst q
    rw [gset_of li] at e
    obtain rfl : j = x := by omega
    exact t
  · rw [gset_ne _ li q] at e
    exact p.tg r x hr e
/-- The least assignment of least cost. -/
theorem Pf.best (p : Pf c n U V L H) (hn : c.length = n) (h : ∀ i, i < n → ∀ j : Nat, (j : Int) < L.getD i 0 → Nx c U V n L i j) : Bst c L (cost c L) ∧ prs U V n = cost c L := by
  subst hn
  have a := p.asg
  have pr : Pr c U V := ⟨p.fe.lu, p.fe.lv, fun i hi j hj => by have := p.fe.ge i hi j hj; unfold sl at this; omega⟩
  have eqt : ∀ l, IsA c.length l → (∀ r, r < c.length → Ti c U V r (cl l r)) → ∀ i, i < c.length → U.getD i 0 + V.getD (cl l i) 0 = ct c i (cl l i) := fun l hl ht i hi => by
    have h1 := ht i hi
    have h2 := p.fe.ge i hi _ (hl.lt hi)
    unfold Ti at h1
    unfold sl at h1 h2
    omega
  have tL : ∀ r, r < c.length → Ti c U V r (cl L r) := fun r hr => by
    obtain ⟨j, h1, h2, h3⟩ := p.at hr
    rw [cl_of h2]
    exact p.tg r j hr h2
  have ec := pr.least a (eqt L a tL)
  refine ⟨⟨a, rfl, fun l hl => ?_, fun l hl e => fun i hi hb => ?_⟩, ec.symm⟩
  · rw [ec]; exact pr.weak hl
  · have tl : ∀ r, r < c.length → Ti c U V r (cl l r) := fun r hr => by
      have := pr.tight hl (by rw [e, ec]) r hr
      unfold Ti sl
      omega
    refine Int.not_lt.1 fun q => ?_
    have h0 := (hl.at hi).1
    exact h i hi (l.getD i 0).toNat (by omega) l hl tl (fun r hr => (hb r hr).symm) (by omega)
/-- The prices alone. -/
theorem Pf.sum (p : Pf c n U V L H) (hn : c.length = n) {M : List Int} {m : Int} (h : Bst c M m) : prs U V n = m := by
  subst hn
  have a := p.asg
  have pr : Pr c U V := ⟨p.fe.lu, p.fe.lv, fun i hi j hj => by have := p.fe.ge i hi j hj; unfold sl at this; omega⟩
  have ec := pr.least a fun i hi => by
    obtain ⟨j, h1, h2, h3⟩ := p.at hi
    have t1 := p.tg i j hi h2
    have t2 := p.fe.ge i hi j h1
    rw [cl_of h2]
    unfold Ti at t1
    unfold sl at t1 t2
    omega
  have h1 := h.le L a
  have h2 := pr.weak h.asg
  have := h.eq
  omega
end
end Go.Proofs.Ytfhdoeajoeaddaa.AsgP
