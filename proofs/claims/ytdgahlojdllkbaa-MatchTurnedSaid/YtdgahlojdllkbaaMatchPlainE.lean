/-
  A matching enlarged by paths that are looked for in breadth: what the search leaves, how the columns change their rows. No word of the program. Condition: none.
-/
import Derived.Test.YtdgahlojdllkbaaMatchPlainC
namespace Go.Proofs.Ytdgahlojdllkbaa.MchP
/-- The rows of the columns: each allowed, none twice. -/
structure Ow (P : Nat → Nat → Prop) (W : Nat) (o : List Int) : Prop where
  len : o.length = W
  ok : ∀ (c : Nat) x, o[c]? = some x → x = -1 ∨ ∃ r : Nat, x = (r : Int) ∧ P r c
  one : ∀ c d r : Nat, o[c]? = some (r : Int) → o[d]? = some (r : Int) → c = d
section
variable {P : Nat → Nat → Prop} {W : Nat} {o : List Int}
theorem Ow.mem (h : Ow P W o) {r c : Nat} : (r, c) ∈ swp (edg o) ↔ o[c]? = some (r : Int) := by
  rw [mem_swp, mem_edg]
  constructor
  · rintro ⟨x, h1, h2, rfl⟩
    rcases h.ok c x h1 with e | ⟨r, rfl, _⟩
    · exact absurd e h2
    · exact h1
  · exact fun h1 => ⟨_, h1, by omega, rfl⟩
theorem Ow.pm (h : Ow P W o) : PM P (swp (edg o)) := by
  refine ⟨map_nodup (edg_nodup o) fun a _ b _ e => ?_, ?_, ?_, ?_⟩
  · injection e with e1 e2
    exact Prod.ext e2 e1
  · rintro ⟨i, c⟩ ha ⟨j, d⟩ hb rfl
    rw [h.mem] at ha hb
    exact Prod.ext rfl (h.one c d i ha hb)
  · rintro ⟨i, c⟩ ha ⟨j, d⟩ hb rfl
    rw [h.mem] at ha hb
    simp only at ha hb
    rw [ha] at hb
    injection hb with hb
    exact Prod.ext (by simp only; omega) rfl
  · rintro ⟨i, c⟩ ha
    rw [h.mem] at ha
    rcases h.ok c _ ha with e | ⟨d, e, h2⟩
    · omega
    · obtain rfl : i = d := by omega
      exact h2
theorem ow_zero (P : Nat → Nat → Prop) (W : Nat) : Ow P W (List.replicate W (-1)) ∧ sz (List.replicate W (-1)) = 0 := by
  have hn : ∀ (c : Nat) x, (List.replicate W (-1 : Int))[c]? = some x → x = -1 := fun c x h => by
    rw [List.getElem?_replicate] at h
    split at h
    · injection h with h
      exact h.symm
    · cases h
  refine ⟨⟨List.length_replicate, fun c x h => .inl (hn c x h), fun c d r h => by have := hn c _ h; omega⟩, ?_⟩
  unfold sz
  rw [List.countP_eq_zero]
  intro x hx
  rw [(List.mem_replicate.1 hx).2]
  simp
theorem sz_set {o : List Int} {c : Nat} {x y : Int} (h : o[c]? = some x) : sz (o.set c y) + (if x = -1 then 0 else 1) = sz o + if y = -1 then 0 else 1 := by
  obtain ⟨hc, e⟩ := List.getElem?_eq_some_iff.1 h
  have h1 : x ≠ -1 → 0 < sz o := fun hx => List.countP_pos_iff.2 ⟨x, List.mem_of_getElem? h, by simpa using hx⟩
  unfold sz at h1 ⊢
  rw [List.countP_set hc, e]
  by_cases hx : x = -1 <;> by_cases hy : y = -1
  · rw [hx, hy]; simp
  · rw [hx]; simp [hy]
  · rw [hy]
    have := h1 hx
    simp [hx]
    omega
  · have := h1 hx
    simp [hx, hy]
    omega
/-- Rows and columns from which no path leads on. -/
def Cw (P : Nat → Nat → Prop) (o : List Int) (V S : Nat → Prop) : Prop := (∀ r c, V r → P r c → S c) ∧ ∀ c, S c → ∃ r : Nat, o[c]? = some (r : Int) ∧ V r
/-- All rows from fr on, before j, have a column or can not get one. -/
structure In2 (P : Nat → Nat → Prop) (W fr j : Nat) (o : List Int) (V S : Nat → Prop) : Prop where
  ow : Ow P W o
  cl : Cw P o V S
  row : ∀ i, fr ≤ i → i < j → V i ∨ ∃ c : Nat, o[c]? = some (i : Int)
  old : ∀ c r : Nat, o[c]? = some (r : Int) → r < j
theorem in2_start (P : Nat → Nat → Prop) (W fr : Nat) : In2 P W fr fr (List.replicate W (-1)) (fun _ => False) (fun _ => False) :=
  ⟨(ow_zero P W).1, ⟨fun _ _ h => h.elim, fun _ h => h.elim⟩, fun i h1 h2 => by omega, fun c r h => by
    rw [List.getElem?_replicate] at h
    split at h
    · injection h with h
      omega
    · cases h⟩
theorem In2.great {fr R : Nat} {V S : Nat → Prop} (k : In2 P W fr R o V S) (hP : ∀ i c, P i c → fr ≤ i ∧ i < R) : Mx P (sz o) := by
  refine ⟨⟨_, k.ow.pm, by rw [swp_len, edg_len]⟩, fun E hE => ?_⟩
  have := cert_le V S hE (E := swp (edg o)) k.cl.1 (fun c hc => ?_) (fun i c hp hv => ?_)
  · rwa [swp_len, edg_len] at this
  · obtain ⟨r, h1, h2⟩ := k.cl.2 c hc
    exact ⟨r, h2, k.ow.mem.2 h1⟩
  · obtain ⟨h1, h2⟩ := hP i c hp
    rcases k.row i h1 h2 with e | ⟨d, e⟩
    · exact absurd e hv
    · exact ⟨d, k.ow.mem.2 e⟩
/-- What a search in breadth knows: vis are the columns that it came to, qu the rows. -/
structure Bf (P : Nat → Nat → Prop) (W : Nat) (o : List Int) (i : Nat) (fm : List Int) (vis qu : List Nat) (qn cn : Nat) : Prop where
  lf : fm.length = W
  fv : ∀ (c : Nat) x, fm[c]? = some x → x = -1 ∨ ∃ r : Nat, x = (r : Int)
  vm : ∀ c : Nat, c ∈ vis ↔ ∃ r : Nat, fm[c]? = some (r : Int)
  nd : vis.Nodup
  q0 : qu[0]? = some i
  ql : qu.length = vis.length + 1
  qs : ∀ t c : Nat, vis[t]? = some c → ∃ r : Nat, qu[t + 1]? = some r ∧ o[c]? = some (r : Int)
  fr : ∀ t c : Nat, vis[t]? = some c → ∃ r s : Nat, fm[c]? = some (r : Int) ∧ P r c ∧ s ≤ t ∧ qu[s]? = some r
  dn : ∀ s r : Nat, s < qn → qu[s]? = some r → ∀ c, P r c → c ∈ vis
  dc : ∀ r : Nat, qu[qn]? = some r → ∀ c, c < cn → P r c → c ∈ vis
theorem bf_start (P : Nat → Nat → Prop) (W : Nat) (o : List Int) (i : Nat) : Bf P W o i (List.replicate W (-1)) [] [i] 0 0 := by
  have hn : ∀ (c : Nat) x, (List.replicate W (-1 : Int))[c]? = some x → x = -1 := fun c x h => by
    rw [List.getElem?_replicate] at h
    split at h
    · injection h with h
      exact h.symm
    · cases h
  exact ⟨List.length_replicate, fun c x h => .inl (hn c x h), fun c => ⟨fun h => absurd h List.not_mem_nil, fun ⟨r, h⟩ => by have := hn c _ h; omega⟩, List.nodup_nil, rfl, rfl, fun t c h => by simp at h, fun t c h => by simp at h, fun s r h => absurd h (Nat.not_lt_zero _), fun r _ c h => absurd h (Nat.not_lt_zero _)⟩
section
variable {i : Nat} {fm : List Int} {vis qu : List Nat} {qn cn : Nat}
theorem Bf.vw (h : Bf P W o i fm vis qu qn cn) {c : Nat} (hc : c ∈ vis) : c < W := by
  obtain ⟨r, e⟩ := (h.vm c).1 hc
  rw [← h.lf]
  exact (List.getElem?_eq_some_iff.1 e).1
theorem Bf.few (h : Bf P W o i fm vis qu qn cn) : qu.length ≤ W + 1 := by
  have := rel_le Eq vis (List.range W) h.nd (fun a ha => ⟨a, List.mem_range.2 (h.vw ha), rfl⟩) (fun _ _ _ _ _ q r => q.trans r.symm)
  rw [List.length_range] at this
  rw [h.ql]
  omega
theorem Bf.skip (h : Bf P W o i fm vis qu qn cn) (hc : ∀ r : Nat, qu[qn]? = some r → P r cn → cn ∈ vis) : Bf P W o i fm vis qu qn (cn + 1) :=
  ⟨h.lf, h.fv, h.vm, h.nd, h.q0, h.ql, h.qs, h.fr, h.dn, fun r hr c hlt hp => by
    by_cases e : c = cn
    · rw [e] at hp ⊢
      exact hc r hr hp
    · exact h.dc r hr c (by omega) hp⟩
theorem Bf.next (h : Bf P W o i fm vis qu qn cn) (hW : ∀ r c, P r c → c < cn) : Bf P W o i fm vis qu (qn + 1) 0 :=
  ⟨h.lf, h.fv, h.vm, h.nd, h.q0, h.ql, h.qs, h.fr, fun s r hs hr c hp => by
    by_cases e : s = qn
    · rw [e] at hr
      exact h.dc r hr c (hW r c hp) hp
    · exact h.dn s r (by omega) hr c hp, fun r _ c hlt => absurd hlt (Nat.not_lt_zero _)⟩
theorem Bf.visit {r r' : Nat} (h : Bf P W o i fm vis qu qn cn) (hr : qu[qn]? = some r) (hp : P r cn) (hn : fm[cn]? = some (-1)) (ho : o[cn]? = some (r' : Int)) : Bf P W o i (fm.set cn r) (vis ++ [cn]) (qu ++ [r']) qn (cn + 1) := by
  have hcl := (List.getElem?_eq_some_iff.1 hn).1
  have hnv : cn ∉ vis := fun q => by
    obtain ⟨x, e⟩ := (h.vm cn).1 q
    rw [hn] at e
    injection e with e
    omega
  have hql := (List.getElem?_eq_some_iff.1 hr).1
  have hqu : ∀ s x : Nat, qu[s]? = some x → (qu ++ [r'])[s]? = some x := fun s x q => by
    rw [List.getElem?_append_left (List.getElem?_eq_some_iff.1 q).1]
    exact q
  have hqn : ∀ s x : Nat, s < qu.length → (qu ++ [r'])[s]? = some x → qu[s]? = some x := fun s x hs q => by
    rw [List.getElem?_append_left hs] at q
    exact q
  have hvs : ∀ t c : Nat, (vis ++ [cn])[t]? = some c → (vis[t]? = some c ∧ c ≠ cn) ∨ (t = vis.length ∧ c = cn) := fun t c q => by
    rcases Nat.lt_trichotomy t vis.length with e | e | e
    · rw [List.getElem?_append_left e] at q
      exact .inl ⟨q, fun e2 => hnv (by rw [← e2]; exact List.mem_of_getElem? q)⟩
    · subst e
      rw [List.getElem?_concat_length] at q
      injection q with q
      exact .inr ⟨rfl, q.symm⟩
    · rw [List.getElem?_eq_none (by rw [List.length_append]; show vis.length + 1 ≤ t; omega)] at q
      cases q
  have hfm : ∀ c : Nat, (fm.set cn (r : Int))[c]? = if c = cn then some (r : Int) else fm[c]? := fun c => by
    rw [List.getElem?_set]
    by_cases e : cn = c
    · rw [if_pos e, if_pos hcl, if_pos e.symm]
    · rw [if_neg e, if_neg (Ne.symm e)]
  refine ⟨List.length_set.trans h.lf, fun c x hx => ?_, fun c => ?_, ?_, ?_, ?_, fun t c q => ?_, fun t c q => ?_, fun s x hs q c hpc => ?_, fun x q c hc hpc => ?_⟩
  · rw [hfm] at hx
    split at hx
    · injection hx with hx
      exact .inr ⟨r, hx.symm⟩
    · exact h.fv c x hx
  · rw [List.mem_append, List.mem_singleton, hfm]
    constructor
    · rintro (q | q)
      · by_cases e : c = cn
        · exact ⟨r, by rw [if_pos e]⟩
        · rw [if_neg e]; exact (h.vm c).1 q
      · exact ⟨r, by rw [if_pos q]⟩
    · rintro ⟨x, q⟩
      split at q
      · rename_i e; exact .inr e
      · exact .inl ((h.vm c).2 ⟨x, q⟩)
  · rw [List.nodup_append]
    exact ⟨h.nd, List.nodup_cons.2 ⟨List.not_mem_nil, List.nodup_nil⟩, fun a ha b hb e => by
      rw [List.mem_singleton] at hb
      exact hnv (by rw [← hb, ← e]; exact ha)⟩
  · exact hqu 0 i h.q0
  · rw [List.length_append, List.length_append, h.ql]
    rfl
  · rcases hvs t c q with ⟨k1, _⟩ | ⟨k1, k2⟩
    · obtain ⟨x, e1, e2⟩ := h.qs t c k1
      exact ⟨x, hqu _ _ e1, e2⟩
    · refine ⟨r', ?_, by rw [k2]; exact ho⟩
      rw [k1, ← h.ql, List.getElem?_concat_length]
  · rcases hvs t c q with ⟨k1, k2⟩ | ⟨k1, k2⟩
    · obtain ⟨x, s, e1, e2, e3, e4⟩ := h.fr t c k1
      exact ⟨x, s, by rw [hfm, if_neg k2]; exact e1, e2, e3, hqu _ _ e4⟩
    · refine ⟨r, qn, by rw [hfm, if_pos k2], by rw [k2]; exact hp, ?_, hqu _ _ hr⟩
      rw [k1]
      have := h.ql
      omega
  · exact List.mem_append_left _ (h.dn s x hs (hqn s x (by omega) q) c hpc)
  · by_cases e : c = cn
    · rw [e]; exact List.mem_append_right _ (List.mem_singleton.2 rfl)
    · exact List.mem_append_left _ (h.dc x (hqn qn x hql q) c (by omega) hpc)
/-- A search that is at its end found rows and columns from which no path leads on. -/
theorem Bf.shut (h : Bf P W o i fm vis qu qn 0) (hq : qu.length ≤ qn) : Cw P o (· ∈ qu) (· ∈ vis) := by
  refine ⟨fun r c hr hp => ?_, fun c hc => ?_⟩
  · obtain ⟨s, hs, e⟩ := List.mem_iff_getElem.1 hr
    exact h.dn s r (by omega) (by rw [List.getElem?_eq_getElem hs, e]) c hp
  · obtain ⟨t, ht, e⟩ := List.mem_iff_getElem.1 hc
    obtain ⟨r, k1, k2⟩ := h.qs t c (by rw [List.getElem?_eq_getElem ht, e])
    exact ⟨r, k2, List.mem_of_getElem? k1⟩
/-- What the exchange has before it: the way back from column T of the list. -/
structure Ex (P : Nat → Nat → Prop) (o : List Int) (i : Nat) (fm : List Int) (vis qu : List Nat) (T : Nat) : Prop where
  nd : vis.Nodup
  q0 : qu[0]? = some i
  qs : ∀ t c : Nat, t < T → vis[t]? = some c → ∃ r : Nat, qu[t + 1]? = some r ∧ o[c]? = some (r : Int)
  fr : ∀ t c : Nat, vis[t]? = some c → ∃ r s : Nat, fm[c]? = some (r : Int) ∧ P r c ∧ s ≤ t ∧ qu[s]? = some r
  tl : vis.length = T + 1
theorem Bf.found {r : Nat} (h : Bf P W o i fm vis qu qn cn) (hr : qu[qn]? = some r) (hp : P r cn) (hn : fm[cn]? = some (-1)) : Ex P o i (fm.set cn r) (vis ++ [cn]) qu vis.length ∧ (vis ++ [cn])[vis.length]? = some cn := by
  have hcl := (List.getElem?_eq_some_iff.1 hn).1
  have hql := (List.getElem?_eq_some_iff.1 hr).1
  have hnv : cn ∉ vis := fun q => by
    obtain ⟨x, e⟩ := (h.vm cn).1 q
    rw [hn] at e
    injection e with e
    omega
  have hvs : ∀ t c : Nat, (vis ++ [cn])[t]? = some c → (vis[t]? = some c ∧ c ≠ cn) ∨ (t = vis.length ∧ c = cn) := fun t c q => by
    rcases Nat.lt_trichotomy t vis.length with e | e | e
    · rw [List.getElem?_append_left e] at q
      exact .inl ⟨q, fun e2 => hnv (by rw [← e2]; exact List.mem_of_getElem? q)⟩
    · subst e
      rw [List.getElem?_concat_length] at q
      injection q with q
      exact .inr ⟨rfl, q.symm⟩
    · rw [List.getElem?_eq_none (by rw [List.length_append]; show vis.length + 1 ≤ t; omega)] at q
      cases q
  refine ⟨⟨?_, h.q0, fun t c ht q => ?_, fun t c q => ?_, by rw [List.length_append]; rfl⟩, List.getElem?_concat_length⟩
  · rw [List.nodup_append]
    exact ⟨h.nd, List.nodup_cons.2 ⟨List.not_mem_nil, List.nodup_nil⟩, fun a ha b hb e => by
      rw [List.mem_singleton] at hb
      exact hnv (by rw [← hb, ← e]; exact ha)⟩
  · rcases hvs t c q with ⟨k1, _⟩ | ⟨k1, _⟩
    · exact h.qs t c k1
    · omega
  · rcases hvs t c q with ⟨k1, k2⟩ | ⟨k1, k2⟩
    · obtain ⟨x, s, e1, e2, e3, e4⟩ := h.fr t c k1
      exact ⟨x, s, by rw [List.getElem?_set, if_neg (fun e => k2 e.symm)]; exact e1, e2, e3, e4⟩
    · refine ⟨r, qn, by rw [k2, List.getElem?_set, if_pos rfl, if_pos hcl], by rw [k2]; exact hp, ?_, hr⟩
      have := h.ql
      omega
end
/-- The exchange, on its way back: column c is to get its row. -/
structure Xi (P : Nat → Nat → Prop) (W : Nat) (o : List Int) (S : Nat → Prop) (vis : List Nat) (out : List Int) (t c : Nat) : Prop where
  at_ : vis[t]? = some c
  pre : ∀ s d : Nat, s ≤ t → vis[s]? = some d → out[d]? = o[d]?
  ow : Ow P W (out.set c (-1))
  sz : sz (out.set c (-1)) = sz o
  rows : ∀ r : Nat, (∃ d : Nat, (out.set c (-1))[d]? = some (r : Int)) ↔ ∃ d : Nat, o[d]? = some (r : Int)
  stay : ∀ d, S d → out[d]? = o[d]?
  off : ¬ S c
  cw : c < W
/-- What the exchange leaves. -/
structure Xe (P : Nat → Nat → Prop) (W : Nat) (o : List Int) (S : Nat → Prop) (i : Nat) (out : List Int) : Prop where
  ow : Ow P W out
  sz : sz out = sz o + 1
  rows : ∀ r : Nat, (∃ d : Nat, out[d]? = some (r : Int)) ↔ r = i ∨ ∃ d : Nat, o[d]? = some (r : Int)
  stay : ∀ d, S d → out[d]? = o[d]?
section
variable {V S : Nat → Prop} {vis qu : List Nat} {fm out : List Int} {i t c T : Nat}
theorem set_self {o : List Int} {c : Nat} {x : Int} (h : o[c]? = some x) : o.set c x = o := by
  refine List.ext_getElem? fun j => ?_
  rw [List.getElem?_set]
  split
  · rename_i e
    subst e
    rw [if_pos (List.getElem?_eq_some_iff.1 h).1, h]
  · rfl
theorem xi_start (ho : Ow P W o) (hc : o[c]? = some (-1)) (hv : vis[T]? = some c) (hcl : Cw P o V S) : Xi P W o S vis o T c := by
  refine ⟨hv, fun _ _ _ _ => rfl, by rw [set_self hc]; exact ho, by rw [set_self hc], fun r => by rw [set_self hc], fun _ _ => rfl, fun hs => ?_, by rw [← ho.len]; exact (List.getElem?_eq_some_iff.1 hc).1⟩
  obtain ⟨r, e, _⟩ := hcl.2 c hs
  rw [hc] at e
  injection e with e
  omega
theorem ow_put {Z : List Int} {r : Nat} (h : Ow P W Z) (hp : P r c) (hn : ∀ d : Nat, Z[d]? ≠ some (r : Int)) : Ow P W (Z.set c r) := by
  refine ⟨List.length_set.trans h.len, fun d x hx => ?_, fun d e q h1 h2 => ?_⟩
  · rw [List.getElem?_set] at hx
    split at hx
    · split at hx
      · rename_i e _
        injection hx with hx
        exact .inr ⟨r, hx.symm, by rw [← e]; exact hp⟩
      · cases hx
    · exact h.ok d x hx
  · rw [List.getElem?_set] at h1 h2
    split at h1
    · rename_i e1
      split at h1
      · injection h1 with h1
        split at h2
        · rename_i e2
          rw [← e1, ← e2]
        · exact absurd h2 (by rw [← h1]; exact hn e)
      · cases h1
    · split at h2
      · split at h2
        · injection h2 with h2
          exact absurd h1 (by rw [← h2]; exact hn d)
        · cases h2
      · exact h.one d e q h1 h2
theorem set_back (out : List Int) (c : Nat) (x : Int) : (out.set c (-1)).set c x = out.set c x := List.set_set ..
theorem ow_clear {Z : List Int} (h : Ow P W Z) (d : Nat) : Ow P W (Z.set d (-1)) := by
  have key : ∀ (c r : Nat), (Z.set d (-1 : Int))[c]? = some (r : Int) → Z[c]? = some (r : Int) := fun c r hx => by
    rw [List.getElem?_set] at hx
    split at hx
    · split at hx
      · injection hx with hx
        omega
      · cases hx
    · exact hx
  refine ⟨List.length_set.trans h.len, fun c x hx => ?_, fun a b r h1 h2 => h.one a b r (key a r h1) (key b r h2)⟩
  rw [List.getElem?_set] at hx
  split at hx
  · split at hx
    · injection hx with hx
      exact .inl hx.symm
    · cases hx
  · exact h.ok c x hx
theorem Xi.len (h : Xi P W o S vis out t c) : out.length = W := by
  have := h.ow.len
  rwa [List.length_set] at this
theorem Xi.zc (h : Xi P W o S vis out t c) : (out.set c (-1))[c]? = some (-1) := by rw [List.getElem?_set, if_pos rfl, if_pos (by rw [h.len]; exact h.cw)]
theorem Xi.last (h : Xi P W o S vis out t c) (hp : P i c) (hn : ∀ d : Nat, o[d]? ≠ some (i : Int)) : Xe P W o S i (out.set c i) := by
  have hz : ∀ d : Nat, (out.set c (-1))[d]? ≠ some (i : Int) := fun d e => by
    obtain ⟨d', e'⟩ := (h.rows i).1 ⟨d, e⟩
    exact hn d' e'
  have e1 := set_back out c (i : Int)
  refine ⟨by rw [← e1]; exact ow_put h.ow hp hz, ?_, fun r => ?_, fun d hd => ?_⟩
  · have := sz_set (y := (i : Int)) h.zc
    rw [e1, if_pos rfl, if_neg (by omega), h.sz] at this
    omega
  · rw [← h.rows r]
    constructor
    · rintro ⟨d, hd⟩
      rw [List.getElem?_set] at hd
      split at hd
      · split at hd
        · injection hd with hd
          exact .inl (by omega)
        · cases hd
      · rename_i e
        exact .inr ⟨d, by rw [List.getElem?_set, if_neg e]; exact hd⟩
    · rintro (rfl | ⟨d, hd⟩)
      · exact ⟨c, by rw [List.getElem?_set, if_pos rfl, if_pos (by rw [h.len]; exact h.cw)]⟩
      · rw [List.getElem?_set] at hd
        split at hd
        · split at hd
          · injection hd with hd
            omega
          · cases hd
        · rename_i e
          exact ⟨d, by rw [List.getElem?_set, if_neg e]; exact hd⟩
  · rw [List.getElem?_set, if_neg]
    · exact h.stay d hd
    · intro e
      exact h.off (by rw [e]; exact hd)
theorem Xi.step {t2 c2 r : Nat} (h : Xi P W o S vis out t c) (hnd : vis.Nodup) (ht : t2 < t) (hv : vis[t2]? = some c2) (ho : o[c2]? = some (r : Int)) (hp : P r c) (hs : ¬ S c2) (hw : c2 < W) : Xi P W o S vis (out.set c r) t2 c2 := by
  have hne : ∀ s d : Nat, s ≤ t2 → vis[s]? = some d → d ≠ c := fun s d hs q e => by
    subst e
    have h1 := (List.getElem?_eq_some_iff.1 q)
    have h2 := (List.getElem?_eq_some_iff.1 h.at_)
    have := (List.getElem_inj hnd).1 (h1.2.trans h2.2.symm)
    omega
  have hc2 : c2 ≠ c := hne t2 c2 (Nat.le_refl _) hv
  have hzc2 : (out.set c (-1))[c2]? = some (r : Int) := by
    rw [List.getElem?_set, if_neg (fun e => hc2 e.symm), h.pre t2 c2 (by omega) hv]
    exact ho
  have e1 : (out.set c (r : Int)).set c2 (-1) = ((out.set c (-1)).set c2 (-1)).set c (r : Int) := by
    rw [← set_back out c (r : Int), List.set_comm _ _ hc2.symm]
  have hget : ∀ d : Nat, (((out.set c (-1)).set c2 (-1)).set c (r : Int))[d]? = if d = c then some (r : Int) else if d = c2 then some (-1) else out[d]? := fun d => by
    rw [List.getElem?_set, List.length_set, List.length_set]
    by_cases e : c = d
    · rw [if_pos e, if_pos (by rw [h.len]; exact h.cw), if_pos e.symm]
    · rw [if_neg e, if_neg (Ne.symm e), List.getElem?_set, List.length_set]
      by_cases e2 : c2 = d
      · rw [if_pos e2, if_pos (by rw [h.len]; exact hw), if_pos e2.symm]
      · rw [if_neg e2, if_neg (Ne.symm e2), List.getElem?_set, if_neg e]
  refine ⟨hv, fun s d hs' q => ?_, ?_, ?_, fun q => ?_, fun d hd => ?_, hs, hw⟩
  · rw [List.getElem?_set, if_neg (fun e => hne s d hs' q e.symm)]
    exact h.pre s d (by omega) q
  · rw [e1]
    refine ow_put (ow_clear h.ow c2) hp fun d e => ?_
    rw [List.getElem?_set] at e
    split at e
    · split at e
      · injection e with e
        omega
      · cases e
    · rename_i e3
      exact e3 (h.ow.one c2 d r hzc2 e)
  · rw [e1]
    have a1 := sz_set (y := -1) hzc2
    have a2 := sz_set (o := (out.set c (-1)).set c2 (-1)) (c := c) (x := -1) (y := (r : Int)) (by rw [List.getElem?_set, if_neg hc2]; exact h.zc)
    rw [if_neg (by omega), if_pos rfl] at a1
    rw [if_pos rfl, if_neg (by omega)] at a2
    have := h.sz
    omega
  · rw [← h.rows q, e1]
    constructor
    · rintro ⟨d, hd⟩
      rw [hget] at hd
      split at hd
      · injection hd with hd
        exact ⟨c2, by rw [← hd]; exact hzc2⟩
      · split at hd
        · injection hd with hd
          omega
        · rename_i e3 _
          exact ⟨d, by rw [List.getElem?_set, if_neg (fun e => e3 e.symm)]; exact hd⟩
    · rintro ⟨d, hd⟩
      by_cases e3 : d = c2
      · rw [e3, hzc2] at hd
        exact ⟨c, by rw [hget, if_pos rfl]; exact hd⟩
      · rw [List.getElem?_set] at hd
        split at hd
        · split at hd
          · injection hd with hd
            omega
          · cases hd
        · rename_i e4
          exact ⟨d, by rw [hget, if_neg (fun e => e4 e.symm), if_neg e3]; exact hd⟩
  · rw [List.getElem?_set, if_neg]
    · exact h.stay d hd
    · intro e
      exact h.off (by rw [e]; exact hd)
/-- One turn of the exchange. -/
theorem Xi.go (h : Xi P W o S vis out t c) (hx : Ex P o i fm vis qu T) (hcl : Cw P o V S) (ho : o.length = W) (hi : ∀ d : Nat, o[d]? ≠ some (i : Int)) : ∃ r : Nat, fm[c]? = some (r : Int) ∧ (((∀ d : Nat, o[d]? ≠ some (r : Int)) ∧ Xe P W o S i (out.set c r)) ∨ ∃ t2 c2, t2 < t ∧ o[c2]? = some (r : Int) ∧ Xi P W o S vis (out.set c r) t2 c2) := by
  obtain ⟨r, s, h1, h2, h3, h4⟩ := hx.fr t c h.at_
  refine ⟨r, h1, ?_⟩
  cases s with
  | zero =>
    rw [hx.q0] at h4
    injection h4 with h4
    subst h4
    exact .inl ⟨hi, h.last h2 hi⟩
  | succ t2 =>
    have htl := (List.getElem?_eq_some_iff.1 h.at_).1
    have hT := hx.tl
    obtain ⟨c2, hc2⟩ : ∃ c2, vis[t2]? = some c2 := ⟨_, List.getElem?_eq_getElem (by omega)⟩
    obtain ⟨r', k1, k2⟩ := hx.qs t2 c2 (by omega) hc2
    rw [h4] at k1
    injection k1 with k1
    subst k1
    refine .inr ⟨t2, c2, by omega, k2, h.step hx.nd (by omega) hc2 k2 h2 (fun hs => ?_) (by rw [← ho]; exact (List.getElem?_eq_some_iff.1 k2).1)⟩
    obtain ⟨r2, e1, e2⟩ := hcl.2 c2 hs
    rw [k2] at e1
    injection e1 with e1
    obtain rfl : r = r2 := by omega
    exact h.off (hcl.1 r c e2 h2)
end
/-- One row more: it got a column. -/
theorem In2.found {fr j : Nat} {V S : Nat → Prop} {out : List Int} (k : In2 P W fr j o V S) (h : Xe P W o S j out) : In2 P W fr (j + 1) out V S := by
  refine ⟨h.ow, ⟨k.cl.1, fun c hc => ?_⟩, fun i h1 h2 => ?_, fun c r hr => ?_⟩
  · obtain ⟨r, e1, e2⟩ := k.cl.2 c hc
    exact ⟨r, by rw [h.stay c hc]; exact e1, e2⟩
  · by_cases e : i = j
    · exact .inr ((h.rows i).2 (.inl e))
    · rcases k.row i h1 (by omega) with q | q
      · exact .inl q
      · exact .inr ((h.rows i).2 (.inr q))
  · rcases (h.rows r).1 ⟨c, hr⟩ with e | ⟨d, e⟩
    · omega
    · have := k.old d r e
      omega
/-- One row more: it can not get a column. -/
theorem In2.fails {fr j : Nat} {V S V2 S2 : Nat → Prop} (k : In2 P W fr j o V S) (h : Cw P o V2 S2) (hj : V2 j) : In2 P W fr (j + 1) o (fun r => V r ∨ V2 r) (fun c => S c ∨ S2 c) := by
  refine ⟨k.ow, ⟨fun r c hv hp => ?_, fun c hc => ?_⟩, fun i h1 h2 => ?_, fun c r hr => ?_⟩
  · rcases hv with hv | hv
    · exact .inl (k.cl.1 r c hv hp)
    · exact .inr (h.1 r c hv hp)
  · rcases hc with hc | hc
    · obtain ⟨r, e1, e2⟩ := k.cl.2 c hc
      exact ⟨r, e1, .inl e2⟩
    · obtain ⟨r, e1, e2⟩ := h.2 c hc
      exact ⟨r, e1, .inr e2⟩
  · by_cases e : i = j
    · rw [e]; exact .inl (.inr hj)
    · rcases k.row i h1 (by omega) with q | q
      · exact .inl (.inl q)
      · exact .inr q
  · have := k.old c r hr
    omega
end
end Go.Proofs.Ytdgahlojdllkbaa.MchP
