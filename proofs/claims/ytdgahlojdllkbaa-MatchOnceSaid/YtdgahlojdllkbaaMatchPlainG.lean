/-
  A table with one more column permitted; a table with rows and columns exchanged. No word of the program. Condition: none.
-/
import Derived.Test.YtdgahlojdllkbaaMatchPlainC
namespace Go.Proofs.Ytdgahlojdllkbaa.MchP
theorem at2_iff {l : List (List Bool)} {i c : Nat} : at2 l i c = true ↔ ∃ r, l[i]? = some r ∧ r[c]? = some true := ⟨at2_lt, fun ⟨_, h1, h2⟩ => at2_of h1 h2⟩
/-- One more column permitted. -/
def mor (l : List (List Bool)) (i c : Nat) : List (List Bool) := l.set i ((l.getD i []).set c true)
theorem mor_eq {l : List (List Bool)} {i : Nat} {r : List Bool} (h : l[i]? = some r) (c : Nat) : mor l i c = l.set i (r.set c true) := by unfold mor; rw [List.getD_eq_getElem?_getD, h]; rfl
theorem mor_pl {l : List (List Bool)} {i0 c0 : Nat} {r : List Bool} (h : l[i0]? = some r) (hc : c0 < r.length) (i c : Nat) : Pl (mor l i0 c0) i c ↔ Pl l i c ∨ i = i0 ∧ c = c0 := by
  have hi := (List.getElem?_eq_some_iff.1 h).1
  unfold Pl
  rw [mor_eq h, at2_iff, at2_iff]
  by_cases e : i = i0
  · subst e
    rw [List.getElem?_set, if_pos rfl, if_pos hi, h]
    by_cases e2 : c = c0
    · subst e2
      exact ⟨fun _ => .inr ⟨rfl, rfl⟩, fun _ => ⟨_, rfl, by rw [List.getElem?_set, if_pos rfl, if_pos hc]⟩⟩
    · constructor
      · rintro ⟨r', h1, h2⟩
        injection h1 with h1
        rw [← h1, List.getElem?_set, if_neg (fun q => e2 q.symm)] at h2
        exact .inl ⟨r, rfl, h2⟩
      · rintro (⟨r', h1, h2⟩ | ⟨_, q⟩)
        · injection h1 with h1
          rw [← h1] at h2
          exact ⟨_, rfl, by rw [List.getElem?_set, if_neg (fun q => e2 q.symm)]; exact h2⟩
        · exact absurd q e2
  · rw [List.getElem?_set, if_neg (fun q => e q.symm)]
    exact ⟨.inl, fun q => q.elim id fun ⟨q, _⟩ => absurd q e⟩
theorem mor_chk {l : List (List Bool)} {i c : Nat} {r : List Bool} (h : l[i]? = some r) (hc : chkE l = 0) : chkE (mor l i c) = 0 := by
  obtain ⟨b1, b2, b3⟩ := chk_ok hc
  rw [mor_eq h]
  have hi := (List.getElem?_eq_some_iff.1 h).1
  have hr : r.length = wd l := b3 r (List.mem_of_getElem? h)
  have hw : wd (l.set i (r.set c true)) = wd l := by
    cases i with
    | zero =>
      rw [wd_of (l := l.set 0 (r.set c true)) (r := r.set c true) (by rw [List.getElem?_set, if_pos rfl, if_pos hi]), List.length_set]
      exact hr
    | succ i =>
      cases l with
      | nil => simp at hi
      | cons a l => rfl
  refine chk_sq (by rw [List.length_set]; exact b1) (by rw [hw]; exact b2) fun q hq => ?_
  rw [hw]
  rcases List.mem_or_eq_of_mem_set hq with h1 | h1
  · exact b3 q h1
  · rw [h1, List.length_set]
    exact hr
theorem mor_nu {l : List (List Bool)} {i c n : Nat} {r : List Bool} {t : Bool} (h : l[i]? = some r) (hr : r[c]? = some t) (hn : Mx (Pl l) n) {k : Nat} (hk : Mx (Pl (mor l i c)) k) : k = n ∨ (k = n + 1 ∧ t = false) := by
  have hcl := (List.getElem?_eq_some_iff.1 hr).1
  cases t with
  | true =>
    refine .inl ((hk.congr fun i' c' => ?_).uniq hn)
    rw [mor_pl h hcl]
    exact ⟨fun q => q.elim id fun ⟨e1, e2⟩ => by rw [e1, e2]; exact at2_of h hr, .inl⟩
  | false =>
    rcases hn.one (hk.congr (mor_pl h hcl)) with e | e
    · exact .inl e
    · exact .inr ⟨e, rfl⟩
/-- Rows and columns exchanged: the first k columns as rows. -/
def trn (l : List (List Bool)) (R k : Nat) : List (List Bool) := (List.range k).map fun c => (List.range R).map fun i => at2 l i c
/-- The first j places of column c. -/
def trc (l : List (List Bool)) (c j : Nat) : List Bool := (List.range j).map fun i => at2 l i c
theorem trc_zero (l : List (List Bool)) (c : Nat) : trc l c 0 = [] := rfl
theorem trc_succ (l : List (List Bool)) (c j : Nat) : trc l c (j + 1) = trc l c j ++ [at2 l j c] := by unfold trc; rw [List.range_succ, List.map_append]; rfl
theorem trc_len (l : List (List Bool)) (c j : Nat) : (trc l c j).length = j := by unfold trc; rw [List.length_map, List.length_range]
theorem trn_zero (l : List (List Bool)) (R : Nat) : trn l R 0 = [] := rfl
theorem trn_succ (l : List (List Bool)) (R k : Nat) : trn l R (k + 1) = trn l R k ++ [trc l k R] := by unfold trn trc; rw [List.range_succ, List.map_append]; rfl
theorem trn_len (l : List (List Bool)) (R k : Nat) : (trn l R k).length = k := by unfold trn; rw [List.length_map, List.length_range]
theorem trn_at {l : List (List Bool)} {R k c : Nat} (h : c < k) : (trn l R k)[c]? = some (trc l c R) := by unfold trn trc; rw [List.getElem?_map, List.getElem?_range h]; rfl
theorem trc_at {l : List (List Bool)} {c j i : Nat} (h : i < j) : (trc l c j)[i]? = some (at2 l i c) := by unfold trc; rw [List.getElem?_map, List.getElem?_range h]; rfl
theorem trn_pl {l : List (List Bool)} (hs : Sq l) (c i : Nat) : Pl (trn l l.length (wd l)) c i ↔ Pl l i c := by
  unfold Pl
  constructor
  · intro h
    obtain ⟨r, h1, h2⟩ := at2_lt h
    have hc := (List.getElem?_eq_some_iff.1 h1).1
    rw [trn_len] at hc
    rw [trn_at hc] at h1
    injection h1 with h1
    rw [← h1] at h2
    have hi := (List.getElem?_eq_some_iff.1 h2).1
    rw [trc_len] at hi
    rw [trc_at hi] at h2
    injection h2
  · intro h
    have hi := at2_row h
    have hc := at2_col hs h
    exact at2_of (trn_at hc) (by rw [trc_at hi, h])
theorem trn_chk {l : List (List Bool)} (h : chkE l = 0) : chkE (trn l l.length (wd l)) = 0 := by
  obtain ⟨b1, b2, b3⟩ := chk_ok h
  have hr : ∀ r, r ∈ trn l l.length (wd l) → r.length = l.length := fun r hr => by
    unfold trn at hr
    obtain ⟨c, _, rfl⟩ := List.mem_map.1 hr
    rw [List.length_map, List.length_range]
  by_cases hw : wd l = 0
  · rw [hw, show trn l l.length 0 = [] from rfl]
    decide
  · have hwd : wd (trn l l.length (wd l)) = l.length := by
      rw [wd_of (trn_at (show 0 < wd l by omega)), trc_len]
    exact chk_sq (by rw [trn_len]; exact b2) (by rw [hwd]; exact b1) fun r h => by rw [hwd]; exact hr r h
theorem trn_nu {l : List (List Bool)} {n k : Nat} (h : chkE l = 0) (hn : Mx (Pl l) n) (hk : Mx (Pl (trn l l.length (wd l))) k) : k = n := by
  obtain ⟨_, _, b3⟩ := chk_ok h
  exact (hk.congr fun c i => trn_pl b3 c i).uniq hn.swap
end Go.Proofs.Ytdgahlojdllkbaa.MchP
