/-
  Measures: the number of their ticks, where a tick is, the ticks at which beats begin, parts of a list. Nothing of the program. Condition: none.
-/
import Derived.Test.YtlepcahangkmiaaPairs
namespace Go.Proofs.Ytlepcahangkmiaa.MetP
open PairW

/-- The number of ticks of measures. -/
def tot (l : List Pt) : Int := (l.map fun p => p.1 * p.2).sum
theorem tot_nil : tot [] = 0 := rfl
theorem tot_cons (p : Pt) (l : List Pt) : tot (p :: l) = p.1 * p.2 + tot l := by simp [tot]
theorem tot_app (a b : List Pt) : tot (a ++ b) = tot a + tot b := by simp [tot, List.sum_append]
theorem tot_take {l : List Pt} {k : Nat} (h : k < l.length) : tot (l.take (k + 1)) = tot (l.take k) + (at' l k).1 * (at' l k).2 := by
  rw [take_at h, tot_app, tot_cons, tot_nil, Int.add_zero]
def okM (p : Pt) : Bool := decide (1 ≤ p.1) && decide (p.1 ≤ 16) && decide (1 ≤ p.2) && decide (p.2 ≤ 96)
theorem okM_iff (p : Pt) : okM p = true ↔ (1 ≤ p.1 ∧ p.1 ≤ 16) ∧ 1 ≤ p.2 ∧ p.2 ≤ 96 := by
  unfold okM
  simp only [Bool.and_eq_true, decide_eq_true_eq]
  omega
def Ok (l : List Pt) : Prop := ∀ p ∈ l, okM p = true
theorem ok_at {l : List Pt} (h : Ok l) {k : Nat} (hk : k < l.length) : (1 ≤ (at' l k).1 ∧ (at' l k).1 ≤ 16) ∧ 1 ≤ (at' l k).2 ∧ (at' l k).2 ≤ 96 := (okM_iff _).1 (h _ (at_mem hk))
theorem prod_bound {a b : Int} (h1 : 1 ≤ a ∧ a ≤ 16) (h2 : 1 ≤ b ∧ b ≤ 96) : 1 ≤ a * b ∧ a * b ≤ 1536 := by
  have e1 : (1 : Int) * 1 ≤ a * b := Int.mul_le_mul h1.1 h2.1 (by omega) (by omega)
  have e2 : a * b ≤ 16 * 96 := Int.mul_le_mul h1.2 h2.2 (by omega) (by omega)
  omega
theorem tot_bound : ∀ {l : List Pt}, Ok l → (l.length : Int) ≤ tot l ∧ tot l ≤ 1536 * (l.length : Int)
  | [], _ => by simp [tot]
  | p :: l, h => by
    have ih := tot_bound (l := l) fun q hq => h q (List.mem_cons_of_mem _ hq)
    have hp := (okM_iff p).1 (h p (List.mem_cons_self ..))
    have := prod_bound hp.1 hp.2
    rw [tot_cons, List.length_cons]
    omega
theorem ok_take {l : List Pt} (h : Ok l) (k : Nat) : Ok (l.take k) := fun p hp => h p (List.mem_of_mem_take hp)
theorem ok_drop {l : List Pt} (h : Ok l) (k : Nat) : Ok (l.drop k) := fun p hp => h p (List.mem_of_mem_drop hp)
theorem tot_split (l : List Pt) (k : Nat) : tot l = tot (l.take k) + tot (l.drop k) := by rw [← tot_app, List.take_append_drop]
theorem tot_mono {l : List Pt} (h : Ok l) {i j : Nat} (hij : i ≤ j) : tot (l.take i) ≤ tot (l.take j) := by
  have e : l.take i = (l.take j).take i := by rw [List.take_take, Nat.min_eq_left hij]
  have := tot_split (l.take j) i
  have := (tot_bound (ok_drop (ok_take h j) i)).1
  rw [e]
  omega
theorem tot_le {l : List Pt} (h : Ok l) (i : Nat) : 0 ≤ tot (l.take i) ∧ tot (l.take i) ≤ tot l := by
  have := tot_split l i
  have := (tot_bound (ok_drop h i)).1
  have := (tot_bound (ok_take h i)).1
  omega
/-! ### Errors -/
def chkE (l : List Pt) : Int := if l.length = 0 then 4 else if 128 < l.length then 3 else if l.all okM = true then (if 8192 < tot l then 3 else 0) else 1
theorem all_ok {l : List Pt} : l.all okM = true ↔ Ok l := List.all_eq_true
theorem chk_empty {l : List Pt} (h : l.length = 0) : chkE l = 4 := if_pos h
theorem chk_many {l : List Pt} (h : 128 < l.length) : chkE l = 3 := by unfold chkE; rw [if_neg (by omega), if_pos h]
theorem chk_bad {l : List Pt} {i : Nat} (h0 : l.length ≠ 0) (h : l.length ≤ 128) (hi : i < l.length) (hb : okM (at' l i) = false) : chkE l = 1 := by
  unfold chkE
  rw [if_neg h0, if_neg (by omega), if_neg]
  intro h2
  have := all_ok.1 h2 _ (at_mem hi)
  rw [hb] at this
  cases this
theorem ok_upto {l : List Pt} (h : ∀ i, i < l.length → okM (at' l i) = true) : Ok l := by
  intro q hq
  obtain ⟨i, hi, e⟩ := List.mem_iff_getElem.1 hq
  have := h i hi
  unfold at' at this
  rw [List.getD_eq_getElem?_getD, List.getElem?_eq_getElem hi, Option.getD_some, e] at this
  exact this
theorem chk_long {l : List Pt} (h0 : l.length ≠ 0) (h : l.length ≤ 128) (hb : Ok l) (ht : 8192 < tot l) : chkE l = 3 := by
  unfold chkE
  rw [if_neg h0, if_neg (by omega), if_pos (all_ok.2 hb), if_pos ht]
theorem chk_good {l : List Pt} (h0 : l.length ≠ 0) (h : l.length ≤ 128) (hb : Ok l) (ht : tot l ≤ 8192) : chkE l = 0 := by
  unfold chkE
  rw [if_neg h0, if_neg (by omega), if_pos (all_ok.2 hb), if_neg (by omega)]
theorem chk_zero {l : List Pt} : chkE l = 0 ↔ l.length ≠ 0 ∧ l.length ≤ 128 ∧ Ok l ∧ tot l ≤ 8192 := by
  constructor
  · intro h
    unfold chkE at h
    split at h
    · cases h
    · split at h
      · cases h
      · split at h
        · split at h
          · cases h
          · rename_i h0 h1 h2 h3
            exact ⟨h0, by omega, all_ok.1 h2, by omega⟩
        · cases h
  · exact fun h => chk_good h.1 h.2.1 h.2.2.1 h.2.2.2
def lenV (l : List Pt) : Int := if chkE l = 0 then tot l else 0
theorem lenV_ok {l : List Pt} (h : chkE l = 0) : lenV l = tot l := if_pos h
theorem lenV_bad {l : List Pt} (h : chkE l ≠ 0) : lenV l = 0 := if_neg h
/-! ### The ticks of a measure -/
def mE (l : List Pt) (i : Int) : Int := if chkE l = 0 then (if 0 ≤ i ∧ i < l.length then 0 else 32) else chkE l
def mV (l : List Pt) (i : Int) : Pt := if mE l i = 0 then (tot (l.take i.toNat), tot (l.take (i.toNat + 1))) else (0, 0)
theorem mE_bad {l : List Pt} (i : Int) (h : chkE l ≠ 0) : mE l i = chkE l := if_neg h
theorem mE_no {l : List Pt} {i : Int} (h : chkE l = 0) (hi : ¬ (0 ≤ i ∧ i < l.length)) : mE l i = 32 := by unfold mE; rw [if_pos h, if_neg hi]
theorem mE_ok {l : List Pt} {i : Int} (h : chkE l = 0) (hi : 0 ≤ i ∧ i < l.length) : mE l i = 0 := by unfold mE; rw [if_pos h, if_pos hi]
theorem mV_none {l : List Pt} {i : Int} (h : mE l i ≠ 0) : mV l i = (0, 0) := if_neg h
theorem mV_at {l : List Pt} {i : Nat} (h : chkE l = 0) (hi : i < l.length) : mE l i = 0 ∧ mV l i = (tot (l.take i), tot (l.take (i + 1))) := by
  have e := mE_ok (i := (i : Int)) h ⟨by omega, by omega⟩
  exact ⟨e, by unfold mV; rw [if_pos e]; rfl⟩
theorem mE_zero {l : List Pt} {i : Int} : mE l i = 0 ↔ chkE l = 0 ∧ 0 ≤ i ∧ i < l.length := by
  unfold mE
  by_cases h : chkE l = 0
  · rw [if_pos h]
    by_cases g : 0 ≤ i ∧ i < l.length
    · rw [if_pos g]; exact ⟨fun _ => ⟨h, g⟩, fun _ => rfl⟩
    · rw [if_neg g]; exact ⟨fun x => by omega, fun x => absurd x.2 g⟩
  · rw [if_neg h]; exact ⟨fun x => absurd x h, fun x => absurd x.1 h⟩
/-! ### The place of a tick -/
/-- The tick t is the tick r of the beat b of the measure k. -/
structure IsW (l : List Pt) (t : Int) (k : Nat) (b r : Int) : Prop where
  hk : k < l.length
  b0 : 0 ≤ b
  hb : b < (at' l k).1
  r0 : 0 ≤ r
  hr : r < (at' l k).2
  ht : t = tot (l.take k) + b * (at' l k).2 + r
def wh : List Pt → Int → Int × Int × Int
  | [], t => (0, 0, t)
  | p :: l, t => if t < p.1 * p.2 then (0, t / p.2, t % p.2) else ((wh l (t - p.1 * p.2)).1 + 1, (wh l (t - p.1 * p.2)).2)
theorem beat_in {b u n r : Int} (hb : b < n) (hr : r < u) (hu : 1 ≤ u) : b * u + r < n * u := by
  have : (b + 1) * u ≤ n * u := Int.mul_le_mul_of_nonneg_right (by omega) (by omega)
  rw [Int.add_mul] at this
  omega
theorem isW_in {l : List Pt} (h : Ok l) {t : Int} {k : Nat} {b r : Int} (w : IsW l t k b r) : tot (l.take k) ≤ t ∧ t < tot (l.take (k + 1)) := by
  have ho := ok_at h w.hk
  have h1 := beat_in w.hb w.hr ho.2.1
  have h2 : 0 ≤ b * (at' l k).2 := Int.mul_nonneg w.b0 (by omega)
  have h3 := w.r0
  have h4 := w.ht
  rw [tot_take w.hk]
  omega
theorem isW_uniq {l : List Pt} (h : Ok l) {t : Int} {k k2 : Nat} {b r b2 r2 : Int} (w : IsW l t k b r) (v : IsW l t k2 b2 r2) : k = k2 ∧ b = b2 ∧ r = r2 := by
  have h1 := isW_in h w
  have h2 := isW_in h v
  have e : k = k2 := by
    rcases Nat.lt_trichotomy k k2 with x | x | x
    · have := tot_mono h (i := k + 1) (j := k2) x
      omega
    · exact x
    · have := tot_mono h (i := k2 + 1) (j := k) x
      omega
  subst e
  have ho := ok_at h w.hk
  have a1 := w.ht
  have a2 := v.ht
  have a3 : b * (at' l k).2 + r = b2 * (at' l k).2 + r2 := by omega
  have q : ∀ {b r : Int}, 0 ≤ r → r < (at' l k).2 → (b * (at' l k).2 + r) / (at' l k).2 = b := fun {b r} r0 r1 => by
    rw [Int.add_comm, Int.add_mul_ediv_right _ _ (by omega), Int.ediv_eq_zero_of_lt r0 r1, Int.zero_add]
  have e2 : b = b2 := (q (b := b) w.r0 w.hr).symm.trans ((congrArg (· / (at' l k).2) a3).trans (q v.r0 v.hr))
  subst e2
  exact ⟨rfl, rfl, by omega⟩
theorem at_cons (p : Pt) (l : List Pt) (k : Nat) : at' (p :: l) (k + 1) = at' l k := rfl
theorem isW_wh : ∀ {l : List Pt}, Ok l → ∀ {t : Int}, 0 ≤ t → t < tot l → ∃ k : Nat, (wh l t).1 = k ∧ IsW l t k (wh l t).2.1 (wh l t).2.2
  | [], _, t, h0, h1 => by rw [tot_nil] at h1; omega
  | p :: l, h, t, h0, h1 => by
    have hp := (okM_iff p).1 (h p (List.mem_cons_self ..))
    rw [tot_cons] at h1
    unfold wh
    by_cases ht : t < p.1 * p.2
    · rw [if_pos ht]
      exact ⟨0, rfl, ⟨by simp, Int.ediv_nonneg h0 (by omega), Int.ediv_lt_of_lt_mul (by omega) ht, Int.emod_nonneg _ (by omega), Int.emod_lt_of_pos _ (by omega), by
        show t = tot [] + t / p.2 * p.2 + t % p.2
        rw [tot_nil, Int.zero_add, Int.ediv_mul_add_emod]⟩⟩
    · rw [if_neg ht]
      obtain ⟨k, e, w⟩ := isW_wh (l := l) (fun q hq => h q (List.mem_cons_of_mem _ hq)) (t := t - p.1 * p.2) (by omega) (by omega)
      refine ⟨k + 1, by show (wh l _).1 + 1 = _; rw [e]; rfl, ⟨by simpa using w.hk, w.b0, w.hb, w.r0, w.hr, ?_⟩⟩
      have := w.ht
      rw [List.take_succ_cons, tot_cons, at_cons]
      show t = _ + _ + (wh l (t - p.1 * p.2)).2.1 * _ + (wh l (t - p.1 * p.2)).2.2
      omega
theorem wh_of {l : List Pt} (h : Ok l) {t : Int} {k : Nat} {b r : Int} (w : IsW l t k b r) : wh l t = ((k : Int), b, r) := by
  have hi := isW_in h w
  have h1 := tot_le h k
  have h2 := tot_le h (k + 1)
  obtain ⟨k2, e, v⟩ := isW_wh h (t := t) (by omega) (by omega)
  obtain ⟨e1, e2, e3⟩ := isW_uniq h w v
  rw [e1, e2, e3, ← e]
def wE (l : List Pt) (t : Int) : Int := if chkE l = 0 then (if 0 ≤ t ∧ t < tot l then 0 else 1) else chkE l
def wV (l : List Pt) (t : Int) : Int × Int × Int := if wE l t = 0 then wh l t else (0, 0, 0)
theorem wE_bad {l : List Pt} (i : Int) (h : chkE l ≠ 0) : wE l i = chkE l := if_neg h
theorem wE_no {l : List Pt} {i : Int} (h : chkE l = 0) (hi : ¬ (0 ≤ i ∧ i < tot l)) : wE l i = 1 := by unfold wE; rw [if_pos h, if_neg hi]
theorem wE_ok {l : List Pt} {i : Int} (h : chkE l = 0) (hi : 0 ≤ i ∧ i < tot l) : wE l i = 0 := by unfold wE; rw [if_pos h, if_pos hi]
theorem wV_none {l : List Pt} {i : Int} (h : wE l i ≠ 0) : wV l i = (0, 0, 0) := if_neg h
theorem wE_zero {l : List Pt} {i : Int} : wE l i = 0 ↔ chkE l = 0 ∧ 0 ≤ i ∧ i < tot l := by
  unfold wE
  by_cases h : chkE l = 0
  · rw [if_pos h]
    by_cases g : 0 ≤ i ∧ i < tot l
    · rw [if_pos g]; exact ⟨fun _ => ⟨h, g⟩, fun _ => rfl⟩
    · rw [if_neg g]; exact ⟨fun x => by omega, fun x => absurd x.2 g⟩
  · rw [if_neg h]; exact ⟨fun x => absurd x h, fun x => absurd x.1 h⟩
theorem wV_of {l : List Pt} (h : chkE l = 0) {t : Int} {k : Nat} {b r : Int} (w : IsW l t k b r) : wE l t = 0 ∧ wV l t = ((k : Int), b, r) := by
  have ho := (chk_zero.1 h).2.2.1
  have hi := isW_in ho w
  have h1 := tot_le ho k
  have h2 := tot_le ho (k + 1)
  have e := wE_ok (i := t) h ⟨by omega, by omega⟩
  exact ⟨e, by unfold wV; rw [if_pos e, wh_of ho w]⟩
theorem wV_is {l : List Pt} {t : Int} (h : wE l t = 0) : ∃ (k : Nat) (b r : Int), wV l t = ((k : Int), b, r) ∧ IsW l t k b r := by
  obtain ⟨h1, h2, h3⟩ := wE_zero.1 h
  obtain ⟨k, e, w⟩ := isW_wh (chk_zero.1 h1).2.2.1 h2 h3
  refine ⟨k, _, _, ?_, w⟩
  unfold wV
  rw [if_pos h, ← e]
/-! ### The ticks at which beats begin -/
def bm (s u : Int) (n : Nat) : List Int := (List.range n).map fun (b : Nat) => s + (b : Int) * u
theorem bm_zero (s u : Int) : bm s u 0 = [] := rfl
theorem bm_succ (s u : Int) (n : Nat) : bm s u (n + 1) = bm s u n ++ [s + (n : Int) * u] := by unfold bm; rw [List.range_succ, List.map_append]; rfl
theorem bm_len (s u : Int) (n : Nat) : (bm s u n).length = n := by unfold bm; simp
theorem bm_mem {s u t : Int} {n : Nat} : t ∈ bm s u n ↔ ∃ b : Nat, b < n ∧ t = s + (b : Int) * u := by
  unfold bm
  rw [List.mem_map]
  constructor
  · rintro ⟨b, hb, rfl⟩; exact ⟨b, List.mem_range.1 hb, rfl⟩
  · rintro ⟨b, hb, rfl⟩; exact ⟨b, List.mem_range.2 hb, rfl⟩
def bts : Int → List Pt → List Int
  | _, [] => []
  | s, p :: l => bm s p.2 p.1.toNat ++ bts (s + p.1 * p.2) l
theorem bts_app (s : Int) (a b : List Pt) : bts s (a ++ b) = bts s a ++ bts (s + tot a) b := by
  induction a generalizing s with
  | nil => rw [tot_nil, Int.add_zero]; rfl
  | cons p a ih => rw [List.cons_append, bts, bts, ih, tot_cons, List.append_assoc, Int.add_assoc]
theorem bts_take {l : List Pt} {k : Nat} (h : k < l.length) : bts 0 (l.take (k + 1)) = bts 0 (l.take k) ++ bm (tot (l.take k)) (at' l k).2 (at' l k).1.toNat := by
  rw [take_at h, bts_app, Int.zero_add, bts, bts, List.append_nil]
theorem bts_len {l : List Pt} (h : Ok l) (s : Int) : ((bts s l).length : Int) = (l.map fun p => p.1).sum := by
  induction l generalizing s with
  | nil => rfl
  | cons p l ih =>
    have hp := (okM_iff p).1 (h p (List.mem_cons_self ..))
    rw [bts, List.length_append, bm_len, List.map_cons, List.sum_cons, ← ih (fun q hq => h q (List.mem_cons_of_mem _ hq)) (s + p.1 * p.2)]
    omega
theorem bts_in {l : List Pt} (h : Ok l) {s t : Int} (ht : t ∈ bts s l) : s ≤ t ∧ t < s + tot l := by
  induction l generalizing s with
  | nil => simp [bts] at ht
  | cons p l ih =>
    have hp := (okM_iff p).1 (h p (List.mem_cons_self ..))
    have hb := prod_bound hp.1 hp.2
    have hl : Ok l := fun q hq => h q (List.mem_cons_of_mem _ hq)
    have ht0 := (tot_bound hl).1
    rw [tot_cons]
    rw [bts, List.mem_append] at ht
    rcases ht with ht | ht
    · obtain ⟨b, hb2, rfl⟩ := bm_mem.1 ht
      have := beat_in (b := b) (u := p.2) (n := p.1) (r := 0) (by omega) (by omega) (by omega)
      have : 0 ≤ (b : Int) * p.2 := Int.mul_nonneg (by omega) (by omega)
      omega
    · have := ih hl ht
      omega
theorem bts_asc {l : List Pt} (h : Ok l) (s : Int) : (bts s l).Pairwise (· < ·) := by
  induction l generalizing s with
  | nil => exact List.Pairwise.nil
  | cons p l ih =>
    have hp := (okM_iff p).1 (h p (List.mem_cons_self ..))
    have hl : Ok l := fun q hq => h q (List.mem_cons_of_mem _ hq)
    rw [bts, List.pairwise_append]
    refine ⟨?_, ih hl _, fun a ha b hb => ?_⟩
    · unfold bm
      rw [List.pairwise_map]
      refine List.Pairwise.imp (fun {a b} hab => ?_) List.pairwise_lt_range
      have : ((a : Int) + 1) * p.2 ≤ b * p.2 := Int.mul_le_mul_of_nonneg_right (by omega) (by omega)
      rw [Int.add_mul] at this
      omega
    · obtain ⟨k, hk, rfl⟩ := bm_mem.1 ha
      have := bts_in hl hb
      have := beat_in (b := k) (u := p.2) (n := p.1) (r := 0) (by omega) (by omega) (by omega)
      omega
theorem bts_mem {l : List Pt} {t : Int} : Ok l → (t ∈ bts 0 l ↔ ∃ (k : Nat) (b : Int), IsW l t k b 0) := by
  intro h
  constructor
  · intro ht
    have key : ∀ k, k ≤ l.length → t ∈ bts 0 (l.take k) → ∃ (k : Nat) (b : Int), IsW l t k b 0 := by
      intro k
      induction k with
      | zero => intro _ h2; simp [bts] at h2
      | succ k ih =>
        intro hk h2
        rw [bts_take hk, List.mem_append] at h2
        rcases h2 with h2 | h2
        · exact ih (by omega) h2
        · obtain ⟨b, hb, e⟩ := bm_mem.1 h2
          have ho := ok_at h (k := k) hk
          exact ⟨k, b, ⟨hk, by omega, by omega, by omega, by omega, by omega⟩⟩
    exact key l.length (Nat.le_refl _) (by rw [List.take_length]; exact ht)
  · rintro ⟨k, b, w⟩
    have e : l = l.take (k + 1) ++ l.drop (k + 1) := (List.take_append_drop _ _).symm
    rw [e, bts_app, bts_take w.hk]
    refine List.mem_append_left _ (List.mem_append_right _ (bm_mem.2 ⟨b.toNat, ?_, ?_⟩))
    · have := w.hb; have := w.b0; omega
    · have h1 := w.ht
      have h2 := w.b0
      rw [Int.toNat_of_nonneg h2]
      omega
def inS (s : Pt) (t : Int) : Bool := decide (s.1 ≤ t) && decide (t < s.2)
theorem inS_iff (s : Pt) (t : Int) : inS s t = true ↔ s.1 ≤ t ∧ t < s.2 := by unfold inS; simp
def bE (l : List Pt) (s : Pt) : Int := if chkE l = 0 then (if 0 ≤ s.1 ∧ s.1 ≤ s.2 ∧ s.2 ≤ tot l then 0 else 1) else chkE l
def bV (l : List Pt) (s : Pt) : List Int := if bE l s = 0 then (bts 0 l).filter (inS s) else []
theorem bE_bad {l : List Pt} (s : Pt) (h : chkE l ≠ 0) : bE l s = chkE l := if_neg h
theorem bE_no {l : List Pt} {s : Pt} (h : chkE l = 0) (hi : ¬ (0 ≤ s.1 ∧ s.1 ≤ s.2 ∧ s.2 ≤ tot l)) : bE l s = 1 := by unfold bE; rw [if_pos h, if_neg hi]
theorem bE_ok {l : List Pt} {s : Pt} (h : chkE l = 0) (hi : 0 ≤ s.1 ∧ s.1 ≤ s.2 ∧ s.2 ≤ tot l) : bE l s = 0 := by unfold bE; rw [if_pos h, if_pos hi]
theorem bE_zero {l : List Pt} {s : Pt} : bE l s = 0 ↔ chkE l = 0 ∧ 0 ≤ s.1 ∧ s.1 ≤ s.2 ∧ s.2 ≤ tot l := by
  unfold bE
  by_cases h : chkE l = 0
  · rw [if_pos h]
    by_cases g : 0 ≤ s.1 ∧ s.1 ≤ s.2 ∧ s.2 ≤ tot l
    · rw [if_pos g]; exact ⟨fun _ => ⟨h, g⟩, fun _ => rfl⟩
    · rw [if_neg g]; exact ⟨fun x => by omega, fun x => absurd x.2 g⟩
  · rw [if_neg h]; exact ⟨fun x => absurd x h, fun x => absurd x.1 h⟩
theorem bV_none {l : List Pt} {s : Pt} (h : bE l s ≠ 0) : bV l s = [] := if_neg h
theorem bV_ok {l : List Pt} {s : Pt} (h : bE l s = 0) : bV l s = (bts 0 l).filter (inS s) := if_pos h
theorem sumB_le {l : List Pt} (h : Ok l) : (l.map fun p => p.1).sum ≤ tot l := by
  induction l with
  | nil => exact Int.le_refl _
  | cons p l ih =>
    have hp := (okM_iff p).1 (h p (List.mem_cons_self ..))
    have := ih fun q hq => h q (List.mem_cons_of_mem _ hq)
    have : p.1 * 1 ≤ p.1 * p.2 := Int.mul_le_mul_of_nonneg_left (by omega) (by omega)
    rw [List.map_cons, List.sum_cons, tot_cons]
    omega
theorem bV_len {l : List Pt} {s : Pt} : (bV l s).length ≤ 8192 := by
  by_cases h : bE l s = 0
  · rw [bV_ok h]
    obtain ⟨h1, _⟩ := bE_zero.1 h
    obtain ⟨_, h2, h3, h4⟩ := chk_zero.1 h1
    have h5 := List.length_filter_le (inS s) (bts 0 l)
    have h6 := bts_len h3 0
    have h7 := sumB_le h3
    omega
  · rw [bV_none h]; simp
theorem bV_mem {l : List Pt} {s : Pt} {t : Int} (h : bE l s = 0) : t ∈ bV l s ↔ wE l t = 0 ∧ (wV l t).2.2 = 0 ∧ s.1 ≤ t ∧ t < s.2 := by
  obtain ⟨h1, h2⟩ := bE_zero.1 h
  have ho := (chk_zero.1 h1).2.2.1
  rw [bV_ok h, List.mem_filter, bts_mem ho, inS_iff]
  constructor
  · rintro ⟨⟨k, b, w⟩, h3⟩
    obtain ⟨e1, e2⟩ := wV_of h1 w
    exact ⟨e1, by rw [e2], h3⟩
  · rintro ⟨e1, e2, h3⟩
    obtain ⟨k, b, r, e3, w⟩ := wV_is e1
    rw [e3] at e2
    have e2 : r = 0 := e2
    subst e2
    exact ⟨⟨k, b, w⟩, h3⟩
theorem bV_asc {l : List Pt} {s : Pt} : (bV l s).Pairwise (· < ·) := by
  by_cases h : bE l s = 0
  · rw [bV_ok h]
    exact (bts_asc (chk_zero.1 (bE_zero.1 h).1).2.2.1 0).filter _
  · rw [bV_none h]; exact List.Pairwise.nil
theorem bV_all {l : List Pt} (h : chkE l = 0) : bE l (0, tot l) = 0 ∧ ((bV l (0, tot l)).length : Int) = (l.map fun p => p.1).sum := by
  have ho := (chk_zero.1 h).2.2.1
  have ht := (tot_bound ho).1
  have e : bE l (0, tot l) = 0 := bE_ok h ⟨by simp, by show (0 : Int) ≤ tot l; omega, Int.le_refl _⟩
  refine ⟨e, ?_⟩
  rw [bV_ok e, List.filter_eq_self.2, bts_len ho]
  intro t ht
  have := bts_in ho ht
  rw [inS_iff]
  show (0 : Int) ≤ t ∧ t < tot l
  omega
/-! ### A part of a list -/
def cE (l : List Pt) (s : Pt) : Int := if chkE l = 0 then (if 0 ≤ s.1 ∧ s.1 < s.2 ∧ s.2 ≤ l.length then 0 else 32) else chkE l
def cV (l : List Pt) (s : Pt) : List Pt := if cE l s = 0 then (l.take s.2.toNat).drop s.1.toNat else []
theorem cE_bad {l : List Pt} (s : Pt) (h : chkE l ≠ 0) : cE l s = chkE l := if_neg h
theorem cE_no {l : List Pt} {s : Pt} (h : chkE l = 0) (hi : ¬ (0 ≤ s.1 ∧ s.1 < s.2 ∧ s.2 ≤ l.length)) : cE l s = 32 := by unfold cE; rw [if_pos h, if_neg hi]
theorem cE_ok {l : List Pt} {s : Pt} (h : chkE l = 0) (hi : 0 ≤ s.1 ∧ s.1 < s.2 ∧ s.2 ≤ l.length) : cE l s = 0 := by unfold cE; rw [if_pos h, if_pos hi]
theorem cE_zero {l : List Pt} {s : Pt} : cE l s = 0 ↔ chkE l = 0 ∧ 0 ≤ s.1 ∧ s.1 < s.2 ∧ s.2 ≤ l.length := by
  unfold cE
  by_cases h : chkE l = 0
  · rw [if_pos h]
    by_cases g : 0 ≤ s.1 ∧ s.1 < s.2 ∧ s.2 ≤ l.length
    · rw [if_pos g]; exact ⟨fun _ => ⟨h, g⟩, fun _ => rfl⟩
    · rw [if_neg g]; exact ⟨fun x => by omega, fun x => absurd x.2 g⟩
  · rw [if_neg h]; exact ⟨fun x => absurd x h, fun x => absurd x.1 h⟩
theorem cV_none {l : List Pt} {s : Pt} (h : cE l s ≠ 0) : cV l s = [] := if_neg h
theorem cV_ok {l : List Pt} {s : Pt} (h : cE l s = 0) : cV l s = (l.take s.2.toNat).drop s.1.toNat := if_pos h
theorem cut_len {l : List Pt} {a b : Nat} (h : b ≤ l.length) : ((l.take b).drop a).length = b - a := by simp; omega
theorem cut_at {l : List Pt} {a b i : Nat} (hi : i < b - a) : at' ((l.take b).drop a) i = at' l (a + i) := by
  unfold at'
  rw [List.getD_eq_getElem?_getD, List.getElem?_drop, List.getElem?_take_of_lt (by omega), ← List.getD_eq_getElem?_getD]
theorem cut_take {l : List Pt} {a b i : Nat} (hi : a + i ≤ b) : tot (((l.take b).drop a).take i) = tot (l.take (a + i)) - tot (l.take a) := by
  have e : l.take (a + i) = l.take a ++ ((l.take b).drop a).take i := by
    rw [List.take_drop, List.take_take, Nat.min_eq_left hi]
    have := List.take_append_drop a (l.take (a + i))
    rw [List.take_take, Nat.min_eq_left (by omega)] at this
    exact this.symm
  rw [e, tot_app]
  omega
theorem cut_chk {l : List Pt} {a b : Nat} (h : chkE l = 0) (hab : a < b) (hb : b ≤ l.length) : chkE ((l.take b).drop a) = 0 := by
  obtain ⟨h1, h2, h3, h4⟩ := chk_zero.1 h
  have hl := cut_len (l := l) (a := a) hb
  have ht : tot ((l.take b).drop a) ≤ tot l := by
    have e := cut_take (l := l) (a := a) (b := b) (i := b - a) (by omega)
    rw [List.take_of_length_le (by omega)] at e
    have := tot_le h3 (a + (b - a))
    have := tot_le h3 a
    omega
  exact chk_good (by omega) (by omega) (ok_drop (ok_take h3 b) a) (by omega)
theorem cut_eq {l : List Pt} {s : Pt} (h : cE l s = 0) : ∃ a b : Nat, s = ((a : Int), (b : Int)) ∧ a < b ∧ b ≤ l.length ∧ cV l s = (l.take b).drop a ∧ chkE (cV l s) = 0 ∧ (cV l s).length = b - a := by
  obtain ⟨h1, h2, h3, h4⟩ := cE_zero.1 h
  refine ⟨s.1.toNat, s.2.toNat, ?_, by omega, by omega, cV_ok h, ?_, ?_⟩
  · rw [Int.toNat_of_nonneg h2, Int.toNat_of_nonneg (by omega)]
  · rw [cV_ok h]; exact cut_chk h1 (by omega) (by omega)
  · rw [cV_ok h]; exact cut_len (by omega)
end Go.Proofs.Ytlepcahangkmiaa.MetP
