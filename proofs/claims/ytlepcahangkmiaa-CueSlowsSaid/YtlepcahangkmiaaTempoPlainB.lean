/-
  Tempo maps without what changes nothing, multiplied, and ramps. Nothing of the program. Condition: none.
-/
import Derived.Test.YtlepcahangkmiaaTempoPlain
import Derived.Test.YtlepcahangkmiaaNumPlain
namespace Go.Proofs.Ytlepcahangkmiaa.TemP
open PairW NumP

theorem at_app_lt {q : List Pt} {p : Pt} {i : Nat} (h : i < q.length) : at' (q ++ [p]) i = at' q i := by
  unfold at'
  rw [List.getD_eq_getElem?_getD, List.getD_eq_getElem?_getD, List.getElem?_append_left h]
theorem at_app_eq {q : List Pt} {p : Pt} {i : Nat} (h : i = q.length) : at' (q ++ [p]) i = p := by
  subst h
  unfold at'
  rw [List.getD_eq_getElem?_getD, List.getElem?_append_right (Nat.le_refl _)]
  simp
/-! ### The tempo of a tick, reckoned from the front -/
def ofF (l : List Pt) (t : Int) : Int := l.foldl (fun n p => if p.1 ≤ t then p.2 else n) 0
theorem ofF_nil (t : Int) : ofF [] t = 0 := rfl
theorem ofF_snoc (l : List Pt) (p : Pt) (t : Int) : ofF (l ++ [p]) t = if p.1 ≤ t then p.2 else ofF l t := by
  unfold ofF
  rw [List.foldl_append]
  rfl
theorem ofF_take {l : List Pt} {k : Nat} (h : k < l.length) (t : Int) : ofF (l.take (k + 1)) t = if (at' l k).1 ≤ t then (at' l k).2 else ofF (l.take k) t := by
  rw [take_at h, ofF_snoc]
theorem ofF_lst {l : List Pt} (h : Map l) {t : Int} (h0 : 0 ≤ t) : ∀ n, 0 < n → n ≤ l.length → ofF (l.take n) t = (at' l (lst l t n)).2
  | 0, h1, _ => absurd h1 (Nat.lt_irrefl _)
  | n + 1, _, h2 => by
    rw [ofF_take h2]
    unfold lst
    by_cases g : (at' l n).1 ≤ t
    · rw [if_pos g, if_pos g]
    · rw [if_neg g, if_neg g]
      rcases Nat.eq_zero_or_pos n with e | e
      · subst e
        have := h.first
        omega
      · exact ofF_lst h h0 n e (by omega)
theorem ofV_ofF {l : List Pt} (h : Map l) {t : Int} (h0 : 0 ≤ t) : ofV l t = ofF l t := by
  have := ofF_lst h h0 l.length h.n0 (Nat.le_refl _)
  rw [List.take_length] at this
  exact this.symm
theorem mV_by_of {l q : List Pt} (hl : Map l) (hq : Map q) {c : Int} (h : ∀ t, 0 ≤ t → ofF q t = c * ofF l t) : ∀ n : Nat, mV q n = c * mV l n
  | 0 => by
    have e1 := mV_zero hl
    have e2 := mV_zero hq
    show mV q 0 = c * mV l 0
    rw [e1, e2, Int.mul_zero]
  | n + 1 => by
    have ih := mV_by_of hl hq h n
    have h1 := mV_step hl (t := n) (by omega)
    have h2 := mV_step hq (t := n) (by omega)
    rw [ofV_ofF hl (by omega)] at h1
    rw [ofV_ofF hq (by omega), h n (by omega), ih] at h2
    show mV q ((n : Int) + 1) = c * mV l ((n : Int) + 1)
    rw [h1, h2, Int.mul_add]
/-! ### The normal form -/
def nrm (l : List Pt) : Nat → List Pt
  | 0 => []
  | k + 1 => if k = 0 ∨ (at' l k).2 ≠ (at' l (k - 1)).2 then nrm l k ++ [at' l k] else nrm l k
theorem nrm_zero (l : List Pt) : nrm l 0 = [] := rfl
theorem nrm_one (l : List Pt) : nrm l 1 = [at' l 0] := by show (if 0 = 0 ∨ _ then nrm l 0 ++ [at' l 0] else nrm l 0) = _; rw [if_pos (.inl rfl)]; rfl
theorem nrm_add {l : List Pt} {k : Nat} (h : k = 0 ∨ (at' l k).2 ≠ (at' l (k - 1)).2) : nrm l (k + 1) = nrm l k ++ [at' l k] := if_pos h
theorem nrm_skip {l : List Pt} {k : Nat} (h0 : 0 < k) (h : (at' l k).2 = (at' l (k - 1)).2) : nrm l (k + 1) = nrm l k := if_neg (fun x => x.elim (fun y => by omega) (fun y => y h))
theorem nrm_len (l : List Pt) : ∀ k, (nrm l k).length ≤ k
  | 0 => Nat.le_refl _
  | k + 1 => by
    have := nrm_len l k
    unfold nrm
    split
    · rw [List.length_append]; simp; omega
    · omega
/-- As long as every tempo differs from the one before, nothing is left out. -/
theorem nrm_all {l : List Pt} : ∀ {k : Nat}, k ≤ l.length → (∀ i, 0 < i → i < k → (at' l i).2 ≠ (at' l (i - 1)).2) → nrm l k = l.take k
  | 0, _, _ => by simp [nrm]
  | k + 1, h1, h2 => by
    rw [nrm_add ((Nat.eq_zero_or_pos k).imp id fun e => h2 k e (Nat.lt_succ_self _)), nrm_all (by omega) (fun i x y => h2 i x (by omega)), take_at h1]
/-- What is left of the first tempos, up to the tempo k. -/
structure Nm (l : List Pt) (k : Nat) (q : List Pt) : Prop where
  n0 : 0 < q.length
  mem : ∀ p ∈ q, p ∈ l
  first : at' q 0 = at' l 0
  last1 : (at' q (q.length - 1)).1 ≤ (at' l k).1
  last2 : (at' q (q.length - 1)).2 = (at' l k).2
  step : ∀ i, i + 1 < q.length → (at' q i).1 < (at' q (i + 1)).1 ∧ (at' q (i + 1)).2 ≠ (at' q i).2
  same : ∀ t, ofF q t = ofF (l.take (k + 1)) t
theorem nm_is {l : List Pt} (h : Map l) : ∀ k, k < l.length → Nm l k (nrm l (k + 1))
  | 0, hk => by
    rw [nrm_one]
    refine ⟨by simp, fun p hp => by rw [List.mem_singleton] at hp; rw [hp]; exact at_mem hk, rfl, Int.le_refl _, rfl, fun i hi => by simp at hi, fun t => ?_⟩
    rw [take_at hk]
    rfl
  | k + 1, hk => by
    have ih := nm_is h k (by omega)
    obtain ⟨q, hq⟩ : ∃ q, nrm l (k + 1) = q := ⟨_, rfl⟩
    rw [hq] at ih
    have hlt := h.asc k hk
    by_cases g : (at' l (k + 1)).2 = (at' l k).2
    · rw [nrm_skip (Nat.succ_pos _) g, hq]
      refine ⟨ih.n0, ih.mem, ih.first, by have := ih.last1; omega, by rw [g]; exact ih.last2, ih.step, fun t => ?_⟩
      rw [ofF_take hk, ih.same]
      by_cases x : (at' l (k + 1)).1 ≤ t
      · rw [if_pos x, ofF_take (by omega), if_pos (by omega), g]
      · rw [if_neg x]
    · rw [nrm_add (.inr g), hq]
      have hl : (q ++ [at' l (k + 1)]).length = q.length + 1 := by rw [List.length_append]; rfl
      have hl1 := ih.last1
      have hl2 := ih.last2
      have hn := ih.n0
      refine ⟨by omega, fun p hp => ?_, ?_, ?_, ?_, fun i hi => ?_, fun t => ?_⟩
      · rcases List.mem_append.1 hp with x | x
        · exact ih.mem p x
        · rw [List.mem_singleton] at x; rw [x]; exact at_mem hk
      · rw [at_app_lt hn]; exact ih.first
      · rw [hl, at_app_eq (by omega)]; exact Int.le_refl _
      · rw [hl, at_app_eq (by omega)]
      · rw [hl] at hi
        rcases Nat.lt_or_ge (i + 1) q.length with x | x
        · rw [at_app_lt x, at_app_lt (by omega)]
          exact ih.step i x
        · rw [at_app_eq (i := i + 1) (by omega), at_app_lt (i := i) (by omega), show i = q.length - 1 by omega]
          exact ⟨by omega, by rw [hl2]; exact g⟩
      · rw [ofF_snoc, ofF_take hk, ih.same]
def nmV (l : List Pt) : List Pt := if chkE l = 0 then nrm l l.length else []
theorem nm_bad {l : List Pt} (h : chkE l ≠ 0) : nmV l = [] := if_neg h
theorem nm_ok {l : List Pt} (h : chkE l = 0) : nmV l = nrm l l.length := if_pos h
theorem nm_len (l : List Pt) : (nmV l).length ≤ l.length := by
  unfold nmV
  split
  · exact nrm_len l _
  · exact Nat.zero_le _
theorem nm_map {l : List Pt} (h : chkE l = 0) : Map (nmV l) ∧ (∀ i, i + 1 < (nmV l).length → (at' (nmV l) (i + 1)).2 ≠ (at' (nmV l) i).2) ∧ ∀ t, 0 ≤ t → mV (nmV l) t = mV l t := by
  have hm := chk_map.1 h
  have hn := hm.n0
  obtain ⟨n, e⟩ : ∃ n, l.length = n + 1 := ⟨l.length - 1, by omega⟩
  have hq := nm_is hm n (by omega)
  have hlen := nrm_len l (n + 1)
  rw [nm_ok h, e]
  have hmq : Map (nrm l (n + 1)) := ⟨hq.n0, by have := hm.n1; omega, fun p hp => hm.ok p (hq.mem p hp), by rw [hq.first]; exact hm.first, fun i hi => (hq.step i hi).1⟩
  refine ⟨hmq, fun i hi => (hq.step i hi).2, fun t h0 => ?_⟩
  have := mV_by_of (c := 1) hm hmq (fun t _ => by rw [hq.same, ← e, List.take_length, Int.one_mul]) t.toNat
  rw [show ((t.toNat : Nat) : Int) = t by omega, Int.one_mul] at this
  exact this
/-! ### Multiplied tempos -/
def scX (p q x : Int) : Int := max 1 (nearV (x * p) q)
def sc (p q : Int) (l : List Pt) : List Pt := l.map fun e => (e.1, scX p q e.2)
theorem sc_len (p q : Int) (l : List Pt) : (sc p q l).length = l.length := by unfold sc; rw [List.length_map]
theorem sc_take {p q : Int} {l : List Pt} {k : Nat} (h : k < l.length) : sc p q (l.take (k + 1)) = sc p q (l.take k) ++ [((at' l k).1, scX p q (at' l k).2)] := by
  rw [take_at h]
  unfold sc
  rw [List.map_append]
  rfl
theorem sc_at {p q : Int} {l : List Pt} {k : Nat} (h : k < l.length) : at' (sc p q l) k = ((at' l k).1, scX p q (at' l k).2) := by
  unfold at' sc
  rw [List.getD_eq_getElem?_getD, List.getElem?_map, List.getD_eq_getElem?_getD, List.getElem?_eq_getElem h]
  rfl
def scOk (p q : Int) : Bool := decide (1 ≤ p) && decide (p ≤ 1000) && (decide (1 ≤ q) && decide (q ≤ 1000))
theorem scOk_iff (p q : Int) : scOk p q = true ↔ (1 ≤ p ∧ p ≤ 1000) ∧ 1 ≤ q ∧ q ≤ 1000 := by
  unfold scOk
  simp only [Bool.and_eq_true, decide_eq_true_eq]
def bigB (p q : Int) (l : List Pt) : Bool := l.any fun e => decide (4194304 < nearV (e.2 * p) q)
def scE (l : List Pt) (p q : Int) : Int := if chkE l = 0 then (if scOk p q = true then (if bigB p q l = true then 1 else 0) else 1) else chkE l
def scV (l : List Pt) (p q : Int) : List Pt := if scE l p q = 0 then sc p q l else []
theorem sc_bad {l : List Pt} (p q : Int) (h : chkE l ≠ 0) : scE l p q = chkE l ∧ scV l p q = [] := by
  have e : scE l p q = chkE l := if_neg h
  exact ⟨e, by unfold scV; rw [if_neg (by rw [e]; exact h)]⟩
theorem sc_no {l : List Pt} {p q : Int} (h : chkE l = 0) (h1 : scOk p q = false) : scE l p q = 1 ∧ scV l p q = [] := by
  have e : scE l p q = 1 := by unfold scE; rw [if_pos h, if_neg (by rw [h1]; decide)]
  exact ⟨e, by unfold scV; rw [if_neg (by rw [e]; decide)]⟩
theorem sc_big {l : List Pt} {p q : Int} (h : chkE l = 0) (h1 : scOk p q = true) {k : Nat} (hk : k < l.length) (hb : 4194304 < nearV ((at' l k).2 * p) q) : scE l p q = 1 ∧ scV l p q = [] := by
  have hg : bigB p q l = true := List.any_eq_true.2 ⟨_, at_mem hk, decide_eq_true hb⟩
  have e : scE l p q = 1 := by unfold scE; rw [if_pos h, if_pos h1, if_pos hg]
  exact ⟨e, by unfold scV; rw [if_neg (by rw [e]; decide)]⟩
theorem sc_ok {l : List Pt} {p q : Int} (h : chkE l = 0) (h1 : scOk p q = true) (hb : ∀ k, k < l.length → nearV ((at' l k).2 * p) q ≤ 4194304) : scE l p q = 0 ∧ scV l p q = sc p q l := by
  have hg : bigB p q l ≠ true := by
    intro hx
    obtain ⟨e, he, hd⟩ := List.any_eq_true.1 hx
    obtain ⟨i, hi, rfl⟩ := List.mem_iff_getElem.1 he
    have := hb i hi
    unfold at' at this
    rw [List.getD_eq_getElem?_getD, List.getElem?_eq_getElem hi, Option.getD_some] at this
    have := of_decide_eq_true hd
    omega
  have e : scE l p q = 0 := by unfold scE; rw [if_pos h, if_pos h1, if_neg hg]
  exact ⟨e, by unfold scV; rw [if_pos e]⟩
theorem sc_len_le (l : List Pt) (p q : Int) : (scV l p q).length ≤ l.length := by
  unfold scV
  split
  · rw [sc_len]; exact Nat.le_refl _
  · exact Nat.zero_le _
/-- What a product and its quotient stay within. -/
theorem sc_bound {x p q : Int} (hx : 1 ≤ x ∧ x ≤ 4194304) (hp : scOk p q = true) : (0 ≤ x * p ∧ x * p ≤ 4194304000) ∧ roundE (x * p) q = 0 ∧ roundV (x * p) q = nearV (x * p) q ∧ 0 ≤ nearV (x * p) q ∧ nearV (x * p) q ≤ 4194304000 := by
  obtain ⟨⟨p0, p1⟩, q0, q1⟩ := (scOk_iff p q).1 hp
  have e1 := mul_bd (a := x) (b := p) (m := 1000) (by omega) p0 p1
  have s1 : smallB (x * p) = true := (small_iff _).2 (by omega)
  have s2 : smallB q = true := (small_iff _).2 (by omega)
  have e2 := round_ok s1 s2 (by omega)
  rw [if_neg (by omega)] at e2
  have e3 := near_bd (x * p) q 4194304000 q0 (by omega) (by omega)
  have e4 := near_ge (s := x * p) (d := q) (m := 0) q0 (by omega)
  exact ⟨by omega, e2.1, e2.2, e4, e3.2⟩
theorem near_exact (n : Int) {d : Int} (hd : 1 ≤ d) : nearV (n * d) d = n := nearV_eq hd ⟨by omega, by omega, fun h => by omega, fun h => by omega⟩
theorem scX_same {x p : Int} (hx : 1 ≤ x) (hp : 1 ≤ p) : scX p p x = x := by unfold scX; rw [near_exact x hp]; omega
theorem scX_whole {x p : Int} (hx : 1 ≤ x) (hp : 1 ≤ p) : nearV (x * p) 1 = x * p ∧ scX p 1 x = x * p := by
  have e := near_exact (x * p) (d := 1) (by omega)
  rw [Int.mul_one] at e
  have := mul_bd (a := x) (b := p) (m := p) (by omega) hp (Int.le_refl _)
  exact ⟨e, by unfold scX; rw [e]; omega⟩
theorem sc_same {l : List Pt} {p : Int} (h : chkE l = 0) (h1 : 1 ≤ p ∧ p ≤ 1000) : scE l p p = 0 ∧ scV l p p = l := by
  have hm := chk_map.1 h
  have e := sc_ok (p := p) (q := p) h ((scOk_iff p p).2 ⟨h1, h1⟩) (fun k hk => by rw [near_exact _ h1.1]; exact (ok_at hm.ok hk).2.2)
  refine ⟨e.1, e.2.trans (lists_eq (sc_len ..) fun i hi => ?_)⟩
  rw [sc_len] at hi
  rw [sc_at hi, scX_same (ok_at hm.ok hi).2.1 h1.1]
theorem foldl_times {c t : Int} {f : Pt → Pt} : ∀ {l : List Pt}, (∀ e ∈ l, (f e).1 = e.1 ∧ (f e).2 = c * e.2) → ∀ a : Int, (l.map f).foldl (fun n p => if p.1 ≤ t then p.2 else n) (c * a) = c * l.foldl (fun n p => if p.1 ≤ t then p.2 else n) a
  | [], _, a => rfl
  | e :: l, h, a => by
    obtain ⟨h1, h2⟩ := h e (List.mem_cons_self ..)
    have ih := foldl_times (c := c) (t := t) (f := f) (l := l) (fun x hx => h x (List.mem_cons_of_mem _ hx))
    rw [List.map_cons, List.foldl_cons, List.foldl_cons, h1, h2]
    by_cases g : e.1 ≤ t
    · rw [if_pos g, if_pos g]; exact ih _
    · rw [if_neg g, if_neg g]; exact ih _
theorem sc_times {l : List Pt} {p : Int} (h : chkE l = 0) (h1 : 1 ≤ p ∧ p ≤ 1000) (hb : ∀ k, k < l.length → (at' l k).2 * p ≤ 4194304) : scE l p 1 = 0 ∧ scV l p 1 = sc p 1 l ∧ Map (sc p 1 l) ∧ ∀ t, 0 ≤ t → mV (sc p 1 l) t = mV l t * p := by
  have hm := chk_map.1 h
  have e := sc_ok (p := p) (q := 1) h ((scOk_iff p 1).2 ⟨h1, by omega⟩) (fun k hk => by rw [(scX_whole (ok_at hm.ok hk).2.1 h1.1).1]; exact hb k hk)
  have hat : ∀ k, k < l.length → at' (sc p 1 l) k = ((at' l k).1, (at' l k).2 * p) := fun k hk => by rw [sc_at hk, (scX_whole (ok_at hm.ok hk).2.1 h1.1).2]
  have hmq : Map (sc p 1 l) := by
    refine ⟨by rw [sc_len]; exact hm.n0, by rw [sc_len]; exact hm.n1, ok_upto fun i hi => ?_, by rw [hat 0 hm.n0]; exact hm.first, fun i hi => ?_⟩
    · rw [sc_len] at hi
      rw [hat i hi, okT_iff]
      have h2 := ok_at hm.ok hi
      have h3 := hb i hi
      have := mul_bd (a := (at' l i).2) (b := p) (m := p) (by omega) h1.1 (Int.le_refl _)
      simp only
      omega
    · rw [sc_len] at hi
      rw [hat i (by omega), hat (i + 1) hi]
      exact hm.asc i hi
  refine ⟨e.1, e.2, hmq, fun t h0 => ?_⟩
  have := mV_by_of (c := p) hm hmq (fun t _ => by
    have := foldl_times (c := p) (t := t) (f := fun e => (e.1, scX p 1 e.2)) (l := l) (fun x hx => ⟨rfl, by
      have := (okT_iff x).1 (hm.ok x hx)
      simp only
      rw [(scX_whole this.2.1 h1.1).2, Int.mul_comm]⟩) 0
    rw [Int.mul_zero] at this
    exact this) t.toNat
  rw [show ((t.toNat : Nat) : Int) = t by omega, Int.mul_comm] at this
  exact this
theorem sc_over {l : List Pt} {p : Int} (h : chkE l = 0) (h1 : 1 ≤ p ∧ p ≤ 1000) {k : Nat} (hk : k < l.length) (hb : 4194304 < (at' l k).2 * p) : scE l p 1 = 1 ∧ scV l p 1 = [] := by
  have hm := chk_map.1 h
  exact sc_big h ((scOk_iff p 1).2 ⟨h1, by omega⟩) hk (by rw [(scX_whole (ok_at hm.ok hk).2.1 h1.1).1]; exact hb)
/-! ### Ramps -/
def rpOk (a n e f g : Int) : Bool := (decide (0 ≤ a) && decide (a ≤ 8192)) && (decide (1 ≤ f) && decide (f ≤ 1048576)) && (decide (1 ≤ g) && decide (g ≤ 1048576)) && (decide (1 ≤ n) && decide (n ≤ 63)) && (decide (1 ≤ e) && decide (e ≤ 24)) && decide (a + n * e ≤ 8192)
theorem rpOk_iff (a n e f g : Int) : rpOk a n e f g = true ↔ (0 ≤ a ∧ a ≤ 8192) ∧ (1 ≤ f ∧ f ≤ 1048576) ∧ (1 ≤ g ∧ g ≤ 1048576) ∧ (1 ≤ n ∧ n ≤ 63) ∧ (1 ≤ e ∧ e ≤ 24) ∧ a + n * e ≤ 8192 := by
  unfold rpOk
  simp only [Bool.and_eq_true, decide_eq_true_eq]
  omega
theorem rp_not {a n e f g : Int} (h : rpOk a n e f g = false) : a < 0 ∨ 8192 < a ∨ f < 1 ∨ 1048576 < f ∨ g < 1 ∨ 1048576 < g ∨ n < 1 ∨ 63 < n ∨ e < 1 ∨ 24 < e ∨ 8192 < a + n * e := by
  have := mt (rpOk_iff a n e f g).2 (by rw [h]; decide)
  omega
def rpAt (a n e f g : Int) (i : Nat) : Pt := (a + i * e, lerpV f g i n)
def rp (a n e f g : Int) (k : Nat) : List Pt := (List.range k).map (rpAt a n e f g)
theorem rp_len (a n e f g : Int) (k : Nat) : (rp a n e f g k).length = k := by unfold rp; rw [List.length_map, List.length_range]
theorem rp_snoc (a n e f g : Int) (k : Nat) : rp a n e f g (k + 1) = rp a n e f g k ++ [rpAt a n e f g k] := by
  unfold rp
  rw [List.range_succ, List.map_append]
  rfl
def rpE (a n e f g : Int) : Int := if rpOk a n e f g = true then 0 else 1
def rpV (a n e f g : Int) : List Pt := if rpOk a n e f g = true then rp a n e f g (n.toNat + 1) else []
theorem rp_ok {a n e f g : Int} (h : rpOk a n e f g = true) : rpE a n e f g = 0 ∧ rpV a n e f g = rp a n e f g (n.toNat + 1) := ⟨if_pos h, if_pos h⟩
theorem rp_no {a n e f g : Int} (h : rpOk a n e f g = false) : rpE a n e f g = 1 ∧ rpV a n e f g = [] := by
  unfold rpE rpV
  rw [if_neg (by rw [h]; decide), if_neg (by rw [h]; decide)]
  exact ⟨rfl, rfl⟩
theorem rp_lerp {a n e f g : Int} (h : rpOk a n e f g = true) {k : Nat} (hk : (k : Int) ≤ n) : lerpE f g k n = 0 := by
  have := (rpOk_iff ..).1 h
  exact (lerp_ok ((lerpOk_iff ..).2 (by omega))).1
theorem rp_last {a n e f g : Int} (h : rpOk a n e f g = true) {k : Nat} (hk : (k : Int) = n) : rpAt a n e f g k = (a + n * e, g) := by
  have := (rpOk_iff ..).1 h
  unfold rpAt
  rw [(lerpV_ends ((lerpOk_iff f g k n).2 (by omega))).2 hk, hk]
theorem rp_step {a n e f g : Int} (h : rpOk a n e f g = true) {k : Nat} (hk : (k : Int) ≤ n) : 0 ≤ k * e ∧ a + k * e ≤ 8192 := by
  have := (rpOk_iff ..).1 h
  have e1 : (k : Int) * e ≤ n * e := Int.mul_le_mul_of_nonneg_right hk (by omega)
  have e2 : 0 ≤ (k : Int) * e := Int.mul_nonneg (by omega) (by omega)
  omega
end Go.Proofs.Ytlepcahangkmiaa.TemP
