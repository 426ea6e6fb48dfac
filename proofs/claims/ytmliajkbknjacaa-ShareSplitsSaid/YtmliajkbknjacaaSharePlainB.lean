/-
  Shares of lists of weights, amounts of stages: values and errors. No word of the program. Condition: none.
-/
import Derived.Test.YtmliajkbknjacaaSharePlain
namespace Go.Proofs.Ytmliajkbknjacaa.ShaP
open AsgP (su su_zero su_succ su_congr su_add su_le su_const su_bound su_one)
def wF (ws : List Int) (i : Nat) : Int := ws.getD i 0
def okW (x : Int) : Bool := decide (0 ≤ x) && decide (x ≤ 1099511627776)
theorem okW_iff {x : Int} : okW x = true ↔ 0 ≤ x ∧ x ≤ 1099511627776 := by unfold okW; rw [Bool.and_eq_true, decide_eq_true_eq, decide_eq_true_eq]
theorem okW_no {x : Int} : okW x = false ↔ x < 0 ∨ 1099511627776 < x := by rw [← Bool.not_eq_true, okW_iff]; omega
def sumW (ws : List Int) : Int := su (wF ws) ws.length
def splE (t : Int) (ws : List Int) : Int :=
  if okW t = false then 1 else if ws.length = 0 then 4 else if 512 < ws.length then 3 else if ws.all okW = false then 1 else if sumW ws = 0 then 11 else if 1099511627776 < sumW ws then 12 else 0
/-- A list by its elements. -/
def mpF (f : Nat → Int) (n : Nat) : List Int := (List.range n).map f
theorem mpF_len {f : Nat → Int} {n : Nat} : (mpF f n).length = n := by unfold mpF; rw [List.length_map, List.length_range]
theorem mpF_succ {f : Nat → Int} {n : Nat} : mpF f (n + 1) = mpF f n ++ [f n] := by unfold mpF; rw [List.range_succ, List.map_append]; rfl
theorem mpF_at {f : Nat → Int} {n i : Nat} (h : i < n) : (mpF f n)[i]? = some (f i) := by unfold mpF; rw [List.getElem?_map, List.getElem?_range h]; rfl
theorem mpF_getD {f : Nat → Int} {n i : Nat} (h : i < n) : (mpF f n).getD i 0 = f i := by rw [List.getD_eq_getElem?_getD, mpF_at h]; rfl
theorem mpF_congr {f g : Nat → Int} {n : Nat} (h : ∀ i, i < n → f i = g i) : mpF f n = mpF g n := List.map_congr_left fun i hi => h i (List.mem_range.1 hi)
theorem mpF_self (ws : List Int) : mpF (wF ws) ws.length = ws := by
  refine List.ext_getElem? fun i => ?_
  by_cases h : i < ws.length
  · rw [mpF_at h, List.getElem?_eq_getElem h]
    unfold wF
    rw [List.getD_eq_getElem?_getD, List.getElem?_eq_getElem h]
    rfl
  · rw [List.getElem?_eq_none (by rw [mpF_len]; omega), List.getElem?_eq_none (by omega)]
def splV (t : Int) (ws : List Int) : List Int := if splE t ws = 0 then mpF (shF t (sumW ws) (wF ws) ws.length) ws.length else []
theorem splV_bad {t : Int} {ws : List Int} (h : splE t ws ≠ 0) : splV t ws = [] := by unfold splV; rw [if_neg h]
theorem splV_ok {t : Int} {ws : List Int} (h : splE t ws = 0) : splV t ws = mpF (shF t (sumW ws) (wF ws) ws.length) ws.length := by unfold splV; rw [if_pos h]
section
variable {t : Int} {ws : List Int}
theorem splE_t (h : okW t = false) : splE t ws = 1 := by unfold splE; rw [if_pos h]
theorem splE_empty (h : okW t = true) (h1 : ws.length = 0) : splE t ws = 4 := by unfold splE; rw [if_neg (by rw [h]; decide), if_pos h1]
theorem splE_full (h : okW t = true) (h1 : 512 < ws.length) : splE t ws = 3 := by unfold splE; rw [if_neg (by rw [h]; decide), if_neg (by omega), if_pos h1]
theorem splE_w (h : okW t = true) (h1 : 0 < ws.length) (h2 : ws.length ≤ 512) (h3 : ws.all okW = false) : splE t ws = 1 := by unfold splE; rw [if_neg (by rw [h]; decide), if_neg (by omega), if_neg (by omega), if_pos h3]
theorem splE_zero (h : okW t = true) (h1 : 0 < ws.length) (h2 : ws.length ≤ 512) (h3 : ws.all okW = true) (h4 : sumW ws = 0) : splE t ws = 11 := by unfold splE; rw [if_neg (by rw [h]; decide), if_neg (by omega), if_neg (by omega), if_neg (by rw [h3]; decide), if_pos h4]
theorem splE_over (h : okW t = true) (h1 : 0 < ws.length) (h2 : ws.length ≤ 512) (h3 : ws.all okW = true) (h4 : 1099511627776 < sumW ws) : splE t ws = 12 := by unfold splE; rw [if_neg (by rw [h]; decide), if_neg (by omega), if_neg (by omega), if_neg (by rw [h3]; decide), if_neg (by omega), if_pos h4]
theorem splE_fine (h : okW t = true) (h1 : 0 < ws.length) (h2 : ws.length ≤ 512) (h3 : ws.all okW = true) (h4 : sumW ws ≠ 0) (h5 : sumW ws ≤ 1099511627776) : splE t ws = 0 := by unfold splE; rw [if_neg (by rw [h]; decide), if_neg (by omega), if_neg (by omega), if_neg (by rw [h3]; decide), if_neg h4, if_neg (by omega)]
theorem splE_ok (h : splE t ws = 0) : okW t = true ∧ (0 < ws.length ∧ ws.length ≤ 512) ∧ ws.all okW = true ∧ sumW ws ≠ 0 ∧ sumW ws ≤ 1099511627776 := by
  unfold splE at h
  by_cases a : okW t = false
  · rw [if_pos a] at h; omega
  · rw [if_neg a] at h
    by_cases b : ws.length = 0
    · rw [if_pos b] at h; omega
    · rw [if_neg b] at h
      by_cases c : 512 < ws.length
      · rw [if_pos c] at h; omega
      · rw [if_neg c] at h
        by_cases d : ws.all okW = false
        · rw [if_pos d] at h; omega
        · rw [if_neg d] at h
          by_cases e : sumW ws = 0
          · rw [if_pos e] at h; omega
          · rw [if_neg e] at h
            by_cases g : 1099511627776 < sumW ws
            · rw [if_pos g] at h; omega
            · exact ⟨by simpa using a, ⟨by omega, by omega⟩, by simpa using d, e, by omega⟩
theorem all_at (h : ws.all okW = true) {i : Nat} (hi : i < ws.length) : 0 ≤ wF ws i ∧ wF ws i ≤ 1099511627776 := by
  refine okW_iff.1 (List.all_eq_true.1 h _ ?_)
  unfold wF
  rw [List.getD_eq_getElem?_getD, List.getElem?_eq_getElem hi]
  exact List.getElem_mem hi
theorem all_mk (h : ∀ i, i < ws.length → okW (wF ws i) = true) : ws.all okW = true := List.all_eq_true.2 fun x hx => by
  obtain ⟨i, hi, rfl⟩ := List.mem_iff_getElem.1 hx
  have := h i hi
  unfold wF at this
  rwa [List.getD_eq_getElem?_getD, List.getElem?_eq_getElem hi] at this
theorem all_no {i : Nat} (hi : i < ws.length) (h : okW (wF ws i) = false) : ws.all okW = false := by
  refine Bool.eq_false_iff.2 fun e => ?_
  have := okW_iff.2 (all_at e hi)
  rw [h] at this
  cases this
/-- The sum of the first weights. -/
theorem su_w {k : Nat} (h : ∀ i, i < k → 0 ≤ wF ws i ∧ wF ws i ≤ 1099511627776) : 0 ≤ su (wF ws) k ∧ su (wF ws) k ≤ k * 1099511627776 := by
  have := su_bound (f := wF ws) (a := 0) (b := 1099511627776) (n := k) h
  omega
theorem splE_wts (h : splE t ws = 0) : Wts t (sumW ws) (wF ws) ws.length := by
  obtain ⟨h1, _, h3, h4, _⟩ := splE_ok h
  have h5 := su_w (ws := ws) (k := ws.length) fun i hi => all_at h3 hi
  have e : sumW ws = su (wF ws) ws.length := rfl
  exact ⟨(okW_iff.1 h1).1, by omega, fun i hi => (all_at h3 hi).1, rfl⟩
theorem su_mono {f : Nat → Int} {n : Nat} (h : ∀ i, i < n → 0 ≤ f i) {k : Nat} (hk : k ≤ n) : su f k ≤ su f n := by
  induction n with
  | zero => obtain rfl : k = 0 := by omega
            exact Int.le_refl _
  | succ n ih =>
    by_cases e : k = n + 1
    · rw [e]; exact Int.le_refl _
    · have h1 := ih (fun i hi => h i (by omega)) (by omega)
      have h2 := h n (by omega)
      rw [su_succ]
      omega
theorem su_elem {f : Nat → Int} {n : Nat} (h : ∀ i, i < n → 0 ≤ f i) {i : Nat} (hi : i < n) : f i ≤ su f n := by
  have h1 := su_mono h (k := i + 1) (by omega)
  have h2 := su_mono (f := f) (n := i) (k := 0) (fun j hj => h j (by omega)) (by omega)
  rw [su_succ] at h1
  rw [su_zero] at h2
  omega
/-- Every weight is at most their sum. -/
theorem w_le (h : splE t ws = 0) {i : Nat} (hi : i < ws.length) : wF ws i ≤ sumW ws := su_elem (fun j hj => (splE_wts h).nn j hj) hi
theorem q_le (h : splE t ws = 0) {i : Nat} (hi : i < ws.length) : qF t (sumW ws) (wF ws) i ≤ t := by
  have hw := splE_wts h
  have h1 : t * wF ws i ≤ t * sumW ws := Int.mul_le_mul_of_nonneg_left (w_le h hi) hw.t0
  have h2 := qr t (sumW ws) (wF ws) i
  have h3 := (hw.r0 i).1
  refine Int.le_of_mul_le_mul_left (a := sumW ws) ?_ hw.pos
  rw [Int.mul_comm (sumW ws) t]
  omega
end
/-- The first i elements by g, the others by f. -/
def outF (f g : Nat → Int) (n i : Nat) : List Int := mpF (fun k => if k < i then g k else f k) n
theorem outF_len {f g : Nat → Int} {n i : Nat} : (outF f g n i).length = n := mpF_len
theorem outF_zero (f g : Nat → Int) (n : Nat) : outF f g n 0 = mpF f n := mpF_congr fun _ _ => if_neg (Nat.not_lt_zero _)
theorem outF_end (f g : Nat → Int) (n : Nat) : outF f g n n = mpF g n := mpF_congr fun _ hi => if_pos hi
theorem outF_at {f g : Nat → Int} {n i : Nat} (h : i < n) : (outF f g n i)[i]? = some (f i) := by
  unfold outF
  rw [mpF_at h, if_neg (Nat.lt_irrefl _)]
theorem outF_set {f g : Nat → Int} {n i : Nat} : (outF f g n i).set i (g i) = outF f g n (i + 1) := by
  refine List.ext_getElem? fun k => ?_
  rw [List.getElem?_set]
  unfold outF
  by_cases hk : k < n
  · rw [mpF_at hk, mpF_at hk]
    by_cases e : i = k
    · subst e
      rw [if_pos rfl, if_pos (by rw [mpF_len]; exact hk), if_pos (Nat.lt_succ_self _)]
    · rw [if_neg e]
      by_cases q : k < i
      · rw [if_pos q, if_pos (by omega)]
      · rw [if_neg q, if_neg (by omega)]
  · rw [List.getElem?_eq_none (by rw [mpF_len]; omega), List.getElem?_eq_none (by rw [mpF_len]; omega)]
    split
    · rw [if_neg (by rw [mpF_len]; omega)]
    · rfl
theorem outF_same {f g : Nat → Int} {n i : Nat} (h : g i = f i) : outF f g n (i + 1) = outF f g n i := mpF_congr fun k _ => by
  by_cases e : k = i
  · subst e
    rw [if_pos (Nat.lt_succ_self _), if_neg (Nat.lt_irrefl _), h]
  · by_cases q : k < i
    · rw [if_pos q, if_pos (show k < i + 1 by omega)]
    · rw [if_neg q, if_neg (show ¬ k < i + 1 by omega)]
/-! ### Stages -/
def staE (t n : Int) : Int := if okW t = true ∧ 1 ≤ n ∧ n ≤ 512 then 0 else 1
def staF (t n : Int) (k : Nat) : Int := t * ((k : Int) + 1) / n - t * (k : Int) / n
def staV (t n : Int) : List Int := if staE t n = 0 then mpF (staF t n) n.toNat else []
theorem staE_ok {t n : Int} (h : staE t n = 0) : okW t = true ∧ 1 ≤ n ∧ n ≤ 512 := by
  unfold staE at h
  by_cases e : okW t = true ∧ 1 ≤ n ∧ n ≤ 512
  · exact e
  · rw [if_neg e] at h; omega
theorem su_sta (t n : Int) : ∀ k : Nat, su (staF t n) k = t * (k : Int) / n
  | 0 => by rw [su_zero]; simp
  | k + 1 => by
    rw [su_succ, su_sta t n k]
    unfold staF
    rw [Int.natCast_add]
    show t * (k : Int) / n + (t * ((k : Int) + 1) / n - t * (k : Int) / n) = t * ((k : Int) + 1) / n
    omega
/-- Each amount is that of all stages, rounded down, or one more. -/
theorem sta_even {t n : Int} (hn : 1 ≤ n) (k : Nat) : t / n ≤ staF t n k ∧ staF t n k ≤ t / n + 1 := by
  have e0 := Int.mul_ediv_add_emod t n
  have e1 := Int.mul_ediv_add_emod (t * (k : Int)) n
  have e2 := Int.mul_ediv_add_emod (t * ((k : Int) + 1)) n
  have r0 := Int.emod_nonneg t (show n ≠ 0 by omega)
  have r1 := Int.emod_nonneg (t * (k : Int)) (show n ≠ 0 by omega)
  have r2 := Int.emod_nonneg (t * ((k : Int) + 1)) (show n ≠ 0 by omega)
  have s0 := Int.emod_lt_of_pos t (show 0 < n by omega)
  have s1 := Int.emod_lt_of_pos (t * (k : Int)) (show 0 < n by omega)
  have s2 := Int.emod_lt_of_pos (t * ((k : Int) + 1)) (show 0 < n by omega)
  have em : t * ((k : Int) + 1) = t * (k : Int) + t := by rw [Int.mul_add, Int.mul_one]
  unfold staF
  generalize t / n = a at *
  generalize t * (k : Int) / n = b at *
  generalize t * ((k : Int) + 1) / n = c at *
  have key : n * c - n * b - n * a < n * 2 ∧ -(n * 1) < n * c - n * b - n * a := by omega
  have e3 : n * c - n * b - n * a = n * (c - b - a) := by rw [Int.mul_sub, Int.mul_sub]
  rw [e3] at key
  have k1 : c - b - a < 2 := Int.lt_of_mul_lt_mul_left key.1 (by omega)
  have k2 : -1 < c - b - a := by
    refine Int.lt_of_mul_lt_mul_left (a := n) ?_ (by omega)
    rw [Int.mul_neg]
    exact key.2
  omega
/-! ### Weights multiplied, as lists -/
section
variable {t W b : Int} {f g : Nat → Int} {n i : Nat} {ws : List Int}
theorem shF_congr (h : ∀ i, i < n → f i = g i) (hi : i < n) : shF t W f n i = shF t W g n i := by
  have q : ∀ j, j < n → qF t W f j = qF t W g j := fun j hj => by unfold qF; rw [h j hj]
  have r : ∀ j, j < n → rF t W f j = rF t W g j := fun j hj => by unfold rF; rw [h j hj]
  unfold shF
  rw [q i hi, bef_congr (S := rF t W g) hi fun a c ha hc => by rw [r a ha, r c hc], show leftF t W f n = leftF t W g n by unfold leftF; rw [su_congr q]]
theorem wF_mp (h : i < n) : wF (mpF f n) i = f i := mpF_getD h
theorem sum_mp : sumW (mpF (fun i => wF ws i * b) ws.length) = sumW ws * b := by
  unfold sumW
  rw [mpF_len, su_congr (g := fun i => b * wF ws i) fun i hi => by rw [wF_mp hi, Int.mul_comm], su_mul, Int.mul_comm]
theorem scale_e (hb : 1 ≤ b) (ha : ws.all okW = true) (h : splE t (mpF (fun i => wF ws i * b) ws.length) = 0) : splE t ws = 0 := by
  obtain ⟨o1, ⟨o2, o3⟩, _, o5, o6⟩ := splE_ok h
  rw [mpF_len] at o2 o3
  rw [sum_mp] at o5 o6
  have h0 := (su_w (ws := ws) (k := ws.length) fun i hi => all_at ha hi).1
  have e : su (wF ws) ws.length = sumW ws := rfl
  rw [e] at h0
  have h1 : sumW ws * 1 ≤ sumW ws * b := Int.mul_le_mul_of_nonneg_left hb h0
  exact splE_fine o1 o2 o3 ha (fun z => o5 (by rw [z, Int.zero_mul])) (by omega)
theorem scale_v (hb : 1 ≤ b) (h0 : splE t ws = 0) (h : splE t (mpF (fun i => wF ws i * b) ws.length) = 0) : splV t (mpF (fun i => wF ws i * b) ws.length) = splV t ws := by
  rw [splV_ok h0, splV_ok h, mpF_len, sum_mp]
  refine mpF_congr fun i hi => ?_
  rw [shF_congr (g := fun i => wF ws i * b) (fun j hj => wF_mp hj) hi]
  exact scale_sh (by omega) hi
end
end Go.Proofs.Ytmliajkbknjacaa.ShaP
