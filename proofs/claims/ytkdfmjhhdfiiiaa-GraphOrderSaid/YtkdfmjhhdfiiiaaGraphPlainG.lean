/-
  Plain facts of package graph: components, closures. No word of the program. Condition: none.
-/
import Derived.Test.YtkdfmjhhdfiiiaaGraphPlainE
namespace Go.Proofs.Ytkdfmjhhdfiiiaa.GraP
open PairW
/-- Each is reached from the other one. -/
def eqv (n : Nat) (l : List Ar) (a b : Nat) : Bool := rch n l a b && rch n l b a
theorem eqv_iff {n : Nat} {l : List Ar} {a b : Nat} : eqv n l a b = true ↔ rch n l a b = true ∧ rch n l b a = true := by unfold eqv; rw [Bool.and_eq_true]
theorem eqv_refl {n : Nat} {l : List Ar} {a : Nat} (ha : a < n) : eqv n l a a = true := eqv_iff.2 ⟨rch_refl ha, rch_refl ha⟩
theorem eqv_symm (n : Nat) (l : List Ar) (a b : Nat) : eqv n l a b = eqv n l b a := Bool.and_comm ..
theorem eqv_trans {n : Nat} {l : List Ar} (G : Fit n l) {a b c : Nat} (ha : a < n) (hb : b < n) (hc : c < n) (h : eqv n l a b = true) (k : eqv n l b c = true) : eqv n l a c = true := by
  rw [eqv_iff] at h k ⊢
  exact ⟨rch_trans G ha hb h.1 k.1, rch_trans G hc hb k.2 h.2⟩
/-- No lesser node is in the component. -/
def lst (n : Nat) (l : List Ar) (a : Nat) : Bool := !(List.range a).any (eqv n l a)
theorem lst_iff {n : Nat} {l : List Ar} {a : Nat} : lst n l a = true ↔ ∀ b, b < a → eqv n l a b = false := by
  unfold lst
  rw [Bool.not_eq_true', List.any_eq_false]
  exact ⟨fun h b hb => by simpa using h b (List.mem_range.2 hb), fun h b hb => by rw [h b (List.mem_range.1 hb)]; simp⟩
def rps (n : Nat) (l : List Ar) (k : Nat) : List Nat := (List.range k).filter (lst n l)
def cls (n : Nat) (l : List Ar) (k a : Nat) : List Nat := (List.range k).filter (eqv n l a)
def ptsK (n : Nat) (l : List Ar) (k : Nat) : List (List Nat) := (rps n l k).map (cls n l k)
/-- The components. -/
def parV (n : Nat) (l : List Ar) : List (List Nat) := ptsK n l n
theorem rps_mem {n : Nat} {l : List Ar} {k a : Nat} : a ∈ rps n l k ↔ a < k ∧ lst n l a = true := by unfold rps; rw [List.mem_filter, List.mem_range]
theorem cls_mem {n : Nat} {l : List Ar} {k a b : Nat} : b ∈ cls n l k a ↔ b < k ∧ eqv n l a b = true := by unfold cls; rw [List.mem_filter, List.mem_range]
theorem rps_succ (n : Nat) (l : List Ar) (k : Nat) : rps n l (k + 1) = rps n l k ++ (if lst n l k = true then [k] else []) := by
  unfold rps
  rw [List.range_succ, List.filter_append]
  congr 1
  by_cases h : lst n l k = true <;> simp [h]
theorem cls_succ (n : Nat) (l : List Ar) (k a : Nat) : cls n l (k + 1) a = cls n l k a ++ (if eqv n l a k = true then [k] else []) := by
  unfold cls
  rw [List.range_succ, List.filter_append]
  congr 1
  by_cases h : eqv n l a k = true <;> simp [h]
/-- The least node of a component comes first. -/
theorem cls_head {n : Nat} {l : List Ar} {k a : Nat} (hk : k ≤ n) (h : a ∈ rps n l k) : ∃ r, cls n l k a = a :: r := by
  obtain ⟨h1, h2⟩ := rps_mem.1 h
  have hin : a ∈ cls n l k a := cls_mem.2 ⟨h1, eqv_refl (by omega)⟩
  have hasc : (cls n l k a).Pairwise (· < ·) := List.Pairwise.filter _ List.pairwise_lt_range
  cases hc : cls n l k a with
  | nil => rw [hc] at hin; cases hin
  | cons x r =>
    rw [hc] at hin hasc
    rcases List.mem_cons.1 hin with e | e
    · rw [e]; exact ⟨r, rfl⟩
    · have h3 := (List.pairwise_cons.1 hasc).1 a e
      have h4 : x ∈ cls n l k a := by rw [hc]; exact List.mem_cons_self ..
      have h5 := lst_iff.1 h2 x h3
      rw [(cls_mem.1 h4).2] at h5
      cases h5
/-- Each node has a least one of its component. -/
theorem rep_of {n : Nat} {l : List Ar} (G : Fit n l) : ∀ k, k < n → ∃ a, a ≤ k ∧ lst n l a = true ∧ eqv n l a k = true := fun k => by
  induction k using Nat.strongRecOn with
  | ind k ih =>
    intro hk
    by_cases h : lst n l k = true
    · exact ⟨k, Nat.le_refl _, h, eqv_refl hk⟩
    · have h2 : ¬ ∀ b, b < k → eqv n l k b = false := fun c => h (lst_iff.2 c)
      obtain ⟨b, hb⟩ := Classical.not_forall.1 h2
      have hb1 : b < k := Classical.byContradiction fun c => hb fun d => absurd d c
      have hb2 : eqv n l k b = true := by
        cases c : eqv n l k b with
        | true => rfl
        | false => exact absurd (fun _ => c) hb
      obtain ⟨a, h3, h4, h5⟩ := ih b hb1 (by omega)
      exact ⟨a, by omega, h4, eqv_trans G (by omega) (by omega) hk h5 (by rw [eqv_symm]; exact hb2)⟩
theorem rps_asc (n : Nat) (l : List Ar) (k : Nat) : (rps n l k).Pairwise (· < ·) := List.Pairwise.filter _ List.pairwise_lt_range
/-- Two least nodes of one component are one. -/
theorem rep_one {n : Nat} {l : List Ar} {a b : Nat} (h1 : lst n l a = true) (h2 : lst n l b = true) (h : eqv n l a b = true) : a = b := by
  rcases Nat.lt_trichotomy a b with c | c | c
  · have := lst_iff.1 h2 a c
    rw [eqv_symm, h] at this
    cases this
  · exact c
  · have := lst_iff.1 h1 b c
    rw [h] at this
    cases this
/-- A node whose component is there already. -/
theorem pts_old {n : Nat} {l : List Ar} (G : Fit n l) {k i a : Nat} (hk : k < n) (hi : (rps n l k)[i]? = some a) (he : eqv n l a k = true) : ptsK n l (k + 1) = (ptsK n l k).set i (cls n l k a ++ [k]) := by
  have ham := List.mem_of_getElem? hi
  obtain ⟨ha, hla⟩ := rps_mem.1 ham
  have hlk : ¬ lst n l k = true := fun h => by
    have := rep_one hla h he
    omega
  have hr : rps n l (k + 1) = rps n l k := by rw [rps_succ, if_neg hlk, List.append_nil]
  unfold ptsK
  rw [hr]
  refine List.ext_getElem? fun j => ?_
  rw [List.getElem?_set, List.getElem?_map, List.length_map]
  have hil := (List.getElem?_eq_some_iff.1 hi).1
  by_cases e : i = j
  · subst e
    rw [if_pos rfl, if_pos hil, hi]
    show some (cls n l (k + 1) a) = _
    rw [cls_succ, if_pos he]
  · rw [if_neg e, List.getElem?_map]
    cases hb : (rps n l k)[j]? with
    | none => rfl
    | some b =>
      show some (cls n l (k + 1) b) = some (cls n l k b)
      obtain ⟨hb1, hb2⟩ := rps_mem.1 (List.mem_of_getElem? hb)
      rw [cls_succ, if_neg, List.append_nil]
      intro h
      have hab := rep_one hla hb2 (eqv_trans G (by omega) hk (by omega) he (by rw [eqv_symm]; exact h))
      subst hab
      exact e (get_one ((rps_asc n l k).imp fun h => by omega) hi hb)
/-- A node that begins a component. -/
theorem pts_new {n : Nat} {l : List Ar} (G : Fit n l) {k : Nat} (hk : k < n) (h : ∀ a ∈ rps n l k, eqv n l a k = false) : ptsK n l (k + 1) = ptsK n l k ++ [[k]] := by
  have hno : ∀ b, b < k → eqv n l b k = false := fun b hb => Bool.eq_false_iff.2 fun hc => by
    obtain ⟨a, h1, h2, h3⟩ := rep_of G b (by omega)
    have := h a (rps_mem.2 ⟨by omega, h2⟩)
    rw [eqv_trans G (by omega) (by omega) hk h3 hc] at this
    cases this
  have hl : lst n l k = true := lst_iff.2 fun b hb => by rw [eqv_symm]; exact hno b hb
  have hr : rps n l (k + 1) = rps n l k ++ [k] := by rw [rps_succ, if_pos hl]
  have hk0 : cls n l k k = [] := List.eq_nil_iff_forall_not_mem.2 fun b hb => by
    obtain ⟨h1, h2⟩ := cls_mem.1 hb
    have := hno b h1
    rw [eqv_symm, h2] at this
    cases this
  unfold ptsK
  rw [hr, List.map_append]
  congr 1
  · refine List.map_congr_left fun a ha => ?_
    rw [cls_succ, if_neg (by rw [h a ha]; simp), List.append_nil]
  · show [cls n l (k + 1) k] = _
    rw [cls_succ, hk0, if_pos (eqv_refl hk)]
    rfl
theorem pts_len {n : Nat} {l : List Ar} {k : Nat} : (ptsK n l k).length = (rps n l k).length := List.length_map ..
theorem rps_len (n : Nat) (l : List Ar) (k : Nat) : (rps n l k).length ≤ k := by
  have := List.length_filter_le (lst n l) (List.range k)
  rwa [List.length_range] at this
theorem cls_len (n : Nat) (l : List Ar) (k a : Nat) : (cls n l k a).length ≤ k := by
  have := List.length_filter_le (eqv n l a) (List.range k)
  rwa [List.length_range] at this
/-! ### The specification's way to the components -/
/-- The parts up to the node a, whole. -/
def ptsU (n : Nat) (l : List Ar) (a : Nat) : List (List Nat) := (rps n l a).map (cls n l n)
def donU (n : Nat) (l : List Ar) (a x : Nat) : Bool := (rps n l a).any fun r => eqv n l r x
theorem don_lst {n : Nat} {l : List Ar} (G : Fit n l) {a : Nat} (ha : a < n) : donU n l a a = !lst n l a := by
  unfold donU
  rw [Bool.eq_iff_iff, List.any_eq_true, Bool.not_eq_true', ← Bool.not_eq_true]
  constructor
  · rintro ⟨r, hr, he⟩ hl
    obtain ⟨h1, h2⟩ := rps_mem.1 hr
    have := rep_one h2 hl he
    omega
  · intro hl
    obtain ⟨r, h1, h2, h3⟩ := rep_of G a ha
    by_cases e : r = a
    · subst e; exact absurd h2 hl
    · exact ⟨r, rps_mem.2 ⟨by omega, h2⟩, h3⟩
theorem ptsU_skip {n : Nat} {l : List Ar} {a : Nat} (h : lst n l a = false) : ptsU n l (a + 1) = ptsU n l a ∧ ∀ x, donU n l (a + 1) x = donU n l a x := by
  have hr : rps n l (a + 1) = rps n l a := by rw [rps_succ, if_neg (by rw [h]; simp), List.append_nil]
  unfold ptsU donU
  rw [hr]
  exact ⟨rfl, fun _ => rfl⟩
theorem ptsU_take {n : Nat} {l : List Ar} {a : Nat} (h : lst n l a = true) : ptsU n l (a + 1) = ptsU n l a ++ [cls n l n a] ∧ ∀ x, donU n l (a + 1) x = (donU n l a x || eqv n l a x) := by
  have hr : rps n l (a + 1) = rps n l a ++ [a] := by rw [rps_succ, if_pos h]
  unfold ptsU donU
  rw [hr]
  exact ⟨by rw [List.map_append]; rfl, fun x => by rw [List.any_append]; simp⟩
/-- The part of a least node, looked for from that node on. -/
def clsF (n : Nat) (l : List Ar) (a b : Nat) : List Nat := (List.range b).filter fun x => decide (a ≤ x) && eqv n l a x
theorem clsF_start (n : Nat) (l : List Ar) (a : Nat) : clsF n l a a = [] := List.eq_nil_iff_forall_not_mem.2 fun x hx => by
  unfold clsF at hx
  rw [List.mem_filter, List.mem_range, Bool.and_eq_true, decide_eq_true_eq] at hx
  omega
theorem clsF_succ {n : Nat} {l : List Ar} {a b : Nat} (h : a ≤ b) : clsF n l a (b + 1) = clsF n l a b ++ (if eqv n l a b = true then [b] else []) := by
  unfold clsF
  rw [List.range_succ, List.filter_append]
  congr 1
  by_cases c : eqv n l a b = true <;> simp [c, h]
theorem clsF_end {n : Nat} {l : List Ar} {a : Nat} (h : lst n l a = true) : clsF n l a n = cls n l n a := by
  unfold clsF cls
  refine List.filter_congr fun x _ => ?_
  by_cases c : a ≤ x
  · simp [c]
  · rw [lst_iff.1 h x (by omega)]
    simp
theorem clsF_len (n : Nat) (l : List Ar) (a b : Nat) : (clsF n l a b).length ≤ b := by
  have := List.length_filter_le (fun x => decide (a ≤ x) && eqv n l a x) (List.range b)
  rwa [List.length_range] at this
/-! ### Closures -/
/-- A path with an arc leads from a to b. -/
def clo (n : Nat) (l : List Ar) (a b : Nat) : Bool := (List.range n).any fun c => ar l a c && rch n l c b
theorem clo_iff {n : Nat} {l : List Ar} (G : Fit n l) {a b : Nat} : clo n l a b = true ↔ ∃ c, ar l a c = true ∧ rch n l c b = true := by
  unfold clo
  rw [List.any_eq_true]
  constructor
  · rintro ⟨c, _, h⟩
    rw [Bool.and_eq_true] at h
    exact ⟨c, h⟩
  · rintro ⟨c, h1, h2⟩
    exact ⟨c, List.mem_range.2 (G.ar h1).2, by rw [h1, h2]; rfl⟩
def cloR (n : Nat) (l : List Ar) (a b : Nat) : List Ar := ((List.range b).filter (clo n l a)).map fun b : Nat => ((a : Int), (b : Int))
def cloK (n : Nat) (l : List Ar) (a : Nat) : List Ar := (List.range a).flatMap fun a => cloR n l a n
/-- The closure's arcs. -/
def cloL (n : Nat) (l : List Ar) : List Ar := cloK n l n
theorem cloR_zero (n : Nat) (l : List Ar) (a : Nat) : cloR n l a 0 = [] := rfl
theorem cloR_succ (n : Nat) (l : List Ar) (a b : Nat) : cloR n l a (b + 1) = cloR n l a b ++ (if clo n l a b = true then [((a : Int), (b : Int))] else []) := by
  unfold cloR
  rw [List.range_succ, List.filter_append, List.map_append]
  congr 1
  by_cases h : clo n l a b = true <;> simp [h]
theorem cloK_zero (n : Nat) (l : List Ar) : cloK n l 0 = [] := rfl
theorem cloK_succ (n : Nat) (l : List Ar) (a : Nat) : cloK n l (a + 1) = cloK n l a ++ cloR n l a n := by
  unfold cloK
  rw [List.range_succ, List.flatMap_append]
  simp
theorem cloR_len (n : Nat) (l : List Ar) (a b : Nat) : (cloR n l a b).length ≤ b := by
  unfold cloR
  rw [List.length_map]
  have := List.length_filter_le (clo n l a) (List.range b)
  rwa [List.length_range] at this
theorem cloK_len (n : Nat) (l : List Ar) : ∀ a, (cloK n l a).length ≤ a * n
  | 0 => by rw [cloK_zero]; simp
  | a + 1 => by
    rw [cloK_succ, List.length_append, Nat.succ_mul]
    have := cloK_len n l a
    have := cloR_len n l a n
    omega
theorem cloL_mem {n : Nat} {l : List Ar} {p : Ar} : p ∈ cloL n l ↔ ∃ a b : Nat, a < n ∧ b < n ∧ clo n l a b = true ∧ p = ((a : Int), (b : Int)) := by
  unfold cloL cloK
  rw [List.mem_flatMap]
  constructor
  · rintro ⟨a, ha, h⟩
    unfold cloR at h
    obtain ⟨b, hb, rfl⟩ := List.mem_map.1 h
    rw [List.mem_filter, List.mem_range] at hb
    exact ⟨a, b, List.mem_range.1 ha, hb.1, hb.2, rfl⟩
  · rintro ⟨a, b, ha, hb, hc, rfl⟩
    exact ⟨a, List.mem_range.2 ha, List.mem_map.2 ⟨b, List.mem_filter.2 ⟨List.mem_range.2 hb, hc⟩, rfl⟩⟩
theorem cloL_fit (n : Nat) (l : List Ar) : Fit n (cloL n l) := fun p hp => by
  obtain ⟨a, b, ha, hb, _, rfl⟩ := cloL_mem.1 hp
  simp only
  omega
theorem clo_lt {n : Nat} {l : List Ar} (G : Fit n l) {a b : Nat} (h : clo n l a b = true) : a < n ∧ b < n := by
  obtain ⟨c, h1, h2⟩ := (clo_iff G).1 h
  exact ⟨(G.ar h1).1, rch_in G (G.ar h1).2 h2⟩
theorem cloL_ar {n : Nat} {l : List Ar} (G : Fit n l) (a b : Nat) : ar (cloL n l) a b = clo n l a b := by
  rw [Bool.eq_iff_iff, ar_iff, cloL_mem]
  constructor
  · rintro ⟨x, y, _, _, h, e⟩
    injection e with e1 e2
    rw [show a = x by omega, show b = y by omega]
    exact h
  · intro h
    obtain ⟨h1, h2⟩ := clo_lt G h
    exact ⟨a, b, h1, h2, h, rfl⟩
theorem clo_rch {n : Nat} {l : List Ar} (G : Fit n l) {a b : Nat} (h : clo n l a b = true) : rch n l a b = true := by
  obtain ⟨c, h1, h2⟩ := (clo_iff G).1 h
  exact rch_trans G (G.ar h1).1 (G.ar h1).2 (rch_arc G h1) h2
theorem rch_clo {n : Nat} {l : List Ar} (G : Fit n l) {a b : Nat} (ha : a < n) (h : rch n l a b = true) (hab : a ≠ b) : clo n l a b = true := by
  obtain ⟨k, hk⟩ := (rch_iff G ha).1 h
  cases k with
  | zero => exact absurd (wk_zero.1 hk) hab
  | succ k =>
    obtain ⟨c, _, h1, h2⟩ := wk_succ.1 hk
    exact (clo_iff G).2 ⟨c, h1, (rch_iff G (G.ar h1).2).2 ⟨k, h2⟩⟩
theorem wk_clo {n : Nat} {l : List Ar} (G : Fit n l) {b : Nat} : ∀ {k a : Nat}, a < n → wk n (cloL n l) k a b = true → rch n l a b = true
  | 0, a, ha, h => by
    rw [wk_zero] at h
    subst h
    exact rch_refl ha
  | k + 1, a, ha, h => by
    obtain ⟨c, hc, h1, h2⟩ := wk_succ.1 h
    rw [cloL_ar G] at h1
    exact rch_trans G ha hc (clo_rch G h1) (wk_clo G hc h2)
theorem rch_cloL {n : Nat} {l : List Ar} (G : Fit n l) {a : Nat} (ha : a < n) (b : Nat) : rch n (cloL n l) a b = rch n l a b := by
  rw [Bool.eq_iff_iff]
  constructor
  · intro h
    obtain ⟨k, hk⟩ := (rch_iff (cloL_fit n l) ha).1 h
    exact wk_clo G ha hk
  · intro h
    by_cases e : a = b
    · subst e; exact rch_refl ha
    · exact rch_arc (cloL_fit n l) (by rw [cloL_ar G]; exact rch_clo G ha h e)
theorem clo_cloL {n : Nat} {l : List Ar} (G : Fit n l) (a b : Nat) : clo n (cloL n l) a b = clo n l a b := by
  rw [Bool.eq_iff_iff, clo_iff (cloL_fit n l), clo_iff G]
  constructor
  · rintro ⟨c, h1, h2⟩
    rw [cloL_ar G] at h1
    have hc := (clo_lt G h1).2
    rw [rch_cloL G hc] at h2
    obtain ⟨d, h3, h4⟩ := (clo_iff G).1 h1
    exact ⟨d, h3, rch_trans G (G.ar h3).2 hc h4 h2⟩
  · rintro ⟨c, h1, h2⟩
    have hc := (G.ar h1).2
    exact ⟨c, by rw [cloL_ar G]; exact (clo_iff G).2 ⟨c, h1, rch_refl hc⟩, by rw [rch_cloL G hc]; exact h2⟩
/-- The closure of a closure is the closure. -/
theorem cloL_cloL {n : Nat} {l : List Ar} (G : Fit n l) : cloL n (cloL n l) = cloL n l := by
  have h : clo n (cloL n l) = clo n l := funext fun a => funext fun b => clo_cloL G a b
  unfold cloL at h ⊢
  unfold cloK cloR at h ⊢
  rw [h]
theorem eqv_cloL {n : Nat} {l : List Ar} (G : Fit n l) {a b : Nat} (ha : a < n) (hb : b < n) : eqv n (cloL n l) a b = eqv n l a b := by
  unfold eqv
  rw [rch_cloL G ha, rch_cloL G hb]
/-- The closure has the same components. -/
theorem parV_cloL {n : Nat} {l : List Ar} (G : Fit n l) : parV n (cloL n l) = parV n l := by
  have hl : ∀ a, a < n → lst n (cloL n l) a = lst n l a := fun a ha => by
    rw [Bool.eq_iff_iff, lst_iff, lst_iff]
    exact ⟨fun h b hb => by rw [← eqv_cloL G ha (by omega)]; exact h b hb, fun h b hb => by rw [eqv_cloL G ha (by omega)]; exact h b hb⟩
  have hr : rps n (cloL n l) n = rps n l n := List.filter_congr fun a ha => hl a (List.mem_range.1 ha)
  unfold parV ptsK
  rw [hr]
  refine List.map_congr_left fun a ha => List.filter_congr fun b hb => ?_
  exact eqv_cloL G (rps_mem.1 ha).1 (List.mem_range.1 hb)
/-- By the arcs. -/
theorem clo_any {n : Nat} {l : List Ar} (G : Fit n l) (a b : Nat) : clo n l a b = l.any fun p => decide (p.1 = (a : Int)) && rch n l p.2.toNat b := by
  rw [Bool.eq_iff_iff, clo_iff G, List.any_eq_true]
  constructor
  · rintro ⟨c, h1, h2⟩
    refine ⟨_, ar_iff.1 h1, ?_⟩
    simp only [decide_true, Bool.true_and, Int.toNat_natCast]
    exact h2
  · rintro ⟨p, hp, h⟩
    obtain ⟨u, v, rfl, _, _⟩ := G.nats hp
    simp only [Bool.and_eq_true, decide_eq_true_eq, Int.toNat_natCast] at h
    obtain ⟨h1, h2⟩ := h
    obtain rfl : u = a := by omega
    exact ⟨v, ar_iff.2 hp, h2⟩
end Go.Proofs.Ytkdfmjhhdfiiiaa.GraP
