/-
  How the program cuts a line and how the library replaces, as lists of bytes: against the plain facts of package field. Nothing of the program. Condition: none.
-/
import Derived.Test.YtedkpkdfopffiaaDoorFieldC
import Derived.Lib.Replace
import Derived.Lib.Strings
namespace Go.Proofs.YtedkpkdfopffiaaDoor.FldP
open NamP
open Go.Lib (index index_ge count count_hit count_miss replaceK replaceK_hit replaceAll replace replaceNum hasPrefix hasSuffix trimPrefix trimSuffix trimSuffix_le)
/-! ### ReplaceAll, instance by instance -/
theorem index_nil {old : Bs} (h : old ≠ []) : index [] old = -1 := by
  cases old with
  | nil => exact absurd rfl h
  | cons a t => rfl
theorem index_at {old : Bs} {c : UInt8} {r : Bs} (h : old.isPrefixOf (c :: r) = true) : index (c :: r) old = ((0 : Nat) : Int) := by rw [index, if_pos h]; rfl
theorem index_past {old : Bs} {c : UInt8} {r : Bs} (h : ¬ old.isPrefixOf (c :: r) = true) : index (c :: r) old = if index r old == -1 then -1 else index r old + 1 := by rw [index, if_neg h]
theorem repK_miss {old new : Bs} {s : Bs} (h : index s old = -1) : ∀ k, replaceK old new k s = s
  | 0 => rfl
  | k + 1 => by rw [replaceK, if_pos (beq_iff_eq.2 h)]
theorem rep_past {old : Bs} (ho : old ≠ []) (new : Bs) {c : UInt8} {r : Bs} (h : ¬ old.isPrefixOf (c :: r) = true) : count (c :: r) old = count r old ∧ ∀ k, replaceK old new k (c :: r) = c :: replaceK old new k r := by
  have hx := index_past h
  have hge := index_ge r old
  by_cases hm : index r old = -1
  · rw [if_pos (beq_iff_eq.2 hm)] at hx
    exact ⟨by rw [count_miss hm, count_miss hx], fun k => by rw [repK_miss hx, repK_miss hm]⟩
  · rw [if_neg (fun e => hm (beq_iff_eq.1 e))] at hx
    obtain ⟨j, hj⟩ : ∃ j : Nat, index r old = j := ⟨(index r old).toNat, by omega⟩
    have hx' : index (c :: r) old = ((j + 1 : Nat) : Int) := by omega
    have hd : (c :: r).drop (j + 1 + old.length) = r.drop (j + old.length) := by rw [show j + 1 + old.length = (j + old.length) + 1 by omega]; rfl
    refine ⟨by rw [count_hit ho hx', count_hit ho hj, hd], fun k => ?_⟩
    cases k with
    | zero => rfl
    | succ k =>
      rw [replaceK_hit old new k _ _ hx', replaceK_hit old new k _ _ hj, hd]
      rfl
theorem rep_hit {old : Bs} (ho : old ≠ []) (new : Bs) {c : UInt8} {r : Bs} (h : old.isPrefixOf (c :: r) = true) : count (c :: r) old = count ((c :: r).drop old.length) old + 1 ∧ ∀ k, replaceK old new (k + 1) (c :: r) = new ++ replaceK old new k ((c :: r).drop old.length) := by
  have hx := index_at h
  refine ⟨by rw [count_hit ho hx, Nat.zero_add, Nat.add_comm], fun k => ?_⟩
  rw [replaceK_hit old new k _ _ hx, Nat.zero_add]
  rfl
theorem rep_all {old new : Bs} (ho : old ≠ []) (hn : old ≠ new) (f : Bs → Bs) (f0 : f [] = []) (fp : ∀ c r, ¬ old.isPrefixOf (c :: r) = true → f (c :: r) = c :: f r)
    (fh : ∀ c r, old.isPrefixOf (c :: r) = true → f (c :: r) = new ++ f ((c :: r).drop old.length)) : ∀ s, replaceAll s old new = f s := by
  have key : ∀ n (s : Bs), s.length ≤ n → replaceK old new (count s old) s = f s := by
    intro n
    induction n with
    | zero =>
      intro s hs
      obtain rfl := List.eq_nil_of_length_eq_zero (Nat.le_zero.1 hs)
      rw [repK_miss (index_nil ho), f0]
    | succ n ih =>
      intro s hs
      cases s with
      | nil => rw [repK_miss (index_nil ho), f0]
      | cons c r =>
        by_cases h : old.isPrefixOf (c :: r) = true
        · obtain ⟨h1, h2⟩ := rep_hit ho new h
          have hl : 0 < old.length := List.length_pos_iff.2 ho
          rw [h1, h2, fh c r h, ih _ (by rw [List.length_drop]; simp at hs ⊢; omega)]
        · obtain ⟨h1, h2⟩ := rep_past ho new h
          rw [h1, h2, fp c r h, ih _ (by simpa using hs)]
  intro s
  unfold replaceAll replace replaceNum
  rw [if_neg (by simpa using hn), if_pos (.inl (by decide))]
  exact key _ s (Nat.le_refl _)
theorem rep_dbl (s : Bs) : replaceAll s [39] [39, 39] = dbl s := by
  refine rep_all (by decide) (by decide) dbl rfl (fun c r h => ?_) (fun c r h => ?_) s
  · have hc : c ≠ 39 := fun e => h (by rw [e]; simp [List.isPrefixOf])
    rw [dbl, if_neg hc]
  · have hc : c = 39 := by
      simp [List.isPrefixOf] at h
      exact h.symm
    rw [dbl, if_pos hc]
    rfl
/-- Each '' made one '. -/
def hlv : Bs → Bs
  | [] => []
  | [c] => [c]
  | c :: d :: r => if c = 39 ∧ d = 39 then 39 :: hlv r else c :: hlv (d :: r)
theorem rep_hlv (s : Bs) : replaceAll s [39, 39] [39] = hlv s := by
  refine rep_all (by decide) (by decide) hlv rfl (fun c r h => ?_) (fun c r h => ?_) s
  · cases r with
    | nil => rfl
    | cons d r =>
      have hc : ¬ (c = 39 ∧ d = 39) := fun e => h (by rw [e.1, e.2]; simp [List.isPrefixOf])
      rw [hlv, if_neg hc]
  · cases r with
    | nil => simp [List.isPrefixOf] at h
    | cons d r =>
      have hc : c = 39 ∧ d = 39 := by
        simp [List.isPrefixOf] at h
        exact ⟨h.1.symm, h.2.symm⟩
      rw [hlv, if_pos hc]
      rfl
theorem hlv_c {c : UInt8} (h : c ≠ 39) (r : Bs) : hlv (c :: r) = c :: hlv r := by
  cases r with
  | nil => rfl
  | cons d r => rw [hlv, if_neg (fun e => h e.1)]
theorem hlv_dbl : ∀ s : Bs, hlv (dbl s) = s
  | [] => rfl
  | c :: s => by
    unfold dbl
    by_cases h : c = 39
    · rw [if_pos h, hlv, if_pos ⟨rfl, rfl⟩, hlv_dbl s, h]
    · rw [if_neg h, hlv_c h, hlv_dbl s]
theorem hlv_len : ∀ (n : Nat) (s : Bs), s.length ≤ n → (hlv s).length ≤ s.length
  | _, [], _ => Nat.le_refl _
  | _, [_], _ => Nat.le_refl _
  | 0, _ :: _ :: _, h => by simp at h
  | n + 1, c :: d :: r, h => by
    unfold hlv
    split
    · have := hlv_len n r (by simp at h; omega)
      simp; omega
    · have := hlv_len n (d :: r) (by simp at h ⊢; omega)
      simp at this ⊢; omega
theorem trim_end (s : Bs) : trimSuffix (s ++ [39]) [39] = s := by
  unfold trimSuffix hasSuffix
  rw [if_pos (by simp)]
  simp
/-! ### The program's cut -/
/-- The field that the program reads where s is written. -/
def readB (s : Bs) : Bs := if s.head? = some 39 then hlv (trimSuffix s.tail [39]) else s
theorem read_len (s : Bs) : (readB s).length ≤ s.length := by
  unfold readB
  split
  · have h1 := hlv_len _ (trimSuffix s.tail [39]) (Nat.le_refl _)
    have h2 := trimSuffix_le s.tail [39]
    rw [List.length_tail] at h2
    omega
  · exact Nat.le_refl _
theorem quoted_head {x : Bs} (h : quotedB x = false) : x.head? ≠ some 39 ∧ (∀ c ∈ x, c ≠ 32) ∧ x ≠ [] := by
  unfold quotedB at h
  rw [Bool.or_eq_false_iff, Bool.or_eq_false_iff, decide_eq_false_iff_not, decide_eq_false_iff_not, List.any_eq_false] at h
  exact ⟨h.1.2, fun c hc e => h.2 c hc (decide_eq_true e), h.1.1⟩
theorem read_written (x : Bs) : readB (writtenB x) = x := by
  unfold writtenB
  cases h : quotedB x with
  | true =>
    rw [if_pos rfl]
    unfold readB
    rw [if_pos (by rfl)]
    show hlv (trimSuffix (dbl x ++ [39]) [39]) = x
    rw [trim_end, hlv_dbl]
  | false =>
    rw [if_neg (by decide)]
    unfold readB
    rw [if_neg (quoted_head h).1]
/-- Where the first field ends: at a space behind an even number of marks, or at any one, if the field is not quoted. -/
def brk (q : Bool) : Nat → Bs → Option Nat
  | _, [] => none
  | m, c :: r => if c = 39 then (brk q (m + 1) r).map (· + 1) else if c = 32 ∧ (q = false ∨ m % 2 = 0) then some 0 else (brk q m r).map (· + 1)
theorem brk_lt {q : Bool} : ∀ {m : Nat} {s : Bs} {k : Nat}, brk q m s = some k → k < s.length
  | _, [], _, h => by cases h
  | m, c :: r, k, h => by
    unfold brk at h
    by_cases h1 : c = 39
    · rw [if_pos h1, Option.map_eq_some_iff] at h
      obtain ⟨a, h2, rfl⟩ := h
      have := brk_lt h2
      simp; omega
    · rw [if_neg h1] at h
      by_cases h3 : c = 32 ∧ (q = false ∨ m % 2 = 0)
      · rw [if_pos h3] at h
        injection h with h
        simp; omega
      · rw [if_neg h3, Option.map_eq_some_iff] at h
        obtain ⟨a, h2, rfl⟩ := h
        have := brk_lt h2
        simp; omega
theorem brk_plain {q : Bool} : ∀ (s : Bs) (m : Nat), (∀ c ∈ s, c ≠ 32) → brk q m s = none
  | [], _, _ => rfl
  | c :: r, m, h => by
    unfold brk
    have hr : ∀ d ∈ r, d ≠ 32 := fun d hd => h d (List.mem_cons_of_mem _ hd)
    rw [if_neg (show ¬ (c = 32 ∧ (q = false ∨ m % 2 = 0)) from fun e => h c (List.mem_cons_self ..) e.1), brk_plain r _ hr, brk_plain r _ hr]
    split <;> rfl
theorem brk_space : ∀ (s r : Bs) (m : Nat), (∀ c ∈ s, c ≠ 32) → brk false m (s ++ 32 :: r) = some s.length
  | [], r, m, _ => by
    show brk false m (32 :: r) = _
    unfold brk
    rw [if_neg (by decide), if_pos ⟨rfl, .inl rfl⟩]
    rfl
  | c :: s, r, m, h => by
    have hr : ∀ d ∈ s, d ≠ 32 := fun d hd => h d (List.mem_cons_of_mem _ hd)
    show brk false m (c :: (s ++ 32 :: r)) = _
    unfold brk
    rw [if_neg (show ¬ (c = 32 ∧ (false = false ∨ m % 2 = 0)) from fun e => h c (List.mem_cons_self ..) e.1), brk_space s r _ hr, brk_space s r _ hr]
    split <;> rfl
theorem map_add {o : Option Nat} {a b c : Nat} (h : a + b = c) : (o.map (· + a)).map (· + b) = o.map (· + c) := by
  cases o with
  | none => rfl
  | some x => simp; omega
/-- Behind an odd number of marks, over doubled bytes and the last mark. -/
theorem brk_dbl : ∀ (s t : Bs) (m : Nat), m % 2 = 1 → ∃ m', m' % 2 = 0 ∧ brk true m (dbl s ++ 39 :: t) = (brk true m' t).map (· + ((dbl s).length + 1))
  | [], t, m, h => by
    refine ⟨m + 1, by omega, ?_⟩
    show brk true m (39 :: t) = _
    rw [brk, if_pos rfl]
    rfl
  | c :: s, t, m, h => by
    unfold dbl
    by_cases e : c = 39
    · rw [if_pos e]
      obtain ⟨m', h1, h2⟩ := brk_dbl s t (m + 2) (by omega)
      refine ⟨m', h1, ?_⟩
      show brk true m (39 :: 39 :: (dbl s ++ 39 :: t)) = _
      rw [brk, if_pos rfl, brk, if_pos rfl, show m + 1 + 1 = m + 2 from rfl, h2, map_add rfl, map_add rfl]
      simp
    · rw [if_neg e]
      obtain ⟨m', h1, h2⟩ := brk_dbl s t m h
      refine ⟨m', h1, ?_⟩
      show brk true m (c :: (dbl s ++ 39 :: t)) = _
      have hno : ¬ (c = 32 ∧ (true = false ∨ m % 2 = 0)) := fun ⟨_, k⟩ => k.elim (fun k => by cases k) (fun k => by omega)
      rw [brk, if_neg e, if_neg hno, h2, map_add rfl]
      simp
theorem brk_quoted (x t : Bs) : ∃ m', m' % 2 = 0 ∧ brk true 0 (39 :: dbl x ++ [39] ++ t) = (brk true m' t).map (· + (39 :: dbl x ++ [39]).length) := by
  obtain ⟨m', h1, h2⟩ := brk_dbl x t 1 (by decide)
  refine ⟨m', h1, ?_⟩
  have e : 39 :: dbl x ++ [39] ++ t = 39 :: (dbl x ++ 39 :: t) := by simp
  rw [e, brk, if_pos rfl, h2, map_add rfl]
  simp
def headQ (s : Bs) : Bool := decide (s.head? = some 39)
theorem headQ_written (x t : Bs) : headQ (writtenB x ++ t) = quotedB x := by
  unfold headQ writtenB
  cases h : quotedB x with
  | true => rw [if_pos rfl]; rfl
  | false =>
    rw [if_neg (by decide)]
    obtain ⟨h1, _, h3⟩ := quoted_head h
    match x, h1, h3 with
    | c :: x, h1, _ => exact decide_eq_false h1
theorem brk_last (x : Bs) : brk (headQ (writtenB x)) 0 (writtenB x) = none := by
  have hq := headQ_written x []
  rw [List.append_nil] at hq
  rw [hq]
  unfold writtenB
  cases h : quotedB x with
  | true =>
    rw [if_pos rfl]
    obtain ⟨m', _, h2⟩ := brk_quoted x []
    rw [List.append_nil] at h2
    rw [h2]
    rfl
  | false =>
    rw [if_neg (by decide)]
    exact brk_plain x 0 (quoted_head h).2.1
theorem brk_first (x r : Bs) : brk (headQ (writtenB x ++ 32 :: r)) 0 (writtenB x ++ 32 :: r) = some (writtenB x).length := by
  rw [headQ_written]
  unfold writtenB
  cases h : quotedB x with
  | true =>
    rw [if_pos rfl]
    obtain ⟨m', h1, h2⟩ := brk_quoted x (32 :: r)
    rw [h2, brk, if_neg (by decide), if_pos ⟨rfl, .inr h1⟩]
    simp
  | false =>
    rw [if_neg (by decide)]
    exact brk_space x r 0 (quoted_head h).2.1
/-- The fields that the program cuts out of a line that is not empty. -/
def cutP (s : Bs) : List Bs :=
  match h : brk (headQ s) 0 s with
  | none => [readB s]
  | some k =>
    have : (s.drop (k + 1)).length < s.length := by have := brk_lt h; rw [List.length_drop]; omega
    readB (s.take k) :: cutP (s.drop (k + 1))
  termination_by s.length
  decreasing_by exact this
theorem cutP_none {s : Bs} (h : brk (headQ s) 0 s = none) : cutP s = [readB s] := by
  rw [cutP]
  split
  · rfl
  · rename_i k h2; rw [h] at h2; cases h2
theorem cutP_some {s : Bs} {k : Nat} (h : brk (headQ s) 0 s = some k) : cutP s = readB (s.take k) :: cutP (s.drop (k + 1)) := by
  rw [cutP]
  split
  · rename_i h2; rw [h] at h2; cases h2
  · rename_i k2 h2
    rw [h] at h2
    injection h2 with e
    rw [e]
theorem cutP_join : ∀ (x : Bs) (l : List Bs), cutP (joinB (x :: l)) = x :: l
  | x, [] => by
    show cutP (writtenB x) = [x]
    rw [cutP_none (brk_last x), read_written]
  | x, y :: l => by
    show cutP (writtenB x ++ 32 :: joinB (y :: l)) = _
    rw [cutP_some (brk_first x _), List.take_left, read_written, show (writtenB x ++ 32 :: joinB (y :: l)).drop ((writtenB x).length + 1) = joinB (y :: l) by
      rw [List.drop_append, List.drop_eq_nil_of_le (by omega), Nat.add_sub_cancel_left]; rfl, cutP_join y l]
theorem cutP_len : ∀ (n : Nat) (s : Bs), s.length ≤ n → (cutP s).length ≤ s.length + 1 ∧ ∀ x ∈ cutP s, x.length ≤ s.length := by
  intro n
  induction n with
  | zero =>
    intro s hs
    obtain rfl := List.eq_nil_of_length_eq_zero (Nat.le_zero.1 hs)
    rw [cutP_none rfl]
    exact ⟨Nat.le_refl _, fun x hx => by rw [List.mem_singleton] at hx; rw [hx]; exact read_len _⟩
  | succ n ih =>
    intro s hs
    cases h : brk (headQ s) 0 s with
    | none =>
      rw [cutP_none h]
      exact ⟨by simp, fun x hx => by rw [List.mem_singleton] at hx; rw [hx]; exact read_len _⟩
    | some k =>
      have hk := brk_lt h
      obtain ⟨h1, h2⟩ := ih (s.drop (k + 1)) (by rw [List.length_drop]; omega)
      rw [List.length_drop] at h1 h2
      rw [cutP_some h]
      refine ⟨by simp; omega, fun x hx => ?_⟩
      rcases List.mem_cons.1 hx with rfl | hx
      · have := read_len (s.take k)
        rw [List.length_take] at this
        omega
      · have := h2 x hx
        omega
def cutL (s : Bs) : List Bs := if s = [] then [] else cutP s
theorem cutL_join (l : List Bs) : cutL (joinB l) = l := by
  unfold cutL
  cases l with
  | nil => rfl
  | cons x l => rw [if_neg join_ne, cutP_join]
theorem cutL_len (s : Bs) : (cutL s).length ≤ s.length + 1 ∧ ∀ x ∈ cutL s, x.length ≤ s.length := by
  unfold cutL
  split
  · exact ⟨Nat.zero_le _, fun x hx => by cases hx⟩
  · exact cutP_len _ s (Nat.le_refl _)
/-- What Split answers, by the program's cut. -/
theorem split_prog {s : Bs} (h : ¬ 1024 < s.length) : (joinE (cutL s) = 0 ∧ joinB (cutL s) = s → splitE s = 0 ∧ splitV s = cutL s) ∧ (¬ (joinE (cutL s) = 0 ∧ joinB (cutL s) = s) → splitE s = 2 ∧ splitV s = []) := by
  refine ⟨fun ⟨h1, h2⟩ => ?_, fun hn => ?_⟩
  · have := split_join h1
    rwa [h2] at this
  · have he : splitE s = 2 := by
      unfold splitE
      rw [if_neg h]
      by_cases k : (splitR s).isSome = true
      · exfalso
        have h0 : splitE s = 0 := by unfold splitE; rw [if_neg h, if_pos k]
        obtain ⟨e1, e2⟩ := split_ok h0
        have e3 : cutL s = splitV s := by rw [← e2, cutL_join, e2]
        exact hn ⟨by rw [e3]; exact e1, by rw [e3]; exact e2⟩
      · rw [if_neg k]
    exact ⟨he, by unfold splitV; rw [if_neg (by rw [he]; decide)]⟩
theorem join_mono : ∀ (a b : List Bs), (joinB a).length ≤ (joinB (a ++ b)).length
  | [], _ => Nat.zero_le _
  | [x], [] => Nat.le_refl _
  | [x], y :: r => by
    show (writtenB x).length ≤ (writtenB x ++ 32 :: joinB (y :: r)).length
    simp
  | x :: y :: r, b => by
    show (writtenB x ++ 32 :: joinB (y :: r)).length ≤ (writtenB x ++ 32 :: joinB (y :: r ++ b)).length
    have := join_mono (y :: r) b
    simp at this ⊢
    omega
end Go.Proofs.YtedkpkdfopffiaaDoor.FldP
