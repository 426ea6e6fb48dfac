/-
  Walks of end, bare, number, order and Less of the specification of package ident: what a call returns for every input. Condition: none.
-/
import Derived.Test.YtedkpkdfopffiaaDoorIdentA
namespace Go.Proofs.YtedkpkdfopffiaaDoor.NamW
open Go.ChangeShapes Go.WideShapes Go.ChangeAt Go.RowKit
open PairW NamP
theorem bs_extract (s : ByteArray) (a b : Nat) : bs (s.extract a b) = ((bs s).drop a).take (b - a) := by
  unfold bs
  rw [ByteArray.data_extract, Array.toList_extract, List.extract_eq_take_drop]
theorem bs_toList (s : ByteArray) : s.toList = bs s := ByteArray.toList_eq s
theorem bs_cons (s : ByteArray) (i : Nat) (h : i < s.size) : (bs s).drop i = s[i] :: (bs s).drop (i + 1) := by
  rw [List.drop_eq_getElem_cons (by rw [bs_len]; exact h)]
  rfl
theorem bs_end (s : ByteArray) (i : Nat) (h : s.size ≤ i) : (bs s).drop i = [] := List.drop_eq_nil_of_le (by rw [bs_len]; exact h)
theorem bytesLess_cmp : ∀ (x y : Bs), Op.bytesLess x y = decide (cmpN (nums x) (nums y) < 0)
  | [], [] => rfl
  | [], _ :: _ => rfl
  | _ :: _, [] => rfl
  | a :: x, b :: y => by
    rw [Op.bytesLess, bytesLess_cmp x y]
    show _ = decide (cmpN (a.toNat :: nums x) (b.toNat :: nums y) < 0)
    rw [cmpN]
    by_cases h : a.toNat < b.toNat
    · have : a < b := h
      rw [if_pos h]
      simp [this]
    · have h' : ¬ a < b := h
      rw [if_neg h]
      by_cases k : b.toNat < a.toNat
      · have : a ≠ b := fun e => by rw [e] at k; omega
        rw [if_pos k]
        simp [h', this]
      · have : a = b := UInt8.toNat_inj.1 (by omega)
        rw [if_neg k]
        simp [this]
theorem run_yes {x : UInt8} {l : Bs} (h : digB x = true) : runD (x :: l) = x :: runD l := by unfold runD; rw [List.takeWhile_cons, if_pos h]
theorem run_no {x : UInt8} {l : Bs} (h : digB x = false) : runD (x :: l) = [] := by unfold runD; rw [List.takeWhile_cons, if_neg (by rw [h]; simp)]
theorem rest_drop : ∀ (l : Bs), restD l = l.drop (runD l).length
  | [] => rfl
  | x :: l => by
    cases h : digB x with
    | true =>
      rw [run_yes h]
      unfold restD
      rw [List.dropWhile_cons, if_pos h]
      exact rest_drop l
    | false =>
      rw [run_no h]
      unfold restD
      rw [List.dropWhile_cons, if_neg (by rw [h]; simp)]
      rfl
theorem run_take : ∀ (l : Bs), l.take (runD l).length = runD l
  | [] => rfl
  | x :: l => by
    cases h : digB x with
    | true => rw [run_yes h]; show x :: l.take (runD l).length = _; rw [run_take l]
    | false => rw [run_no h]; rfl
theorem ext_at {s : ByteArray} (a b : Nat) (h : b ≤ s.size) : bs (s.extract a b) = ((bs s).drop a).take (b - a) ∧ (s.extract a b).size = b - a := by
  refine ⟨bs_extract s a b, ?_⟩
  rw [ByteArray.size_extract]
  omega
theorem bare_str (s : ByteArray) : ∃ r : ByteArray, bare (bs s) = bs r ∧ r.size ≤ s.size := by
  refine ⟨⟨(bare (bs s)).toArray⟩, rfl, ?_⟩
  have := bare_len (bs s)
  rw [bs_len] at this
  exact this
theorem ord_nil_nil : ordL [] [] = 0 := by rw [ordL]
theorem ord_nil_cons (y : UInt8) (b : Bs) : ordL [] (y :: b) = -1 := by rw [ordL]
theorem ord_cons_nil (x : UInt8) (a : Bs) : ordL (x :: a) [] = 1 := by rw [ordL]
theorem ord_cons (x y : UInt8) (a b : Bs) : ordL (x :: a) (y :: b) = if digB x = true then (if digB y = true then (if numC (runD (x :: a)) (runD (y :: b)) ≠ 0 then numC (runD (x :: a)) (runD (y :: b)) else ordL (restD (x :: a)) (restD (y :: b))) else -1)
    else if digB y = true then 1 else if x.toNat < y.toNat then -1 else if y.toNat < x.toNat then 1 else ordL a b := by
  rw [ordL]
  split
  · rfl
  · rfl
theorem runD_le (l : Bs) (i : Nat) (h : i ≤ l.length) : i + (runD (l.drop i)).length ≤ l.length := by
  have := run_len (l.drop i)
  rw [List.length_drop] at this
  omega
theorem ext_run {s : ByteArray} (i : Nat) (hi : i ≤ s.size) : bs (s.extract i (i + (runD ((bs s).drop i)).length)) = runD ((bs s).drop i) ∧ (s.extract i (i + (runD ((bs s).drop i)).length)).size ≤ s.size := by
  have h := runD_le (bs s) i (by rw [bs_len]; exact hi)
  rw [bs_len] at h
  obtain ⟨h1, h2⟩ := ext_at (s := s) i _ h
  refine ⟨?_, by omega⟩
  rw [h1, Nat.add_sub_cancel_left, run_take]
theorem rest_at {s : ByteArray} (i : Nat) : restD ((bs s).drop i) = (bs s).drop (i + (runD ((bs s).drop i)).length) := by rw [rest_drop, List.drop_drop]
end Go.Proofs.YtedkpkdfopffiaaDoor.NamW
