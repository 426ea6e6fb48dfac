/-
  Plain facts of package crc: frames that follow each other, cut off anywhere; one byte of one of them changed. No word of the program. Condition: none.
-/
import Derived.Test.YtbplglndcagglaaCrcPlainB
namespace Go.Proofs.Ytbplglndcagglaa.CrcP
open WirP
theorem set_right (a b : Bs) (k : Nat) (x : UInt8) : (a ++ b).set (a.length + k) x = a ++ b.set k x := by
  rw [List.set_append_right _ _ (Nat.le_add_right _ _), Nat.add_sub_cancel_left]
theorem set_left {a b : Bs} {k : Nat} {x : UInt8} (h : k < a.length) : (a ++ b).set k x = a.set k x ++ b := List.set_append_left _ _ h
theorem frs_take {l : List Bs} {i : Nat} (h : i < l.length) : frs (l.take (i + 1)) = frs (l.take i) ++ frB l[i] := by
  rw [List.take_succ_eq_append_getElem h, frs_app]
  show _ ++ (frB _ ++ []) = _
  rw [List.append_nil]
theorem frs_split (l : List Bs) (i : Nat) : frs l = frs (l.take i) ++ frs (l.drop i) := by rw [← frs_app, List.take_append_drop]
theorem head_ten {c : Bs} (h : c.length ≤ 65536) : (headB c).length ≤ 10 := enc_ten (in_max h)
theorem frs_le : ∀ (l : List Bs), (∀ c ∈ l, c.length ≤ 400) → (frs l).length ≤ 414 * l.length
  | [], _ => Nat.le_refl _
  | c :: r, h => by
    have h1 := h c (List.mem_cons_self ..)
    have h2 := frs_le r (fun d hd => h d (List.mem_cons_of_mem _ hd))
    have h3 := head_ten (c := c) (by omega)
    rw [frs_cons, List.length_append, fr_len]
    show _ ≤ 414 * (r.length + 1)
    omega
theorem fits_small {l : List Bs} (h : ∀ c ∈ l, c.length ≤ 400) : Fits l := fun c hc => Nat.le_trans (h c hc) (by omega)
theorem Fits.take {l : List Bs} (h : Fits l) (i : Nat) : Fits (l.take i) := fun c hc => h c (List.mem_of_mem_take hc)
/-- What is left behind the whole frames of what was cut off at k. -/
theorem cuts {l : List Bs} (hl : Fits l) {k wh : Nat} (hwh : wh ≤ l.length) (h1 : (frs (l.take wh)).length ≤ k) (h2 : wh < l.length → k < (frs (l.take (wh + 1))).length) :
    openE (((frs l).take k).drop (frs (l.take wh)).length) = 13 ∧ allR ((frs l).take k) = (l.take wh, (frs (l.take wh)).length) := by
  have e : (frs l).take k = frs (l.take wh) ++ (frs (l.drop wh)).take (k - (frs (l.take wh)).length) := by
    conv => lhs; rw [frs_split l wh]
    rw [List.take_append, List.take_of_length_le h1]
  have h3 : openE ((frs (l.drop wh)).take (k - (frs (l.take wh)).length)) = 13 := by
    by_cases c : wh < l.length
    · have h4 := h2 c
      rw [frs_take c, List.length_append] at h4
      rw [List.drop_eq_getElem_cons c, frs_cons, List.take_append_of_le_length (by omega)]
      exact open_cut (hl _ (List.getElem_mem c)) (by omega)
    · rw [List.drop_of_length_le (by omega)]
      show openE (([] : Bs).take _) = 13
      rw [List.take_nil]
      exact open_nil
  rw [e]
  exact ⟨by rw [List.drop_left]; exact h3, all_frames _ (hl.take wh) _ (by rw [h3]; decide)⟩
theorem set_ne {l : Bs} {p : Nat} {x : UInt8} (h : p < l.length) (hx : l[p] ≠ x) : l.set p x ≠ l := fun e => by
  have : (l.set p x)[p]'(by rw [List.length_set]; exact h) = l[p] := by simp only [e]
  rw [List.getElem_set_self] at this
  exact hx this.symm
/-- One byte of the checksum or of the content changed. -/
theorem found_one {c : Bs} (hc : c.length ≤ 65536) {p : Nat} (hp : p < 4 + c.length) (x : UInt8) (hx : (four (sumC c) ++ c)[p]'(by rw [List.length_append, four_len]; exact hp) ≠ x) (r : Bs) : openE ((frB c).set ((headB c).length + p) x ++ r) = 14 := by
  have e : (frB c).set ((headB c).length + p) x = headB c ++ (four (sumC c) ++ c).set p x := by
    unfold frB
    exact set_right _ _ _ _
  rw [e]
  by_cases h : p < 4
  · rw [List.set_append_left (h := by rw [four_len]; exact h)]
    refine open_found hc _ (by rw [List.length_set, four_len]) c rfl r fun h1 => ?_
    have h2 : (four (sumC c))[p]'(by rw [four_len]; exact h) ≠ x := by
      rw [List.getElem_append_left (by rw [four_len]; exact h)] at hx
      exact hx
    exact set_ne (by rw [four_len]; exact h) h2 h1.symm
  · have hq : p - 4 < c.length := by omega
    have es : (four (sumC c) ++ c).set p x = four (sumC c) ++ c.set (p - 4) x := by
      have h5 := set_right (four (sumC c)) c (p - 4) x
      rw [four_len, show 4 + (p - 4) = p by omega] at h5
      exact h5
    rw [es]
    refine open_found hc _ (four_len _) _ (by rw [List.length_set]) r fun h1 => ?_
    have h2 : c[p - 4] ≠ x := by
      rw [List.getElem_append_right (by rw [four_len]; omega)] at hx
      simp only [four_len] at hx
      exact hx
    have h3 := four_inj (ext_lt (by omega) _) (sumC_lt c) h1
    have e1 : c = c.take (p - 4) ++ c[p - 4] :: c.drop (p - 4 + 1) := by rw [← List.drop_eq_getElem_cons hq, List.take_append_drop]
    have e2 : c.set (p - 4) x = c.take (p - 4) ++ x :: c.drop (p - 4 + 1) := by rw [List.set_eq_take_append_cons_drop, if_pos hq]
    unfold sumC at h3
    rw [e2] at h3
    have h4 : ext 0 (headB c ++ c) = ext 0 (headB c ++ (c.take (p - 4) ++ c[p - 4] :: c.drop (p - 4 + 1))) := by rw [← e1]
    rw [h4, ← List.append_assoc, ← List.append_assoc] at h3
    exact ext_change (by omega) _ _ (Ne.symm h2) h3
theorem found {l : List Bs} (hl : Fits l) {i p : Nat} (hi : i < l.length) (hp : p < 4 + l[i].length) (x : UInt8) (hx : (four (sumC l[i]) ++ l[i])[p]'(by rw [List.length_append, four_len]; exact hp) ≠ x) :
    openE (((frs l).set ((frs (l.take i)).length + ((headB l[i]).length + p)) x).drop (frs (l.take i)).length) = 14 ∧ allR ((frs l).set ((frs (l.take i)).length + ((headB l[i]).length + p)) x) = (l.take i, (frs (l.take i)).length) := by
  have hlen : (headB l[i]).length + p < (frB l[i]).length := by rw [fr_len]; omega
  have e : (frs l).set ((frs (l.take i)).length + ((headB l[i]).length + p)) x = frs (l.take i) ++ ((frB l[i]).set ((headB l[i]).length + p) x ++ frs (l.drop (i + 1))) := by
    conv => lhs; rw [frs_split l i]
    rw [set_right, List.drop_eq_getElem_cons hi, frs_cons, set_left hlen]
  have h3 := found_one (hl _ (List.getElem_mem hi)) hp x hx (frs (l.drop (i + 1)))
  rw [e]
  exact ⟨by rw [List.drop_left]; exact h3, all_frames _ (hl.take i) _ (by rw [h3]; decide)⟩
end Go.Proofs.Ytbplglndcagglaa.CrcP
