/-
  Plain facts of package crc: frames, written, opened, one after the other, cut off and changed. No word of the program. Condition: none.
-/
import Derived.Test.YtbplglndcagglaaCrcPlain
import Derived.Test.YtbplglndcagglaaWirePlainB
namespace Go.Proofs.Ytbplglndcagglaa.CrcP
open WirP
def headB (c : Bs) : Bs := encI (c.length : Int)
def sumC (c : Bs) : Nat := ext 0 (headB c ++ c)
/-- The frame of a content. -/
def frB (c : Bs) : Bs := headB c ++ (four (sumC c) ++ c)
theorem sumC_lt (c : Bs) : sumC c < 4294967296 := ext_lt (by omega) _
theorem fr_len (c : Bs) : (frB c).length = (headB c).length + 4 + c.length := by
  unfold frB
  rw [List.length_append, List.length_append, four_len]
  omega
/-- The numbers of a frame at the beginning of b: its length and the bytes of it, if b is long enough. -/
def cntE (b : Bs) : Int := if takeE b ≠ 0 then takeE b else if takeV b < 0 then 2 else if 65536 < takeV b then 3 else if b.length < takeK b + 4 + (takeV b).toNat then 13 else 0
def bodyB (b : Bs) : Bs := (b.drop (takeK b + 4)).take (takeV b).toNat
def readSum (b : Bs) : Nat := ext (ext 0 (b.take (takeK b))) (bodyB b)
def openE (b : Bs) : Int := if cntE b ≠ 0 then cntE b else if four (readSum b) = (b.drop (takeK b)).take 4 then 0 else 14
def openV (b : Bs) : Bs := if openE b = 0 then bodyB b else []
def openK (b : Bs) : Nat := if openE b = 0 then takeK b + 4 + (takeV b).toNat else 0
theorem open_bad {b : Bs} (h : openE b ≠ 0) : openV b = [] ∧ openK b = 0 := ⟨by unfold openV; rw [if_neg h], by unfold openK; rw [if_neg h]⟩
theorem cnt_ok {b : Bs} (h : cntE b = 0) : takeE b = 0 ∧ 0 ≤ takeV b ∧ takeV b ≤ 65536 ∧ takeK b + 4 + (takeV b).toNat ≤ b.length := by
  unfold cntE at h
  by_cases c1 : takeE b = 0
  · rw [if_neg (by rw [c1]; simp)] at h
    by_cases c2 : takeV b < 0
    · rw [if_pos c2] at h; cases h
    · rw [if_neg c2] at h
      by_cases c3 : 65536 < takeV b
      · rw [if_pos c3] at h; cases h
      · rw [if_neg c3] at h
        by_cases c4 : b.length < takeK b + 4 + (takeV b).toNat
        · rw [if_pos c4] at h; cases h
        · exact ⟨c1, by omega, by omega, by omega⟩
  · rw [if_pos c1] at h; exact absurd h c1
theorem open_ok {b : Bs} (h : openE b = 0) : cntE b = 0 := by
  unfold openE at h
  by_cases c : cntE b = 0
  · exact c
  · rw [if_pos c] at h; exact absurd h c
theorem open_size {b : Bs} (h : openE b = 0) : 5 ≤ openK b ∧ openK b ≤ b.length ∧ (openV b).length = (takeV b).toNat := by
  obtain ⟨h1, h2, h3, h4⟩ := cnt_ok (open_ok h)
  have h5 := (take_once h1).2.1
  unfold openK openV bodyB
  rw [if_pos h, if_pos h, List.length_take, List.length_drop]
  omega
theorem in_max {c : Bs} (h : c.length ≤ 65536) : -9223372036854775808 ≤ (c.length : Int) ∧ (c.length : Int) ≤ 9223372036854775807 := by omega
/-- What is read of something that has the form of a frame. -/
theorem shape_of {c : Bs} (hc : c.length ≤ 65536) (f : Bs) (hf : f.length = 4) (d : Bs) (hd : d.length = c.length) (r : Bs) : cntE (headB c ++ (f ++ d) ++ r) = 0 ∧ takeK (headB c ++ (f ++ d) ++ r) = (headB c).length ∧ takeV (headB c ++ (f ++ d) ++ r) = c.length ∧
    bodyB (headB c ++ (f ++ d) ++ r) = d ∧ (headB c ++ (f ++ d) ++ r).take (takeK (headB c ++ (f ++ d) ++ r)) = headB c ∧ ((headB c ++ (f ++ d) ++ r).drop (takeK (headB c ++ (f ++ d) ++ r))).take 4 = f := by
  have e : headB c ++ (f ++ d) ++ r = headB c ++ (f ++ (d ++ r)) := by simp
  obtain ⟨t1, t2, t3⟩ := take_enc (in_max hc) (f ++ (d ++ r))
  rw [e]
  have t1 : takeE (headB c ++ (f ++ (d ++ r))) = 0 := t1
  have t2 : takeV (headB c ++ (f ++ (d ++ r))) = c.length := t2
  have t3 : takeK (headB c ++ (f ++ (d ++ r))) = (headB c).length := t3
  refine ⟨?_, t3, t2, ?_, ?_, ?_⟩
  · unfold cntE
    rw [t1, t2, t3, if_neg (by simp), if_neg (by omega), if_neg (by omega), if_neg]
    simp only [List.length_append, hf, hd]
    omega
  · unfold bodyB
    rw [t2, t3, ← List.drop_drop, List.drop_left, ← hf, List.drop_left, Int.toNat_natCast, ← hd, List.take_left]
  · rw [t3, List.take_left]
  · rw [t3, List.drop_left, ← hf, List.take_left]
/-- A frame is opened, whatever follows it. -/
theorem open_frame {c : Bs} (hc : c.length ≤ 65536) (r : Bs) : openE (frB c ++ r) = 0 ∧ openV (frB c ++ r) = c ∧ openK (frB c ++ r) = (frB c).length := by
  obtain ⟨h1, h2, h3, h4, h5, h6⟩ := shape_of hc (four (sumC c)) (four_len _) c rfl r
  have e : headB c ++ (four (sumC c) ++ c) ++ r = frB c ++ r := rfl
  rw [e] at h1 h2 h3 h4 h5 h6
  have h0 : openE (frB c ++ r) = 0 := by
    unfold openE readSum
    rw [if_neg (by rw [h1]; simp), h4, h5, h6, ext_app, if_pos]
    rfl
  refine ⟨h0, by unfold openV; rw [if_pos h0, h4], ?_⟩
  unfold openK
  rw [if_pos h0, h2, h3, Int.toNat_natCast, fr_len]
/-- Another checksum than that of the content, or another content of the same length. -/
theorem open_found {c : Bs} (hc : c.length ≤ 65536) (f : Bs) (hf : f.length = 4) (d : Bs) (hd : d.length = c.length) (r : Bs) (h : four (ext 0 (headB c ++ d)) ≠ f) : openE (headB c ++ (f ++ d) ++ r) = 14 := by
  obtain ⟨h1, h2, h3, h4, h5, h6⟩ := shape_of hc f hf d hd r
  unfold openE readSum
  rw [if_neg (by rw [h1]; simp), h4, h5, h6, ext_app, if_neg h]
/-- A frame that is cut off. -/
theorem open_cut {c : Bs} (hc : c.length ≤ 65536) {k : Nat} (hk : k < (frB c).length) : openE ((frB c).take k) = 13 := by
  rw [fr_len] at hk
  by_cases h : k < (headB c).length
  · have e : (frB c).take k = (headB c).take k := by unfold frB; rw [List.take_append_of_le_length (by omega)]
    obtain ⟨t1, _, _⟩ := take_cut (c.length : Int) h
    rw [e]
    have hE : cntE ((headB c).take k) = 13 := by unfold cntE; unfold headB; rw [t1, if_pos (by decide)]
    unfold openE
    rw [hE, if_pos (by decide)]
  · have e : (frB c).take k = headB c ++ (four (sumC c) ++ c).take (k - (headB c).length) := by
      unfold frB
      rw [List.take_append, List.take_of_length_le (by omega)]
    obtain ⟨t1, t2, t3⟩ := take_enc (in_max hc) ((four (sumC c) ++ c).take (k - (headB c).length))
    have hl : ((frB c).take k).length = k := by rw [List.length_take, fr_len]; omega
    rw [e] at hl
    rw [e]
    have t1 : takeE (headB c ++ (four (sumC c) ++ c).take (k - (headB c).length)) = 0 := t1
    have t2 : takeV (headB c ++ (four (sumC c) ++ c).take (k - (headB c).length)) = c.length := t2
    have t3 : takeK (headB c ++ (four (sumC c) ++ c).take (k - (headB c).length)) = (headB c).length := t3
    have hE : cntE (headB c ++ (four (sumC c) ++ c).take (k - (headB c).length)) = 13 := by
      unfold cntE
      rw [t1, t2, t3, hl, if_neg (by simp), if_neg (by omega), if_neg (by omega), Int.toNat_natCast, if_pos (by omega)]
    unfold openE
    rw [hE, if_pos (by decide)]
theorem open_nil : openE [] = 13 := by
  have hE : cntE [] = 13 := by unfold cntE; rw [(take_none rfl).1, if_pos (by decide)]
  unfold openE
  rw [hE, if_pos (by decide)]
/-! ### Frames one after the other -/
def allF : Nat → Bs → List Bs × Nat
  | 0, _ => ([], 0)
  | n + 1, b => if openE b ≠ 0 then ([], 0) else (openV b :: (allF n (b.drop (openK b))).1, openK b + (allF n (b.drop (openK b))).2)
theorem all_more : ∀ (n m : Nat) (b : Bs), b.length < n → b.length < m → allF n b = allF m b
  | 0, _, _, h, _ => absurd h (Nat.not_lt_zero _)
  | _, 0, _, _, h => absurd h (Nat.not_lt_zero _)
  | n + 1, m + 1, b, h, k => by
    unfold allF
    by_cases e : openE b = 0
    · obtain ⟨h1, h2, _⟩ := open_size e
      rw [all_more n m (b.drop (openK b)) (by rw [List.length_drop]; omega) (by rw [List.length_drop]; omega)]
    · rw [if_pos e, if_pos e]
/-- What All returns. -/
def allR (b : Bs) : List Bs × Nat := allF (b.length + 1) b
theorem all_stop {b : Bs} (h : openE b ≠ 0) : allR b = ([], 0) := by
  unfold allR allF
  rw [if_pos h]
theorem all_step {b : Bs} (h : openE b = 0) : allR b = (openV b :: (allR (b.drop (openK b))).1, openK b + (allR (b.drop (openK b))).2) := by
  obtain ⟨h1, h2, _⟩ := open_size h
  unfold allR
  conv => lhs; unfold allF
  rw [if_neg (by rw [h]; simp), all_more b.length ((b.drop (openK b)).length + 1) (b.drop (openK b)) (by rw [List.length_drop]; omega) (by omega)]
def frs (l : List Bs) : Bs := (l.map frB).flatten
theorem frs_cons (c : Bs) (l : List Bs) : frs (c :: l) = frB c ++ frs l := rfl
theorem frs_app (a b : List Bs) : frs (a ++ b) = frs a ++ frs b := by unfold frs; rw [List.map_append, List.flatten_append]
def Fits (l : List Bs) : Prop := ∀ c ∈ l, c.length ≤ 65536
/-- All of frames that follow each other, up to a place where none is opened. -/
theorem all_frames : ∀ (l : List Bs), Fits l → ∀ r, openE r ≠ 0 → allR (frs l ++ r) = (l, (frs l).length)
  | [], _, r, h => all_stop h
  | c :: l, hl, r, h => by
    obtain ⟨h1, h2, h3⟩ := open_frame (hl c (List.mem_cons_self ..)) (frs l ++ r)
    rw [frs_cons, List.append_assoc, all_step h1, h2, h3, List.drop_left, all_frames l (fun d hd => hl d (List.mem_cons_of_mem _ hd)) r h, List.length_append]
/-! ### Examples -/
theorem ex_digits : ext 0 [49, 50, 51, 52, 53, 54, 55, 56, 57] = 3808858755 := by decide +kernel
theorem ex_zeros : ext 0 (List.replicate 32 0) = 2324772522 := by decide +kernel
theorem ex_ones : ext 0 (List.replicate 32 255) = 1655221059 := by decide +kernel
end Go.Proofs.Ytbplglndcagglaa.CrcP
