/-
  The library's functions on one-byte texts, as package field calls them; walks of the program's check, written and read. Condition: none.
-/
import Derived.Test.YtedkpkdfopffiaaDoorFieldPlainP
import Derived.Test.YtedkpkdfopffiaaDoorFieldV
import Derived.Test.YtedkpkdfopffiaaDoorFieldShelf
import Derived.Shelf.Strings.Prefix
import Derived.Shelf.Strings.Search3
import Derived.Shelf.Strings.Cut
import Derived.Shelf.Strings.Replace
import Derived.Shelf.Small.Wraps
namespace Go.Proofs.YtedkpkdfopffiaaDoor.NamW
open Go.ChangeShapes Go.WideShapes Go.ChangeAt Go.RowKit
open PairW NamP StrW FldP
theorem prefix_one (s : Bs) (c : UInt8) : Lib.hasPrefix s [c] = decide (s.head? = some c) := by
  unfold Lib.hasPrefix
  cases s with
  | nil => rfl
  | cons d r =>
    by_cases h : d = c
    · subst h; simp [List.isPrefixOf]
    · have : ¬ c = d := fun e => h e.symm
      simp [List.isPrefixOf, h, this]
theorem trim_one (s : Bs) (c : UInt8) : Lib.trimPrefix s [c] = if s.head? = some c then s.tail else s := by
  unfold Lib.trimPrefix
  rw [prefix_one]
  by_cases h : s.head? = some c
  · rw [decide_eq_true h, if_pos rfl, if_pos h]
    cases s with
    | nil => cases h
    | cons d r => rfl
  · rw [decide_eq_false h, if_neg (by decide), if_neg h]
theorem suffix_one (s : Bs) (c : UInt8) : Lib.hasSuffix s [c] = decide (s.getLast? = some c) := by
  unfold Lib.hasSuffix
  rcases List.eq_nil_or_concat s with h | ⟨m, t, h⟩
  · rw [h]; rfl
  · rw [h, List.concat_eq_append, List.getLast?_append]
    rw [Bool.eq_iff_iff, List.isSuffixOf_iff_suffix, decide_eq_true_eq]
    constructor
    · rintro ⟨x, hx⟩
      have := (List.append_inj' hx rfl).2
      simpa using this.symm
    · intro e
      have : t = c := by simpa using e
      exact ⟨m, by rw [this]⟩
theorem has_one (s : Bs) (c : UInt8) : decide (0 ≤ Lib.indexByte s c) = s.any fun d => decide (d = c) := by
  induction s with
  | nil => rfl
  | cons b l ih =>
    unfold Lib.indexByte
    by_cases h : b = c
    · rw [if_pos (beq_iff_eq.2 h), List.any_cons, decide_eq_true h]
      rfl
    · rw [if_neg (fun e => h (beq_iff_eq.1 e)), List.any_cons, decide_eq_false h, Bool.false_or, ← ih]
      have := Lib.indexByte_ge l c
      by_cases k : Lib.indexByte l c = -1
      · rw [if_pos (beq_iff_eq.2 k), k]
      · rw [if_neg (fun e => k (beq_iff_eq.1 e)), decide_eq_true (by omega), decide_eq_true (by omega)]
theorem of_list (l : Bs) : bs ⟨l.toArray⟩ = l := rfl
theorem size_list (l : Bs) : (⟨l.toArray⟩ : ByteArray).size = l.length := rfl
theorem pre_at (s : ByteArray) (c : UInt8) (t : Bool) (w : World) (H : Hid (decide ((bs s).head? = some c) = t)) :
    Calls Tryd.prog 35 #[.string s, .string ⟨#[c]⟩] w fun e w' => e = .returned (.bool t) ∧ w = w' := by
  refine (Any.strings_HasPrefix Tryd.lays99 s ⟨#[c]⟩ w).mono ?_
  rintro e w' ⟨rfl, rfl⟩
  exact ⟨by rw [← H.out, ← prefix_one], rfl⟩
theorem suf_at (s : ByteArray) (c : UInt8) (t : Bool) (w : World) (hs : s.size ≤ 100000) (H : Hid (decide ((bs s).getLast? = some c) = t)) :
    Calls Tryd.prog 31 #[.string s, .string ⟨#[c]⟩] w fun e w' => e = .returned (.bool t) ∧ w = w' := by
  refine (Any.strings_HasSuffix Tryd.lays100 s ⟨#[c]⟩ w (by omega)).mono ?_
  rintro e w' ⟨rfl, rfl⟩
  exact ⟨by rw [← H.out, ← suffix_one], rfl⟩
theorem trimpre_at (s : ByteArray) (c : UInt8) (w : World) :
    Calls Tryd.prog 43 #[.string s, .string ⟨#[c]⟩] w fun e w' => ∃ r, e = .returned (.string r) ∧ bs r = (if (bs s).head? = some c then (bs s).tail else bs s) ∧ w = w' := by
  refine (Any.strings_TrimPrefix Tryd.lays101 s ⟨#[c]⟩ w).mono ?_
  rintro e w' ⟨rfl, rfl⟩
  exact ⟨_, rfl, by rw [of_list]; exact trim_one _ _, rfl⟩
theorem trimsuf_at (s : ByteArray) (c : UInt8) (w : World) (hs : s.size ≤ 100000) :
    Calls Tryd.prog 48 #[.string s, .string ⟨#[c]⟩] w fun e w' => ∃ r, e = .returned (.string r) ∧ bs r = Lib.trimSuffix (bs s) [c] ∧ w = w' := by
  refine (Any.strings_TrimSuffix Tryd.lays102 s ⟨#[c]⟩ w (by omega)).mono ?_
  rintro e w' ⟨rfl, rfl⟩
  exact ⟨_, rfl, rfl, rfl⟩
theorem cutpre_at (s : ByteArray) (c : UInt8) (t : Bool) (w : World) (H : Hid (decide ((bs s).head? = some c) = t)) :
    Calls Tryd.prog 34 #[.string s, .string ⟨#[c]⟩] w fun e w' => ∃ r, e = .returned (.tuple #[.string r, .bool t]) ∧ bs r = (if (bs s).head? = some c then (bs s).tail else bs s) ∧ w = w' := by
  refine (Any.strings_CutPrefix Tryd.lays103 s ⟨#[c]⟩ w).mono ?_
  rintro e w' ⟨rfl, rfl⟩
  exact ⟨⟨(Lib.trimPrefix s.data.toList [c]).toArray⟩, by rw [← H.out, ← prefix_one], by rw [of_list]; exact trim_one _ _, rfl⟩
theorem contains_at (s : ByteArray) (c : UInt8) (t : Bool) (w : World) (H : Hid (((bs s).any fun d => decide (d = c)) = t)) :
    Calls Tryd.prog 36 #[.string s, .string ⟨#[c]⟩] w fun e w' => e = .returned (.bool t) ∧ w = w' := by
  refine (Any.strings_Contains_one Tryd.lays144 s c w).mono ?_
  rintro e w' ⟨rfl, rfl⟩
  exact ⟨by rw [← H.out, ← has_one], rfl⟩
theorem repdbl_at (s : ByteArray) (w : World) (M : Hid (Mx w)) (hs : s.size ≤ 100000) :
    Calls Tryd.prog 37 #[.string s, .string ⟨#[39]⟩, .string ⟨#[39, 39]⟩] w fun e w' => ∃ r, e = .returned (.string r) ∧ bs r = dbl (bs s) ∧ Own w w' := by
  obtain ⟨m, hm⟩ := M.out
  have hc := Lib.countB_le ⟨#[39]⟩ (by decide) _ s (Nat.le_refl _)
  have hz : (⟨#[39, 39]⟩ : ByteArray).size = 2 := rfl
  refine (Any.strings_ReplaceAll Tryd.lays155 Tryd.extra155 s ⟨#[39]⟩ ⟨#[39, 39]⟩ m w (by omega) hm (by decide) (by rw [hz]; omega)).mono ?_
  rintro e w' ⟨rfl, h⟩
  exact ⟨_, rfl, rep_dbl _, .of_below h⟩
theorem rephlv_at (s : ByteArray) (w : World) (M : Hid (Mx w)) (hs : s.size ≤ 100000) :
    Calls Tryd.prog 37 #[.string s, .string ⟨#[39, 39]⟩, .string ⟨#[39]⟩] w fun e w' => ∃ r, e = .returned (.string r) ∧ bs r = hlv (bs s) ∧ Own w w' := by
  obtain ⟨m, hm⟩ := M.out
  have hc := Lib.countB_le ⟨#[39, 39]⟩ (by decide) _ s (Nat.le_refl _)
  have hz : (⟨#[39]⟩ : ByteArray).size = 1 := rfl
  refine (Any.strings_ReplaceAll Tryd.lays155 Tryd.extra155 s ⟨#[39, 39]⟩ ⟨#[39]⟩ m w (by omega) hm (by decide) (by rw [hz]; omega)).mono ?_
  rintro e w' ⟨rfl, h⟩
  exact ⟨_, rfl, rep_hlv _, .of_below h⟩
/-- The error of one field. -/
def oneE (s : Bs) : Int := if 256 < s.length then 3 else if okB s then 0 else 2
set_option maxRecDepth 100000 in
theorem check_at (s : ByteArray) (f : Int) (w : World) (hs : s.size ≤ 100000) (H : Hid (oneE (bs s) = f)) : Calls Tryd.prog 25 #[.string s] w fun e w' => e = .returned (.int .i64 f) ∧ w = w' := by
  have hf := H.out
  clear H
  unfold oneE at hf
  rw [bs_len] at hf
  by_cases hb : 256 < s.size
  · rw [if_pos hb] at hf
    subst hf
    have hbi : (256 : Int) < s.size := by omega
    go_enter Tryd.func25, Tryd.ntmps25
    go_wp2
    go_ret
    exact ⟨rfl, rfl⟩
  · rw [if_neg hb] at hf
    have hbi : ¬ (256 : Int) < s.size := by omega
    have H := Lib.hid hf
    clear hf hb
    go_enter Tryd.func25, Tryd.ntmps25
    go_wp2
    go_loop [9] (fun i => ∃ k : Nat, i = .int .i64 k ∧ k ≤ s.size ∧ ∀ j, j < k → ∀ hj : j < s.size, 32 ≤ s[j].toNat ∧ s[j].toNat ≤ 126) (fun i => s.size - (intOf i).toNat)
    case atStart => exact ⟨0, rfl, Nat.zero_le _, fun j hj => absurd hj (Nat.not_lt_zero _)⟩
    case round =>
      obtain ⟨k, rfl, hk, hok⟩ := hrel
      have HOK := Lib.hid hok
      clear hok
      by_cases hlt : k < s.size
      · have hki : (k : Int) < s.size := by omega
        by_cases c1 : s[k].toNat < 32
        · obtain rfl : 2 = f := by rw [← H.out, okB_no hlt (.inl c1)]; rfl
          have c1i : (s[k].toNat : Int) < 32 := by omega
          clear H HOK
          go_wp2
          go_ret
          exact ⟨rfl, rfl⟩
        · have c1i : ¬ (s[k].toNat : Int) < 32 := by omega
          by_cases c2 : 126 < s[k].toNat
          · obtain rfl : 2 = f := by rw [← H.out, okB_no hlt (.inr c2)]; rfl
            have c2i : (126 : Int) < s[k].toNat := by omega
            clear H HOK
            go_wp2
            go_ret
            exact ⟨rfl, rfl⟩
          · have c2i : ¬ (126 : Int) < s[k].toNat := by omega
            have HB := Lib.hid (show 32 ≤ s[k].toNat ∧ s[k].toNat ≤ 126 by omega)
            go_wp2
            refine ⟨⟨k + 1, by go_num, hlt, fun j hj hjs => ?_⟩, by simp [intOf]; omega⟩
            by_cases e : j = k
            · subst e; exact HB.out
            · exact HOK.out j (by omega) hjs
      · obtain rfl : k = s.size := by omega
        obtain rfl : 0 = f := by rw [← H.out, okB_yes fun j hj => HOK.out j hj hj]; rfl
        clear H HOK
        go_wp2
        go_ret
        exact ⟨rfl, rfl⟩
theorem wr_names {r : ByteArray} (h : r.size ≤ 1000000) : ∃ r2, (⟨#[39]⟩ ++ r : ByteArray) = r2 ∧ ¬ (9223372036854775807 < 1 + r.size) ∧ ¬ (9223372036854775807 < r2.size + 1) ∧ Hid (bs (r2 ++ ⟨#[39]⟩) = 39 :: bs r ++ [39]) := by
  have hz : (⟨#[39]⟩ ++ r : ByteArray).size = 1 + r.size := size_app ⟨#[39]⟩ r
  refine ⟨_, rfl, by omega, by rw [hz]; omega, Lib.hid ?_⟩
  rw [bs_app, bs_app]
  rfl
set_option maxRecDepth 100000 in
theorem pwritten_at (s : ByteArray) (w : World) (M : Hid (Mx w)) (hs : s.size ≤ 1000) :
    Calls Tryd.prog 26 #[.string s] w fun e w' => ∃ r, e = .returned (.string r) ∧ bs r = writtenB (bs s) ∧ Own w w' := by
  have HS := Lib.hid (show s.size ≤ 100000 by omega)
  have HD := Lib.hid (fun (r : ByteArray) (h : bs r = dbl (bs s)) => show r.size ≤ 1000000 by
    have h1 := dbl_len (bs s)
    rw [← h, bs_len, bs_len] at h1
    omega)
  clear hs
  obtain ⟨t1, ht1⟩ : ∃ t, decide ((bs s).head? = some 39) = t := ⟨_, rfl⟩
  obtain ⟨t2, ht2⟩ : ∃ t, ((bs s).any fun d => decide (d = 32)) = t := ⟨_, rfl⟩
  have H1 := Lib.hid ht1
  have H2 := Lib.hid ht2
  have HQ := Lib.hid (show quotedB (bs s) = (decide (bs s = []) || t1 || t2) by unfold quotedB; rw [ht1, ht2])
  clear ht1 ht2
  by_cases h0 : 0 < s.size
  · have hne : s.toList.isEmpty = false := nonempty_at h0
    have HE := Lib.hid (show decide (bs s = []) = false from decide_eq_false fun e => by have := bs_len s; rw [e, List.length_nil] at this; omega)
    clear h0
    go_enter Tryd.func26, Tryd.ntmps26
    cases t1
    · cases t2
      · go_wp2_with (first
          | (go_at_call 35; with_reducible refine (pre_at s 39 _ _ H1).mono ?_; rintro e w1 ⟨rfl, rfl⟩)
          | (go_at_call 36; with_reducible refine (contains_at s 32 _ _ H2).mono ?_; rintro e w1 ⟨rfl, rfl⟩))
        go_ret
        exact ⟨_, rfl, by unfold writtenB; rw [HQ.out, HE.out]; rfl, Own.refl _⟩
      · go_wp2_with (first
          | (go_at_call 35; with_reducible refine (pre_at s 39 _ _ H1).mono ?_; rintro e w1 ⟨rfl, rfl⟩)
          | (go_at_call 36; with_reducible refine (contains_at s 32 _ _ H2).mono ?_; rintro e w1 ⟨rfl, rfl⟩)
          | (go_at_call 37; with_reducible refine (repdbl_at s _ M HS.out).mono ?_; rintro e w1 ⟨r, rfl, hr, hg⟩; obtain ⟨r2, hr2, n1, n2, HB⟩ := wr_names (HD.out r hr); have HR := Lib.hid hr; clear hr))
        go_ret
        exact ⟨_, rfl, by rw [HB.out, HR.out]; unfold writtenB; rw [HQ.out, HE.out]; rfl, hg⟩
    · go_wp2_with (first
        | (go_at_call 35; with_reducible refine (pre_at s 39 _ _ H1).mono ?_; rintro e w1 ⟨rfl, rfl⟩)
        | (go_at_call 37; with_reducible refine (repdbl_at s _ M HS.out).mono ?_; rintro e w1 ⟨r, rfl, hr, hg⟩; obtain ⟨r2, hr2, n1, n2, HB⟩ := wr_names (HD.out r hr); have HR := Lib.hid hr; clear hr))
      go_ret
      exact ⟨_, rfl, by rw [HB.out, HR.out]; unfold writtenB; rw [HQ.out, HE.out]; rfl, hg⟩
  · have hne : s.toList.isEmpty = true := empty_at h0
    have HE := Lib.hid (show decide (bs s = []) = true from decide_eq_true (List.eq_nil_of_length_eq_zero (by rw [bs_len]; omega)))
    clear h0
    go_enter Tryd.func26, Tryd.ntmps26
    go_wp2_with (go_at_call 37; with_reducible refine (repdbl_at s _ M HS.out).mono ?_; rintro e w1 ⟨r, rfl, hr, hg⟩; obtain ⟨r2, hr2, n1, n2, HB⟩ := wr_names (HD.out r hr); have HR := Lib.hid hr; clear hr)
    go_ret
    exact ⟨_, rfl, by rw [HB.out, HR.out]; unfold writtenB; rw [HQ.out, HE.out]; rfl, hg⟩
set_option maxRecDepth 100000 in
theorem pread_at (s : ByteArray) (w : World) (M : Hid (Mx w)) (hs : s.size ≤ 100000) :
    Calls Tryd.prog 40 #[.string s] w fun e w' => ∃ r, e = .returned (.string r) ∧ bs r = readB (bs s) ∧ Own w w' := by
  have HS := Lib.hid hs
  obtain ⟨t, ht⟩ : ∃ t, decide ((bs s).head? = some 39) = t := ⟨_, rfl⟩
  have HT := Lib.hid ht
  clear hs
  go_enter Tryd.func40, Tryd.ntmps40
  cases t
  · have HR := Lib.hid (of_decide_eq_false ht)
    clear ht
    go_wp2_with (go_at_call 34; with_reducible refine (cutpre_at s 39 _ _ HT).mono ?_; rintro e w1 ⟨r, rfl, _, rfl⟩)
    go_ret
    exact ⟨_, rfl, by unfold readB; rw [if_neg HR.out], Own.refl _⟩
  · have HR := Lib.hid (of_decide_eq_true ht)
    clear ht
    go_wp2_with (first
      | (go_at_call 34; with_reducible refine (cutpre_at s 39 _ _ HT).mono ?_; rintro e w1 ⟨r, rfl, hr, rfl⟩; rw [if_pos HR.out] at hr; have H1 := Lib.hid hr; have HZ := Lib.hid (show r.size ≤ 100000 by have := HS.out; rw [← bs_len, hr, List.length_tail, bs_len]; omega); clear hr)
      | (go_at_call 48; with_reducible refine (trimsuf_at r 39 _ HZ.out).mono ?_; rintro e w2 ⟨q, rfl, hq, rfl⟩; have H2 := Lib.hid hq; have HY := Lib.hid (show q.size ≤ 100000 by have := HZ.out; have h2 := Lib.trimSuffix_le (bs r) [39]; rw [← hq, bs_len, bs_len] at h2; omega); clear hq)
      | (go_at_call 37; with_reducible refine (rephlv_at q _ M HY.out).mono ?_; rintro e w3 ⟨x, rfl, hx, hg⟩; have H3 := Lib.hid hx; clear hx))
    go_ret
    exact ⟨_, rfl, by unfold readB; rw [if_pos HR.out, H3.out, H2.out, H1.out], hg⟩
end Go.Proofs.YtedkpkdfopffiaaDoor.NamW
