/-
  Walks of the specification of package field: which bytes a field may have, how it is written. Condition: none.
-/
import Derived.Test.YtedkpkdfopffiaaDoorIdentB
import Derived.Test.YtedkpkdfopffiaaDoorFieldPlain
namespace Go.Proofs.YtedkpkdfopffiaaDoor.NamW
open Go.ChangeShapes Go.WideShapes Go.ChangeAt Go.RowKit
open PairW NamP FldP
theorem bs_get {s : ByteArray} {k : Nat} (h : k < s.size) : s[k] ∈ bs s := by
  rw [← bs_at s k h]
  exact at_mem (by rw [bs_len]; exact h)
theorem get_mem {s : ByteArray} {c : UInt8} (h : c ∈ bs s) : ∃ k, ∃ hk : k < s.size, s[k] = c := by
  obtain ⟨k, hk, e⟩ := List.mem_iff_getElem.1 h
  rw [bs_len] at hk
  exact ⟨k, hk, by rw [← e]; rfl⟩
theorem okB_no {s : ByteArray} {k : Nat} (h : k < s.size) (hb : s[k].toNat < 32 ∨ 126 < s[k].toNat) : okB (bs s) = false := Bool.of_not_eq_true fun e => by
  have := List.all_eq_true.1 e _ (bs_get h)
  rw [Bool.and_eq_true, decide_eq_true_eq, decide_eq_true_eq] at this
  omega
theorem okB_yes {s : ByteArray} (h : ∀ k, ∀ hk : k < s.size, 32 ≤ s[k].toNat ∧ s[k].toNat ≤ 126) : okB (bs s) = true := List.all_eq_true.2 fun c hc => by
  obtain ⟨k, hk, rfl⟩ := get_mem hc
  have := h k hk
  rw [decide_eq_true this.1, decide_eq_true this.2]
  rfl
set_option maxRecDepth 100000 in
theorem plain_at (s : ByteArray) (t : Bool) (w : World) (hs : s.size ≤ maxLen) (H : Hid (okB (bs s) = t)) : Calls Tryd.prog 27 #[.string s] w fun e w' => e = .returned (.bool t) ∧ w = w' := by
  unfold maxLen at hs
  go_enter Tryd.func27, Tryd.ntmps27
  go_wp2
  go_loop [3] (fun i => ∃ k : Nat, i = .int .i64 k ∧ k ≤ s.size ∧ ∀ j, j < k → ∀ hj : j < s.size, 32 ≤ s[j].toNat ∧ s[j].toNat ≤ 126) (fun i => s.size - (intOf i).toNat)
  case atStart => exact ⟨0, rfl, Nat.zero_le _, fun j hj => absurd hj (Nat.not_lt_zero _)⟩
  case round =>
    obtain ⟨k, rfl, hk, hok⟩ := hrel
    have HOK := Lib.hid hok
    clear hok
    by_cases hlt : k < s.size
    · have hki : (k : Int) < s.size := by omega
      by_cases c1 : s[k].toNat < 32
      · obtain rfl : false = t := by rw [← H.out]; exact (okB_no hlt (.inl c1)).symm
        have c1i : (s[k].toNat : Int) < 32 := by omega
        clear H HOK
        go_wp2
        go_ret
        exact ⟨rfl, rfl⟩
      · have c1i : ¬ (s[k].toNat : Int) < 32 := by omega
        by_cases c2 : 126 < s[k].toNat
        · obtain rfl : false = t := by rw [← H.out]; exact (okB_no hlt (.inr c2)).symm
          have c2i : (126 : Int) < s[k].toNat := by omega
          clear H HOK
          go_wp2
          go_ret
          exact ⟨rfl, rfl⟩
        · have c2i : ¬ (126 : Int) < s[k].toNat := by omega
          have HB := Lib.hid (show 32 ≤ s[k].toNat ∧ s[k].toNat ≤ 126 by omega)
          go_wp2
          refine ⟨⟨k + 1, by go_num, hlt, fun j hj hjs => ?_⟩, by simp [intOf]; omega⟩
          by_cases e : j = k
          · subst e; exact HB.out
          · exact HOK.out j (by omega) hjs
    · obtain rfl : k = s.size := by omega
      obtain rfl : true = t := by rw [← H.out]; exact (okB_yes fun j hj => HOK.out j hj hj).symm
      clear H HOK
      go_wp2
      go_ret
      exact ⟨rfl, rfl⟩
theorem quoted_hit {s : ByteArray} {k : Nat} (h : k < s.size) (hb : s[k].toNat = 32) : quotedB (bs s) = true := by
  unfold quotedB
  rw [Bool.or_eq_true]
  right
  exact List.any_eq_true.2 ⟨_, bs_get h, decide_eq_true (UInt8.toNat_inj.1 hb)⟩
theorem head_at {s : ByteArray} (h : 0 < s.size) : (bs s).head? = some s[0] := by
  have := bs_cons s 0 h
  rw [List.drop_zero] at this
  rw [this]
  rfl
theorem quoted_no {s : ByteArray} (h0 : 0 < s.size) (h1 : s[0].toNat ≠ 39) (h : ∀ k, ∀ hk : k < s.size, s[k].toNat ≠ 32) : quotedB (bs s) = false := Bool.of_not_eq_true fun e => by
  unfold quotedB at e
  rw [Bool.or_eq_true, Bool.or_eq_true, decide_eq_true_eq, decide_eq_true_eq, head_at h0] at e
  rcases e with (e | e) | e
  · have := congrArg List.length e
    rw [bs_len, List.length_nil] at this
    omega
  · injection e with e
    exact h1 (by rw [e]; rfl)
  · obtain ⟨c, hc, hc2⟩ := List.any_eq_true.1 e
    obtain ⟨k, hk, rfl⟩ := get_mem hc
    exact h k hk (by rw [of_decide_eq_true hc2]; rfl)
theorem quoted_first {s : ByteArray} (h0 : 0 < s.size) (h1 : s[0].toNat = 39) : quotedB (bs s) = true := by
  unfold quotedB
  rw [head_at h0, show s[0] = 39 from UInt8.toNat_inj.1 h1]
  simp
theorem nonempty_at {s : ByteArray} (h : 0 < s.size) : s.toList.isEmpty = false := by
  rw [bs_toList]
  cases e : bs s with
  | nil =>
    have := bs_len s
    rw [e, List.length_nil] at this
    omega
  | cons c r => rfl
theorem empty_at {s : ByteArray} (h : ¬ 0 < s.size) : s.toList.isEmpty = true := by
  rw [bs_toList]
  have e : bs s = [] := List.eq_nil_of_length_eq_zero (by rw [bs_len]; omega)
  rw [e]
  rfl
set_option maxRecDepth 100000 in
theorem quoted_at (s : ByteArray) (t : Bool) (w : World) (hs : s.size ≤ maxLen) (H : Hid (quotedB (bs s) = t)) : Calls Tryd.prog 38 #[.string s] w fun e w' => e = .returned (.bool t) ∧ w = w' := by
  unfold maxLen at hs
  by_cases h0 : 0 < s.size
  · have hne : s.toList.isEmpty = false := nonempty_at h0
    by_cases c0 : s[0].toNat = 39
    · obtain rfl : true = t := by rw [← H.out]; exact (quoted_first h0 c0).symm
      have c0i : ((s[0].toNat : Int) == 39) = true := beq_iff_eq.2 (by omega)
      clear H
      go_enter Tryd.func38, Tryd.ntmps38
      go_wp2
      go_ret
      exact ⟨rfl, rfl⟩
    · have c0i : ((s[0].toNat : Int) == 39) = false := beq_eq_false_iff_ne.2 (by omega)
      have HNO := Lib.hid (quoted_no h0 c0)
      go_enter Tryd.func38, Tryd.ntmps38
      go_wp2
      clear c0i c0
      go_loop [3] (fun i => ∃ k : Nat, i = .int .i64 k ∧ k ≤ s.size ∧ ∀ j, j < k → ∀ hj : j < s.size, s[j].toNat ≠ 32) (fun i => s.size - (intOf i).toNat)
      case atStart => exact ⟨0, rfl, Nat.zero_le _, fun j hj => absurd hj (Nat.not_lt_zero _)⟩
      case round =>
        obtain ⟨k, rfl, hk, hok⟩ := hrel
        have HOK := Lib.hid hok
        clear hok
        by_cases hlt : k < s.size
        · have hki : (k : Int) < s.size := by omega
          by_cases c1 : s[k].toNat = 32
          · obtain rfl : true = t := by rw [← H.out]; exact (quoted_hit hlt c1).symm
            have c1i : ((s[k].toNat : Int) == 32) = true := beq_iff_eq.2 (by omega)
            clear H HOK HNO
            go_wp2
            go_ret
            exact ⟨rfl, rfl⟩
          · have c1i : ((s[k].toNat : Int) == 32) = false := beq_eq_false_iff_ne.2 (by omega)
            have HB := Lib.hid c1
            go_wp2
            refine ⟨⟨k + 1, by go_num, hlt, fun j hj hjs => ?_⟩, by simp [intOf]; omega⟩
            by_cases e : j = k
            · subst e; exact HB.out
            · exact HOK.out j (by omega) hjs
        · obtain rfl : k = s.size := by omega
          obtain rfl : false = t := by rw [← H.out]; exact (HNO.out fun j hj => HOK.out j hj hj).symm
          clear H HOK HNO
          go_wp2
          go_ret
          exact ⟨rfl, rfl⟩
  · have hne : s.toList.isEmpty = true := empty_at h0
    obtain rfl : true = t := by
      rw [← H.out]
      have e : bs s = [] := List.eq_nil_of_length_eq_zero (by rw [bs_len]; omega)
      rw [e]
      rfl
    clear H
    go_enter Tryd.func38, Tryd.ntmps38
    go_wp2
    go_ret
    exact ⟨rfl, rfl⟩
end Go.Proofs.YtedkpkdfopffiaaDoor.NamW
