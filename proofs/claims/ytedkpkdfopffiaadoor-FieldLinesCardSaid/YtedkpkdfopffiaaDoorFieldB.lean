/-
  Walks of the specification of package field: how a field is written. Condition: none.
-/
import Derived.Test.YtedkpkdfopffiaaDoorFieldA
namespace Go.Proofs.YtedkpkdfopffiaaDoor.NamW
open Go.ChangeShapes Go.WideShapes Go.ChangeAt Go.RowKit
open PairW NamP FldP
theorem dbl_append : ∀ (a b : Bs), dbl (a ++ b) = dbl a ++ dbl b
  | [], b => rfl
  | c :: a, b => by
    show (if c = 39 then 39 :: 39 :: dbl (a ++ b) else c :: dbl (a ++ b)) = (if c = 39 then 39 :: 39 :: dbl a else c :: dbl a) ++ dbl b
    rw [dbl_append a b]
    split <;> rfl
theorem dbl_len : ∀ (a : Bs), (dbl a).length ≤ 2 * a.length
  | [] => Nat.le_refl _
  | c :: a => by
    have := dbl_len a
    unfold dbl
    split <;> simp <;> omega
theorem take_at {s : ByteArray} {k : Nat} (h : k < s.size) : (bs s).take (k + 1) = (bs s).take k ++ [s[k]] := by
  have hl : k < (bs s).length := by rw [bs_len]; exact h
  rw [List.take_succ_eq_append_getElem hl]
  rfl
theorem bs_app (a b : ByteArray) : bs (a ++ b) = bs a ++ bs b := by
  unfold bs
  rw [ByteArray.data_append, Array.toList_append]
theorem ext_one {s : ByteArray} {k : Nat} (h : k < s.size) : bs (s.extract k (k + 1)) = [s[k]] ∧ (s.extract k (k + 1)).size = 1 := by
  refine ⟨?_, by rw [ByteArray.size_extract]; omega⟩
  rw [bs_extract, bs_cons s k h, Nat.add_sub_cancel_left]
  rfl
theorem size_app (a b : ByteArray) : (a ++ b).size = a.size + b.size := by
  rw [← bs_len, bs_app, List.length_append, bs_len, bs_len]
set_option maxRecDepth 100000 in
set_option maxHeartbeats 1000000 in
theorem written_at (s : ByteArray) (w : World) (hs : s.size ≤ 1000) : Calls Tryd.prog 28 #[.string s] w fun e w' => ∃ r, e = .returned (.string r) ∧ bs r = writtenB (bs s) ∧ w = w' := by
  have hs' : s.size ≤ maxLen := by unfold maxLen; omega
  have HSZ := Lib.hid hs'
  clear hs'
  obtain ⟨t, ht⟩ : ∃ t, quotedB (bs s) = t := ⟨_, rfl⟩
  have HQ := Lib.hid ht
  clear ht
  go_enter Tryd.func28, Tryd.ntmps28
  cases t
  · go_wp2_with (go_at_call 38; with_reducible refine (quoted_at s _ _ HSZ.out HQ).mono ?_; rintro e w1 ⟨rfl, rfl⟩)
    go_ret
    exact ⟨_, rfl, by unfold writtenB; rw [HQ.out]; rfl, rfl⟩
  · go_wp2_with (go_at_call 38; with_reducible refine (quoted_at s _ _ HSZ.out HQ).mono ?_; rintro e w1 ⟨rfl, rfl⟩)
    go_loop [3, 4] (fun v i => ∃ (k : Nat) (o : ByteArray), i = .int .i64 k ∧ v = .string o ∧ k ≤ s.size ∧ bs o = 39 :: dbl ((bs s).take k)) (fun _ i => s.size - (intOf i).toNat)
    case atStart => exact ⟨0, ⟨#[39]⟩, rfl, rfl, Nat.zero_le _, rfl⟩
    case round =>
      obtain ⟨k, o, rfl, rfl, hk, ho⟩ := hrel
      have hol : o.size ≤ 1 + 2 * k := by
        rw [← bs_len, ho, List.length_cons]
        have h1 := dbl_len ((bs s).take k)
        have h2 : ((bs s).take k).length ≤ k := by rw [List.length_take]; omega
        omega
      have HO := Lib.hid ho
      clear ho
      by_cases hlt : k < s.size
      · have hki : (k : Int) < s.size := by omega
        have HT := Lib.hid (take_at hlt)
        obtain ⟨x1, x2⟩ := ext_one hlt
        obtain ⟨x, hx⟩ : ∃ x, s.extract k (k + 1) = x := ⟨_, rfl⟩
        rw [hx] at x1 x2
        have X1 := Lib.hid x1
        clear x1
        have i1 : IntKind.i64.wrap ((k : Int) + 1) = (k : Int) + 1 := IntWalk.i64_in _ (by omega)
        have k0 : 0 ≤ (k : Int) + 1 := by omega
        have k1 : ((k : Int) + 1).toNat = k + 1 := by omega
        have k2 : (k : Int) ≤ (k : Int) + 1 := by omega
        have k3 : (k : Int) + 1 ≤ s.size := by omega
        by_cases c : s[k].toNat = 39
        · have ci : ((s[k].toNat : Int) == 39) = true := beq_iff_eq.2 (by omega)
          have n1 : ¬ (9223372036854775807 < o.size + 1) := by omega
          have hz : (o ++ ⟨#[39]⟩ : ByteArray).size = o.size + 1 := size_app o ⟨#[39]⟩
          obtain ⟨o2, ho2⟩ : ∃ y, (o ++ ⟨#[39]⟩ : ByteArray) = y := ⟨_, rfl⟩
          rw [ho2] at hz
          have n2 : ¬ (9223372036854775807 < o2.size + x.size) := by omega
          have C := Lib.hid c
          have HO2 := Lib.hid (show bs o2 = bs o ++ [39] by rw [← ho2, bs_app])
          clear c
          go_wp2
          refine ⟨⟨k + 1, _, by go_num, rfl, hlt, ?_⟩, by simp [intOf] <;> omega⟩
          rw [bs_app, HO2.out, HO.out, X1.out, HT.out, dbl_append, show s[k] = 39 from UInt8.toNat_inj.1 C.out]
          simp [dbl]
        · have ci : ((s[k].toNat : Int) == 39) = false := beq_eq_false_iff_ne.2 (by omega)
          have n1 : ¬ (9223372036854775807 < o.size + x.size) := by omega
          have C := Lib.hid c
          clear c
          go_wp2
          refine ⟨⟨k + 1, _, by go_num, rfl, hlt, ?_⟩, by simp [intOf] <;> omega⟩
          rw [bs_app, HO.out, X1.out, HT.out, dbl_append]
          have hne : s[k] ≠ 39 := fun e => C.out (by rw [e]; rfl)
          simp [dbl, hne]
      · obtain rfl : k = s.size := by omega
        have n1 : ¬ (9223372036854775807 < o.size + 1) := by omega
        go_wp2
        go_ret
        refine ⟨_, rfl, ?_, rfl⟩
        rw [bs_app, HO.out, List.take_of_length_le (by rw [bs_len]; exact Nat.le_refl _)]
        unfold writtenB
        rw [HQ.out]
        rfl
end Go.Proofs.YtedkpkdfopffiaaDoor.NamW
