/-
  Walks of the specification of package assign: size, Assignment, Cost. Condition: none.
-/
import Derived.Test.YtfhdoeajoeaddaaAssignA
namespace Go.Proofs.Ytfhdoeajoeaddaa.AsgW
open Go.ChangeShapes Go.WideShapes Go.ChangeAt Go.RowKit
open PairW CelW TabW MchW AsgP
set_option maxRecDepth 100000 in
set_option maxHeartbeats 1000000 in
theorem rasize_at (s k : Nat) (w : World) (hs : s < 131072) (HK : Hid (pc s = k)) :
    Calls Try.prog 38 #[.int .i64 (s : Int)] w fun e w' => e = .returned (.int .i64 (k : Int)) ∧ w = w' := by
  have hk : k ≤ 17 := by rw [← HK.out]; exact pc_le 17 s hs
  go_enter Try.func38, Try.ntmps38
  go_wp2
  go_loopw [0, 3] (fun vs vn wr => ∃ r n : Nat, vs = .int .i64 (r : Int) ∧ vn = .int .i64 (n : Int) ∧ r < 131072 ∧ n ≤ k ∧ w = wr ∧ n + pc r = k) (fun vs _ _ => (intOf vs).toNat)
  case atStart => exact ⟨s, 0, rfl, rfl, hs, Nat.zero_le _, rfl, by rw [Nat.zero_add]; exact HK.out⟩
  case round =>
    obtain ⟨r, n, rfl, rfl, hr, hn, rfl, he⟩ := hrel
    have HE := Lib.hid he
    clear he
    by_cases h0 : r = 0
    · subst h0
      obtain rfl : n = k := by have := HE.out; rw [pc_zero] at this; omega
      go_wp2
      go_ret
      exact ⟨rfl, rfl⟩
    · have hr0 : (0 : Int) < r := by omega
      have hm : (r : Int).tmod 2 = ((r % 2 : Nat) : Int) := by rw [Int.tmod_eq_emod_of_nonneg (by omega)]; omega
      have hd : (r : Int).tdiv 2 = ((r / 2 : Nat) : Int) := by rw [Int.tdiv_eq_ediv_of_nonneg (by omega)]; omega
      have hp : n + r % 2 + pc (r / 2) = k := by have := pc_eq r; have := HE.out; omega
      have HP := Lib.hid hp
      have hq : n + r % 2 ≤ k := by omega
      clear hp
      go_wp2
      go_roundw
      case rel => exact ⟨r / 2, n + r % 2, by go_num, by go_num, by omega, hq, trivial, HP.out⟩
      case measure => simp [intOf]; omega
set_option maxRecDepth 100000 in
set_option maxHeartbeats 2000000 in
theorem raasg_at (l : List Int) (v : Value) (n : Nat) (b : Bool) (w : World) (HL : Hid (Cel w v (cellsI l))) (hn : n ≤ 16) (HB : Hid (asgV n l = b)) :
    Calls Try.prog 28 #[v, .int .i64 (n : Int)] w fun e w' => e = .returned (.bool b) ∧ Own w w' := by
  obtain ⟨A, cap, rfl, h1, h2, h3⟩ := cel_int HL.out
  unfold maxLen at h2
  have H3 := Lib.hid h3
  clear h3
  obtain ⟨k, hk⟩ : ∃ k, l.length = k := ⟨_, rfl⟩
  rw [hk] at h1 H3 ⊢
  have HK := Lib.hid hk
  clear hk
  have no : ¬ IsA n l → false = b := fun q => by
    rw [← HB.out]
    exact (Bool.eq_false_iff.2 fun r => q (asgV_iff.1 r)).symm
  have NO := Lib.hid no
  clear no
  by_cases hkn : k = n
  · subst hkn
    go_enter Try.func28, Try.ntmps28
    go_wp2
    go_loopw [5, 6] (fun vi _ wr => ∃ i : Nat, vi = .int .i64 (i : Int) ∧ i ≤ k ∧ Own w wr ∧ ∀ a, a < i → (0 ≤ l.getD a 0 ∧ l.getD a 0 < (k : Int)) ∧ ∀ b, b < a → l.getD b 0 ≠ l.getD a 0) (fun vi _ _ => k - (intOf vi).toNat)
    case atStart => exact ⟨0, rfl, Nat.zero_le _, Own.refl w, fun a h => absurd h (Nat.not_lt_zero _)⟩
    case round =>
      obtain ⟨i, rfl, hi, q, hok⟩ := hrel
      have HOK := Lib.hid hok
      clear hok
      by_cases hlt : i < k
      · obtain ⟨g, off, rfl, h4⟩ := H3.out (by omega)
        have e0 := q.cell (h4 i _ (getD_at (by rw [HK.out]; exact hlt)))
        obtain ⟨x, hx⟩ : ∃ x, l.getD i 0 = x := ⟨_, rfl⟩
        rw [hx] at e0
        have HX := Lib.hid hx
        have H4 := Lib.hid h4
        clear hx h4
        have hik : (i : Int) < k := by omega
        by_cases c1 : x < 0
        · obtain rfl := NO.out fun h => by have := (h.at hlt).1; rw [HX.out] at this; omega
          go_wp2
          go_ret
          exact ⟨rfl, q⟩
        · by_cases c2 : (k : Int) ≤ x
          · obtain rfl := NO.out fun h => by have := (h.at hlt).2; rw [HX.out] at this; omega
            go_wp2
            go_ret
            exact ⟨rfl, q⟩
          · have HQ := Lib.hid q
            have c3 : decide (x < 0) = false := decide_eq_false c1
            have c4 : decide ((k : Int) ≤ x) = false := decide_eq_false c2
            clear q
            go_wp2
            go_loopw [6] (fun vj wr' => ∃ j : Nat, vj = .int .i64 (j : Int) ∧ j ≤ i ∧ Own w wr' ∧ ∀ b, b < j → l.getD b 0 ≠ x) (fun vj _ => i - (intOf vj).toNat)
            case atStart => exact ⟨0, rfl, Nat.zero_le _, HQ.out, fun a h => absurd h (Nat.not_lt_zero _)⟩
            case round =>
              clear e0
              clear HQ
              obtain ⟨j, rfl, hj, q, hok2⟩ := hrel
              have HOK2 := Lib.hid hok2
              clear hok2
              by_cases hlt2 : j < i
              · have hji : (j : Int) < i := by omega
                have hjk : (j : Int) < k := by omega
                have e0 := q.cell (H4.out i _ (getD_at (by rw [HK.out]; exact hlt)))
                have e1 := q.cell (H4.out j _ (getD_at (by rw [HK.out]; omega)))
                rw [HX.out] at e0
                obtain ⟨y, hy⟩ : ∃ y, l.getD j 0 = y := ⟨_, rfl⟩
                rw [hy] at e1
                have HY := Lib.hid hy
                clear hy
                by_cases e : y = x
                · subst e
                  obtain rfl := NO.out fun h => h.ne hlt hlt2 (by rw [HX.out, HY.out])
                  go_upto_region 11 with (fail)
                  go_quiet (fail)
                  go_wp2
                  go_ret
                  exact ⟨rfl, q.drewN _⟩
                · have d1 : (y == x) = false := beq_eq_false_iff_ne.2 e
                  go_upto_region 11 with (fail)
                  go_quiet (fail)
                  go_wp2
                  go_roundw
                  case rel => exact ⟨j + 1, by go_num, hlt2, q.drewN _, fun b hb => by
                    by_cases e' : b = j
                    · rw [e', HY.out]; exact e
                    · exact HOK2.out b (by omega)⟩
                  case measure => simp [intOf]; omega
              · obtain rfl : i = j := by omega
                go_wp2
                go_roundw
                case rel => exact ⟨i + 1, by go_num, hlt, q, fun a ha => by
                  by_cases e' : a = i
                  · rw [e', HX.out]
                    exact ⟨by omega, HOK2.out⟩
                  · exact HOK.out a (by omega)⟩
                case measure => simp [intOf]; omega
      · obtain rfl : k = i := by omega
        obtain rfl : true = b := by rw [← HB.out]; exact (asgV_iff.2 (isA_mk HK.out HOK.out)).symm
        go_wp2
        go_ret
        exact ⟨rfl, q⟩
  · obtain rfl := NO.out fun h => hkn (HK.out.symm.trans h.len)
    have d0 : ((k : Int) != (n : Int)) = true := bne_iff_ne.2 (by omega)
    go_enter Try.func28, Try.ntmps28
    go_wp2
    go_ret
    exact ⟨rfl, Own.refl w⟩
end Go.Proofs.Ytfhdoeajoeaddaa.AsgW
