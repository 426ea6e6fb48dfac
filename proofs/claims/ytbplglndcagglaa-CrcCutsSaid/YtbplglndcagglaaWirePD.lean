/-
  Walks of the program of package wire: slices.IndexFunc at bytes with TakeInt's closure, TakeInt. Condition: none.
-/
import Derived.Test.YtbplglndcagglaaWirePA
namespace Go.Proofs.Ytbplglndcagglaa.WirW
open Go.ChangeShapes Go.WideShapes Go.ChangeAt Go.RowKit
open PairW CelW WirP
theorem ptake1_at (x : Int) (w : World) : Calls Try.prog 38 #[.int .u8 x] w fun e w' => e = .returned (.bool (decide (x < 128))) ∧ w = w' := by
  go_enter Try.func38, Try.ntmps38
  go_wp2
  go_ret
  exact ⟨rfl, rfl⟩
set_option maxRecDepth 100000 in
set_option maxHeartbeats 1000000 in
theorem pindex_at (b : Bs) (v : Value) (w : World) (HB : Hid (Cel w v (cellsU b))) :
    Calls Try.prog 37 #[v, .func (.func 38) #[] #[]] w fun e w' => ∃ r, e = .returned (.int .i64 r) ∧ LastIs b r ∧ w = w' := by
  have eg : ∀ args w, (callFunc 38 args).run Try.prog w = .ok (.enter 38 args) w := enters_of Try.func38 (by kernel_rfl) rfl
  obtain ⟨A, cap, rfl, h1, h2, h3⟩ := cel_cells HB.out
  unfold maxLen at h2
  have HC := Lib.hid h3
  clear h3 HB
  obtain ⟨n, hn⟩ : ∃ n, b.length = n := ⟨_, rfl⟩
  have HN := Lib.hid hn
  rw [hn] at h1 ⊢
  have HC2 := Lib.hid (fun (h : 0 < n) => HC.out (by rw [hn]; exact h))
  clear hn HC
  go_enter Try.func37, Try.ntmps37
  go_wp2
  go_loop [5, 8] (fun _ i => ∃ k : Nat, i = .int .i64 (k : Int) ∧ k ≤ n ∧ ∀ j, j < k → ∀ hj : j < b.length, 128 ≤ b[j].toNat) (fun _ i => n - (intOf i).toNat)
  case atStart => exact ⟨0, rfl, Nat.zero_le _, fun j hj => absurd hj (Nat.not_lt_zero _)⟩
  case round =>
    obtain ⟨k, rfl, hk, hok⟩ := hrel
    have HOK := Lib.hid hok
    clear hok
    by_cases hlt : k < n
    · obtain ⟨g, off, rfl, hc⟩ := HC2.out (by omega)
      have hkb : k < b.length := by rw [HN.out]; exact hlt
      have e0 := hc k hkb
      clear hc
      have hkn : (k : Int) < n := by omega
      obtain ⟨x, hx⟩ : ∃ x, b[k].toNat = x := ⟨_, rfl⟩
      rw [hx] at e0
      by_cases c : x < 128
      · have ci : decide ((x : Int) < 128) = true := decide_eq_true (by omega)
        have HCI := Lib.hid ci
        have HR : Hid (LastIs b (k : Int)) := Lib.hid (.inr ⟨k, rfl, hkb, by rw [hx]; exact c, HOK.out⟩)
        clear hx hkb ci
        go_wp2_with (go_at_fn 38; refine (ptake1_at _ _).mono ?_; rw [HCI.out]; rintro e w1 ⟨rfl, rfl⟩)
        go_ret
        exact ⟨_, rfl, HR.out, rfl⟩
      · have ci : decide ((x : Int) < 128) = false := decide_eq_false (by omega)
        have HCI := Lib.hid ci
        have HX := Lib.hid (show ∀ hj : k < b.length, 128 ≤ b[k].toNat from fun _ => by rw [hx]; omega)
        clear hx hkb ci
        go_wp2_with (go_at_fn 38; refine (ptake1_at _ _).mono ?_; rw [HCI.out]; rintro e w1 ⟨rfl, rfl⟩)
        go_round
        case rel => exact ⟨k + 1, by go_num, hlt, fun j hj => by
            by_cases e : j = k
            · subst e; exact HX.out
            · exact HOK.out j (by omega)⟩
        case measure => simp [intOf]; omega
    · obtain rfl : n = k := by omega
      have HR : Hid (LastIs b (-1)) := Lib.hid (.inl ⟨rfl, fun j hj => HOK.out j (by rw [← HN.out]; exact hj) hj⟩)
      go_wp2
      go_ret
      exact ⟨_, rfl, HR.out, rfl⟩
/-! ### Bits -/
theorem or_u64 (u z k : Nat) (hu : u < 2 ^ k) (hz : z * 2 ^ k + u < 18446744073709551616) : bits .or .u64 (u : Int) ((z : Int) * 2 ^ k) = ((z * 2 ^ k + u : Nat) : Int) := by
  have hz0 : z * 2 ^ k < 2 ^ 64 := by omega
  have hu0 : u < 2 ^ 64 := by omega
  have e1 : (BitVec.ofInt 64 (u : Int)).toNat = u := by
    rw [BitVec.toNat_ofInt]
    omega
  have e2 : (BitVec.ofInt 64 ((z : Int) * 2 ^ k)).toNat = z * 2 ^ k := by
    rw [show (z : Int) * 2 ^ k = ((z * 2 ^ k : Nat) : Int) by simp, BitVec.toNat_ofInt]
    omega
  have key : (BitVec.ofInt 64 (u : Int) ||| BitVec.ofInt 64 ((z : Int) * 2 ^ k)).toNat = z * 2 ^ k + u := by
    rw [BitVec.toNat_or, e1, e2, Nat.or_comm, ← Nat.shiftLeft_eq, Nat.shiftLeft_add_eq_or_of_lt hu]
  show IntKind.u64.wrap ((BitVec.ofInt 64 (u : Int) ||| BitVec.ofInt 64 ((z : Int) * 2 ^ k)).toNat : Nat) = _
  rw [key]
  exact u64_in (by omega)
/-- Groups taken and groups left. -/
theorem gval_take : ∀ (l : Bs) (i : Nat), gval l = gval (l.take i) + 128 ^ (min i l.length) * gval (l.drop i)
  | [], i => by simp [gval]
  | c :: r, 0 => by simp [gval]
  | c :: r, i + 1 => by
    have ih := gval_take r i
    show c.toNat % 128 + 128 * gval r = c.toNat % 128 + 128 * gval (r.take i) + 128 ^ (min (i + 1) (r.length + 1)) * gval (r.drop i)
    rw [Nat.add_min_add_right, Nat.pow_succ, ih, Nat.mul_add, Nat.mul_assoc, Nat.mul_comm (128 ^ _) (128 * _), Nat.mul_assoc, Nat.mul_comm (gval _)]
    omega
theorem gval_lt : ∀ (l : Bs), gval l < 128 ^ l.length
  | [] => by simp [gval]
  | c :: r => by
    have ih := gval_lt r
    show c.toNat % 128 + 128 * gval r < 128 ^ (r.length + 1)
    rw [Nat.pow_succ]
    omega
/-- A group more. -/
theorem gval_more {l : Bs} {j : Nat} (h : j < l.length) : gval (l.take (j + 1)) = l[j].toNat % 128 * 2 ^ (7 * j) + gval (l.take j) := by
  have e := gval_take (l.take (j + 1)) j
  have hlen : (l.take (j + 1)).length = j + 1 := by rw [List.length_take]; omega
  rw [List.take_take, Nat.min_eq_left (Nat.le_succ j), hlen, Nat.min_eq_left (Nat.le_succ j)] at e
  have hd : (l.take (j + 1)).drop j = [l[j]] := by
    rw [List.take_succ_eq_append_getElem h, List.drop_append_of_le_length (by rw [List.length_take]; omega), List.drop_of_length_le (by rw [List.length_take]; omega)]
    rfl
  rw [hd] at e
  have hg : gval [l[j]] = l[j].toNat % 128 := by show l[j].toNat % 128 + 128 * 0 = _; omega
  rw [hg] at e
  have hp : (128 : Nat) ^ j = 2 ^ (7 * j) := by rw [Nat.pow_mul]
  rw [e, hp, Nat.mul_comm, Nat.add_comm]
theorem gval_small {l : Bs} {j : Nat} (h : j ≤ l.length) : gval (l.take j) < 2 ^ (7 * j) := by
  have h1 := gval_lt (l.take j)
  rw [List.length_take, Nat.min_eq_left h] at h1
  rw [Nat.pow_mul]
  exact h1
theorem gval_take_le (l : Bs) (j : Nat) : gval (l.take j) ≤ gval l := by
  have e := gval_take l j
  omega
set_option maxRecDepth 100000 in
set_option maxHeartbeats 4000000 in
theorem ptake_at (b : Bs) (v : Value) (f x : Int) (m : Nat) (w : World) (HB : Hid (Cel w v (cellsU b))) (H : Hid (takeE b = f ∧ takeV b = x ∧ takeK b = m)) :
    Calls Try.prog 30 #[v] w fun e w' => e = .returned (.tuple #[.int .i64 x, .int .i64 (m : Int), .int .i64 f]) ∧ w = w' := by
  obtain ⟨A, cap, rfl, h1, h2, h3⟩ := cel_cells HB.out
  unfold maxLen at h2
  have HC := Lib.hid h3
  clear h3
  go_enter Try.func30, Try.ntmps30
  go_upto_region 2 with (go_at_call 37; with_reducible refine (pindex_at b _ _ HB).mono ?_; rintro e w1 ⟨r, rfl, hr, rfl⟩)
  rcases hr with ⟨rfl, hr⟩ | ⟨i, rfl, hi, hl, hb⟩
  · have ht := take_none (read_none hr)
    obtain ⟨rfl, rfl, rfl⟩ : 13 = f ∧ 0 = x ∧ 0 = m := ⟨by rw [← H.out.1, ht.1], by rw [← H.out.2.1, ht.2.1], by rw [← H.out.2.2, ht.2.2]⟩
    clear ht hr H
    go_wp2
    go_ret3
    exact ⟨rfl, rfl⟩
  · have hread := read_some hi hl hb
    have hat := take_at hread
    have hbad : takeE b ≠ 0 → x = 0 ∧ m = 0 := fun h => by
      obtain ⟨k1, k2⟩ := take_bad h
      exact ⟨by rw [← H.out.2.1, k1], by rw [← H.out.2.2, k2]⟩
    obtain ⟨n, hn⟩ : ∃ n, b.length = n := ⟨_, rfl⟩
    have hni : (i : Int) < n := by omega
    have hi0 : ¬ (i : Int) < 0 := by omega
    have hin : i < n := by omega
    have h1' : n ≤ cap := by omega
    obtain ⟨g, off, rfl, hc⟩ := HC.out (by omega)
    have HCC := Lib.hid hc
    clear hc HC HB h1
    rw [hn]
    by_cases c1 : 9 < i
    · rw [if_pos (.inl c1)] at hat
      obtain rfl : 12 = f := by rw [← H.out.1, hat]
      obtain ⟨rfl, rfl⟩ := hbad (by rw [hat]; decide)
      have d1 : (10 : Int) ≤ i := by omega
      clear hat hread hbad H hl hb hn
      go_wp2
      go_ret3
      exact ⟨rfl, rfl⟩
    have d1 : ¬ (10 : Int) ≤ i := by omega
    by_cases c2 : i = 9 ∧ 1 < lastB b 10
    · rw [if_pos (.inr c2)] at hat
      obtain rfl : 12 = f := by rw [← H.out.1, hat]
      obtain ⟨rfl, rfl⟩ := hbad (by rw [hat]; decide)
      obtain ⟨rfl, c3⟩ := c2
      have e9 := HCC.out 9 hi
      rw [last_get hi] at c3
      obtain ⟨y, hy⟩ : ∃ y, b[9].toNat = y := ⟨_, rfl⟩
      rw [hy] at c3 e9
      have d2 : (1 : Int) < y := by omega
      clear hat hread hbad H hl hb hn hy c1 c3
      go_wp2
      go_ret3
      exact ⟨rfl, rfl⟩
    have c12 : ¬ (9 < i ∨ (i = 9 ∧ 1 < lastB b 10)) := fun h => h.elim c1 c2
    rw [if_neg c12] at hat
    have hu64 := take_u64 hread c12
    have ei := HCC.out i hi
    have hlast := last_get hi
    obtain ⟨y, hy⟩ : ∃ y, b[i].toNat = y := ⟨_, rfl⟩
    rw [hy] at ei hlast
    -- the second part of the test for ten bytes
    have h9 : ∀ (P : Prop), (i = 9 → y ≤ 1 → P) → (i ≠ 9 → P) → P := fun P h1 h2 => by
      by_cases c : i = 9
      · exact h1 c (by subst c; rw [hlast] at c2; omega)
      · exact h2 c
    by_cases c3 : 0 < i ∧ lastB b (i + 1) = 0
    · rw [if_pos c3] at hat
      obtain rfl : 2 = f := by rw [← H.out.1, hat]
      obtain ⟨rfl, rfl⟩ := hbad (by rw [hat]; decide)
      obtain ⟨c4, c5⟩ := c3
      rw [hlast] at c5
      subst c5
      have d3 : (0 : Int) < i := by omega
      clear hat hread hbad H hl hb hn hy c1 c2 c12 hu64 hlast HCC
      refine h9 _ (fun c _ => ?_) (fun c => ?_)
      · subst c
        go_wp2
        go_ret3
        exact ⟨rfl, rfl⟩
      · have d4 : ((i : Int) == 9) = false := beq_eq_false_iff_ne.2 (by omega)
        go_wp2
        go_ret3
        exact ⟨rfl, rfl⟩
    rw [if_neg c3] at hat
    rw [hlast] at c3
    obtain rfl : 0 = f := by rw [← H.out.1, hat]
    obtain ⟨hv, hk⟩ := take_some hread hat
    rw [H.out.2.1] at hv
    rw [H.out.2.2] at hk
    subst hk
    obtain ⟨T, hT⟩ : ∃ T, b.take (i + 1) = T := ⟨_, rfl⟩
    have hTl : T.length = i + 1 := by rw [← hT, List.length_take]; omega
    have HTG := Lib.hid (show ∀ j (h : j < T.length), ∃ h2 : j < b.length, T[j] = b[j] from fun j h => ⟨by omega, by subst hT; exact List.getElem_take⟩)
    rw [hT] at hv hu64
    have HTL := Lib.hid hTl
    have HU64 := Lib.hid hu64
    have HV := Lib.hid hv.symm
    have h2n : n ≤ 9223372036854775807 := by omega
    have HBN := Lib.hid hn
    clear hT hTl hv hu64 hat hread hbad H hl hb c1 c2 c12 hlast hn
    go_upto_region 5 with (fail)
    go_cut [5, 13] (fun v s wx => v = .int .i64 (i : Int) ∧ s = .bool false ∧ w = wx)
    case first =>
      clear c3
      refine h9 _ (fun c9 hy1 => ?_) (fun c9 => ?_)
      · subst c9
        have d6 : ¬ (1 : Int) < y := by omega
        go_wp2
        all_goals (go_meet; exact ⟨by first | rfl | (subst c; rfl), rfl, rfl⟩)
      · have d4 : ((i : Int) == 9) = false := beq_eq_false_iff_ne.2 (by omega)
        go_wp2
        all_goals (go_meet; exact ⟨by first | rfl | (subst c; rfl), rfl, rfl⟩)
    case rest =>
      obtain ⟨rfl, rfl, rfl⟩ := hcut
      clear h9
      go_upto_region 7 with (fail)
      go_cut [5, 25] (fun v s wx => v = .int .i64 (i : Int) ∧ s = .bool false ∧ w = wx)
      case first =>
        by_cases c : i = 0
        · have d3 : ¬ (0 : Int) < i := by omega
          go_wp2
          all_goals (go_meet; exact ⟨by first | rfl | (subst c; rfl), rfl, rfl⟩)
        · have d3 : (0 : Int) < i := by omega
          have d5 : ((y : Int) == 0) = false := beq_eq_false_iff_ne.2 (fun e => c3 ⟨by omega, by omega⟩)
          go_wp2
          all_goals (go_meet; exact ⟨by first | rfl | (subst c; rfl), rfl, rfl⟩)
      case rest =>
        obtain ⟨rfl, rfl, rfl⟩ := hcut
        clear c3
        have i5 : IntKind.i64.wrap ((i : Int) + 1) = ((i + 1 : Nat) : Int) := (IntWalk.i64_in _ (by omega)).trans (by omega)
        obtain ⟨m, hm⟩ : ∃ m, i + 1 = m := ⟨_, rfl⟩
        rw [hm] at i5 HTL
        have HM := Lib.hid hm
        have hm10 : m ≤ n := by omega
        have hm11 : m ≤ 10 := by omega
        clear hm
        go_upto_region 11 with (fail)
        go_loop [6, 7, 37] (fun vu _ vi => ∃ j : Nat, vi = .int .i64 (j : Int) ∧ j ≤ m ∧ vu = .int .u64 (gval (T.take j) : Int)) (fun _ _ vi => m - (intOf vi).toNat)
        case atStart => exact ⟨0, rfl, Nat.zero_le _, rfl⟩
        case round =>
          obtain ⟨j, rfl, hj, rfl⟩ := hrel
          by_cases hlt : j < m
          · have hjT : j < T.length := by rw [HTL.out]; exact hlt
            obtain ⟨hjb, ht⟩ := HTG.out j hjT
            have ej := HCC.out j hjb
            have hst := gval_more hjT
            have hsm := gval_small (l := T) (j := j) (by omega)
            have hle := gval_take_le T (j + 1)
            rw [ht] at hst
            obtain ⟨z, hz⟩ : ∃ z, b[j].toNat = z := ⟨_, rfl⟩
            rw [hz] at ej hst
            obtain ⟨G, hG⟩ : ∃ G, gval (T.take j) = G := ⟨_, rfl⟩
            rw [hG] at hst hsm ⊢
            obtain ⟨s, hs⟩ : ∃ s, 7 * j = s := ⟨_, rfl⟩
            rw [hs] at hst hsm
            have hu := HU64.out
            have hor := or_u64 G (z % 128) s hsm (by omega)
            have K3 := Lib.hid (show IntKind.u64.wrap ((z : Int) % 128 * 2 ^ s) = ((z % 128 : Nat) : Int) * 2 ^ s by
              have e1 : (z : Int) % 128 * 2 ^ s = ((z % 128 * 2 ^ s : Nat) : Int) := by simp
              rw [e1, u64_in (by omega)]
              simp)
            rw [← hst] at hor
            have k1 : IntKind.i64.wrap (7 * (j : Int)) = (s : Int) := (IntWalk.i64_in _ (by omega)).trans (by omega)
            have k2 : IntKind.u64.wrap ((z : Int) % 128) = (z : Int) % 128 := u64_in (by omega)
            have hjn : (j : Int) < n := by omega
            have hjm : (j : Int) < m := by omega
            have hs0 : ¬ (s : Int) < 0 := by omega
            have hs64 : s ≤ 64 := by omega
            have HOR := Lib.hid hor
            clear hst hle hz hG hu hor ht hjT hjb hs hsm
            go_wp2
            go_round
            case rel => exact ⟨j + 1, by go_num, hlt, by rw [← HOR.out, K3.out]⟩
            case measure => simp [intOf]; omega
          · obtain rfl : j = m := by omega
            have hTT : gval (T.take j) = gval T := by rw [List.take_of_length_le (by rw [HTL.out]; exact Nat.le_refl _)]
            rw [hTT]
            clear hTT
            go_wp2_with (go_at_call 39; with_reducible refine (psigned_at _ x _ HU64.out HV).mono ?_; rintro e w2 ⟨rfl, rfl⟩)
            go_ret3
            exact ⟨by rw [HM.out]; rfl, rfl⟩
end Go.Proofs.Ytbplglndcagglaa.WirW
