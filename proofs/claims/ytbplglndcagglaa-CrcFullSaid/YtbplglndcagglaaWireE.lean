/-
  Walks of the specification of package wire: TakeInt. Condition: none.
-/
import Derived.Test.YtbplglndcagglaaWireB
namespace Go.Proofs.Ytbplglndcagglaa.WirW
open Go.ChangeShapes Go.WideShapes Go.ChangeAt Go.RowKit
open PairW CelW WirP
/-- Half of an unsigned number is in the range of the signed, and so is what is below zero by it. -/
theorem half_in {U : Nat} (h : U < 18446744073709551616) : IntKind.u64.wrap ((U : Int) / 2) = (U : Int) / 2 ∧ wrap64 ((U : Int) / 2) = (U : Int) / 2 ∧ wrap64 (-((U : Int) / 2)) = -((U : Int) / 2) ∧ wrap64 (-((U : Int) / 2) - 1) = -((U : Int) / 2) - 1 := by
  obtain ⟨d, hd⟩ : ∃ d, (U : Int) / 2 = d := ⟨_, rfl⟩
  rw [hd]
  have h1 : 0 ≤ d ∧ d ≤ 9223372036854775807 := by omega
  exact ⟨u64_in (by omega), IntWalk.wrap64_in _ (by omega), IntWalk.wrap64_in _ (by omega), IntWalk.wrap64_in _ (by omega)⟩
set_option maxRecDepth 100000 in
set_option maxHeartbeats 4000000 in
theorem rtake_at (b : Bs) (v : Value) (f x : Int) (m : Nat) (w : World) (HB : Hid (Cel w v (cellsU b))) (H : Hid (takeE b = f ∧ takeV b = x ∧ takeK b = m)) :
    Calls Try.prog 33 #[v] w fun e w' => e = .returned (.tuple #[.int .i64 x, .int .i64 (m : Int), .int .i64 f]) ∧ w = w' := by
  obtain ⟨A, cap, rfl, h1, h2, h3⟩ := cel_cells HB.out
  unfold maxLen at h2
  have HC := Lib.hid h3
  clear h3
  go_enter Try.func33, Try.ntmps33
  go_upto_region 2 with (go_at_call 40; with_reducible refine (last_at b _ _ HB).mono ?_; rintro e w1 ⟨r, rfl, hr, rfl⟩)
  rcases hr with ⟨rfl, hr⟩ | ⟨i, rfl, hi, hl, hb⟩
  · have ht := take_none (read_none hr)
    obtain ⟨rfl, rfl, rfl⟩ : 13 = f ∧ 0 = x ∧ 0 = m := ⟨by rw [← H.out.1, ht.1], by rw [← H.out.2.1, ht.2.1], by rw [← H.out.2.2, ht.2.2]⟩
    clear ht hr H
    go_wp2
    go_ret3
    exact ⟨rfl, rfl⟩
  · have hread := read_some hi hl hb
    have hat := take_at hread
    have hbad : takeE b ≠ 0 → x = 0 ∧ m = 0 := fun h => by
      obtain ⟨k1, k2⟩ := take_bad h
      exact ⟨by rw [← H.out.2.1, k1], by rw [← H.out.2.2, k2]⟩
    obtain ⟨n, hn⟩ : ∃ n, b.length = n := ⟨_, rfl⟩
    have hni : (i : Int) < n := by omega
    have hi0 : ¬ (i : Int) < 0 := by omega
    have hin : i < n := by omega
    have h1' : n ≤ cap := by omega
    obtain ⟨g, off, rfl, hc⟩ := HC.out (by omega)
    have HCC := Lib.hid hc
    clear hc HC HB h1
    rw [hn]
    by_cases c1 : 9 < i
    · rw [if_pos (.inl c1)] at hat
      obtain rfl : 12 = f := by rw [← H.out.1, hat]
      obtain ⟨rfl, rfl⟩ := hbad (by rw [hat]; decide)
      have d1 : (9 : Int) < i := by omega
      clear hat hread hbad H hl hb hn
      go_wp2
      go_ret3
      exact ⟨rfl, rfl⟩
    have d1 : ¬ (9 : Int) < i := by omega
    by_cases c2 : i = 9 ∧ 1 < lastB b 10
    · rw [if_pos (.inr c2)] at hat
      obtain rfl : 12 = f := by rw [← H.out.1, hat]
      obtain ⟨rfl, rfl⟩ := hbad (by rw [hat]; decide)
      obtain ⟨rfl, c3⟩ := c2
      have e9 := HCC.out 9 hi
      rw [last_get hi] at c3
      obtain ⟨y, hy⟩ : ∃ y, b[9].toNat = y := ⟨_, rfl⟩
      rw [hy] at c3 e9
      have d2 : (1 : Int) < y := by omega
      clear hat hread hbad H hl hb hn hy c1 c3
      go_wp2
      go_ret3
      exact ⟨rfl, rfl⟩
    have c12 : ¬ (9 < i ∨ (i = 9 ∧ 1 < lastB b 10)) := fun h => h.elim c1 c2
    rw [if_neg c12] at hat
    have hu64 := take_u64 hread c12
    have ei := HCC.out i hi
    have hlast := last_get hi
    obtain ⟨y, hy⟩ : ∃ y, b[i].toNat = y := ⟨_, rfl⟩
    rw [hy] at ei hlast
    -- the second part of the test for ten bytes
    have h9 : ∀ (P : Prop), (i = 9 → y ≤ 1 → P) → (i ≠ 9 → P) → P := fun P h1 h2 => by
      by_cases c : i = 9
      · exact h1 c (by subst c; rw [hlast] at c2; omega)
      · exact h2 c
    by_cases c3 : 0 < i ∧ lastB b (i + 1) = 0
    · rw [if_pos c3] at hat
      obtain rfl : 2 = f := by rw [← H.out.1, hat]
      obtain ⟨rfl, rfl⟩ := hbad (by rw [hat]; decide)
      obtain ⟨c4, c5⟩ := c3
      rw [hlast] at c5
      subst c5
      have d3 : (0 : Int) < i := by omega
      clear hat hread hbad H hl hb hn hy c1 c2 c12 hu64 hlast HCC
      refine h9 _ (fun c _ => ?_) (fun c => ?_)
      · subst c
        go_wp2
        go_ret3
        exact ⟨rfl, rfl⟩
      · have d4 : ((i : Int) == 9) = false := beq_eq_false_iff_ne.2 (by omega)
        go_wp2
        go_ret3
        exact ⟨rfl, rfl⟩
    rw [if_neg c3] at hat
    rw [hlast] at c3
    obtain rfl : 0 = f := by rw [← H.out.1, hat]
    obtain ⟨hv, hk⟩ := take_some hread hat
    rw [H.out.2.1] at hv
    rw [H.out.2.2] at hk
    subst hk
    have hUe : gval (b.take (i + 1)) = gval (b.take (i + 1)) := rfl
    obtain ⟨U, hU⟩ : ∃ U, gval (b.take (i + 1)) = U := ⟨_, rfl⟩
    rw [hU] at hv hu64
    clear hUe
    have HU := Lib.hid hU
    have HU64 := Lib.hid hu64
    have HX1 := Lib.hid (fun (c : U % 2 = 1) => show x = -((U : Int) / 2) - 1 by rw [hv]; unfold valI; rw [if_pos c]; omega)
    have HX0 := Lib.hid (fun (c : ¬ U % 2 = 1) => show x = (U : Int) / 2 by rw [hv]; unfold valI; rw [if_neg c]; omega)
    have HDR := Lib.hid (show (b.take (i + 1)).drop (i + 1) = [] from List.drop_eq_nil_of_le (by rw [List.length_take]; omega))
    have h2n : n ≤ 9223372036854775807 := by omega
    clear hU hv hu64 hat hread hbad H hl hb c1 c2 c12 hlast hn
    go_upto_region 4 with (fail)
    go_cut [5, 23] (fun v s wx => v = .int .i64 (i : Int) ∧ s = .bool false ∧ w = wx)
    case first =>
      clear c3
      refine h9 _ (fun c9 hy1 => ?_) (fun c9 => ?_)
      · have d6 : ¬ (1 : Int) < y := by omega
        have d4 : ((i : Int) == 9) = true := beq_iff_eq.2 (by omega)
        have e9 : w.cell? ⟨g, off + 9, none⟩ = some (.int .u8 (y : Int)) := by rw [← c9]; exact ei
        have d9 : (9 : Int) < n := by omega
        have d10 : 9 < n := by omega
        go_wp2
        all_goals (go_meet; exact ⟨by first | rfl | (subst c9; rfl) | (subst c; rfl), rfl, rfl⟩)
      · have d4 : ((i : Int) == 9) = false := beq_eq_false_iff_ne.2 (by omega)
        go_wp2
        all_goals (go_meet; exact ⟨by first | rfl | (subst c9; rfl) | (subst c; rfl), rfl, rfl⟩)
    case rest =>
      obtain ⟨rfl, rfl, rfl⟩ := hcut
      clear h9
      go_upto_region 6 with (fail)
      go_cut [5, 32] (fun v s wx => v = .int .i64 (i : Int) ∧ s = .bool false ∧ w = wx)
      case first =>
        by_cases c : i = 0
        · have d3 : ¬ (0 : Int) < i := by omega
          go_wp2
          all_goals (go_meet; exact ⟨by first | rfl | (subst c9; rfl) | (subst c; rfl), rfl, rfl⟩)
        · have d3 : (0 : Int) < i := by omega
          have d5 : ((y : Int) == 0) = false := beq_eq_false_iff_ne.2 (fun e => c3 ⟨by omega, by omega⟩)
          go_wp2
          all_goals (go_meet; exact ⟨by first | rfl | (subst c9; rfl) | (subst c; rfl), rfl, rfl⟩)
      case rest =>
        obtain ⟨rfl, rfl, rfl⟩ := hcut
        clear c3
        go_upto_region 10 with (fail)
        go_loop [6, 7] (fun vu vi => ∃ j : Nat, vi = .int .i64 ((j : Int) - 1) ∧ j ≤ i + 1 ∧ vu = .int .u64 (gval ((b.take (i + 1)).drop j) : Int)) (fun _ vi => (intOf vi + 1).toNat)
        case atStart => exact ⟨i + 1, by go_num, Nat.le_refl _, by rw [HDR.out]; rfl⟩
        case round =>
          obtain ⟨j, rfl, hj, rfl⟩ := hrel
          cases j with
          | zero =>
            rw [show ((0 : Nat) : Int) - 1 = -1 from rfl, List.drop_zero, HU.out]
            by_cases c : U % 2 = 1
            · have hx := HX1.out c
              have k1 : ((U : Int) % 2 == 1) = true := beq_iff_eq.2 (by omega)
              obtain ⟨k0, k2, k3, k4⟩ := half_in HU64.out
              have k5 : IntKind.i64.wrap ((i : Int) + 1) = (i : Int) + 1 := IntWalk.i64_in _ (by omega)
              have HXX := Lib.hid hx
              clear hx c
              go_wp2
              go_ret3
              exact ⟨by rw [HXX.out]; rfl, rfl⟩
            · have hx := HX0.out c
              have k1 : ((U : Int) % 2 == 1) = false := beq_eq_false_iff_ne.2 (by omega)
              obtain ⟨k0, k2, k3, k4⟩ := half_in HU64.out
              have k5 : IntKind.i64.wrap ((i : Int) + 1) = (i : Int) + 1 := IntWalk.i64_in _ (by omega)
              have HXX := Lib.hid hx
              clear hx c
              go_wp2
              go_ret3
              exact ⟨by rw [HXX.out]; rfl, rfl⟩
          | succ k =>
            rw [show ((k + 1 : Nat) : Int) - 1 = (k : Int) by omega]
            have hkb : k < b.length := by omega
            have ek := HCC.out k hkb
            have hst := gval_step (l := b.take (i + 1)) (i := k) (by rw [List.length_take]; omega)
            rw [List.getElem_take] at hst
            have hle := gval_drop (b.take (i + 1)) k
            rw [HU.out] at hle
            obtain ⟨z, hz⟩ : ∃ z, b[k].toNat = z := ⟨_, rfl⟩
            have hz256 : z < 256 := by rw [← hz]; exact b[k].toNat_lt
            rw [hz] at ek hst
            obtain ⟨G, hG⟩ : ∃ G, gval ((b.take (i + 1)).drop (k + 1)) = G := ⟨_, rfl⟩
            rw [hG] at hst
            rw [hG]
            have hu := HU64.out
            have k1 : IntKind.u64.wrap ((G : Int) * 128) = (G : Int) * 128 := u64_in (by omega)
            have k2 : IntKind.u64.wrap ((z : Int) % 128) = (z : Int) % 128 := u64_in (by omega)
            have k3 : IntKind.u64.wrap ((G : Int) * 128 + (z : Int) % 128) = (G : Int) * 128 + (z : Int) % 128 := u64_in (by omega)
            have hkn : (k : Int) < n := by omega
            have HGS := Lib.hid (show ((gval ((b.take (i + 1)).drop k) : Nat) : Int) = (G : Int) * 128 + (z : Int) % 128 by rw [hst]; omega)
            have hkj : k ≤ i + 1 := by omega
            clear hst hle hz hG hz256 hu hj hkb
            go_wp2
            go_round
            case rel => exact ⟨k, rfl, hkj, by rw [HGS.out]⟩
            case measure => simp [intOf] <;> omega
end Go.Proofs.Ytbplglndcagglaa.WirW
