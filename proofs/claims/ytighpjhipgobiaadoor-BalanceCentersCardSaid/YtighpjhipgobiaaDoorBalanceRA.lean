/-
  Walks of the specification of package balance: middle, Center. Condition: none.
-/
import Derived.Test.YtighpjhipgobiaaDoorBalancePC
import Derived.Test.YtighpjhipgobiaaDoorJointsB
import Derived.Test.YtighpjhipgobiaaDoorPartMore
namespace Go.Proofs.YtighpjhipgobiaaDoor.BalW
open Go.ChangeShapes Go.WideShapes Go.ChangeAt Go.RowKit
open PairW AimP AimW BlkW PrtW PstP PstW JntP JntW RegD BalP AngP
theorem rmass_at (b : Vl) (v c : Int) (w : World) (H : Hid (BuiP.masV b = v ∧ BuiP.chk b = c)) :
    Calls Tryd.prog 22 #[.agg (cz 15 b)] w fun r w' => r = .returned (.tuple #[.int .i64 v, .int .i64 c]) ∧ Own w w' := BuiW.rmass_at b v c w H
theorem rrnd_at (a b v f : Int) (w : World) (H : Hid (NumP.roundV a b = v ∧ NumP.roundE a b = f)) :
    Calls Tryd.prog 24 #[.int .i64 a, .int .i64 b] w fun e w' => e = .returned (.tuple #[.int .i64 v, .int .i64 f]) ∧ Own w w' := by
  obtain ⟨rfl, rfl⟩ := H.out
  exact (NumW.rround_any a b w).mono fun _ _ h => ⟨h.1, own_dr h.2⟩
/-- The sum of the first parts and of k sides, as the specification has it. -/
def rps (b j : Vl) (c : Nat) : Nat → Int
  | 0 => b 11 * (j c + j (3 + c)) + b 12 * (j (3 + c) + j (6 + c))
  | k + 1 => rps b j c k + b 13 * (j (15 + k * 3 + c) + j (21 + k * 3 + c)) + b 14 * (j (9 + k * 3 + c) + j (27 + k * 3 + c))
theorem rps_all (b j : Vl) {c : Nat} (hc : c < 2) : rps b j c 2 = wsm b j c := by
  have t : c = 0 ∨ c = 1 := by omega
  rcases t with rfl | rfl <;> rfl
theorem one_pr {m u v : Int} (hm : 1 ≤ m ∧ m ≤ 200000) (hu : -40000 ≤ u ∧ u ≤ 40000) (hv : -40000 ≤ v ∧ v ≤ 40000) : (-16000000000 ≤ m * (u + v) ∧ m * (u + v) ≤ 16000000000) ∧ IntKind.i64.wrap (u + v) = u + v ∧ IntKind.i64.wrap (m * (u + v)) = m * (u + v) := by
  have h : -(200000 * 80000) ≤ m * (u + v) ∧ m * (u + v) ≤ 200000 * 80000 := prod_bd (m := 200000) (k := 80000) (by omega) (by omega)
  exact ⟨by omega, IntWalk.i64_in _ (by omega), IntWalk.i64_in _ (by omega)⟩
theorem rps_bd {b j : Vl} (hb : BuiP.chk b = 0) (hj : ∀ i, i < 33 → -40000 ≤ j i ∧ j i ≤ 40000) {c : Nat} (hc : c < 2) : ∀ k : Nat, k ≤ 2 → -(32000000000 * ((k : Int) + 1)) ≤ rps b j c k ∧ rps b j c k ≤ 32000000000 * ((k : Int) + 1) := by
  obtain ⟨-, m1, m2, m3, m4⟩ := mas_is hb
  intro k
  induction k with
  | zero =>
    intro _
    have h1 := (one_pr m1 (hj c (by omega)) (hj (3 + c) (by omega))).1
    have h2 := (one_pr m2 (hj (3 + c) (by omega)) (hj (6 + c) (by omega))).1
    show -(32000000000 * ((0 : Nat) + 1 : Int)) ≤ _ + _ ∧ _ + _ ≤ 32000000000 * ((0 : Nat) + 1 : Int)
    omega
  | succ k ih =>
    intro hk
    have h0 := ih (by omega)
    have h1 := (one_pr m3 (hj (15 + k * 3 + c) (by omega)) (hj (21 + k * 3 + c) (by omega))).1
    have h2 := (one_pr m4 (hj (9 + k * 3 + c) (by omega)) (hj (27 + k * 3 + c) (by omega))).1
    show -(32000000000 * (((k + 1 : Nat) : Int) + 1)) ≤ rps b j c k + _ + _ ∧ rps b j c k + _ + _ ≤ 32000000000 * (((k + 1 : Nat) : Int) + 1)
    omega
/-- What the first sum wants. -/
theorem rps_zero {b j : Vl} (hb : BuiP.chk b = 0) (hj : ∀ i, i < 33 → -40000 ≤ j i ∧ j i ≤ 40000) {c : Nat} (hc : c < 2) :
    IntKind.i64.wrap (j c + j (3 + c)) = j c + j (3 + c) ∧ IntKind.i64.wrap (b 11 * (j c + j (3 + c))) = b 11 * (j c + j (3 + c)) ∧ IntKind.i64.wrap (j (3 + c) + j (6 + c)) = j (3 + c) + j (6 + c) ∧ IntKind.i64.wrap (b 12 * (j (3 + c) + j (6 + c))) = b 12 * (j (3 + c) + j (6 + c)) ∧
    IntKind.i64.wrap (b 11 * (j c + j (3 + c)) + b 12 * (j (3 + c) + j (6 + c))) = rps b j c 0 := by
  obtain ⟨-, m1, m2, m3, m4⟩ := mas_is hb
  obtain ⟨a1, a2, a3⟩ := one_pr m1 (hj c (by omega)) (hj (3 + c) (by omega))
  obtain ⟨c1, c2, c3⟩ := one_pr m2 (hj (3 + c) (by omega)) (hj (6 + c) (by omega))
  exact ⟨a2, a3, c2, c3, IntWalk.i64_in _ (by omega)⟩
/-- What one round of the sum wants. -/
theorem rps_step {b j : Vl} (hb : BuiP.chk b = 0) (hj : ∀ i, i < 33 → -40000 ≤ j i ∧ j i ≤ 40000) {c : Nat} (hc : c < 2) {k : Nat} (hk : k < 2) {u v p q s : Int} (hu : j (15 + k * 3 + c) = u) (hv : j (21 + k * 3 + c) = v) (hp : j (9 + k * 3 + c) = p) (hq : j (27 + k * 3 + c) = q) (hs : rps b j c k = s) :
    IntKind.i64.wrap (u + v) = u + v ∧ IntKind.i64.wrap (b 13 * (u + v)) = b 13 * (u + v) ∧ IntKind.i64.wrap (s + b 13 * (u + v)) = s + b 13 * (u + v) ∧ IntKind.i64.wrap (p + q) = p + q ∧ IntKind.i64.wrap (b 14 * (p + q)) = b 14 * (p + q) ∧ IntKind.i64.wrap (s + b 13 * (u + v) + b 14 * (p + q)) = rps b j c (k + 1) := by
  obtain ⟨-, m1, m2, m3, m4⟩ := mas_is hb
  have h0 := rps_bd hb hj hc k (by omega)
  have h5 : rps b j c (k + 1) = s + b 13 * (u + v) + b 14 * (p + q) := by
    show rps b j c k + b 13 * (j (15 + k * 3 + c) + j (21 + k * 3 + c)) + b 14 * (j (9 + k * 3 + c) + j (27 + k * 3 + c)) = _
    rw [hs, hu, hv, hp, hq]
  rw [hs] at h0
  have j1 := hj (15 + k * 3 + c) (by omega)
  have j2 := hj (21 + k * 3 + c) (by omega)
  have j3 := hj (9 + k * 3 + c) (by omega)
  have j4 := hj (27 + k * 3 + c) (by omega)
  rw [hu] at j1
  rw [hv] at j2
  rw [hp] at j3
  rw [hq] at j4
  obtain ⟨a1, a2, a3⟩ := one_pr m3 j1 j2
  obtain ⟨c1, c2, c3⟩ := one_pr m4 j3 j4
  refine ⟨a2, a3, IntWalk.i64_in _ (by omega), c2, c3, ?_⟩
  rw [h5]
  exact IntWalk.i64_in _ (by omega)
set_option maxRecDepth 100000 in
set_option maxHeartbeats 2000000 in
theorem rmid_at (b j : Vl) (x y : Int) (w : World) (hb : BuiP.chk b = 0) (hj : ∀ i, i < 33 → -40000 ≤ j i ∧ j i ≤ 40000) (H : Hid (wsm b j 0 = x ∧ wsm b j 1 = y)) :
    Calls Tryd.prog 23 #[.agg (cz 15 b), .agg (cz 33 j)] w fun r w' => r = .returned (.tuple #[.int .i64 x, .int .i64 y]) ∧ Own w w' := by
  have HST0 := Lib.hid (fun k (hk : k < 2) u v p q s => rps_step hb hj (c := 0) (by omega) (k := k) hk (u := u) (v := v) (p := p) (q := q) (s := s))
  have HST1 := Lib.hid (fun k (hk : k < 2) u v p q s => rps_step hb hj (c := 1) (by omega) (k := k) hk (u := u) (v := v) (p := p) (q := q) (s := s))
  obtain ⟨a1, a2, a3, a4, a5⟩ := rps_zero hb hj (c := 0) (by omega)
  obtain ⟨c1, c2, c3, c4, c5⟩ := rps_zero hb hj (c := 1) (by omega)
  simp only [Nat.add_zero, Nat.reduceAdd] at a1 a2 a3 a4 a5 c1 c2 c3 c4 c5
  clear hb hj
  go_enter Tryd.func23, Tryd.ntmps23
  go_upto_region 1 with (fail)
  obtain ⟨W0, B, J, hW, hJ, hB, hb1, hj1, g0, -, -, -⟩ := two_new w (cz 15 b) 24 (cz 33 j) 59
  rw [hW, hJ, hB]
  have HB := Lib.hid hb1
  have HJ := Lib.hid hj1
  have b1 := blk_num hb1 (i := 11) (by omega)
  have b2 := blk_num hb1 (i := 12) (by omega)
  have j0 := blk_num hj1 (i := 0) (by omega)
  have j1 := blk_num hj1 (i := 1) (by omega)
  have j3 := blk_num hj1 (i := 3) (by omega)
  have j4 := blk_num hj1 (i := 4) (by omega)
  have j6 := blk_num hj1 (i := 6) (by omega)
  have j7 := blk_num hj1 (i := 7) (by omega)
  clear hW hJ hB hb1 hj1
  go_wp2
  clear b1 b2 j0 j1 j3 j4 j6 j7 a1 a2 a3 a4 a5 c1 c2 c3 c4 c5
  go_loopw [6, 7, 8] (fun xs ys vi wr => ∃ k : Nat, vi = .int .i64 (k : Int) ∧ k ≤ 2 ∧ xs = .int .i64 (rps b j 0 k) ∧ ys = .int .i64 (rps b j 1 k) ∧ Own W0 wr) (fun _ _ vi _ => 2 - (intOf vi).toNat)
  case atStart => exact ⟨0, rfl, by omega, rfl, rfl, Own.refl W0⟩
  case round =>
    obtain ⟨k, rfl, hk, rfl, rfl, g1⟩ := hrel
    by_cases hlt : k < 2
    · have hkn : (k : Int) < 2 := by omega
      obtain ⟨u0, hu0⟩ : ∃ x, j (15 + k * 3) = x := ⟨_, rfl⟩
      obtain ⟨v0, hv0⟩ : ∃ x, j (21 + k * 3) = x := ⟨_, rfl⟩
      obtain ⟨p0, hp0⟩ : ∃ x, j (9 + k * 3) = x := ⟨_, rfl⟩
      obtain ⟨q0, hq0⟩ : ∃ x, j (27 + k * 3) = x := ⟨_, rfl⟩
      obtain ⟨s0, hs0⟩ : ∃ x, rps b j 0 k = x := ⟨_, rfl⟩
      obtain ⟨t0, ht0⟩ : ∃ x, rps b j 0 (k + 1) = x := ⟨_, rfl⟩
      obtain ⟨i01, i02, i03, i04, i05, i06⟩ := HST0.out k hlt u0 v0 p0 q0 s0 hu0 hv0 hp0 hq0 hs0
      rw [ht0] at i06
      obtain ⟨u1, hu1⟩ : ∃ x, j (15 + k * 3 + 1) = x := ⟨_, rfl⟩
      obtain ⟨v1, hv1⟩ : ∃ x, j (21 + k * 3 + 1) = x := ⟨_, rfl⟩
      obtain ⟨p1, hp1⟩ : ∃ x, j (9 + k * 3 + 1) = x := ⟨_, rfl⟩
      obtain ⟨q1, hq1⟩ : ∃ x, j (27 + k * 3 + 1) = x := ⟨_, rfl⟩
      obtain ⟨s1, hs1⟩ : ∃ x, rps b j 1 k = x := ⟨_, rfl⟩
      obtain ⟨t1, ht1⟩ : ∃ x, rps b j 1 (k + 1) = x := ⟨_, rfl⟩
      obtain ⟨i11, i12, i13, i14, i15, i16⟩ := HST1.out k hlt u1 v1 p1 q1 s1 hu1 hv1 hp1 hq1 hs1
      rw [ht1] at i16
      rw [hs0, hs1]
      replace HB := Lib.hid (HB.out.own g1)
      replace HJ := Lib.hid (HJ.out.own g1)
      have HS := Lib.hid (show rps b j 0 (k + 1) = t0 ∧ rps b j 1 (k + 1) = t1 from ⟨ht0, ht1⟩)
      clear hs0 hs1 ht0 ht1
      go_upto_region 6 with (fail)
      refine RegD.region_dutyLO [59, 60, 61, 62, 63, 64, 65, 66, 67, 68, 69, 70, 71, 72, 73, 74, 75, 76, 77, 78, 79, 80, 81, 82, 83, 84, 85, 86, 87, 88, 89, 90, 91] (RegI.upd (RegI.upd (RegI.upd (RegI.upd (RegI.upd (RegI.upd (RegI.upd (RegI.upd (RegI.upd (RegI.upd (RegI.upd (RegI.upd (RegI.upd (RegI.upd (RegI.upd (RegI.upd (RegI.upd (RegI.upd (RegI.upd (RegI.upd (RegI.upd (RegI.upd (RegI.upd (RegI.upd (RegI.upd (RegI.upd (RegI.upd (RegI.upd (RegI.upd (RegI.upd (RegI.upd (RegI.upd (RegI.upd (fun _ => undef) 59 (.int .i64 s0)) 60 (.pointer (some ⟨B, 11, none⟩))) 61 (.pointer (some ⟨B, 13, none⟩))) 62 (.int .i64 (b 13))) 63 (.int .i64 (k : Int))) 64 (.pointer (some ⟨J, 15, none⟩))) 65 (.pointer (some ⟨J, 15 + k * 3, none⟩))) 66 (.pointer (some ⟨J, 15 + k * 3, none⟩))) 67 (.int .i64 u0)) 68 (.int .i64 (k : Int))) 69 (.pointer (some ⟨J, 21, none⟩))) 70 (.pointer (some ⟨J, 21 + k * 3, none⟩))) 71 (.pointer (some ⟨J, 21 + k * 3, none⟩))) 72 (.int .i64 v0)) 73 (.int .i64 (u0 + v0))) 74 (.int .i64 (b 13 * (u0 + v0)))) 75 (.int .i64 (s0 + b 13 * (u0 + v0)))) 76 (.pointer (some ⟨B, 11, none⟩))) 77 (.pointer (some ⟨B, 14, none⟩))) 78 (.int .i64 (b 14))) 79 (.int .i64 (k : Int))) 80 (.pointer (some ⟨J, 9, none⟩))) 81 (.pointer (some ⟨J, 9 + k * 3, none⟩))) 82 (.pointer (some ⟨J, 9 + k * 3, none⟩))) 83 (.int .i64 p0)) 84 (.int .i64 (k : Int))) 85 (.pointer (some ⟨J, 27, none⟩))) 86 (.pointer (some ⟨J, 27 + k * 3, none⟩))) 87 (.pointer (some ⟨J, 27 + k * 3, none⟩))) 88 (.int .i64 q0)) 89 (.int .i64 (p0 + q0))) 90 (.int .i64 (b 14 * (p0 + q0)))) 91 (.int .i64 t0)) (by kernel_rfl) (by kernel_rfl) (by intro d hd; simp at hd; simp; omega) ?_
      simp only [RegD.FF, RegI.FX, RegI.upd, List.foldl_cons, List.foldl_nil, List.not_mem_nil, if_true, if_false, Nat.reduceEqDiff]
      simp only [List.setIfInBounds_toArray, List.set_cons_succ, List.set_cons_zero]
      refine And.intro ?hs1 ?he1
      case hs1 =>
        refine And.intro ?s1_0 (And.intro ?s1_1 (And.intro ?s1_2 (And.intro ?s1_3 (And.intro ?s1_4 (And.intro ?s1_5 (And.intro ?s1_6 (And.intro ?s1_7 (And.intro ?s1_8 (And.intro ?s1_9 (And.intro ?s1_10 (And.intro ?s1_11 (And.intro ?s1_12 (And.intro ?s1_13 (And.intro ?s1_14 (And.intro ?s1_15 (And.intro ?s1_16 (And.intro ?s1_17 (And.intro ?s1_18 (And.intro ?s1_19 (And.intro ?s1_20 (And.intro ?s1_21 (And.intro ?s1_22 (And.intro ?s1_23 (And.intro ?s1_24 (And.intro ?s1_25 (And.intro ?s1_26 (And.intro ?s1_27 (And.intro ?s1_28 (And.intro ?s1_29 (And.intro ?s1_30 (And.intro ?s1_31 (And.intro ?s1_32 (trivial)))))))))))))))))))))))))))))))))
        case s1_0 =>
          intro u w1 hO
          go_wp2
          exact ⟨rfl, rfl, rfl, Own.refl _⟩
        case s1_1 =>
          intro u w1 hO
          go_wp2
          exact ⟨rfl, rfl, rfl, Own.refl _⟩
        case s1_2 =>
          intro u w1 hO
          go_wp2
          exact ⟨rfl, rfl, rfl, Own.refl _⟩
        case s1_3 =>
          intro u w1 hO
          have kk := blk_num (HB.out.own hO) (i := 13) (by omega)
          go_wp2
          exact ⟨rfl, rfl, rfl, Own.refl _⟩
        case s1_4 =>
          intro u w1 hO
          go_wp2
          exact ⟨rfl, rfl, rfl, Own.refl _⟩
        case s1_5 =>
          intro u w1 hO
          go_wp2
          exact ⟨rfl, rfl, rfl, Own.refl _⟩
        case s1_6 =>
          intro u w1 hO
          go_wp2
          exact ⟨rfl, rfl, rfl, Own.refl _⟩
        case s1_7 =>
          intro u w1 hO
          go_wp2
          exact ⟨rfl, rfl, rfl, Own.refl _⟩
        case s1_8 =>
          intro u w1 hO
          have kk := blk_num (HJ.out.own hO) (i := 15 + k * 3) (by omega)
          rw [hu0] at kk
          go_wp2
          exact ⟨rfl, rfl, rfl, Own.refl _⟩
        case s1_9 =>
          intro u w1 hO
          go_wp2
          exact ⟨rfl, rfl, rfl, Own.refl _⟩
        case s1_10 =>
          intro u w1 hO
          go_wp2
          exact ⟨rfl, rfl, rfl, Own.refl _⟩
        case s1_11 =>
          intro u w1 hO
          go_wp2
          exact ⟨rfl, rfl, rfl, Own.refl _⟩
        case s1_12 =>
          intro u w1 hO
          go_wp2
          exact ⟨rfl, rfl, rfl, Own.refl _⟩
        case s1_13 =>
          intro u w1 hO
          have kk := blk_num (HJ.out.own hO) (i := 21 + k * 3) (by omega)
          rw [hv0] at kk
          go_wp2
          exact ⟨rfl, rfl, rfl, Own.refl _⟩
        case s1_14 =>
          intro u w1 hO
          go_wp2
          exact ⟨rfl, rfl, rfl, Own.refl _⟩
        case s1_15 =>
          intro u w1 hO
          go_wp2
          exact ⟨rfl, rfl, rfl, Own.refl _⟩
        case s1_16 =>
          intro u w1 hO
          go_wp2
          exact ⟨rfl, rfl, rfl, Own.refl _⟩
        case s1_17 =>
          intro u w1 hO
          go_wp2
          exact ⟨rfl, rfl, rfl, Own.refl _⟩
        case s1_18 =>
          intro u w1 hO
          go_wp2
          exact ⟨rfl, rfl, rfl, Own.refl _⟩
        case s1_19 =>
          intro u w1 hO
          have kk := blk_num (HB.out.own hO) (i := 14) (by omega)
          go_wp2
          exact ⟨rfl, rfl, rfl, Own.refl _⟩
        case s1_20 =>
          intro u w1 hO
          go_wp2
          exact ⟨rfl, rfl, rfl, Own.refl _⟩
        case s1_21 =>
          intro u w1 hO
          go_wp2
          exact ⟨rfl, rfl, rfl, Own.refl _⟩
        case s1_22 =>
          intro u w1 hO
          go_wp2
          exact ⟨rfl, rfl, rfl, Own.refl _⟩
        case s1_23 =>
          intro u w1 hO
          go_wp2
          exact ⟨rfl, rfl, rfl, Own.refl _⟩
        case s1_24 =>
          intro u w1 hO
          have kk := blk_num (HJ.out.own hO) (i := 9 + k * 3) (by omega)
          rw [hp0] at kk
          go_wp2
          exact ⟨rfl, rfl, rfl, Own.refl _⟩
        case s1_25 =>
          intro u w1 hO
          go_wp2
          exact ⟨rfl, rfl, rfl, Own.refl _⟩
        case s1_26 =>
          intro u w1 hO
          go_wp2
          exact ⟨rfl, rfl, rfl, Own.refl _⟩
        case s1_27 =>
          intro u w1 hO
          go_wp2
          exact ⟨rfl, rfl, rfl, Own.refl _⟩
        case s1_28 =>
          intro u w1 hO
          go_wp2
          exact ⟨rfl, rfl, rfl, Own.refl _⟩
        case s1_29 =>
          intro u w1 hO
          have kk := blk_num (HJ.out.own hO) (i := 27 + k * 3) (by omega)
          rw [hq0] at kk
          go_wp2
          exact ⟨rfl, rfl, rfl, Own.refl _⟩
        case s1_30 =>
          intro u w1 hO
          go_wp2
          exact ⟨rfl, rfl, rfl, Own.refl _⟩
        case s1_31 =>
          intro u w1 hO
          go_wp2
          exact ⟨rfl, rfl, rfl, Own.refl _⟩
        case s1_32 =>
          intro u w1 hO
          go_wp2
          exact ⟨rfl, rfl, rfl, Own.refl _⟩
      intro u w3 hO
      replace g1 := g1.trans hO
      replace HB := Lib.hid (HB.out.own hO)
      replace HJ := Lib.hid (HJ.out.own hO)
      clear hO i01 i02 i03 i04 i05 i06
      change wpList _ _ _ [⟨_, _, _, _, _, _⟩] _ _
      go_upto_region 7 with (fail)
      refine RegD.region_dutyLO [92, 93, 94, 95, 96, 97, 98, 99, 100, 101, 102, 103, 104, 105, 106, 107, 108, 109, 110, 111, 112, 113, 114, 115, 116, 117, 118, 119, 120, 121, 122, 123, 124] (RegI.upd (RegI.upd (RegI.upd (RegI.upd (RegI.upd (RegI.upd (RegI.upd (RegI.upd (RegI.upd (RegI.upd (RegI.upd (RegI.upd (RegI.upd (RegI.upd (RegI.upd (RegI.upd (RegI.upd (RegI.upd (RegI.upd (RegI.upd (RegI.upd (RegI.upd (RegI.upd (RegI.upd (RegI.upd (RegI.upd (RegI.upd (RegI.upd (RegI.upd (RegI.upd (RegI.upd (RegI.upd (RegI.upd (fun _ => undef) 92 (.int .i64 s1)) 93 (.pointer (some ⟨B, 11, none⟩))) 94 (.pointer (some ⟨B, 13, none⟩))) 95 (.int .i64 (b 13))) 96 (.int .i64 (k : Int))) 97 (.pointer (some ⟨J, 15, none⟩))) 98 (.pointer (some ⟨J, 15 + k * 3, none⟩))) 99 (.pointer (some ⟨J, 15 + k * 3 + 1, none⟩))) 100 (.int .i64 u1)) 101 (.int .i64 (k : Int))) 102 (.pointer (some ⟨J, 21, none⟩))) 103 (.pointer (some ⟨J, 21 + k * 3, none⟩))) 104 (.pointer (some ⟨J, 21 + k * 3 + 1, none⟩))) 105 (.int .i64 v1)) 106 (.int .i64 (u1 + v1))) 107 (.int .i64 (b 13 * (u1 + v1)))) 108 (.int .i64 (s1 + b 13 * (u1 + v1)))) 109 (.pointer (some ⟨B, 11, none⟩))) 110 (.pointer (some ⟨B, 14, none⟩))) 111 (.int .i64 (b 14))) 112 (.int .i64 (k : Int))) 113 (.pointer (some ⟨J, 9, none⟩))) 114 (.pointer (some ⟨J, 9 + k * 3, none⟩))) 115 (.pointer (some ⟨J, 9 + k * 3 + 1, none⟩))) 116 (.int .i64 p1)) 117 (.int .i64 (k : Int))) 118 (.pointer (some ⟨J, 27, none⟩))) 119 (.pointer (some ⟨J, 27 + k * 3, none⟩))) 120 (.pointer (some ⟨J, 27 + k * 3 + 1, none⟩))) 121 (.int .i64 q1)) 122 (.int .i64 (p1 + q1))) 123 (.int .i64 (b 14 * (p1 + q1)))) 124 (.int .i64 t1)) (by kernel_rfl) (by kernel_rfl) (by intro d hd; simp at hd; simp; omega) ?_
      simp only [RegD.FF, RegI.FX, RegI.upd, List.foldl_cons, List.foldl_nil, List.not_mem_nil, if_true, if_false, Nat.reduceEqDiff]
      simp only [List.setIfInBounds_toArray, List.set_cons_succ, List.set_cons_zero]
      refine And.intro ?hs2 ?he2
      case hs2 =>
        refine And.intro ?s2_0 (And.intro ?s2_1 (And.intro ?s2_2 (And.intro ?s2_3 (And.intro ?s2_4 (And.intro ?s2_5 (And.intro ?s2_6 (And.intro ?s2_7 (And.intro ?s2_8 (And.intro ?s2_9 (And.intro ?s2_10 (And.intro ?s2_11 (And.intro ?s2_12 (And.intro ?s2_13 (And.intro ?s2_14 (And.intro ?s2_15 (And.intro ?s2_16 (And.intro ?s2_17 (And.intro ?s2_18 (And.intro ?s2_19 (And.intro ?s2_20 (And.intro ?s2_21 (And.intro ?s2_22 (And.intro ?s2_23 (And.intro ?s2_24 (And.intro ?s2_25 (And.intro ?s2_26 (And.intro ?s2_27 (And.intro ?s2_28 (And.intro ?s2_29 (And.intro ?s2_30 (And.intro ?s2_31 (And.intro ?s2_32 (trivial)))))))))))))))))))))))))))))))))
        case s2_0 =>
          intro u w1 hO
          go_wp2
          exact ⟨rfl, rfl, rfl, Own.refl _⟩
        case s2_1 =>
          intro u w1 hO
          go_wp2
          exact ⟨rfl, rfl, rfl, Own.refl _⟩
        case s2_2 =>
          intro u w1 hO
          go_wp2
          exact ⟨rfl, rfl, rfl, Own.refl _⟩
        case s2_3 =>
          intro u w1 hO
          have kk := blk_num (HB.out.own hO) (i := 13) (by omega)
          go_wp2
          exact ⟨rfl, rfl, rfl, Own.refl _⟩
        case s2_4 =>
          intro u w1 hO
          go_wp2
          exact ⟨rfl, rfl, rfl, Own.refl _⟩
        case s2_5 =>
          intro u w1 hO
          go_wp2
          exact ⟨rfl, rfl, rfl, Own.refl _⟩
        case s2_6 =>
          intro u w1 hO
          go_wp2
          exact ⟨rfl, rfl, rfl, Own.refl _⟩
        case s2_7 =>
          intro u w1 hO
          go_wp2
          exact ⟨rfl, rfl, rfl, Own.refl _⟩
        case s2_8 =>
          intro u w1 hO
          have kk := blk_num (HJ.out.own hO) (i := 15 + k * 3 + 1) (by omega)
          rw [hu1] at kk
          go_wp2
          exact ⟨rfl, rfl, rfl, Own.refl _⟩
        case s2_9 =>
          intro u w1 hO
          go_wp2
          exact ⟨rfl, rfl, rfl, Own.refl _⟩
        case s2_10 =>
          intro u w1 hO
          go_wp2
          exact ⟨rfl, rfl, rfl, Own.refl _⟩
        case s2_11 =>
          intro u w1 hO
          go_wp2
          exact ⟨rfl, rfl, rfl, Own.refl _⟩
        case s2_12 =>
          intro u w1 hO
          go_wp2
          exact ⟨rfl, rfl, rfl, Own.refl _⟩
        case s2_13 =>
          intro u w1 hO
          have kk := blk_num (HJ.out.own hO) (i := 21 + k * 3 + 1) (by omega)
          rw [hv1] at kk
          go_wp2
          exact ⟨rfl, rfl, rfl, Own.refl _⟩
        case s2_14 =>
          intro u w1 hO
          go_wp2
          exact ⟨rfl, rfl, rfl, Own.refl _⟩
        case s2_15 =>
          intro u w1 hO
          go_wp2
          exact ⟨rfl, rfl, rfl, Own.refl _⟩
        case s2_16 =>
          intro u w1 hO
          go_wp2
          exact ⟨rfl, rfl, rfl, Own.refl _⟩
        case s2_17 =>
          intro u w1 hO
          go_wp2
          exact ⟨rfl, rfl, rfl, Own.refl _⟩
        case s2_18 =>
          intro u w1 hO
          go_wp2
          exact ⟨rfl, rfl, rfl, Own.refl _⟩
        case s2_19 =>
          intro u w1 hO
          have kk := blk_num (HB.out.own hO) (i := 14) (by omega)
          go_wp2
          exact ⟨rfl, rfl, rfl, Own.refl _⟩
        case s2_20 =>
          intro u w1 hO
          go_wp2
          exact ⟨rfl, rfl, rfl, Own.refl _⟩
        case s2_21 =>
          intro u w1 hO
          go_wp2
          exact ⟨rfl, rfl, rfl, Own.refl _⟩
        case s2_22 =>
          intro u w1 hO
          go_wp2
          exact ⟨rfl, rfl, rfl, Own.refl _⟩
        case s2_23 =>
          intro u w1 hO
          go_wp2
          exact ⟨rfl, rfl, rfl, Own.refl _⟩
        case s2_24 =>
          intro u w1 hO
          have kk := blk_num (HJ.out.own hO) (i := 9 + k * 3 + 1) (by omega)
          rw [hp1] at kk
          go_wp2
          exact ⟨rfl, rfl, rfl, Own.refl _⟩
        case s2_25 =>
          intro u w1 hO
          go_wp2
          exact ⟨rfl, rfl, rfl, Own.refl _⟩
        case s2_26 =>
          intro u w1 hO
          go_wp2
          exact ⟨rfl, rfl, rfl, Own.refl _⟩
        case s2_27 =>
          intro u w1 hO
          go_wp2
          exact ⟨rfl, rfl, rfl, Own.refl _⟩
        case s2_28 =>
          intro u w1 hO
          go_wp2
          exact ⟨rfl, rfl, rfl, Own.refl _⟩
        case s2_29 =>
          intro u w1 hO
          have kk := blk_num (HJ.out.own hO) (i := 27 + k * 3 + 1) (by omega)
          rw [hq1] at kk
          go_wp2
          exact ⟨rfl, rfl, rfl, Own.refl _⟩
        case s2_30 =>
          intro u w1 hO
          go_wp2
          exact ⟨rfl, rfl, rfl, Own.refl _⟩
        case s2_31 =>
          intro u w1 hO
          go_wp2
          exact ⟨rfl, rfl, rfl, Own.refl _⟩
        case s2_32 =>
          intro u w1 hO
          go_wp2
          exact ⟨rfl, rfl, rfl, Own.refl _⟩
      intro u w4 hO
      replace g1 := g1.trans hO
      clear hO i11 i12 i13 i14 i15 i16 HB HJ hu0 hv0 hp0 hq0 hu1 hv1 hp1 hq1
      change wpList _ _ _ [⟨_, _, _, _, _, _⟩] _ _
      go_wp2
      go_roundw
      case rel => exact ⟨k + 1, by go_num, hlt, by rw [HS.out.1], by rw [HS.out.2], g1⟩
      case measure => simp [intOf]; omega
    · obtain rfl : k = 2 := by omega
      rw [rps_all b j (c := 0) (by omega), rps_all b j (c := 1) (by omega), H.out.1, H.out.2]
      go_wp2
      go_ret2
      exact ⟨rfl, g0.trans g1⟩
set_option maxRecDepth 100000 in
set_option maxHeartbeats 2000000 in
theorem rCen_at (b p : Vl) (s x y c : Int) (w : World) (H : Hid (ceV b p s 0 = x ∧ ceV b p s 1 = y ∧ joE b p s = c)) :
    Calls Tryd.prog 9 #[.agg (cz 15 b), .agg (cz 22 p), .int .i64 s] w fun r w' => r = .returned (.tuple #[.agg #[.int .i64 x, .int .i64 y], .int .i64 c]) ∧ Own w w' := by
  obtain ⟨hx, hy, hc⟩ := H.out
  clear H
  obtain ⟨j, hj⟩ : ∃ f, joV b p s = f := ⟨_, rfl⟩
  obtain ⟨c0, hc0⟩ : ∃ c, joE b p s = c := ⟨_, rfl⟩
  have HJO := Lib.hid (show cz 33 (joV b p s) = cz 33 j ∧ joE b p s = c0 from ⟨by rw [hj], hc0⟩)
  rw [hc0] at hc
  subst hc
  by_cases h : c0 = 0
  · subst h
    have HC := Lib.hid (cen_ok hc0)
    rw [ceV_yes hc0] at hx hy
    rw [hx, hy, hj] at HC
    obtain ⟨m, hm⟩ : ∃ m, BuiP.masV b = m := ⟨_, rfl⟩
    rw [hm] at HC
    have HMA := Lib.hid (show BuiP.masV b = m ∧ BuiP.chk b = 0 from ⟨hm, HC.out.chk⟩)
    have HX := Lib.hid HC.out.x
    have HY := Lib.hid HC.out.y
    obtain ⟨sx, hsx⟩ : ∃ x, wsm b j 0 = x := ⟨_, rfl⟩
    obtain ⟨sy, hsy⟩ : ∃ x, wsm b j 1 = x := ⟨_, rfl⟩
    have HSUM := Lib.hid (show wsm b j 0 = sx ∧ wsm b j 1 = sy from ⟨hsx, hsy⟩)
    rw [hsx] at HX
    rw [hsy] at HY
    have hmb := HC.out.mbd
    have i9 : IntKind.i64.wrap (2 * m) = 2 * m := IntWalk.i64_in _ (by omega)
    clear hc0 hj hx hy hm hsx hsy hmb
    go_enter Tryd.func9, Tryd.ntmps9
    go_upto_region 1 with (fail)
    obtain ⟨W0, B, P, R, hW, hR, hP, hB, hb1, hp1, hr1, g0, -, -, hR0, -⟩ := three_new w (cz 15 b) 24 (cz 22 p) 31 (#[.int .i64 0, .int .i64 0]) 26
    rw [hW, hR, hP, hB]
    have HB := Lib.hid hb1
    have HP := Lib.hid hp1
    have HR := Lib.hid hr1
    clear hW hR hP hB hb1 hp1 hr1
    go_upto_region 2 with (first | ((with_reducible show wpList _ _ _ (⟨_, .load 24 (.tmp 3), _, _, _, none⟩ :: _) _ _); refine wpList_load_row rfl 24 (.tmp 3) rfl B rfl 24 _ (0, 0) _ HB.out.raw Tryd.underlying24 rfl infoB ?_) | ((with_reducible show wpList _ _ _ (⟨_, .load 31 (.tmp 4), _, _, _, none⟩ :: _) _ _); refine wpList_load_row rfl 31 (.tmp 4) rfl P rfl 31 _ (0, 0) _ HP.out.raw Tryd.underlying31 rfl infoP ?_) | (go_at_call 21; with_reducible refine (rof_at b p j s 0 _ HJO).mono ?_; rintro r w1 ⟨rfl, hg⟩; replace g0 := g0.trans hg; replace HB := Lib.hid (HB.out.own hg); replace HR := Lib.hid (HR.out.own hg); clear HP; clear hg) | ((with_reducible show wpList _ _ _ (⟨_, .store 59 (.tmp 8) (.tmp 23), _, _, _, none⟩ :: _) _ _); refine wpList_store_row rfl 59 (.tmp 8) (.tmp 23) rfl _ (cz 33 (j)) rfl rfl 59 _ (heap_new _ _) infoJ rfl (cz_one _ _) ?_; rw [World.setRow_alloc_new]))
    obtain ⟨w2, A, hW, hBq, hb, hg, Ag⟩ := blk_new w1 (cz 33 j) 59
    rw [hW, hBq]
    have HA := Lib.hid hb
    replace g0 := g0.trans hg
    replace HB := Lib.hid (HB.out.own hg)
    replace HR := Lib.hid (HR.out.own hg)
    clear hW hBq hb hg
    clear Ag
    (first | go_frame | skip)
    go_wp2_with (first | ((with_reducible show wpList _ _ _ (⟨_, .load 24 (.tmp 3), _, _, _, none⟩ :: _) _ _); refine wpList_load_row rfl 24 (.tmp 3) rfl B rfl 24 _ (0, 0) _ HB.out.raw Tryd.underlying24 rfl infoB ?_) | ((with_reducible show wpList _ _ _ (⟨_, .load 59 (.tmp 8), _, _, _, none⟩ :: _) _ _); refine wpList_load_row rfl 59 (.tmp 8) rfl A rfl 59 _ (0, 0) _ HA.out.raw Tryd.underlying59 rfl infoJ ?_) | (go_at_call 22; with_reducible refine (rmass_at b m 0 _ HMA).mono ?_; rintro r w3 ⟨rfl, hg⟩; replace g0 := g0.trans hg; replace HB := Lib.hid (HB.out.own hg); replace HA := Lib.hid (HA.out.own hg); replace HR := Lib.hid (HR.out.own hg); clear hg) | (go_at_call 23; with_reducible refine (rmid_at b j sx sy _ HC.out.chk HC.out.bd HSUM).mono ?_; rintro r w4 ⟨rfl, hg⟩; replace g0 := g0.trans hg; replace HR := Lib.hid (HR.out.own hg); clear HB HA; clear hg) | (go_at_call 24; with_reducible refine (rrnd_at sx (2 * m) x 0 _ HX).mono ?_; rintro r w8 ⟨rfl, hg⟩; replace g0 := g0.trans hg; replace HR := Lib.hid (HR.out.own hg); clear hg) | (go_at_call 24; with_reducible refine (rrnd_at sy (2 * m) y 0 _ HY).mono ?_; rintro r w8 ⟨rfl, hg⟩; replace g0 := g0.trans hg; replace HR := Lib.hid (HR.out.own hg); clear hg) | ((with_reducible show wpList _ _ _ (⟨_, .store 26 (.tmp 6) (.tmp 56), _, _, _, none⟩ :: _) _ _); refine wpList_store_row rfl 26 (.tmp 6) (.tmp 56) rfl R #[.int .i64 x, .int .i64 y] rfl rfl 26 _ HR.out.raw infoPt rfl (by simp [Value.oneCell']) ?_))
    have hp := HR.out.row (#[.int .i64 x, .int .i64 y])
    exact bodyPost_ret (blk_results rfl rfl rfl hp Tryd.underlying26 rfl infoPt) rfl ⟨rfl, own_setRow g0 hR0 _⟩
  · have hn : joE b p s ≠ 0 := by rw [hc0]; exact h
    rw [ceV_no hn] at hx hy
    subst hx
    subst hy
    have kc : (c0 != 0) = true := bne_iff_ne.2 h
    clear hc0 hj hn h
    go_enter Tryd.func9, Tryd.ntmps9
    go_upto_region 1 with (fail)
    obtain ⟨W0, B, P, R, hW, hR, hP, hB, hb1, hp1, hr1, g0, -, -, hR0, -⟩ := three_new w (cz 15 b) 24 (cz 22 p) 31 (#[.int .i64 0, .int .i64 0]) 26
    rw [hW, hR, hP, hB]
    have HB := Lib.hid hb1
    have HP := Lib.hid hp1
    have HR := Lib.hid hr1
    clear hW hR hP hB hb1 hp1 hr1
    go_upto_region 2 with (first | ((with_reducible show wpList _ _ _ (⟨_, .load 24 (.tmp 3), _, _, _, none⟩ :: _) _ _); refine wpList_load_row rfl 24 (.tmp 3) rfl B rfl 24 _ (0, 0) _ HB.out.raw Tryd.underlying24 rfl infoB ?_) | ((with_reducible show wpList _ _ _ (⟨_, .load 31 (.tmp 4), _, _, _, none⟩ :: _) _ _); refine wpList_load_row rfl 31 (.tmp 4) rfl P rfl 31 _ (0, 0) _ HP.out.raw Tryd.underlying31 rfl infoP ?_) | (go_at_call 21; with_reducible refine (rof_at b p j s c0 _ HJO).mono ?_; rintro r w1 ⟨rfl, hg⟩; replace g0 := g0.trans hg; replace HB := Lib.hid (HB.out.own hg); replace HR := Lib.hid (HR.out.own hg); clear HP; clear hg) | ((with_reducible show wpList _ _ _ (⟨_, .store 59 (.tmp 8) (.tmp 23), _, _, _, none⟩ :: _) _ _); refine wpList_store_row rfl 59 (.tmp 8) (.tmp 23) rfl _ (cz 33 (j)) rfl rfl 59 _ (heap_new _ _) infoJ rfl (cz_one _ _) ?_; rw [World.setRow_alloc_new]))
    obtain ⟨w2, A, hW, hBq, hb, hg, Ag⟩ := blk_new w1 (cz 33 j) 59
    rw [hW, hBq]
    have HA := Lib.hid hb
    replace g0 := g0.trans hg
    replace HB := Lib.hid (HB.out.own hg)
    replace HR := Lib.hid (HR.out.own hg)
    clear hW hBq hb hg
    clear Ag
    (first | go_frame | skip)
    clear HA HB
    go_wp2_with ((with_reducible show wpList _ _ _ (⟨_, .store 26 (.tmp 6) (.tmp 27), _, _, _, none⟩ :: _) _ _); refine wpList_store_row rfl 26 (.tmp 6) (.tmp 27) rfl R #[.int .i64 0, .int .i64 0] rfl rfl 26 _ HR.out.raw infoPt rfl (by simp [Value.oneCell']) ?_)
    have hp := HR.out.row (#[.int .i64 0, .int .i64 0])
    exact bodyPost_ret (blk_results rfl rfl rfl hp Tryd.underlying26 rfl infoPt) rfl ⟨rfl, own_setRow g0 hR0 _⟩
end Go.Proofs.YtighpjhipgobiaaDoor.BalW
