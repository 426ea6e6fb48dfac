/-
  Walks of the program of package balance: the coordinates, the mean of one coordinate. Condition: none.
-/
import Derived.Test.YtighpjhipgobiaaDoorBalancePA
import Derived.Test.YtighpjhipgobiaaDoorPartMore
namespace Go.Proofs.YtighpjhipgobiaaDoor.BalW
open Go.ChangeShapes Go.WideShapes Go.ChangeAt Go.RowKit
open PairW AimP AimW BlkW PrtW PstP PstW JntP JntW RegD BalP AngP
/-- The sum of the first k parts. -/
def psm (b j : Vl) (c : Nat) : Nat → Int
  | 0 => 0
  | k + 1 => psm b j c k + pa b j (k * 7 + 6) * (pa b j (k * 7 + c) + pa b j (k * 7 + (3 + c)))
theorem pa_in {b j : Vl} (hb : BuiP.chk b = 0) (hj : ∀ i, i < 33 → -40000 ≤ j i ∧ j i ≤ 40000) {k : Nat} (hk : k < 6) : (1 ≤ pa b j (k * 7 + 6) ∧ pa b j (k * 7 + 6) ≤ 200000) ∧ ∀ c, c < 6 → -40000 ≤ pa b j (k * 7 + c) ∧ pa b j (k * 7 + c) ≤ 40000 := by
  obtain ⟨⟨a0, a1, a2⟩, ⟨a3, a4, a5⟩, a6⟩ := pa_at b j k
  obtain ⟨-, m1, m2, m3, m4⟩ := mas_is hb
  have hf : ∀ k, k < 6 → pfr k + 2 < 33 ∧ pto k + 2 < 33 ∧ (pmk k = 0 ∨ pmk k = 1 ∨ pmk k = 2 ∨ pmk k = 3) := by decide
  obtain ⟨f1, f2, f3⟩ := hf k hk
  refine ⟨?_, fun c hc => ?_⟩
  · rw [a6]
    rcases f3 with e | e | e | e <;> rw [e] <;> assumption
  · have t : c = 0 ∨ c = 1 ∨ c = 2 ∨ c = 3 ∨ c = 4 ∨ c = 5 := by omega
    rcases t with rfl | rfl | rfl | rfl | rfl | rfl
    · rw [show k * 7 + 0 = k * 7 from rfl, a0]; exact hj _ (by omega)
    · rw [a1]; exact hj _ (by omega)
    · rw [a2]; exact hj _ (by omega)
    · rw [a3]; exact hj _ (by omega)
    · rw [a4]; exact hj _ (by omega)
    · rw [a5]; exact hj _ (by omega)
theorem psm_bd {b j : Vl} (hb : BuiP.chk b = 0) (hj : ∀ i, i < 33 → -40000 ≤ j i ∧ j i ≤ 40000) {c : Nat} (hc : c < 2) : ∀ k : Nat, k ≤ 6 → -(16000000000 * (k : Int)) ≤ psm b j c k ∧ psm b j c k ≤ 16000000000 * (k : Int)
  | 0, _ => ⟨Int.le_refl _, Int.le_refl _⟩
  | k + 1, hk => by
    have ih := psm_bd hb hj hc k (by omega)
    obtain ⟨hm, hp⟩ := pa_in hb hj (k := k) (by omega)
    have h1 := hp c (by omega)
    have h2 := hp (3 + c) (by omega)
    have h3 : -(200000 * 80000) ≤ pa b j (k * 7 + 6) * (pa b j (k * 7 + c) + pa b j (k * 7 + (3 + c))) ∧ pa b j (k * 7 + 6) * (pa b j (k * 7 + c) + pa b j (k * 7 + (3 + c))) ≤ 200000 * 80000 := prod_bd (m := 200000) (k := 80000) (by omega) (by omega)
    show -(16000000000 * ((k + 1 : Nat) : Int)) ≤ psm b j c k + _ ∧ psm b j c k + _ ≤ 16000000000 * ((k + 1 : Nat) : Int)
    omega
theorem psm_all (b j : Vl) {c : Nat} (hc : c < 2) : psm b j c 6 = wsm b j c := by
  have t : c = 0 ∨ c = 1 := by omega
  have e : psm b j c 6 = 0 + pa b j (0 * 7 + 6) * (pa b j (0 * 7 + c) + pa b j (0 * 7 + (3 + c))) + pa b j (1 * 7 + 6) * (pa b j (1 * 7 + c) + pa b j (1 * 7 + (3 + c))) + pa b j (2 * 7 + 6) * (pa b j (2 * 7 + c) + pa b j (2 * 7 + (3 + c))) + pa b j (3 * 7 + 6) * (pa b j (3 * 7 + c) + pa b j (3 * 7 + (3 + c))) + pa b j (4 * 7 + 6) * (pa b j (4 * 7 + c) + pa b j (4 * 7 + (3 + c))) + pa b j (5 * 7 + 6) * (pa b j (5 * 7 + c) + pa b j (5 * 7 + (3 + c))) := rfl
  rw [e, Int.zero_add]
  rcases t with rfl | rfl <;> rfl
/-- What one round of the sum wants. -/
theorem psm_step {b j : Vl} (hb : BuiP.chk b = 0) (hj : ∀ i, i < 33 → -40000 ≤ j i ∧ j i ≤ 40000) {c : Nat} (hc : c < 2) {k : Nat} (hk : k < 6) {m u v s : Int} (hm : pa b j (k * 7 + 6) = m) (hu : pa b j (k * 7 + c) = u) (hv : pa b j (k * 7 + (3 + c)) = v) (hs : psm b j c k = s) :
    IntKind.i64.wrap (u + v) = u + v ∧ IntKind.i64.wrap (m * (u + v)) = m * (u + v) ∧ IntKind.i64.wrap (s + m * (u + v)) = psm b j c (k + 1) := by
  have h1 := psm_bd hb hj hc (k + 1) (by omega)
  obtain ⟨hmm, hp⟩ := pa_in hb hj (k := k) (by omega)
  have h2 := hp c (by omega)
  have h3 := hp (3 + c) (by omega)
  have e : psm b j c (k + 1) = s + m * (u + v) := by show psm b j c k + _ = _; rw [hs, hm, hu, hv]
  rw [hu] at h2
  rw [hv] at h3
  rw [hm] at hmm
  have h4 : -(200000 * 80000) ≤ m * (u + v) ∧ m * (u + v) ≤ 200000 * 80000 := prod_bd (m := 200000) (k := 80000) (by omega) (by omega)
  rw [e] at h1
  refine ⟨IntWalk.i64_in _ (by omega), IntWalk.i64_in _ (by omega), ?_⟩
  rw [e]
  exact IntWalk.i64_in _ (by omega)
set_option maxRecDepth 100000 in
set_option maxHeartbeats 2000000 in
theorem bco0_at (x y z : Int) (w : World) :
    Calls Tryd.prog 52 #[.agg #[.int .i64 x, .int .i64 y, .int .i64 z]] w fun r w' => r = .returned (.int .i64 x) ∧ Own w w' := by
  go_enter Tryd.func52, Tryd.ntmps52
  go_upto_region 1 with (fail)
  obtain ⟨W0, B, hW, hBq, hb1, g0, -⟩ := blk_new w (#[.int .i64 x, .int .i64 y, .int .i64 z]) 56
  rw [hW, hBq]
  obtain ⟨k0, k1, -⟩ := hb1.three
  clear hW hBq hb1
  go_wp2
  go_ret
  exact ⟨rfl, g0⟩
set_option maxRecDepth 100000 in
set_option maxHeartbeats 2000000 in
theorem bco1_at (x y z : Int) (w : World) :
    Calls Tryd.prog 53 #[.agg #[.int .i64 x, .int .i64 y, .int .i64 z]] w fun r w' => r = .returned (.int .i64 y) ∧ Own w w' := by
  go_enter Tryd.func53, Tryd.ntmps53
  go_upto_region 1 with (fail)
  obtain ⟨W0, B, hW, hBq, hb1, g0, -⟩ := blk_new w (#[.int .i64 x, .int .i64 y, .int .i64 z]) 56
  rw [hW, hBq]
  obtain ⟨k0, k1, -⟩ := hb1.three
  clear hW hBq hb1
  go_wp2
  go_ret
  exact ⟨rfl, g0⟩
set_option maxRecDepth 100000 in
set_option maxHeartbeats 2000000 in
theorem bmean0_at (b j : Vl) (ma x : Int) (S D g cp : Nat) (w : World) (hb : BuiP.chk b = 0) (hj : ∀ i, i < 33 → -40000 ≤ j i ∧ j i ≤ 40000) (hma : -1000000000 ≤ ma ∧ ma ≤ 1000000000) (hS : w.cell? ⟨S, 0, none⟩ = some (.slice (some ⟨g, 0, none⟩) 6 cp)) (hD : w.cell? ⟨D, 0, none⟩ = some (.int .i64 ma))
    (hg : ∀ i, i < 42 → w.cell? ⟨g, i, none⟩ = some (.int .i64 (pa b j i))) (HV : Hid (NumP.roundV (wsm b j 0) (2 * ma) = x ∧ NumP.roundE (wsm b j 0) (2 * ma) = 0)) :
    Calls Tryd.prog 50 #[.func (.func 52) #[] #[], .pointer (some ⟨S, 0, none⟩), .pointer (some ⟨D, 0, none⟩)] w fun r w' => r = .returned (.int .i64 x) ∧ Own w w' := by
  have HG := Lib.hid hg
  have HD := Lib.hid hD
  have HST := Lib.hid (fun k (hk : k < 6) m u v s => psm_step hb hj (c := 0) (by omega) (k := k) hk (m := m) (u := u) (v := v) (s := s))
  have HBD := Lib.hid (psm_bd hb hj (c := 0) (by omega) 6 (by omega))
  clear hb hj hg hD
  go_enter Tryd.func50, Tryd.ntmps50
  go_wp2
  go_loopw [5, 12] (fun sv vi wr => ∃ k : Nat, vi = .int .i64 (k : Int) ∧ k ≤ 6 ∧ sv = .int .i64 (psm b j 0 k) ∧ Own w wr) (fun _ vi _ => 6 - (intOf vi).toNat)
  case atStart => exact ⟨0, rfl, by omega, rfl, Own.refl w⟩
  case round =>
    obtain ⟨k, rfl, hk, rfl, g0⟩ := hrel
    by_cases hlt : k < 6
    · have hkn : (k : Int) < 6 := by omega
      obtain ⟨u0, hu0⟩ : ∃ x, pa b j (k * 7) = x := ⟨_, rfl⟩
      obtain ⟨u1, hu1⟩ : ∃ x, pa b j (k * 7 + 1) = x := ⟨_, rfl⟩
      obtain ⟨u2, hu2⟩ : ∃ x, pa b j (k * 7 + 2) = x := ⟨_, rfl⟩
      obtain ⟨v0, hv0⟩ : ∃ x, pa b j (k * 7 + 3) = x := ⟨_, rfl⟩
      obtain ⟨v1, hv1⟩ : ∃ x, pa b j (k * 7 + 4) = x := ⟨_, rfl⟩
      obtain ⟨v2, hv2⟩ : ∃ x, pa b j (k * 7 + 5) = x := ⟨_, rfl⟩
      obtain ⟨m, hm⟩ : ∃ x, pa b j (k * 7 + 6) = x := ⟨_, rfl⟩
      obtain ⟨s, hs⟩ : ∃ x, psm b j 0 k = x := ⟨_, rfl⟩
      obtain ⟨i1, i2, i3⟩ := HST.out k hlt m u0 v0 s hm hu0 hv0 hs
      rw [hs]
      obtain ⟨s2, hs2⟩ : ∃ x, psm b j 0 (k + 1) = x := ⟨_, rfl⟩
      rw [hs2] at i3
      have HS2 := Lib.hid hs2
      have HL7 := Lib.hid (show Lie wr g (k * 7) #[.int .i64 u0, .int .i64 u1, .int .i64 u2, .int .i64 v0, .int .i64 v1, .int .i64 v2, .int .i64 m] from by
        have h : Lie wr g (k * 7) (cz 7 (fun i => pa b j (k * 7 + i))) := lie_cz fun i hi => g0.cell (HG.out (k * 7 + i) (by omega))
        rw [show cz 7 (fun i => pa b j (k * 7 + i)) = #[.int .i64 u0, .int .i64 u1, .int .i64 u2, .int .i64 v0, .int .i64 v1, .int .i64 v2, .int .i64 m] from by rw [← hu0, ← hu1, ← hu2, ← hv0, ← hv1, ← hv2, ← hm]; rfl] at h
        exact h)
      clear hu0 hu1 hu2 hv0 hv1 hv2 hm hs hs2
      go_upto_region 5 with (first | ((with_reducible show wpList _ _ _ (⟨_, .load 102 (.tmp 14), _, _, _, none⟩ :: _) _ _); refine wpList_load_lie rfl 102 (.tmp 14) rfl g (k * 7) rfl (#[.int .i64 u0, .int .i64 u1, .int .i64 u2, .int .i64 v0, .int .i64 v1, .int .i64 v2, .int .i64 m]) HL7.out _ Tryd.underlying102 rfl infoPr ?_) | ((with_reducible show wpList _ _ _ (⟨_, .store 102 (.tmp 7) (.tmp 15), _, _, _, none⟩ :: _) _ _); refine wpList_store_row rfl 102 (.tmp 7) (.tmp 15) rfl _ #[.int .i64 u0, .int .i64 u1, .int .i64 u2, .int .i64 v0, .int .i64 v1, .int .i64 v2, .int .i64 m] rfl rfl 102 _ (heap_new _ _) infoPr rfl (by simp [Value.oneCell']) ?_; rw [World.setRow_alloc_new]))
      obtain ⟨w1, E, hW, hBq, hb, hg, Eg⟩ := blk_new wr (#[.int .i64 u0, .int .i64 u1, .int .i64 u2, .int .i64 v0, .int .i64 v1, .int .i64 v2, .int .i64 m]) 102
      rw [hW, hBq]
      have HE := Lib.hid hb
      replace g0 := g0.trans hg
      clear hW hBq hb hg
      clear Eg HL7
      (first | go_frame | skip)
      have HL := Lib.hid (show Lie w1 E 0 #[.int .i64 u0, .int .i64 u1, .int .i64 u2] from fun i v hv => by
        have := HE.out.cell (0 + i)
        rw [this]
        match i, hv with
        | 0, hv => exact hv
        | 1, hv => exact hv
        | 2, hv => exact hv)
      have HL3 := Lib.hid (show Lie w1 E 3 #[.int .i64 v0, .int .i64 v1, .int .i64 v2] from fun i v hv => by
        have := HE.out.cell (3 + i)
        rw [this]
        match i, hv with
        | 0, hv => exact hv
        | 1, hv => exact hv
        | 2, hv => exact hv)
      refine RegD.region_dutyLO [16, 17, 18, 19, 20, 21, 22, 23, 24, 25, 26, 27, 28, 29] (RegI.upd (RegI.upd (RegI.upd (RegI.upd (RegI.upd (RegI.upd (RegI.upd (RegI.upd (RegI.upd (RegI.upd (RegI.upd (RegI.upd (RegI.upd (RegI.upd (fun _ => undef) 16 (.int .i64 s)) 17 (.pointer (some ⟨E, 6, none⟩))) 18 (.int .i64 m)) 19 (.func (.func 52) #[] #[])) 20 (.pointer (some ⟨E, 0, none⟩))) 21 (.agg #[.int .i64 u0, .int .i64 u1, .int .i64 u2])) 22 (.int .i64 u0)) 23 (.func (.func 52) #[] #[])) 24 (.pointer (some ⟨E, 3, none⟩))) 25 (.agg #[.int .i64 v0, .int .i64 v1, .int .i64 v2])) 26 (.int .i64 v0)) 27 (.int .i64 (u0 + v0))) 28 (.int .i64 (m * (u0 + v0)))) 29 (.int .i64 s2)) (by kernel_rfl) (by kernel_rfl) (by intro d hd; simp at hd; simp; omega) ?_
      simp only [RegD.FF, RegI.FX, RegI.upd, List.foldl_cons, List.foldl_nil, List.not_mem_nil, if_true, if_false, Nat.reduceEqDiff]
      simp only [List.setIfInBounds_toArray, List.set_cons_succ, List.set_cons_zero]
      refine And.intro ?hs1 ?he1
      case hs1 =>
        refine And.intro ?s1_0 (And.intro ?s1_1 (And.intro ?s1_2 (And.intro ?s1_3 (And.intro ?s1_4 (And.intro ?s1_5 (And.intro ?s1_6 (And.intro ?s1_7 (And.intro ?s1_8 (And.intro ?s1_9 (And.intro ?s1_10 (And.intro ?s1_11 (And.intro ?s1_12 (And.intro ?s1_13 (trivial))))))))))))))
        case s1_0 =>
          intro u w1 hO
          go_wp2
          exact ⟨rfl, rfl, rfl, Own.refl _⟩
        case s1_1 =>
          intro u w1 hO
          go_wp2
          exact ⟨rfl, rfl, rfl, Own.refl _⟩
        case s1_2 =>
          intro u w1 hO
          have kk := (HE.out.own hO).cell 6
          go_wp2
          exact ⟨rfl, rfl, rfl, Own.refl _⟩
        case s1_3 =>
          intro u w1 hO
          go_wp2
          exact ⟨rfl, rfl, rfl, Own.refl _⟩
        case s1_4 =>
          intro u w1 hO
          go_wp2
          exact ⟨rfl, rfl, rfl, Own.refl _⟩
        case s1_5 =>
          intro u w1 hO
          have HB9 := Lib.hid (HL.out.own hO)
          go_wp2_with ((with_reducible show wpList _ _ _ (⟨_, .load 56 (.tmp 20), _, _, _, none⟩ :: _) _ _); refine wpList_load_lie rfl 56 (.tmp 20) rfl E (0) rfl (#[.int .i64 u0, .int .i64 u1, .int .i64 u2]) HB9.out _ Tryd.underlying56 rfl infoV ?_)
          exact ⟨rfl, rfl, rfl, Own.refl _⟩
        case s1_6 =>
          intro u w1 hO
          go_wp2_with (go_at_call 52; with_reducible refine (bco0_at u0 u1 u2 _).mono ?_; rintro r w2 ⟨rfl, hg⟩)
          exact ⟨rfl, rfl, rfl, hg⟩
        case s1_7 =>
          intro u w1 hO
          go_wp2
          exact ⟨rfl, rfl, rfl, Own.refl _⟩
        case s1_8 =>
          intro u w1 hO
          go_wp2
          exact ⟨rfl, rfl, rfl, Own.refl _⟩
        case s1_9 =>
          intro u w1 hO
          have HB9 := Lib.hid (HL3.out.own hO)
          go_wp2_with ((with_reducible show wpList _ _ _ (⟨_, .load 56 (.tmp 24), _, _, _, none⟩ :: _) _ _); refine wpList_load_lie rfl 56 (.tmp 24) rfl E (3) rfl (#[.int .i64 v0, .int .i64 v1, .int .i64 v2]) HB9.out _ Tryd.underlying56 rfl infoV ?_)
          exact ⟨rfl, rfl, rfl, Own.refl _⟩
        case s1_10 =>
          intro u w1 hO
          go_wp2_with (go_at_call 52; with_reducible refine (bco0_at v0 v1 v2 _).mono ?_; rintro r w2 ⟨rfl, hg⟩)
          exact ⟨rfl, rfl, rfl, hg⟩
        case s1_11 =>
          intro u w1 hO
          go_wp2
          exact ⟨rfl, rfl, rfl, Own.refl _⟩
        case s1_12 =>
          intro u w1 hO
          go_wp2
          exact ⟨rfl, rfl, rfl, Own.refl _⟩
        case s1_13 =>
          intro u w1 hO
          go_wp2
          exact ⟨rfl, rfl, rfl, Own.refl _⟩
      intro u w9 hO
      replace g0 := g0.trans hO
      clear HE HL HL3 i1 i2 i3 hO
      change wpList _ _ _ [⟨_, _, _, _, _, _⟩] _ _
      go_wp2
      go_roundw
      case rel => exact ⟨k + 1, by go_num, hlt, by rw [HS2.out], g0⟩
      case measure => simp [intOf]; omega
    · obtain rfl : k = 6 := by omega
      have hps := psm_all b j (c := 0) (by omega)
      have hbd := HBD.out
      rw [hps] at hbd
      rw [hps]
      obtain ⟨sw, hsw⟩ : ∃ x, wsm b j 0 = x := ⟨_, rfl⟩
      rw [hsw] at hbd HV
      rw [hsw]
      have hd := g0.cell HD.out
      have i4 : IntKind.i64.wrap (2 * ma) = 2 * ma := IntWalk.i64_in _ (by omega)
      clear hps hsw
      go_wp2_with (go_at_call 51; with_reducible refine (NumW.round_at sw (2 * ma) x 0 _ HV (by omega) (by omega) (by omega) (by omega)).mono ?_; rintro r w1 ⟨rfl, hdr⟩; have hg9 := own_dr hdr; replace g0 : Own w w1 := g0.trans hg9; clear hdr hg9)
      go_ret
      exact ⟨rfl, g0⟩
set_option maxRecDepth 100000 in
set_option maxHeartbeats 2000000 in
theorem bmean1_at (b j : Vl) (ma x : Int) (S D g cp : Nat) (w : World) (hb : BuiP.chk b = 0) (hj : ∀ i, i < 33 → -40000 ≤ j i ∧ j i ≤ 40000) (hma : -1000000000 ≤ ma ∧ ma ≤ 1000000000) (hS : w.cell? ⟨S, 0, none⟩ = some (.slice (some ⟨g, 0, none⟩) 6 cp)) (hD : w.cell? ⟨D, 0, none⟩ = some (.int .i64 ma))
    (hg : ∀ i, i < 42 → w.cell? ⟨g, i, none⟩ = some (.int .i64 (pa b j i))) (HV : Hid (NumP.roundV (wsm b j 1) (2 * ma) = x ∧ NumP.roundE (wsm b j 1) (2 * ma) = 0)) :
    Calls Tryd.prog 50 #[.func (.func 53) #[] #[], .pointer (some ⟨S, 0, none⟩), .pointer (some ⟨D, 0, none⟩)] w fun r w' => r = .returned (.int .i64 x) ∧ Own w w' := by
  have HG := Lib.hid hg
  have HD := Lib.hid hD
  have HST := Lib.hid (fun k (hk : k < 6) m u v s => psm_step hb hj (c := 1) (by omega) (k := k) hk (m := m) (u := u) (v := v) (s := s))
  have HBD := Lib.hid (psm_bd hb hj (c := 1) (by omega) 6 (by omega))
  clear hb hj hg hD
  go_enter Tryd.func50, Tryd.ntmps50
  go_wp2
  go_loopw [5, 12] (fun sv vi wr => ∃ k : Nat, vi = .int .i64 (k : Int) ∧ k ≤ 6 ∧ sv = .int .i64 (psm b j 1 k) ∧ Own w wr) (fun _ vi _ => 6 - (intOf vi).toNat)
  case atStart => exact ⟨0, rfl, by omega, rfl, Own.refl w⟩
  case round =>
    obtain ⟨k, rfl, hk, rfl, g0⟩ := hrel
    by_cases hlt : k < 6
    · have hkn : (k : Int) < 6 := by omega
      obtain ⟨u0, hu0⟩ : ∃ x, pa b j (k * 7) = x := ⟨_, rfl⟩
      obtain ⟨u1, hu1⟩ : ∃ x, pa b j (k * 7 + 1) = x := ⟨_, rfl⟩
      obtain ⟨u2, hu2⟩ : ∃ x, pa b j (k * 7 + 2) = x := ⟨_, rfl⟩
      obtain ⟨v0, hv0⟩ : ∃ x, pa b j (k * 7 + 3) = x := ⟨_, rfl⟩
      obtain ⟨v1, hv1⟩ : ∃ x, pa b j (k * 7 + 4) = x := ⟨_, rfl⟩
      obtain ⟨v2, hv2⟩ : ∃ x, pa b j (k * 7 + 5) = x := ⟨_, rfl⟩
      obtain ⟨m, hm⟩ : ∃ x, pa b j (k * 7 + 6) = x := ⟨_, rfl⟩
      obtain ⟨s, hs⟩ : ∃ x, psm b j 1 k = x := ⟨_, rfl⟩
      obtain ⟨i1, i2, i3⟩ := HST.out k hlt m u1 v1 s hm hu1 hv1 hs
      rw [hs]
      obtain ⟨s2, hs2⟩ : ∃ x, psm b j 1 (k + 1) = x := ⟨_, rfl⟩
      rw [hs2] at i3
      have HS2 := Lib.hid hs2
      have HL7 := Lib.hid (show Lie wr g (k * 7) #[.int .i64 u0, .int .i64 u1, .int .i64 u2, .int .i64 v0, .int .i64 v1, .int .i64 v2, .int .i64 m] from by
        have h : Lie wr g (k * 7) (cz 7 (fun i => pa b j (k * 7 + i))) := lie_cz fun i hi => g0.cell (HG.out (k * 7 + i) (by omega))
        rw [show cz 7 (fun i => pa b j (k * 7 + i)) = #[.int .i64 u0, .int .i64 u1, .int .i64 u2, .int .i64 v0, .int .i64 v1, .int .i64 v2, .int .i64 m] from by rw [← hu0, ← hu1, ← hu2, ← hv0, ← hv1, ← hv2, ← hm]; rfl] at h
        exact h)
      clear hu0 hu1 hu2 hv0 hv1 hv2 hm hs hs2
      go_upto_region 5 with (first | ((with_reducible show wpList _ _ _ (⟨_, .load 102 (.tmp 14), _, _, _, none⟩ :: _) _ _); refine wpList_load_lie rfl 102 (.tmp 14) rfl g (k * 7) rfl (#[.int .i64 u0, .int .i64 u1, .int .i64 u2, .int .i64 v0, .int .i64 v1, .int .i64 v2, .int .i64 m]) HL7.out _ Tryd.underlying102 rfl infoPr ?_) | ((with_reducible show wpList _ _ _ (⟨_, .store 102 (.tmp 7) (.tmp 15), _, _, _, none⟩ :: _) _ _); refine wpList_store_row rfl 102 (.tmp 7) (.tmp 15) rfl _ #[.int .i64 u0, .int .i64 u1, .int .i64 u2, .int .i64 v0, .int .i64 v1, .int .i64 v2, .int .i64 m] rfl rfl 102 _ (heap_new _ _) infoPr rfl (by simp [Value.oneCell']) ?_; rw [World.setRow_alloc_new]))
      obtain ⟨w1, E, hW, hBq, hb, hg, Eg⟩ := blk_new wr (#[.int .i64 u0, .int .i64 u1, .int .i64 u2, .int .i64 v0, .int .i64 v1, .int .i64 v2, .int .i64 m]) 102
      rw [hW, hBq]
      have HE := Lib.hid hb
      replace g0 := g0.trans hg
      clear hW hBq hb hg
      clear Eg HL7
      (first | go_frame | skip)
      have HL := Lib.hid (show Lie w1 E 0 #[.int .i64 u0, .int .i64 u1, .int .i64 u2] from fun i v hv => by
        have := HE.out.cell (0 + i)
        rw [this]
        match i, hv with
        | 0, hv => exact hv
        | 1, hv => exact hv
        | 2, hv => exact hv)
      have HL3 := Lib.hid (show Lie w1 E 3 #[.int .i64 v0, .int .i64 v1, .int .i64 v2] from fun i v hv => by
        have := HE.out.cell (3 + i)
        rw [this]
        match i, hv with
        | 0, hv => exact hv
        | 1, hv => exact hv
        | 2, hv => exact hv)
      refine RegD.region_dutyLO [16, 17, 18, 19, 20, 21, 22, 23, 24, 25, 26, 27, 28, 29] (RegI.upd (RegI.upd (RegI.upd (RegI.upd (RegI.upd (RegI.upd (RegI.upd (RegI.upd (RegI.upd (RegI.upd (RegI.upd (RegI.upd (RegI.upd (RegI.upd (fun _ => undef) 16 (.int .i64 s)) 17 (.pointer (some ⟨E, 6, none⟩))) 18 (.int .i64 m)) 19 (.func (.func 53) #[] #[])) 20 (.pointer (some ⟨E, 0, none⟩))) 21 (.agg #[.int .i64 u0, .int .i64 u1, .int .i64 u2])) 22 (.int .i64 u1)) 23 (.func (.func 53) #[] #[])) 24 (.pointer (some ⟨E, 3, none⟩))) 25 (.agg #[.int .i64 v0, .int .i64 v1, .int .i64 v2])) 26 (.int .i64 v1)) 27 (.int .i64 (u1 + v1))) 28 (.int .i64 (m * (u1 + v1)))) 29 (.int .i64 s2)) (by kernel_rfl) (by kernel_rfl) (by intro d hd; simp at hd; simp; omega) ?_
      simp only [RegD.FF, RegI.FX, RegI.upd, List.foldl_cons, List.foldl_nil, List.not_mem_nil, if_true, if_false, Nat.reduceEqDiff]
      simp only [List.setIfInBounds_toArray, List.set_cons_succ, List.set_cons_zero]
      refine And.intro ?hs2 ?he2
      case hs2 =>
        refine And.intro ?s2_0 (And.intro ?s2_1 (And.intro ?s2_2 (And.intro ?s2_3 (And.intro ?s2_4 (And.intro ?s2_5 (And.intro ?s2_6 (And.intro ?s2_7 (And.intro ?s2_8 (And.intro ?s2_9 (And.intro ?s2_10 (And.intro ?s2_11 (And.intro ?s2_12 (And.intro ?s2_13 (trivial))))))))))))))
        case s2_0 =>
          intro u w1 hO
          go_wp2
          exact ⟨rfl, rfl, rfl, Own.refl _⟩
        case s2_1 =>
          intro u w1 hO
          go_wp2
          exact ⟨rfl, rfl, rfl, Own.refl _⟩
        case s2_2 =>
          intro u w1 hO
          have kk := (HE.out.own hO).cell 6
          go_wp2
          exact ⟨rfl, rfl, rfl, Own.refl _⟩
        case s2_3 =>
          intro u w1 hO
          go_wp2
          exact ⟨rfl, rfl, rfl, Own.refl _⟩
        case s2_4 =>
          intro u w1 hO
          go_wp2
          exact ⟨rfl, rfl, rfl, Own.refl _⟩
        case s2_5 =>
          intro u w1 hO
          have HB9 := Lib.hid (HL.out.own hO)
          go_wp2_with ((with_reducible show wpList _ _ _ (⟨_, .load 56 (.tmp 20), _, _, _, none⟩ :: _) _ _); refine wpList_load_lie rfl 56 (.tmp 20) rfl E (0) rfl (#[.int .i64 u0, .int .i64 u1, .int .i64 u2]) HB9.out _ Tryd.underlying56 rfl infoV ?_)
          exact ⟨rfl, rfl, rfl, Own.refl _⟩
        case s2_6 =>
          intro u w1 hO
          go_wp2_with (go_at_call 53; with_reducible refine (bco1_at u0 u1 u2 _).mono ?_; rintro r w2 ⟨rfl, hg⟩)
          exact ⟨rfl, rfl, rfl, hg⟩
        case s2_7 =>
          intro u w1 hO
          go_wp2
          exact ⟨rfl, rfl, rfl, Own.refl _⟩
        case s2_8 =>
          intro u w1 hO
          go_wp2
          exact ⟨rfl, rfl, rfl, Own.refl _⟩
        case s2_9 =>
          intro u w1 hO
          have HB9 := Lib.hid (HL3.out.own hO)
          go_wp2_with ((with_reducible show wpList _ _ _ (⟨_, .load 56 (.tmp 24), _, _, _, none⟩ :: _) _ _); refine wpList_load_lie rfl 56 (.tmp 24) rfl E (3) rfl (#[.int .i64 v0, .int .i64 v1, .int .i64 v2]) HB9.out _ Tryd.underlying56 rfl infoV ?_)
          exact ⟨rfl, rfl, rfl, Own.refl _⟩
        case s2_10 =>
          intro u w1 hO
          go_wp2_with (go_at_call 53; with_reducible refine (bco1_at v0 v1 v2 _).mono ?_; rintro r w2 ⟨rfl, hg⟩)
          exact ⟨rfl, rfl, rfl, hg⟩
        case s2_11 =>
          intro u w1 hO
          go_wp2
          exact ⟨rfl, rfl, rfl, Own.refl _⟩
        case s2_12 =>
          intro u w1 hO
          go_wp2
          exact ⟨rfl, rfl, rfl, Own.refl _⟩
        case s2_13 =>
          intro u w1 hO
          go_wp2
          exact ⟨rfl, rfl, rfl, Own.refl _⟩
      intro u w9 hO
      replace g0 := g0.trans hO
      clear HE HL HL3 i1 i2 i3 hO
      change wpList _ _ _ [⟨_, _, _, _, _, _⟩] _ _
      go_wp2
      go_roundw
      case rel => exact ⟨k + 1, by go_num, hlt, by rw [HS2.out], g0⟩
      case measure => simp [intOf]; omega
    · obtain rfl : k = 6 := by omega
      have hps := psm_all b j (c := 1) (by omega)
      have hbd := HBD.out
      rw [hps] at hbd
      rw [hps]
      obtain ⟨sw, hsw⟩ : ∃ x, wsm b j 1 = x := ⟨_, rfl⟩
      rw [hsw] at hbd HV
      rw [hsw]
      have hd := g0.cell HD.out
      have i4 : IntKind.i64.wrap (2 * ma) = 2 * ma := IntWalk.i64_in _ (by omega)
      clear hps hsw
      go_wp2_with (go_at_call 51; with_reducible refine (NumW.round_at sw (2 * ma) x 0 _ HV (by omega) (by omega) (by omega) (by omega)).mono ?_; rintro r w1 ⟨rfl, hdr⟩; have hg9 := own_dr hdr; replace g0 : Own w w1 := g0.trans hg9; clear hdr hg9)
      go_ret
      exact ⟨rfl, g0⟩
end Go.Proofs.YtighpjhipgobiaaDoor.BalW
