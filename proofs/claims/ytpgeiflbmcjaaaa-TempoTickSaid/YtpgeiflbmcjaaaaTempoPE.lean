/-
  Walks of the program of package tempo: Scaled. Condition: none.
-/
import Derived.Test.YtpgeiflbmcjaaaaTempoPA
import Derived.Test.YtpgeiflbmcjaaaaTempoMem
import Derived.Test.YtpgeiflbmcjaaaaNumD
import Derived.Deep.RegionWith
namespace Go.Proofs.Ytpgeiflbmcjaaaa.TemW
open Go.ChangeShapes Go.WideShapes Go.ChangeAt Go.RowKit
open PairW NumP TemP
theorem own_num {a b : World} (h : NumW.Drew a b) : Own a b := by
  obtain ⟨n, rfl⟩ := h
  exact (Own.refl a).drewN n
theorem run_max1 {P : Program} (x : Int) (W : World) (ts : Array TypeId) (t : TypeId) : (Builtin.max_ ts t #[.int .i64 1, .int .i64 x]).run P W = .ok (.int .i64 (max 1 x)) W := by
  simp [Builtin.max_, Builtin.max2]
  omega
/-- What has been filled in of a row of pairs. -/
def Fil2 (M : Nat → Pt) (k : Nat) (f : Nat → Value) : Prop := ∀ i, i < k → f (i * 2) = .int .i64 (M i).1 ∧ f (i * 2 + 1) = .int .i64 (M i).2
theorem fil2_start (M : Nat → Pt) (f : Nat → Value) : Fil2 M 0 f := fun _ hi => absurd hi (Nat.not_lt_zero _)
theorem fil2_step {M : Nat → Pt} {k : Nat} {f : Nat → Value} {x y : Int} (h : Fil2 M k f) (hx : M k = (x, y)) : Fil2 M (k + 1) (st (k * 2 + 1) (.int .i64 y) (st (k * 2) (.int .i64 x) f)) := by
  intro i hi
  rcases Nat.lt_or_ge i k with x | x
  · rw [st_ne (by omega), st_ne (by omega), st_ne (by omega), st_ne (by omega)]
    exact h i x
  · obtain rfl : i = k := by omega
    rw [hx]
    exact ⟨by rw [st_ne (by omega), st_eq rfl], st_eq rfl _ _⟩
theorem fil2_row {w : World} {base g n : Nat} {e : TypeId} {f : Nat → Value} {M : List Pt} (h : Fn w base g n e 2 f) (hl : M.length = n) (hf : Fil2 (at' M) n f) : w.ownsRow base e 2 (.slice (some ⟨g, 0, none⟩) n n) n (cellsP M) := h.pairs hl hf
theorem zero2 : ∀ i, (#[Value.int .i64 0, .int .i64 0] : Array Value)[i % 2]! = .int .i64 0 := fun i => by
  rcases (show i % 2 = 0 ∨ i % 2 = 1 by omega) with h | h <;> (rw [h]; rfl)
set_option maxRecDepth 100000 in
set_option maxHeartbeats 1000000 in
theorem pscaled_at (l : List Pt) (sv : Value) (p q : Int) (M : List Pt) (f : Int) (w : World) (HP : Hid (Pts w sv l)) (H : Hid (scE l p q = f ∧ scV l p q = M)) :
    Calls Try.prog 17 #[sv, .int .i64 p, .int .i64 q] w fun e w' => ∃ s', e = .returned (.tuple #[s', .int .i64 f]) ∧ w'.ownsRow w.heap.size 38 2 s' M.length (cellsP M) ∧ Own w w' := by
  obtain ⟨i0, hi, hz0, hz1, hz2⟩ := info_parts (show (Try.prog.info? 38).map (fun i => (i.zero, i.size, i.bytes)) = some (some (.agg #[.int .i64 0, .int .i64 0]), 2, 16) by kernel_rfl)
  have HI := Lib.hid hi
  have HZ0 := Lib.hid hz0
  have HZ1 := Lib.hid hz1
  have HZ2 := Lib.hid hz2
  clear hi hz0 hz1 hz2
  obtain ⟨c, hc⟩ : ∃ c, chkE l = c := ⟨_, rfl⟩
  have HC := Lib.hid hc
  have g0 : Own w w := Own.refl w
  by_cases h0 : c = 0
  · subst h0
    obtain ⟨u1, hu1⟩ : ∃ u, (decide (1 ≤ p) && decide (p ≤ 1000)) = u := ⟨_, rfl⟩
    obtain ⟨u2, hu2⟩ : ∃ u, (decide (1 ≤ q) && decide (q ≤ 1000)) = u := ⟨_, rfl⟩
    have hok : scOk p q = (u1 && u2) := by rw [← hu1, ← hu2]; rfl
    have HU1 := Lib.hid hu1
    have HU2 := Lib.hid hu2
    clear hu1 hu2
    by_cases hb : (u1 && u2) = true
    · obtain ⟨rfl, rfl⟩ : u1 = true ∧ u2 = true := by simpa using hb
      have hsc : scOk p q = true := hok
      have hm := chk_map.1 hc
      have HM := Lib.hid hm
      obtain ⟨A, cap, rfl, ha1, ha2, ha⟩ := HP.out.open
      obtain ⟨b, off, rfl, hcc⟩ := ha hm.n0
      unfold maxLen at ha2
      obtain ⟨n, hn⟩ : ∃ n, l.length = n := ⟨_, rfl⟩
      have HN := Lib.hid hn
      have hn0 : 0 < n := by rw [← hn]; exact hm.n0
      have hn1 : n ≤ 64 := by rw [← hn]; exact hm.n1
      rw [hn] at hcc ha1 HP ⊢
      have HCC := Lib.hid hcc
      have HOK := Lib.hid hsc
      have HBY := Lib.hid (show i0.bytes * n ≤ 281474976710656 by rw [HZ2.out]; omega)
      have HMX := Lib.hid (show n ≤ maxLen by unfold maxLen; omega)
      have hnn : (0 : Int) ≤ n := by omega
      have hpq := (scOk_iff p q).1 hsc
      clear ha hcc hok hb hsc hm hn hc
      go_enter Try.func17, Try.ntmps17
      go_wp2_with (first
        | (go_at_call 12; refine (pcheck_at l _ 0 _ (Lib.hid (HP.out.own g0)) HC).mono ?_; rintro e w1 ⟨rfl, hg⟩; replace g0 : Own w w1 := g0.trans hg; clear hg)
        | (go_at_call 37; (first | (with_reducible refine (pfactor_in p true _ HU1).mono ?_) | (with_reducible refine (pfactor_in q true _ HU2).mono ?_)); rintro e w2 ⟨rfl, hg⟩; replace g0 : Own w w2 := g0.trans hg; clear hg)
        | (at_make; refine wpList_make_full _ rfl _ _ 22 rfl w.heap.size 38 i0 (.agg #[.int .i64 0, .int .i64 0]) 2 Try.underlying22 HI.out HZ0.out HZ1.out _ _ _ _ n rfl rfl rfl rfl HBY.out HMX.out g0.size ?_; intro w3 hown3 hg3; have HR := Lib.hid (Fn.made (v := .int .i64 0) zero2 hown3); replace g0 : Own w w3 := g0.grown hg3 (by simp); clear hown3 hg3))
      have hwg : w.heap.size ≤ w2.heap.size := HR.out.ge
      generalize w2.heap.size = g at *
      go_loopw [32] (fun vi wr => ∃ k : Nat, vi = .int .i64 (k : Int) ∧ k ≤ n ∧ Own w wr ∧ (∃ F, Fn wr w.heap.size g n 38 2 F ∧ Fil2 (fun i => ((at' l i).1, scX p q (at' l i).2)) k F) ∧ ∀ i, i < k → nearV ((at' l i).2 * p) q ≤ 4194304) (fun vi _ => n - (intOf vi).toNat)
      case atStart => exact ⟨0, rfl, Nat.zero_le _, g0, ⟨_, HR.out, fil2_start _ _⟩, fun i hi => absurd hi (Nat.not_lt_zero _)⟩
      case round =>
        obtain ⟨k, rfl, hk, q0, ⟨F, hF, hfil⟩, hsm⟩ := hrel
        have HSM := Lib.hid hsm
        clear hsm
        by_cases hlt : k < n
        · have e0 := q0.cell (HCC.out k hlt).1
          have e1 := q0.cell (HCC.out k hlt).2
          have ho := ok_at HM.out.ok (k := k) (by rw [HN.out]; exact hlt)
          obtain ⟨⟨x, y⟩, hp⟩ : ∃ v, at' l k = v := ⟨_, rfl⟩
          have HXY := Lib.hid hp
          rw [hp] at e0 e1 ho
          simp only at e0 e1 ho
          clear hp
          obtain ⟨⟨s1, s2⟩, s3, s4, s5, s6⟩ := sc_bound (x := y) (p := p) (q := q) ho.2 HOK.out
          obtain ⟨v, hv⟩ : ∃ v, nearV (y * p) q = v := ⟨_, rfl⟩
          have HV := Lib.hid hv
          rw [hv] at s4 s5 s6
          have HRD := Lib.hid (And.intro s4 s3)
          have i1 : IntKind.i64.wrap (y * p) = y * p := IntWalk.i64_in _ (by omega)
          have w1' : -9223372036854775808 ≤ y * p := by omega
          have w2' : y * p ≤ 9223372036854775807 := by omega
          have w3' : -9223372036854775808 ≤ q := by omega
          have w4' : q ≤ 9223372036854775807 := by omega
          have hkn : (k : Int) < n := by omega
          obtain ⟨k0, k1, -, -⟩ := pt_new wr x y 38
          have g1 : Own wr (wr.alloc (.cells #[.int .i64 x, .int .i64 y] 38)) := (Own.refl wr).alloc _
          have hbt : g < wr.heap.size := hF.lt
          replace hF := hF.own g1
          replace q0 := q0.trans g1
          have hbg : g ≠ wr.heap.size := by omega
          have hbg2 : wr.heap.size ≠ g := by omega
          have HF := Lib.hid hF
          clear hv s1 s2 s3 s4 ho g1 hF
          by_cases hbig : 4194304 < v
          · have e := sc_big (p := p) (q := q) (chk_map.2 HM.out) HOK.out (k := k) (by rw [HN.out]; exact hlt) (by rw [HXY.out]; simp only; rw [HV.out]; exact hbig)
            obtain rfl : 1 = f := by rw [← H.out.1, e.1]
            obtain rfl : [] = M := by rw [← H.out.2, e.2]
            clear e
            go_upto_region 10 with (fail)
            generalize wr.alloc (.cells #[.int .i64 x, .int .i64 y] 38) = W0 at *
            go_wp2_with (go_at_call 38; refine (NumW.round_at _ _ v 0 _ HRD w1' w2' w3' w4').mono ?_; rintro e w5 ⟨rfl, hg⟩; replace q0 := q0.trans (own_num hg))
            go_ret2
            exact ⟨_, rfl, World.ownsRow_nil _ _ _ _, q0⟩
          · have hmx := fun (W : World) (ts : Array TypeId) (t : TypeId) => run_max1 (P := Try.prog) v W ts t
            obtain ⟨m, hm⟩ : ∃ m, max 1 v = m := ⟨_, rfl⟩
            have HMV := Lib.hid hm
            simp only [hm] at hmx
            clear hm
            go_upto_region 10 with (fail)
            generalize wr.alloc (.cells #[.int .i64 x, .int .i64 y] 38) = W0 at *
            generalize wr.heap.size = B at *
            go_upto_region 15 with (go_at_call 38; refine (NumW.round_at _ _ v 0 _ HRD w1' w2' w3' w4').mono ?_; rintro e w5 ⟨rfl, hg⟩; have hg' := own_num hg; replace q0 := q0.trans hg'; replace k0 := hg'.cell k0; replace HF := Lib.hid (HF.out.own hg'))
            have c0 := HF.out.cell (j := k * 2) (by omega)
            have c1 := HF.out.cell (j := k * 2 + 1) (by omega)
            have z0 := HF.out.frozen (k * 2)
            have z1 := HF.out.frozen (k * 2 + 1)
            have HF2 := Lib.hid ((HF.out.put (k * 2) (.int .i64 x)).put (k * 2 + 1) (.int .i64 m))
            have q5 : Own w ((w5.setCell ⟨g, k * 2, none⟩ (.int .i64 x)).setCell ⟨g, k * 2 + 1, none⟩ (.int .i64 m)) := (q0.setCell hwg _).setCell hwg _
            have HFI := Lib.hid (fil2_step hfil (x := x) (y := m) (by simp only [HXY.out]; unfold scX; rw [HV.out, HMV.out]))
            clear hfil
            go_wp2
            go_roundw
            case rel => exact ⟨k + 1, by go_num, hlt, q5, ⟨_, HF2.out, HFI.out⟩, fun i hi => by
              by_cases e : i = k
              · rw [e, HXY.out]; simp only; rw [HV.out]; omega
              · exact HSM.out i (by omega)⟩
            case measure => simp [intOf]; omega
        · obtain rfl : k = n := by omega
          have e := sc_ok (p := p) (q := q) (chk_map.2 HM.out) HOK.out (fun i hi => HSM.out i (by rw [← HN.out]; exact hi))
          obtain rfl : 0 = f := by rw [← H.out.1, e.1]
          have hMM : sc p q l = M := by rw [← H.out.2, e.2]
          have hml : M.length = k := by rw [← hMM, sc_len, HN.out]
          have HROW := Lib.hid (show wr.ownsRow w.heap.size 38 2 (.slice (some ⟨g, 0, none⟩) k k) M.length (cellsP M) by
            rw [hml]
            refine fil2_row hF hml (fun i hi => ?_)
            rw [← hMM, sc_at (by rw [HN.out]; exact hi)]
            exact hfil i hi)
          clear e hMM hml hfil hF
          go_wp2
          go_ret2
          exact ⟨_, rfl, HROW.out, q0⟩
    · obtain hb2 : (u1 && u2) = false := Bool.of_not_eq_true hb
      have e := sc_no hc (hok.trans hb2)
      obtain rfl : 1 = f := by rw [← H.out.1, e.1]
      obtain rfl : [] = M := by rw [← H.out.2, e.2]
      clear hc H e hok hb
      cases u1 with
      | false =>
        clear hb2
        go_enter Try.func17, Try.ntmps17
        go_wp2_with (first
          | (go_at_call 12; refine (pcheck_at l _ 0 _ HP HC).mono ?_; rintro e w1 ⟨rfl, hg⟩; replace g0 : Own w w1 := g0.trans hg; clear hg)
          | (go_at_call 37; refine (pfactor_in p false _ HU1).mono ?_; rintro e w2 ⟨rfl, hg⟩; replace g0 : Own w w2 := g0.trans hg; clear hg))
        go_ret2
        exact ⟨_, rfl, World.ownsRow_nil _ _ _ _, g0⟩
      | true =>
        obtain rfl : u2 = false := by simpa using hb2
        clear hb2
        go_enter Try.func17, Try.ntmps17
        go_wp2_with (first
          | (go_at_call 12; refine (pcheck_at l _ 0 _ HP HC).mono ?_; rintro e w1 ⟨rfl, hg⟩; replace g0 : Own w w1 := g0.trans hg; clear hg)
          | (go_at_call 37; (first | (with_reducible refine (pfactor_in p true _ HU1).mono ?_) | (with_reducible refine (pfactor_in q false _ HU2).mono ?_)); rintro e w2 ⟨rfl, hg⟩; replace g0 : Own w w2 := g0.trans hg; clear hg))
        go_ret2
        exact ⟨_, rfl, World.ownsRow_nil _ _ _ _, g0⟩
  · have e := sc_bad p q (show chkE l ≠ 0 by rw [hc]; exact h0)
    obtain rfl : c = f := by rw [← H.out.1, e.1, hc]
    obtain rfl : [] = M := by rw [← H.out.2, e.2]
    have d0 : (c != 0) = true := bne_iff_ne.2 h0
    clear hc H e
    go_enter Try.func17, Try.ntmps17
    go_wp2_with (go_at_call 12; refine (pcheck_at l _ c _ HP HC).mono ?_; rintro e w1 ⟨rfl, hg⟩; replace g0 : Own w w1 := g0.trans hg)
    go_ret2
    exact ⟨_, rfl, World.ownsRow_nil _ _ _ _, g0⟩
end Go.Proofs.Ytpgeiflbmcjaaaa.TemW
