/-
  Walks of the program of package tempo: Ramp. Condition: none.
-/
import Derived.Test.YtpgeiflbmcjaaaaTempoPE
namespace Go.Proofs.Ytpgeiflbmcjaaaa.TemW
open Go.ChangeShapes Go.WideShapes Go.ChangeAt Go.RowKit
open PairW NumP TemP
theorem rp_at (a n e f g : Int) {k i : Nat} (h : i < k) : at' (rp a n e f g k) i = rpAt a n e f g i := by
  unfold at' rp
  rw [List.getD_eq_getElem?_getD, List.getElem?_map, List.getElem?_range h]
  rfl
set_option maxRecDepth 100000 in
set_option maxHeartbeats 2000000 in
theorem pramp_at (a n e f g : Int) (M : List Pt) (er : Int) (w : World) (H : Hid (rpE a n e f g = er ∧ rpV a n e f g = M)) :
    Calls Try.prog 20 #[.int .i64 a, .int .i64 n, .int .i64 e, .int .i64 f, .int .i64 g] w fun ee w' => ∃ s', ee = .returned (.tuple #[s', .int .i64 er]) ∧ w'.ownsRow w.heap.size 38 2 s' M.length (cellsP M) ∧ Own w w' := by
  obtain ⟨i0, hi, hz0, hz1, hz2⟩ := info_parts (show (Try.prog.info? 38).map (fun i => (i.zero, i.size, i.bytes)) = some (some (.agg #[.int .i64 0, .int .i64 0]), 2, 16) by kernel_rfl)
  have HI := Lib.hid hi
  have HZ0 := Lib.hid hz0
  have HZ1 := Lib.hid hz1
  have HZ2 := Lib.hid hz2
  clear hi hz0 hz1 hz2
  have g0 : Own w w := Own.refl w
  obtain ⟨u1, hu1⟩ : ∃ u, (decide (0 ≤ a) && decide (a ≤ 8192)) = u := ⟨_, rfl⟩
  obtain ⟨u2, hu2⟩ : ∃ u, (decide (1 ≤ f) && decide (f ≤ 1048576)) = u := ⟨_, rfl⟩
  obtain ⟨u3, hu3⟩ : ∃ u, (decide (1 ≤ g) && decide (g ≤ 1048576)) = u := ⟨_, rfl⟩
  have HU1 := Lib.hid hu1
  have HU2 := Lib.hid hu2
  have HU3 := Lib.hid hu3
  have HNO := Lib.hid (fun h : rpOk a n e f g = false => rp_no h)
  have HOKU := Lib.hid (show rpOk a n e f g = (u1 && u2 && u3 && (decide (1 ≤ n) && decide (n ≤ 63)) && (decide (1 ≤ e) && decide (e ≤ 24)) && decide (a + n * e ≤ 8192)) by rw [← hu1, ← hu2, ← hu3]; rfl)
  clear hu1 hu2 hu3
  cases u1 with
  | false =>
    have hno := HNO.out (by rw [HOKU.out]; rfl)
    obtain rfl : 1 = er := by rw [← H.out.1, hno.1]
    obtain rfl : [] = M := by rw [← H.out.2, hno.2]
    clear H hno HNO HOKU
    go_enter Try.func20, Try.ntmps20
    go_wp2_with (first
      | (go_at_call 28; refine (ptick_in a false _ HU1).mono ?_; rintro e w1 ⟨rfl, hg⟩; replace g0 : Own w w1 := g0.trans hg; clear hg)
      | (go_at_call 41; (first | (with_reducible refine (pramp_in f true _ HU2).mono ?_) | (with_reducible refine (pramp_in g true _ HU3).mono ?_)); rintro e w2 ⟨rfl, hg⟩; replace g0 : Own w w2 := g0.trans hg; clear hg))
    go_ret2
    exact ⟨_, rfl, World.ownsRow_nil _ _ _ _, g0⟩
  | true =>
    cases u2 with
    | false =>
      have hno := HNO.out (by rw [HOKU.out]; rfl)
      obtain rfl : 1 = er := by rw [← H.out.1, hno.1]
      obtain rfl : [] = M := by rw [← H.out.2, hno.2]
      clear H hno HNO HOKU
      go_enter Try.func20, Try.ntmps20
      go_wp2_with (first
        | (go_at_call 28; refine (ptick_in a true _ HU1).mono ?_; rintro e w1 ⟨rfl, hg⟩; replace g0 : Own w w1 := g0.trans hg; clear hg)
        | (go_at_call 41; (first | (with_reducible refine (pramp_in f false _ HU2).mono ?_) | (with_reducible refine (pramp_in g true _ HU3).mono ?_)); rintro e w2 ⟨rfl, hg⟩; replace g0 : Own w w2 := g0.trans hg; clear hg))
      go_ret2
      exact ⟨_, rfl, World.ownsRow_nil _ _ _ _, g0⟩
    | true =>
      cases u3 with
      | false =>
        have hno := HNO.out (by rw [HOKU.out]; rfl)
        obtain rfl : 1 = er := by rw [← H.out.1, hno.1]
        obtain rfl : [] = M := by rw [← H.out.2, hno.2]
        clear H hno HNO HOKU
        go_enter Try.func20, Try.ntmps20
        go_wp2_with (first
          | (go_at_call 28; refine (ptick_in a true _ HU1).mono ?_; rintro e w1 ⟨rfl, hg⟩; replace g0 : Own w w1 := g0.trans hg; clear hg)
          | (go_at_call 41; (first | (with_reducible refine (pramp_in f true _ HU2).mono ?_) | (with_reducible refine (pramp_in g false _ HU3).mono ?_)); rintro e w2 ⟨rfl, hg⟩; replace g0 : Own w w2 := g0.trans hg; clear hg))
        go_ret2
        exact ⟨_, rfl, World.ownsRow_nil _ _ _ _, g0⟩
      | true =>
        by_cases c0 : 1 ≤ n
        case neg =>
          have hno := HNO.out (by rw [HOKU.out, decide_eq_false c0]; simp)
          obtain rfl : 1 = er := by rw [← H.out.1, hno.1]
          obtain rfl : [] = M := by rw [← H.out.2, hno.2]
          clear H hno HNO HOKU
          have x0 : n < 1 := by omega
          clear c0
          go_enter Try.func20, Try.ntmps20
          go_wp2_with (first
            | (go_at_call 28; refine (ptick_in a true _ HU1).mono ?_; rintro e w1 ⟨rfl, hg⟩; replace g0 : Own w w1 := g0.trans hg; clear hg)
            | (go_at_call 41; (first | (with_reducible refine (pramp_in f true _ HU2).mono ?_) | (with_reducible refine (pramp_in g true _ HU3).mono ?_)); rintro e w2 ⟨rfl, hg⟩; replace g0 : Own w w2 := g0.trans hg; clear hg))
          go_ret2
          exact ⟨_, rfl, World.ownsRow_nil _ _ _ _, g0⟩
        by_cases c1 : n ≤ 63
        case neg =>
          have hno := HNO.out (by rw [HOKU.out, decide_eq_false c1]; simp)
          obtain rfl : 1 = er := by rw [← H.out.1, hno.1]
          obtain rfl : [] = M := by rw [← H.out.2, hno.2]
          clear H hno HNO HOKU
          have x1 : 63 < n := by omega
          clear c1
          go_enter Try.func20, Try.ntmps20
          go_wp2_with (first
            | (go_at_call 28; refine (ptick_in a true _ HU1).mono ?_; rintro e w1 ⟨rfl, hg⟩; replace g0 : Own w w1 := g0.trans hg; clear hg)
            | (go_at_call 41; (first | (with_reducible refine (pramp_in f true _ HU2).mono ?_) | (with_reducible refine (pramp_in g true _ HU3).mono ?_)); rintro e w2 ⟨rfl, hg⟩; replace g0 : Own w w2 := g0.trans hg; clear hg))
          go_ret2
          exact ⟨_, rfl, World.ownsRow_nil _ _ _ _, g0⟩
        by_cases c2 : 1 ≤ e
        case neg =>
          have hno := HNO.out (by rw [HOKU.out, decide_eq_false c2]; simp)
          obtain rfl : 1 = er := by rw [← H.out.1, hno.1]
          obtain rfl : [] = M := by rw [← H.out.2, hno.2]
          clear H hno HNO HOKU
          have x2 : e < 1 := by omega
          clear c2
          go_enter Try.func20, Try.ntmps20
          go_wp2_with (first
            | (go_at_call 28; refine (ptick_in a true _ HU1).mono ?_; rintro e w1 ⟨rfl, hg⟩; replace g0 : Own w w1 := g0.trans hg; clear hg)
            | (go_at_call 41; (first | (with_reducible refine (pramp_in f true _ HU2).mono ?_) | (with_reducible refine (pramp_in g true _ HU3).mono ?_)); rintro e w2 ⟨rfl, hg⟩; replace g0 : Own w w2 := g0.trans hg; clear hg))
          go_ret2
          exact ⟨_, rfl, World.ownsRow_nil _ _ _ _, g0⟩
        by_cases c3 : e ≤ 24
        case neg =>
          have hno := HNO.out (by rw [HOKU.out, decide_eq_false c3]; simp)
          obtain rfl : 1 = er := by rw [← H.out.1, hno.1]
          obtain rfl : [] = M := by rw [← H.out.2, hno.2]
          clear H hno HNO HOKU
          have x3 : 24 < e := by omega
          clear c3
          go_enter Try.func20, Try.ntmps20
          go_wp2_with (first
            | (go_at_call 28; refine (ptick_in a true _ HU1).mono ?_; rintro e w1 ⟨rfl, hg⟩; replace g0 : Own w w1 := g0.trans hg; clear hg)
            | (go_at_call 41; (first | (with_reducible refine (pramp_in f true _ HU2).mono ?_) | (with_reducible refine (pramp_in g true _ HU3).mono ?_)); rintro e w2 ⟨rfl, hg⟩; replace g0 : Own w w2 := g0.trans hg; clear hg))
          go_ret2
          exact ⟨_, rfl, World.ownsRow_nil _ _ _ _, g0⟩
        have m1 := TemP.mul_bd (a := n) (b := e) (m := 24) (by omega) c2 c3
        have hta := (Bool.and_eq_true _ _ ▸ HU1.out : _ ∧ _)
        have a0 := of_decide_eq_true hta.1
        have a1 := of_decide_eq_true hta.2
        clear hta
        have j1 : IntKind.i64.wrap (n * e) = n * e := IntWalk.i64_in _ (by omega)
        have j2 : IntKind.i64.wrap (a + n * e) = a + n * e := IntWalk.i64_in _ (by omega)
        by_cases c4 : a + n * e ≤ 8192
        case neg =>
          have hno := HNO.out (by rw [HOKU.out, decide_eq_false c4]; simp)
          obtain rfl : 1 = er := by rw [← H.out.1, hno.1]
          obtain rfl : [] = M := by rw [← H.out.2, hno.2]
          clear H hno HNO HOKU
          have x0 : ¬ n < 1 := by omega
          have x1 : ¬ 63 < n := by omega
          have x2 : ¬ e < 1 := by omega
          have x3 : ¬ 24 < e := by omega
          have x4 : 8192 < a + n * e := by omega
          clear c4
          go_enter Try.func20, Try.ntmps20
          go_wp2_with (first
            | (go_at_call 28; refine (ptick_in a true _ HU1).mono ?_; rintro e w1 ⟨rfl, hg⟩; replace g0 : Own w w1 := g0.trans hg; clear hg)
            | (go_at_call 41; (first | (with_reducible refine (pramp_in f true _ HU2).mono ?_) | (with_reducible refine (pramp_in g true _ HU3).mono ?_)); rintro e w2 ⟨rfl, hg⟩; replace g0 : Own w w2 := g0.trans hg; clear hg))
          go_ret2
          exact ⟨_, rfl, World.ownsRow_nil _ _ _ _, g0⟩
        have hok : rpOk a n e f g = true := by rw [HOKU.out, decide_eq_true c0, decide_eq_true c1, decide_eq_true c2, decide_eq_true c3, decide_eq_true c4]; rfl
        have hh := rp_ok hok
        obtain rfl : 0 = er := by rw [← H.out.1, hh.1]
        obtain ⟨K, hK⟩ : ∃ K, n.toNat + 1 = K := ⟨_, rfl⟩
        have hnK : n + 1 = (K : Int) := by omega
        have HMM := Lib.hid (show rp a n e f g K = M by rw [← H.out.2, hh.2, hK])
        have HOK := Lib.hid hok
        have x0 : ¬ n < 1 := by omega
        have x1 : ¬ 63 < n := by omega
        have x2 : ¬ e < 1 := by omega
        have x3 : ¬ 24 < e := by omega
        have x4 : ¬ 8192 < a + n * e := by omega
        have j3 : IntKind.i64.wrap (n + 1) = (K : Int) := (IntWalk.i64_in _ (by omega)).trans hnK
        have HBY := Lib.hid (show i0.bytes * K ≤ 281474976710656 by rw [HZ2.out]; omega)
        have HMX := Lib.hid (show K ≤ maxLen by unfold maxLen; omega)
        have hK0 : (0 : Int) ≤ K := by omega
        have HNK := Lib.hid hnK
        clear H hh hok HOKU HNO hK hnK c0 c1 c2 c3 c4
        go_enter Try.func20, Try.ntmps20
        go_wp2_with (first
          | (go_at_call 28; refine (ptick_in a true _ HU1).mono ?_; rintro e w1 ⟨rfl, hg⟩; replace g0 : Own w w1 := g0.trans hg; clear hg)
          | (go_at_call 41; (first | (with_reducible refine (pramp_in f true _ HU2).mono ?_) | (with_reducible refine (pramp_in g true _ HU3).mono ?_)); rintro e w2 ⟨rfl, hg⟩; replace g0 : Own w w2 := g0.trans hg; clear hg)
          | (at_make; refine wpList_make_full _ rfl _ _ 22 rfl w.heap.size 38 i0 (.agg #[.int .i64 0, .int .i64 0]) 2 Try.underlying22 HI.out HZ0.out HZ1.out _ _ _ _ K rfl rfl rfl rfl HBY.out HMX.out g0.size ?_; intro w3 hown3 hg3; have HR := Lib.hid (Fn.made (v := .int .i64 0) zero2 hown3); replace g0 : Own w w3 := g0.grown hg3 (by simp); clear hown3 hg3))
        have hwg : w.heap.size ≤ w2.heap.size := HR.out.ge
        generalize w2.heap.size = B at *
        go_loopw [56] (fun vi wr => ∃ k : Nat, vi = .int .i64 (k : Int) ∧ k ≤ K ∧ Own w wr ∧ ∃ F, Fn wr w.heap.size B K 38 2 F ∧ Fil2 (rpAt a n e f g) k F) (fun vi _ => K - (intOf vi).toNat)
        case atStart => exact ⟨0, rfl, Nat.zero_le _, g0, _, HR.out, fil2_start _ _⟩
        case round =>
          obtain ⟨k, rfl, hk, q0, F, hF, hfil⟩ := hrel
          by_cases hlt : k < K
          · have hkn : (k : Int) ≤ n := by have := HNK.out; omega
            have hkK : (k : Int) < K := by omega
            obtain ⟨v, hv⟩ : ∃ v, lerpV f g k n = v := ⟨_, rfl⟩
            have HL := Lib.hid (And.intro hv (rp_lerp HOK.out hkn))
            obtain ⟨p1, p2⟩ := rp_step HOK.out hkn
            obtain ⟨y, hy⟩ : ∃ y, (k : Int) * e = y := ⟨_, rfl⟩
            rw [hy] at p1 p2
            have i1 : IntKind.i64.wrap ((k : Int) * e) = y := by rw [hy]; exact IntWalk.i64_in _ (by omega)
            have i2 : IntKind.i64.wrap (a + y) = a + y := IntWalk.i64_in _ (by omega)
            have HPT := Lib.hid (show rpAt a n e f g k = (a + y, v) by unfold rpAt; rw [hy, hv])
            clear hv hy
            have HF := Lib.hid hF
            clear hF
            go_upto_region 12 with (go_at_call 42; refine (NumW.lerp_at _ _ _ _ v 0 _ HL).mono ?_; rintro e w5 ⟨rfl, hg⟩; have hg' := own_num hg; replace q0 := q0.trans hg'; replace HF := Lib.hid (HF.out.own hg'))
            have c0 := HF.out.cell (j := k * 2) (by omega)
            have c1 := HF.out.cell (j := k * 2 + 1) (by omega)
            have z0 := HF.out.frozen (k * 2)
            have z1 := HF.out.frozen (k * 2 + 1)
            have HF2 := Lib.hid ((HF.out.put (k * 2) (.int .i64 (a + y))).put (k * 2 + 1) (.int .i64 v))
            have q5 : Own w ((w5.setCell ⟨B, k * 2, none⟩ (.int .i64 (a + y))).setCell ⟨B, k * 2 + 1, none⟩ (.int .i64 v)) := (q0.setCell hwg _).setCell hwg _
            have HFI := Lib.hid (fil2_step hfil HPT.out)
            clear hfil
            go_wp2
            go_roundw
            case rel => exact ⟨k + 1, by go_num, hlt, q5, _, HF2.out, HFI.out⟩
            case measure => simp [intOf]; omega
          · obtain rfl : k = K := by omega
            have hml : M.length = k := by rw [← HMM.out, rp_len]
            have HROW := Lib.hid (show wr.ownsRow w.heap.size 38 2 (.slice (some ⟨B, 0, none⟩) k k) M.length (cellsP M) by
              rw [hml]
              refine fil2_row hF hml (fun i hi => ?_)
              rw [← HMM.out, rp_at a n e f g hi]
              exact hfil i hi)
            clear hml hfil hF
            go_wp2
            go_ret2
            exact ⟨_, rfl, HROW.out, q0⟩
end Go.Proofs.Ytpgeiflbmcjaaaa.TemW
