/-
  Walks of the program of package limits: common. Condition: none.
-/
import Derived.Test.YtmjokgddhainlaaLimitsPC
import Derived.OwnWalk
namespace Go.Proofs.Ytmjokgddhainlaa.LimW
open Go.ChangeShapes Go.WideShapes Go.ChangeAt Go.RowKit
open PairW AimP AimW BlkW PrtW PstP PstW RegD LimP
/-- What common says. -/
def crF (x y : Vl) : Int := if f0 x y ≤ (x 3).toNat then coF x y else 0
def crW (x y : Vl) : Int := if f0 x y ≤ (x 3).toNat then coW x y else 0
theorem min2_at {P : Program} (x y : Int) (w : World) (ts : Array TypeId) (t : TypeId) : (Builtin.min_ ts t #[.int .i64 x, .int .i64 y]).run P w = .ok (.int .i64 (min x y)) w := by
  simp [Builtin.min_, Builtin.min2]
  split <;> omega
theorem max2_at {P : Program} (x y : Int) (w : World) (ts : Array TypeId) (t : TypeId) : (Builtin.max_ ts t #[.int .i64 x, .int .i64 y]).run P w = .ok (.int .i64 (max x y)) w := by
  simp [Builtin.max_, Builtin.max2]
  split <;> omega
theorem bld_li (a b c d e f : Int) : Try.prog.built 23 [(0, .int .i64 a), (1, .int .i64 b), (2, .int .i64 c), (3, .int .i64 d), (4, .int .i64 e), (5, .int .i64 f)] = some (cz 6 (l6 a b c d e f)) := by kernel_rfl
theorem nr_like {x y : Vl} (h : ∀ j, j < 6 → x j = y j) : nrE x y = nrE x x ∧ nrV x y = nrV x x := by
  have hc : com x y = com x x := funext fun k => by
    unfold com inS
    rw [h 2 (by omega), h 3 (by omega)]
  have e0 : f0 x y = f0 x x := by unfold f0; rw [hc]
  have e1 : l0 x y = l0 x x := by unfold l0; rw [hc, e0]
  have ee : nrE x y = nrE x x := by
    unfold nrE
    rw [← h 0 (by omega), ← h 1 (by omega), e0]
  refine ⟨ee, ?_⟩
  have es : nrS x y = nrS x x := by
    unfold nrS coF coW
    rw [← h 0 (by omega), ← h 1 (by omega), ← h 4 (by omega), ← h 5 (by omega), e0, e1]
  unfold nrV
  rw [ee, es]
set_option maxRecDepth 100000 in
set_option maxHeartbeats 8000000 in
theorem lcom_at (x y : Vl) (fr wi : Int) (t : Bool) (w : World) (hx : okX x) (hy : okX y) (H : Hid (crF x y = fr ∧ crW x y = wi ∧ decide (f0 x y ≤ (x 3).toNat) = t)) :
    Calls Try.prog 61 #[.agg (cz 6 x), .agg (cz 6 y)] w fun r w' => r = .returned (.tuple #[.int .i64 fr, .int .i64 wi, .bool t]) ∧ Own w w' := by
  obtain ⟨-, hx2, hx3, -⟩ := hx
  have hy2 := hy.2.1
  clear hy
  go_enter Try.func61, Try.ntmps61
  go_upto_region 1 with (fail)
  obtain ⟨W0, B, C, hW, hC, hB, hb, hc, g0, hB0B, hB0C, hneBC⟩ := two_new w (cz 6 x) 23 (cz 6 y) 23
  rw [hW, hC, hB]
  have HB := Lib.hid hb
  have HC := Lib.hid hc
  clear hW hC hB hb hc
  go_wp2
  go_loopw [7] (fun v wr => ∃ k : Nat, v = .int .i64 (k : Int) ∧ k ≤ (x 3).toNat + 1 ∧ (∀ i, i < k → com x y i = false) ∧ Own w wr ∧ Blk wr B (cz 6 x) 23 ∧ Blk wr C (cz 6 y) 23) (fun v _ => (x 3).toNat + 1 - (intOf v).toNat)
  case atStart => exact ⟨0, rfl, by omega, fun i hi => absurd hi (by omega), g0, HB.out, HC.out⟩
  case round =>
    clear g0 HB HC
    obtain ⟨k, rfl, hk, hz0, g0, hb, hc⟩ := hrel
    have HZ := Lib.hid hz0
    have HB := Lib.hid hb
    have HC := Lib.hid hc
    clear hz0 hb hc
    have k2 := blk_num HB.out (i := 2) (by omega)
    have k3 := blk_num HB.out (i := 3) (by omega)
    by_cases hlt : (k : Int) ≤ x 3
    · have i1 : IntKind.i64.wrap (x 2 + (k : Int)) = x 2 + (k : Int) := IntWalk.i64_in _ (by omega)
      have hz : 0 ≤ x 2 + (k : Int) ∧ x 2 + (k : Int) ≤ 511 := by omega
      by_cases hc : com x y k = true
      · have HS := Lib.hid (show inS y (x 2 + (k : Int)) = true from hc)
        have e0 : f0 x y = k := f0_at (by omega) HZ.out (fun _ => hc)
        have HF := Lib.hid e0
        have HH := H
        clear hc e0 HZ
        have d4 : decide (x 3 < (k : Int)) = false := decide_eq_false (by omega)
        go_upto_region 3 with (first | ((with_reducible show wpList _ _ _ (⟨_, .load 23 (.tmp 3), _, _, _, some _⟩ :: _) _ _); refine wpList_load_row_g rfl 23 (.tmp 3) rfl C rfl 23 _ (0, 0) _ HC.out.raw Try.underlying23 rfl infoL ?_) | (go_at_call 57; with_reducible refine (lis_at y (x 2 + (k : Int)) true _ hy2 hz HS).mono ?_; rintro r w2 ⟨rfl, hg⟩; replace g0 := g0.trans hg; replace HB := Lib.hid (HB.out.own hg); replace HC := Lib.hid (HC.out.own hg); replace k2 := hg.cell k2; replace k3 := hg.cell k3; clear hg))
        clear HS i1 hz
        go_wp2
        generalize w2 = wz at *
        go_loopw [8] (fun v wr => ∃ j : Nat, v = .int .i64 (j : Int) ∧ k ≤ j ∧ j ≤ (x 3).toNat ∧ (∀ i, k ≤ i → i < j + 1 → com x y i = true) ∧ Own w wr ∧ Blk wr B (cz 6 x) 23 ∧ Blk wr C (cz 6 y) 23) (fun v _ => (x 3).toNat - (intOf v).toNat)
        case atStart => exact ⟨k, rfl, by omega, by omega, fun i h1 h2 => by
          obtain rfl : i = k := by omega
          have := (f0_is x y).2.2 (by rw [HF.out]; omega)
          rw [HF.out] at this
          exact this, g0, HB.out, HC.out⟩
        case round =>
          clear g0 HB HC k2 k3 d4
          obtain ⟨j, rfl, hj1, hj2, hz0, g0, hb, hc⟩ := hrel
          have HZ := Lib.hid hz0
          have HB := Lib.hid hb
          have HC := Lib.hid hc
          clear hz0 hb hc
          have k2 := blk_num HB.out (i := 2) (by omega)
          have k3 := blk_num HB.out (i := 3) (by omega)
          have i1 : IntKind.i64.wrap (x 2 + (j : Int)) = x 2 + (j : Int) := IntWalk.i64_in _ (by omega)
          have i2 : IntKind.i64.wrap (x 2 + (j : Int) + 1) = x 2 + (j : Int) + 1 := IntWalk.i64_in _ (by omega)
          have i3 : IntKind.i64.wrap (x 2 + (k : Int)) = x 2 + (k : Int) := IntWalk.i64_in _ (by omega)
          have i4 : IntKind.i64.wrap ((j : Int) - (k : Int)) = (j : Int) - (k : Int) := IntWalk.i64_in _ (by omega)
          have hz : 0 ≤ x 2 + (j : Int) + 1 ∧ x 2 + (j : Int) + 1 ≤ 511 := by omega
          by_cases hl2 : (j : Int) < x 3
          · by_cases hc : com x y (j + 1) = true
            · have HS := Lib.hid (show inS y (x 2 + (j : Int) + 1) = true by
                rw [show x 2 + (j : Int) + 1 = x 2 + ((j + 1 : Nat) : Int) by omega]; exact hc)
              go_wp2_with (first | ((with_reducible show wpList _ _ _ (⟨_, .load 23 (.tmp 3), _, _, _, some _⟩ :: _) _ _); refine wpList_load_row_g rfl 23 (.tmp 3) rfl C rfl 23 _ (0, 0) _ HC.out.raw Try.underlying23 rfl infoL ?_) | (go_at_call 57; with_reducible refine (lis_at y (x 2 + (j : Int) + 1) true _ hy2 hz HS).mono ?_; rintro r w2 ⟨rfl, hg⟩; replace g0 := g0.trans hg; replace HB := Lib.hid (HB.out.own hg); replace HC := Lib.hid (HC.out.own hg); replace k2 := hg.cell k2; replace k3 := hg.cell k3; clear hg))
              go_roundw
              case rel =>
                refine ⟨j + 1, by go_num, by omega, by omega, fun i h1 h2 => ?_, g0, HB.out, HC.out⟩
                by_cases e : i = j + 1
                · rw [e]; exact hc
                · exact HZ.out i h1 (by omega)
              case measure => simp [intOf]; omega
            · have HS := Lib.hid (show inS y (x 2 + (j : Int) + 1) = false by
                rw [show x 2 + (j : Int) + 1 = x 2 + ((j + 1 : Nat) : Int) by omega]; exact Bool.eq_false_iff.2 hc)
              have e1 : l0 x y = j + 1 := l0_at (by rw [HF.out]; omega) (by omega) (by rw [HF.out]; exact HZ.out) (fun _ => Bool.eq_false_iff.2 hc)
              obtain ⟨h1, h2, h3⟩ := HH.out
              obtain ⟨n, hn⟩ : ∃ n, (x 2 + (k : Int)) % 256 = n := ⟨_, rfl⟩
              have HN := Lib.hid hn
              obtain rfl : n = fr := by rw [← h1, ← hn]; unfold crF coF; rw [HF.out, if_pos (by omega)]
              obtain rfl : (j : Int) - k = wi := by rw [← h2]; unfold crW coW; rw [HF.out, e1, if_pos (by omega)]; omega
              obtain rfl : true = t := by rw [← h3, HF.out]; exact (decide_eq_true (by omega)).symm
              clear h1 h2 h3 e1 hn hc
              go_wp2_with (first | ((with_reducible show wpList _ _ _ (⟨_, .load 23 (.tmp 3), _, _, _, some _⟩ :: _) _ _); refine wpList_load_row_g rfl 23 (.tmp 3) rfl C rfl 23 _ (0, 0) _ HC.out.raw Try.underlying23 rfl infoL ?_) | (go_at_call 57; with_reducible refine (lis_at y (x 2 + (j : Int) + 1) false _ hy2 hz HS).mono ?_; rintro r w2 ⟨rfl, hg⟩; replace g0 := g0.trans hg; replace HB := Lib.hid (HB.out.own hg); replace HC := Lib.hid (HC.out.own hg); replace k2 := hg.cell k2; replace k3 := hg.cell k3; clear hg) | (go_at_call 47; with_reducible refine (AngW.norm_at _ n _ HN).mono ?_; rintro r w1 ⟨rfl, rfl⟩))
              go_ret3
              exact ⟨rfl, g0⟩
          · have e1 : l0 x y = j + 1 := l0_at (by rw [HF.out]; omega) (by omega) (by rw [HF.out]; exact HZ.out) (fun h => absurd h (by omega))
            obtain ⟨h1, h2, h3⟩ := HH.out
            obtain ⟨n, hn⟩ : ∃ n, (x 2 + (k : Int)) % 256 = n := ⟨_, rfl⟩
            have HN := Lib.hid hn
            obtain rfl : n = fr := by rw [← h1, ← hn]; unfold crF coF; rw [HF.out, if_pos (by omega)]
            obtain rfl : (j : Int) - k = wi := by rw [← h2]; unfold crW coW; rw [HF.out, e1, if_pos (by omega)]; omega
            obtain rfl : true = t := by rw [← h3, HF.out]; exact (decide_eq_true (by omega)).symm
            clear h1 h2 h3 e1 hn
            go_wp2_with (go_at_call 47; with_reducible refine (AngW.norm_at _ n _ HN).mono ?_; rintro r w1 ⟨rfl, rfl⟩)
            go_ret3
            exact ⟨rfl, g0⟩
      · have HS := Lib.hid (show inS y (x 2 + (k : Int)) = false from Bool.eq_false_iff.2 hc)
        go_wp2_with (first | ((with_reducible show wpList _ _ _ (⟨_, .load 23 (.tmp 3), _, _, _, some _⟩ :: _) _ _); refine wpList_load_row_g rfl 23 (.tmp 3) rfl C rfl 23 _ (0, 0) _ HC.out.raw Try.underlying23 rfl infoL ?_) | (go_at_call 57; with_reducible refine (lis_at y (x 2 + (k : Int)) false _ hy2 hz HS).mono ?_; rintro r w2 ⟨rfl, hg⟩; replace g0 := g0.trans hg; replace HB := Lib.hid (HB.out.own hg); replace HC := Lib.hid (HC.out.own hg); replace k2 := hg.cell k2; replace k3 := hg.cell k3; clear hg))
        go_roundw
        case rel =>
          refine ⟨k + 1, by go_num, by omega, fun i hi => ?_, g0, HB.out, HC.out⟩
          by_cases e : i = k
          · rw [e]; exact Bool.eq_false_iff.2 hc
          · exact HZ.out i (by omega)
        case measure => simp [intOf]; omega
    · have e0 : f0 x y = k := f0_at hk HZ.out (fun h => absurd h (by omega))
      have d4 : decide (x 3 < (k : Int)) = true := decide_eq_true (by omega)
      obtain ⟨h1, h2, h3⟩ := H.out
      obtain rfl : 0 = fr := by rw [← h1]; unfold crF; rw [e0, if_neg (by omega)]
      obtain rfl : 0 = wi := by rw [← h2]; unfold crW; rw [e0, if_neg (by omega)]
      obtain rfl : false = t := by rw [← h3, e0]; exact (decide_eq_false (by omega)).symm
      clear h1 h2 h3 e0 H HZ
      go_wp2
      go_ret3
      exact ⟨rfl, g0⟩
end Go.Proofs.Ytmjokgddhainlaa.LimW
