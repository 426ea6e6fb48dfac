/-
  Walks of the specification of package limits: sector. Condition: none.
-/
import Derived.Test.YtmjokgddhainlaaLimitsRA
namespace Go.Proofs.Ytmjokgddhainlaa.LimW
open Go.ChangeShapes Go.WideShapes Go.ChangeAt Go.RowKit
open PairW AimP AimW BlkW PrtW PstP PstW RegD LimP
/-- What sector says. -/
def srF (x y : Vl) : Int := if f0 x y ≤ (x 3).toNat then coF x y else 0
def srW (x y : Vl) : Int := if f0 x y ≤ (x 3).toNat then coW x y else -1
/-- Before round k: nothing found, or the run has begun. -/
def Sk (x y : Vl) (k : Nat) (f w : Int) : Prop := (w = -1 ∧ f = 0 ∧ k ≤ f0 x y) ∨ (f0 x y < k ∧ k ≤ l0 x y ∧ f = coF x y ∧ w = (k : Int) - f0 x y - 1)
theorem sk_in {x y : Vl} {k : Nat} {f w : Int} (h : Sk x y k f w) : -1 ≤ w ∧ w < k := by
  rcases h with ⟨rfl, -, -⟩ | ⟨h1, -, -, rfl⟩ <;> omega
theorem sk_gap {x y : Vl} {k : Nat} {f w : Int} (hx : okX x) (h : Sk x y k f w) (hk : (k : Int) ≤ x 3) (hc : com x y k = false) : (w = -1 ∧ Sk x y (k + 1) f w) ∨ (0 ≤ w ∧ srF x y = f ∧ srW x y = w) := by
  have h3 := hx.2.2.1
  rcases h with ⟨rfl, rfl, h2⟩ | ⟨h1, h2, rfl, rfl⟩
  · refine .inl ⟨rfl, .inl ⟨rfl, rfl, ?_⟩⟩
    by_cases e : k = f0 x y
    · have := (f0_is x y).2.2 (by omega)
      rw [← e, hc] at this
      exact absurd this Bool.false_ne_true
    · omega
  · have hf : f0 x y ≤ (x 3).toNat := by omega
    have e : k = l0 x y := by
      by_cases e : k = l0 x y
      · exact e
      · have := (l0_is hf).2.2.1 k (by omega) (by omega)
        rw [hc] at this
        exact absurd this Bool.false_ne_true
    refine .inr ⟨by omega, if_pos hf, ?_⟩
    unfold srW coW
    rw [if_pos hf, ← e]
theorem sk_hit {x y : Vl} {k : Nat} {f w : Int} (hx : okX x) (h : Sk x y k f w) (hk : (k : Int) ≤ x 3) (hc : com x y k = true) : Sk x y (k + 1) (if w < 0 then (x 2 + k) % 256 else f) (w + 1) := by
  have h3 := hx.2.2.1
  rcases h with ⟨rfl, rfl, h2⟩ | ⟨h1, h2, rfl, rfl⟩
  · have e : k = f0 x y := by
      by_cases e : k = f0 x y
      · exact e
      · have := (f0_is x y).2.1 k (by omega)
        rw [hc] at this
        exact absurd this.symm Bool.false_ne_true
    have hf : f0 x y ≤ (x 3).toNat := by omega
    have := (l0_is hf).1
    rw [if_pos (by omega)]
    refine .inr ⟨by omega, by omega, ?_, by omega⟩
    unfold coF
    rw [← e]
  · have hf : f0 x y ≤ (x 3).toNat := by omega
    rw [if_neg (by omega)]
    refine .inr ⟨by omega, ?_, rfl, by omega⟩
    by_cases e : k = l0 x y
    · have := (l0_is hf).2.2.2 (by omega)
      rw [← e, hc] at this
      exact absurd this.symm Bool.false_ne_true
    · omega
theorem sk_end {x y : Vl} {k : Nat} {f w : Int} (hx : okX x) (h : Sk x y k f w) (h1 : k ≤ (x 3).toNat + 1) (hk : ¬ (k : Int) ≤ x 3) : srF x y = f ∧ srW x y = w := by
  have h3 := hx.2.2.1
  rcases h with ⟨rfl, rfl, h2⟩ | ⟨h1, h2, rfl, rfl⟩
  · exact ⟨if_neg (by omega), if_neg (by omega)⟩
  · have hf : f0 x y ≤ (x 3).toNat := by omega
    have := (l0_is hf).2.1
    refine ⟨if_pos hf, ?_⟩
    unfold srW coW
    rw [if_pos hf]
    omega
theorem sr_is (x y : Vl) : (srW x y < 0 ↔ ¬ f0 x y ≤ (x 3).toNat) ∧ (f0 x y ≤ (x 3).toNat → srF x y = coF x y ∧ srW x y = coW x y) := by
  by_cases h : f0 x y ≤ (x 3).toNat
  · have := (l0_is h).1
    have e : srW x y = coW x y := if_pos h
    refine ⟨?_, fun _ => ⟨if_pos h, e⟩⟩
    rw [e]
    unfold coW
    omega
  · have e : srW x y = -1 := if_neg h
    rw [e]
    exact ⟨⟨fun _ => h, fun _ => by omega⟩, fun g => absurd g h⟩
set_option maxRecDepth 100000 in
set_option maxHeartbeats 8000000 in
theorem rsec_at (x y : Vl) (fr wi : Int) (w : World) (hx : okX x) (hy : okX y) (H : Hid (srF x y = fr ∧ srW x y = wi)) :
    Calls Try.prog 41 #[.agg (cz 6 x), .agg (cz 6 y)] w fun r w' => r = .returned (.tuple #[.int .i64 fr, .int .i64 wi]) ∧ Own w w' := by
  have hx2 := hx.2.1
  have hx3 := hx.2.2.1
  have hy2 := hy.2.1
  have HX := Lib.hid hx
  clear hy hx
  go_enter Try.func41, Try.ntmps41
  go_upto_region 1 with (fail)
  obtain ⟨W0, B, C, hW, hC, hB, hb, hc, g0, hB0B, hB0C, hneBC⟩ := two_new w (cz 6 x) 23 (cz 6 y) 23
  rw [hW, hC, hB]
  have HB := Lib.hid hb
  have HC := Lib.hid hc
  clear hW hC hB hb hc
  go_wp2
  go_loopw [6, 7, 8] (fun vf vw v wr => ∃ (k : Nat) (f d : Int), v = .int .i64 (k : Int) ∧ vf = .int .i64 f ∧ vw = .int .i64 d ∧ k ≤ (x 3).toNat + 1 ∧ Sk x y k f d ∧ Own w wr ∧ Blk wr B (cz 6 x) 23 ∧ Blk wr C (cz 6 y) 23) (fun _ _ v _ => (x 3).toNat + 1 - (intOf v).toNat)
  case atStart => exact ⟨0, 0, -1, rfl, rfl, rfl, by omega, .inl ⟨rfl, rfl, by omega⟩, g0, HB.out, HC.out⟩
  case round =>
    clear g0 HB HC
    obtain ⟨k, f, d, rfl, rfl, rfl, hk, hz0, g0, hb, hc⟩ := hrel
    have HZ := Lib.hid hz0
    have hd := sk_in hz0
    have HB := Lib.hid hb
    have HC := Lib.hid hc
    clear hz0 hb hc
    have k2 := blk_num HB.out (i := 2) (by omega)
    have k3 := blk_num HB.out (i := 3) (by omega)
    by_cases hlt : (k : Int) ≤ x 3
    · obtain ⟨m, hm⟩ : ∃ m, x 2 + (k : Int) = m := ⟨_, rfl⟩
      have i1 : IntKind.i64.wrap (x 2 + (k : Int)) = x 2 + (k : Int) := IntWalk.i64_in _ (by omega)
      have i2 : IntKind.i64.wrap (d + 1) = d + 1 := IntWalk.i64_in _ (by omega)
      have i3 : IntKind.i64.wrap ((x 2 + (k : Int)) % 256) = (x 2 + (k : Int)) % 256 := IntWalk.i64_in _ (by omega)
      have i4 : (x 2 + (k : Int)).tmod 256 = (x 2 + (k : Int)) % 256 := Int.tmod_eq_emod_of_nonneg (by omega)
      have hz : 0 ≤ x 2 + (k : Int) ∧ x 2 + (k : Int) ≤ 511 := by omega
      clear hm
      by_cases hc : com x y k = true
      · have HS := Lib.hid (show inS y (x 2 + (k : Int)) = true from hc)
        have HN := Lib.hid (sk_hit HX.out HZ.out hlt hc)
        clear hc HZ
        by_cases hdn : d < 0
        · have dd : decide (d < 0) = true := decide_eq_true hdn
          rw [if_pos hdn] at HN
          clear hdn
          go_wp2_with (first | ((with_reducible show wpList _ _ _ (⟨_, .load 23 (.tmp 3), _, _, _, none⟩ :: _) _ _); refine wpList_load_row rfl 23 (.tmp 3) rfl C rfl 23 _ (0, 0) _ HC.out.raw Try.underlying23 rfl infoL ?_) | (go_at_call 60; with_reducible refine (ris_at y (x 2 + (k : Int)) true _ hy2 hz HS).mono ?_; rintro r w2 ⟨rfl, hg⟩; replace g0 := g0.trans hg; replace HB := Lib.hid (HB.out.own hg); replace HC := Lib.hid (HC.out.own hg); replace k2 := hg.cell k2; replace k3 := hg.cell k3; clear hg))
          go_roundw
          case rel => exact ⟨k + 1, _, _, by go_num, rfl, rfl, by omega, HN.out, g0, HB.out, HC.out⟩
          case measure => simp [intOf]; omega
        · have dd : decide (d < 0) = false := decide_eq_false hdn
          rw [if_neg hdn] at HN
          clear hdn
          go_wp2_with (first | ((with_reducible show wpList _ _ _ (⟨_, .load 23 (.tmp 3), _, _, _, none⟩ :: _) _ _); refine wpList_load_row rfl 23 (.tmp 3) rfl C rfl 23 _ (0, 0) _ HC.out.raw Try.underlying23 rfl infoL ?_) | (go_at_call 60; with_reducible refine (ris_at y (x 2 + (k : Int)) true _ hy2 hz HS).mono ?_; rintro r w2 ⟨rfl, hg⟩; replace g0 := g0.trans hg; replace HB := Lib.hid (HB.out.own hg); replace HC := Lib.hid (HC.out.own hg); replace k2 := hg.cell k2; replace k3 := hg.cell k3; clear hg))
          go_roundw
          case rel => exact ⟨k + 1, _, _, by go_num, rfl, rfl, by omega, HN.out, g0, HB.out, HC.out⟩
          case measure => simp [intOf]; omega
      · have HS := Lib.hid (show inS y (x 2 + (k : Int)) = false from Bool.eq_false_iff.2 hc)
        rcases sk_gap HX.out HZ.out hlt (Bool.eq_false_iff.2 hc) with ⟨hd1, hn⟩ | ⟨hd1, h1, h2⟩
        · have HN := Lib.hid hn
          have dd : decide (0 ≤ d) = false := decide_eq_false (by omega)
          clear hc HZ hn hd1
          go_wp2_with (first | ((with_reducible show wpList _ _ _ (⟨_, .load 23 (.tmp 3), _, _, _, none⟩ :: _) _ _); refine wpList_load_row rfl 23 (.tmp 3) rfl C rfl 23 _ (0, 0) _ HC.out.raw Try.underlying23 rfl infoL ?_) | (go_at_call 60; with_reducible refine (ris_at y (x 2 + (k : Int)) false _ hy2 hz HS).mono ?_; rintro r w2 ⟨rfl, hg⟩; replace g0 := g0.trans hg; replace HB := Lib.hid (HB.out.own hg); replace HC := Lib.hid (HC.out.own hg); replace k2 := hg.cell k2; replace k3 := hg.cell k3; clear hg))
          go_roundw
          case rel => exact ⟨k + 1, _, _, by go_num, rfl, rfl, by omega, HN.out, g0, HB.out, HC.out⟩
          case measure => simp [intOf]; omega
        · have dd : decide (0 ≤ d) = true := decide_eq_true hd1
          obtain rfl : f = fr := h1.symm.trans H.out.1
          obtain rfl : d = wi := h2.symm.trans H.out.2
          clear hc HZ h1 h2 hd1 H
          go_wp2_with (first | ((with_reducible show wpList _ _ _ (⟨_, .load 23 (.tmp 3), _, _, _, none⟩ :: _) _ _); refine wpList_load_row rfl 23 (.tmp 3) rfl C rfl 23 _ (0, 0) _ HC.out.raw Try.underlying23 rfl infoL ?_) | (go_at_call 60; with_reducible refine (ris_at y (x 2 + (k : Int)) false _ hy2 hz HS).mono ?_; rintro r w2 ⟨rfl, hg⟩; replace g0 := g0.trans hg; replace HB := Lib.hid (HB.out.own hg); replace HC := Lib.hid (HC.out.own hg); replace k2 := hg.cell k2; replace k3 := hg.cell k3; clear hg))
          go_ret2
          exact ⟨rfl, g0⟩
    · obtain ⟨h1, h2⟩ := sk_end HX.out HZ.out hk hlt
      obtain rfl : f = fr := h1.symm.trans H.out.1
      obtain rfl : d = wi := h2.symm.trans H.out.2
      clear HZ h1 h2 H
      go_wp2
      go_ret2
      exact ⟨rfl, g0⟩
end Go.Proofs.Ytmjokgddhainlaa.LimW
