/-
  Limits built of their parts; narrowed and mirrored limb by limb. Condition: none.
-/
import Derived.Test.YtmjokgddhainlaaLimitsMem
namespace Go.Proofs.Ytmjokgddhainlaa.LimW
open Go.ChangeShapes Go.WideShapes Go.ChangeAt Go.RowKit
open PairW AimP AimW BlkW PrtW PstP PstW RegD LimP
/-- Limits of their parts. -/
def mkL (f : Vl) (p q : Bool) (c d : Int) : Vl := fun i => if i < 36 then f i else if i = 36 then (if p = true then 1 else 0) else if i = 37 then (if q = true then 1 else 0) else if i = 38 then c else d
theorem bld_ls (f : Vl) (p q : Bool) (c d : Int) : Try.prog.built 26 [(0, .agg (cz 36 f)), (1, .bool p), (2, .bool q), (3, .int .i64 c), (4, .int .i64 d)] = some (lz (mkL f p q c d)) := by
  cases p <;> cases q <;> kernel_rfl
theorem bld_l0 (p q : Bool) (c d : Int) : Try.prog.built 26 [(1, .bool p), (2, .bool q), (3, .int .i64 c), (4, .int .i64 d)] = some (lz (mkL nul p q c d)) := by
  cases p <;> cases q <;> kernel_rfl
/-- The answers of narrowed limits. -/
theorem both_is (a b : Int) : decide ((if a = 1 ∧ b = 1 then (1 : Int) else 0) = 1) = (decide (a = 1) && decide (b = 1)) := by
  by_cases h1 : a = 1
  · by_cases h2 : b = 1
    · rw [if_pos ⟨h1, h2⟩, decide_eq_true h1, decide_eq_true h2]; rfl
    · rw [if_neg (fun h => h2 h.2), decide_eq_true h1, decide_eq_false h2]; rfl
  · rw [if_neg (fun h => h1 h.1), decide_eq_false h1]; rfl
theorem mk_nw {a b f : Vl} {p q : Bool} (h : ∀ j, j < 36 → f j = nwS a b j) (hp : p = (decide (a 36 = 1) && decide (b 36 = 1))) (hq : q = (decide (a 37 = 1) && decide (b 37 = 1))) : lz (mkL f p q (min (a 38) (b 38)) (min (a 39) (b 39))) = lz (nwS a b) := lz_same fun i hi => by
  by_cases c : i < 36
  · rw [if_neg (by omega)]
    unfold mkL
    rw [if_pos c]
    exact h i c
  · have t : i = 36 ∨ i = 37 ∨ i = 38 ∨ i = 39 := by omega
    rcases t with rfl | rfl | rfl | rfl
    · rw [if_pos (by omega)]
      show (if p = true then (1 : Int) else 0) = 1 ↔ (if a 36 = 1 ∧ b 36 = 1 then (1 : Int) else 0) = 1
      rw [← decide_eq_decide, both_is, ← hp]
      cases p <;> rfl
    · rw [if_pos (by omega)]
      show (if q = true then (1 : Int) else 0) = 1 ↔ (if a 37 = 1 ∧ b 37 = 1 then (1 : Int) else 0) = 1
      rw [← decide_eq_decide, both_is, ← hq]
      cases q <;> rfl
    · rw [if_neg (by omega)]; rfl
    · rw [if_neg (by omega)]; rfl
/-- One more limb is done. -/
theorem nw_next {a b f r : Vl} {k : Nat} (hk : k < 6) (h : ∀ j, j < k * 6 → f j = nwS a b j) (hr : nrV (lim a k) (lim b k) = r) : ∀ j, j < (k + 1) * 6 → put f (k * 6) 6 r j = nwS a b j := fun j hj => by
  by_cases c : j < k * 6
  · rw [put_out _ _ (.inl c)]; exact h j c
  · obtain ⟨i, rfl⟩ : ∃ i, j = k * 6 + i := ⟨j - k * 6, by omega⟩
    rw [put_in _ _ (by omega), nwS_lim a b hk (by omega), hr]
theorem put_high {f r : Vl} {k i : Nat} (hk : k < 6) (hi : 36 ≤ i) : put f (k * 6) 6 r i = f i := put_out _ _ (.inr (by omega))
/-- The mirror image, limb by limb: as the program goes, and as the specification does. -/
def Mp (l f : Vl) (k : Nat) : Prop := ∀ i, i < 40 → f i = if i < 36 ∧ swN (i / 6) < k then mrS l i else l i
def Mq (l f : Vl) (k : Nat) : Prop := ∀ i, i < 40 → f i = if i < k * 6 then mrS l i else l i
theorem mx_ups (x : Vl) {v : Int} (hv : (-(x 2 + x 3)) % 256 = v) : ∀ j, j < 6 → PrtW.ups x 2 v j = mx x j := fun j _ => by
  unfold PrtW.ups mx
  by_cases c : j = 2
  · rw [if_pos c, if_pos c, hv]
  · rw [if_neg c, if_neg c]
theorem mp_next {l f x : Vl} {k : Nat} {v : Int} (hk : k < 6) (h : Mp l f k) (hx : lim l k = x) (hv : (-(x 2 + x 3)) % 256 = v) : Mp l (put f (swN k * 6) 6 (PrtW.ups x 2 v)) (k + 1) := fun i hi => by
  have hs := swN_lt hk
  by_cases c : swN k * 6 ≤ i ∧ i < swN k * 6 + 6
  · obtain ⟨j, rfl⟩ : ∃ j, i = swN k * 6 + j := ⟨i - swN k * 6, by omega⟩
    rw [put_in _ _ (by omega), mx_ups x hv j (by omega), if_pos ⟨by omega, by rw [show (swN k * 6 + j) / 6 = swN k by omega, swN_swN hk]; omega⟩]
    have := lim_mr (l := l) hs j (by omega)
    rw [swN_swN hk, hx] at this
    exact this.symm
  · rw [put_out _ _ (by omega), h i hi]
    by_cases d : i < 36
    · have e : swN (i / 6) ≠ k := fun e => by
        have : i / 6 = swN k := by rw [← e, swN_swN (by omega)]
        omega
      by_cases g : swN (i / 6) < k
      · rw [if_pos ⟨d, g⟩, if_pos ⟨d, by omega⟩]
      · rw [if_neg (fun h => g h.2), if_neg (fun h => by omega)]
    · rw [if_neg (fun h => d h.1), if_neg (fun h => d h.1)]
theorem mr_high (l : Vl) {i : Nat} (h : ¬ i < 36) : mrS l i = l i := if_neg h
theorem mp_end {l f : Vl} (h : Mp l f 6) : lz f = lz (mrS l) := lz_congr fun i hi => by
  rw [h i hi]
  by_cases d : i < 36
  · rw [if_pos ⟨d, swN_lt (by omega)⟩]
  · rw [if_neg (fun h => d h.1), mr_high l d]
theorem mq_next {l f x : Vl} {k : Nat} {v : Int} (hk : k < 6) (h : Mq l f k) (hx : lim l (swN k) = x) (hv : (-(x 2 + x 3)) % 256 = v) : Mq l (put f (k * 6) 6 (PrtW.ups x 2 v)) (k + 1) := fun i hi => by
  by_cases c : k * 6 ≤ i ∧ i < k * 6 + 6
  · obtain ⟨j, rfl⟩ : ∃ j, i = k * 6 + j := ⟨i - k * 6, by omega⟩
    rw [put_in _ _ (by omega), mx_ups x hv j (by omega), if_pos (by omega)]
    have := lim_mr (l := l) hk j (by omega)
    rw [hx] at this
    exact this.symm
  · rw [put_out _ _ (by omega), h i hi]
    by_cases g : i < k * 6
    · rw [if_pos g, if_pos (by omega)]
    · rw [if_neg g, if_neg (by omega)]
theorem mq_end {l f : Vl} (h : Mq l f 6) : lz f = lz (mrS l) := lz_congr fun i hi => by
  rw [h i hi]
  by_cases d : i < 6 * 6
  · rw [if_pos d]
  · rw [if_neg d, mr_high l (by omega)]
theorem mr_yes {l : Vl} (h : chE l = 0) : mrV l = mrS l := if_pos h
theorem mr_no {l : Vl} (h : chE l ≠ 0) : mrV l = nul := if_neg h
end Go.Proofs.Ytmjokgddhainlaa.LimW
