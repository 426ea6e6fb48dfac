/-
  Plain facts of package ident: names cut into pieces, one piece compared with another. No word of the program. Condition: none.
-/
import Derived.Test.YtifiljmiehddfaaDoorNamePlain
namespace Go.Proofs.YtifiljmiehddfaaDoor.NamP
theorem numC_zero {x y : Bs} (h : numC x y = 0) : x = y := by
  unfold numC at h
  by_cases h1 : (bare x).length < (bare y).length
  · rw [if_pos h1] at h; omega
  · rw [if_neg h1] at h
    by_cases h2 : (bare y).length < (bare x).length
    · rw [if_pos h2] at h; omega
    · rw [if_neg h2] at h
      by_cases h3 : cmpN (nums (bare x)) (nums (bare y)) ≠ 0
      · rw [if_pos h3] at h; exact absurd h h3
      · rw [if_neg h3] at h
        by_cases h4 : x.length < y.length
        · rw [if_pos h4] at h; omega
        · rw [if_neg h4] at h
          by_cases h5 : y.length < x.length
          · rw [if_pos h5] at h; omega
          · exact bare_run (nums_inj (cmpN_zero.1 (Classical.not_not.1 h3))) (by omega)
theorem numC_refl (x : Bs) : numC x x = 0 := by
  unfold numC
  rw [if_neg (Nat.lt_irrefl _), if_neg (Nat.lt_irrefl _), if_neg (by rw [cmpN_self]; simp), if_neg (Nat.lt_irrefl _), if_neg (Nat.lt_irrefl _)]
/-- The comparison of two integers. -/
def cmpI (a b : Int) : Int := if a < b then -1 else if b < a then 1 else 0
theorem cmpI_lt {a b : Int} (h : a < b) : cmpI a b = -1 := by unfold cmpI; rw [if_pos h]
theorem cmpI_gt {a b : Int} (h : b < a) : cmpI a b = 1 := by unfold cmpI; rw [if_neg (by omega), if_pos h]
theorem cmpI_eq {a b : Int} (h : a = b) : cmpI a b = 0 := by unfold cmpI; rw [if_neg (by omega), if_neg (by omega)]
/-- The first of two integers that is not nought. -/
def orZ (a b : Int) : Int := if a = 0 then b else a
theorem numC_or (x y : Bs) : numC x y = orZ (cmpI (bare x).length (bare y).length) (orZ (cmpN (nums (bare x)) (nums (bare y))) (cmpI x.length y.length)) := by
  unfold numC orZ
  by_cases h1 : (bare x).length < (bare y).length
  · rw [if_pos h1, cmpI_lt (by omega), if_neg (by omega)]
  · rw [if_neg h1]
    by_cases h2 : (bare y).length < (bare x).length
    · rw [if_pos h2, cmpI_gt (by omega), if_neg (by omega)]
    · rw [if_neg h2, cmpI_eq (show ((bare x).length : Int) = (bare y).length by omega), if_pos rfl]
      by_cases h3 : cmpN (nums (bare x)) (nums (bare y)) = 0
      · rw [if_neg (by simpa using h3), if_pos h3]
        by_cases h4 : x.length < y.length
        · rw [if_pos h4, cmpI_lt (by omega)]
        · rw [if_neg h4]
          by_cases h5 : y.length < x.length
          · rw [if_pos h5, cmpI_gt (by omega)]
          · rw [if_neg h5, cmpI_eq (by omega)]
      · rw [if_pos h3, if_neg h3]
/-- The first piece of a name that is not empty, and what follows it. -/
def pieceB : Bs → Bs
  | [] => []
  | x :: l => if digB x = true then runD (x :: l) else [x]
def afterB : Bs → Bs
  | [] => []
  | x :: l => if digB x = true then restD (x :: l) else l
theorem piece_yes {x : UInt8} {l : Bs} (h : digB x = true) : pieceB (x :: l) = runD (x :: l) := if_pos h
theorem piece_no {x : UInt8} {l : Bs} (h : ¬ digB x = true) : pieceB (x :: l) = [x] := if_neg h
theorem after_yes {x : UInt8} {l : Bs} (h : digB x = true) : afterB (x :: l) = restD (x :: l) := if_pos h
theorem after_no {x : UInt8} {l : Bs} (h : ¬ digB x = true) : afterB (x :: l) = l := if_neg h
theorem piece_after : ∀ l, pieceB l ++ afterB l = l
  | [] => rfl
  | x :: l => by
    by_cases h : digB x = true
    · rw [piece_yes h, after_yes h, run_rest]
    · rw [piece_no h, after_no h]; rfl
theorem run_ne {x : UInt8} {l : Bs} (h : digB x = true) : runD (x :: l) = x :: runD l := by unfold runD; rw [List.takeWhile_cons, if_pos h]
theorem piece_head (x : UInt8) (l : Bs) : atB (pieceB (x :: l)) 0 = x := by
  by_cases h : digB x = true
  · rw [piece_yes h, run_ne h]; rfl
  · rw [piece_no h]; rfl
theorem piece_pos {l : Bs} (h : l ≠ []) : 0 < (pieceB l).length := by
  cases l with
  | nil => exact absurd rfl h
  | cons x l =>
    by_cases h : digB x = true
    · rw [piece_yes h, run_ne h]; simp
    · rw [piece_no h]; simp
theorem after_less {l : Bs} (h : l ≠ []) : (afterB l).length < l.length := by
  have h1 := congrArg List.length (piece_after l)
  have h2 := piece_pos h
  rw [List.length_append] at h1
  omega
/-- The comparison of two pieces. -/
def pcC (a b : Bs) : Int :=
  if digB (atB a 0) = true then (if digB (atB b 0) = true then numC a b else -1) else if digB (atB b 0) = true then 1 else cmpN (nums a) (nums b)
theorem ord_step {a b : Bs} (ha : a ≠ []) (hb : b ≠ []) : ordL a b = if pieceB a = pieceB b then ordL (afterB a) (afterB b) else pcC (pieceB a) (pieceB b) := by
  cases a with
  | nil => exact absurd rfl ha
  | cons x a' =>
    cases b with
    | nil => exact absurd rfl hb
    | cons y b' =>
      have hx0 := piece_head x a'
      have hy0 := piece_head y b'
      unfold pcC
      rw [hx0, hy0, ordL]
      by_cases hx : digB x = true
      · rw [dif_pos hx, if_pos hx]
        by_cases hy : digB y = true
        · rw [if_pos hy, if_pos hy]
          have ea := piece_yes (l := a') hx
          have eb := piece_yes (l := b') hy
          have ca := after_yes (l := a') hx
          have cb := after_yes (l := b') hy
          rw [ea, eb, ca, cb]
          by_cases e : runD (x :: a') = runD (y :: b')
          · rw [if_pos e, if_neg (by rw [e, numC_refl]; simp)]
          · rw [if_neg e, if_pos (fun h => e (numC_zero h))]
        · rw [if_neg hy, if_neg hy, if_neg (fun e => hy (by rw [← hy0, ← e, hx0]; exact hx))]
      · rw [dif_neg hx, if_neg hx]
        by_cases hy : digB y = true
        · rw [if_pos hy, if_pos hy, if_neg (fun e => hx (by rw [← hx0, e, hy0]; exact hy))]
        · rw [if_neg hy, if_neg hy]
          have ea := piece_no (l := a') hx
          have eb := piece_no (l := b') hy
          have ca := after_no (l := a') hx
          have cb := after_no (l := b') hy
          rw [ea, eb, ca, cb]
          show _ = if [x] = [y] then ordL a' b' else cmpN [x.toNat] [y.toNat]
          rw [cmpN]
          by_cases h1 : x.toNat < y.toNat
          · rw [if_pos h1, if_pos h1, if_neg (fun e => by injection e with e; rw [e] at h1; omega)]
          · rw [if_neg h1, if_neg h1]
            by_cases h2 : y.toNat < x.toNat
            · rw [if_pos h2, if_pos h2, if_neg (fun e => by injection e with e; rw [e] at h2; omega)]
            · rw [if_neg h2, if_pos (by rw [UInt8.toNat_inj.1 (show x.toNat = y.toNat by omega)])]
theorem ord_end {a b : Bs} (h : a = [] ∨ b = []) : ordL a b = cmpI a.length b.length := by
  cases a with
  | nil =>
    cases b with
    | nil => rw [ordL]; rfl
    | cons y b => rw [ordL, cmpI_lt (by simp only [List.length_nil, List.length_cons]; omega)]
  | cons x a =>
    cases b with
    | nil => rw [ordL, cmpI_gt (by simp only [List.length_nil, List.length_cons]; omega)]
    | cons y b => rcases h with h | h <;> cases h
/-- The order of names, over names alone. -/
theorem ord_vld {a b : Bs} (ha : vldB a = true) (hb : vldB b = true) : decide (ordL a b < 0) = lessB a b := by
  unfold lessB
  rw [ha, hb]
  rfl
end Go.Proofs.YtifiljmiehddfaaDoor.NamP
