/-
  Walks of the program of package tempo: last at pieces, with any closure that only looks; the closures of When and Tick. Condition: none.
-/
import Derived.Test.YtlepcahangkmiaaTempoPB
namespace Go.Proofs.Ytlepcahangkmiaa.TemW
open Go.ChangeShapes Go.WideShapes Go.ChangeAt Go.RowKit
open PairW TemP
theorem pc_new (w : World) (a b c : Int) (t : TypeId) : (w.alloc (.cells #[.int .i64 a, .int .i64 b, .int .i64 c] t)).cell? ⟨w.heap.size, 0, none⟩ = some (.int .i64 a) ∧ (w.alloc (.cells #[.int .i64 a, .int .i64 b, .int .i64 c] t)).cell? ⟨w.heap.size, 1, none⟩ = some (.int .i64 b) ∧ (w.alloc (.cells #[.int .i64 a, .int .i64 b, .int .i64 c] t)).cell? ⟨w.heap.size, 2, none⟩ = some (.int .i64 c) ∧ ∀ j, (w.alloc (.cells #[.int .i64 a, .int .i64 b, .int .i64 c] t)).frozen? ⟨w.heap.size, j, none⟩ = false :=
  ⟨by go_simp, by go_simp, by go_simp, fun _ => by go_simp⟩
theorem results_cell1 {fn : Func} {p : Tmp} {ty : TypeId} (h : fn.results = #[.cell p ty]) (tmps : Array Value) (P : Program) (w : World) :
    (results fn tmps).run P w = ((asAddr (tmps.getD p undef)).run P w).andThen fun a w₁ => ((loadVar ty a).run P w₁).andThen fun v w₂ => .ok v w₂ := by
  simp only [results, h]
  simp [Sem.run_bind]
  cases (Sem.run P (asAddr (tmps[p]?.getD undef)) w) with
  | ok a w1 =>
    simp only [Result.andThen]
    cases Sem.run P (loadVar ty a) w1 <;> rfl
  | halt h w => rfl
theorem pc_result {fn : Func} {p : Tmp} (h : fn.results = #[.cell p 56]) {tmps : Array Value} {w : World} {B : Nat} {x y z : Value} (hp : tmps.getD p undef = .pointer (some ⟨B, 0, none⟩)) (h0 : w.cell? ⟨B, 0, none⟩ = some x) (h1 : w.cell? ⟨B, 1, none⟩ = some y) (h2 : w.cell? ⟨B, 2, none⟩ = some z) :
    (results fn tmps).run Try.prog w = .ok (.agg #[x, y, z]) w := by
  rw [results_cell1 h, hp]
  go_simp
set_option maxRecDepth 100000 in
theorem pwclose_at (a b c t : Int) (B : Nat) (v : Bool) (w : World) (hc : w.cell? ⟨B, 0, none⟩ = some (.int .i64 t)) (H : Hid (decide (t < a) = v)) :
    Calls Try.prog 33 #[.agg #[.int .i64 a, .int .i64 b, .int .i64 c], .pointer (some ⟨B, 0, none⟩)] w fun e w' => e = .returned (.bool v) ∧ Own w w' := by
  have g0 : Own w (w.alloc (.cells #[.int .i64 a, .int .i64 b, .int .i64 c] 56)) := (Own.refl w).alloc _
  obtain ⟨k0, k1, k2, -⟩ := pc_new w a b c 56
  replace hc := g0.cell hc
  have hv := H.out
  clear H
  go_enter Try.func33, Try.ntmps33
  go_upto_region 1 with (fail)
  generalize w.alloc (.cells #[.int .i64 a, .int .i64 b, .int .i64 c] 56) = W0 at *
  go_wp2
  go_ret
  exact ⟨by first | rfl | (rw [hv]), g0⟩
set_option maxRecDepth 100000 in
set_option maxHeartbeats 1000000 in
theorem plast_at (g : Nat) (cb : Array Value) (af : Nat → Bool) (l : List Pt) (G n : Nat) (w : World) (eg : ∀ args w, (callFunc g args).run Try.prog w = .ok (.enter g args) w)
    (HP : Hid (Pcs w G n l)) (h0 : 0 < n) (h1 : n ≤ 64) (HF : Hid (af 0 = false))
    (HC : Hid (∀ k t w', k < n → Own w w' → af k = t → Calls Try.prog g (#[.agg #[.int .i64 (at' l k).1, .int .i64 (at' l k).2, .int .i64 (mo l k)]] ++ cb) w' fun e w2 => e = .returned (.bool t) ∧ Own w' w2)) :
    Calls Try.prog 31 #[.slice (some ⟨G, 0, none⟩) n n, .func (.func g) #[] cb] w fun e w' => ∃ k, e = .returned (.agg #[.int .i64 (at' l k).1, .int .i64 (at' l k).2, .int .i64 (mo l k)]) ∧ k < n ∧ af k = false ∧ (k + 1 < n → af (k + 1) = true) ∧ Own w w' := by
  obtain ⟨z0, z1, z2, zf⟩ := pc_new w 0 0 0 56
  have g0 : Own w (w.alloc (.cells #[.int .i64 0, .int .i64 0, .int .i64 0] 56)) := (Own.refl w).alloc _
  have ZF := Lib.hid zf
  clear zf
  have hn0 : (0 : Int) < n := by omega
  go_enter Try.func31, Try.ntmps31
  go_upto_region 1 with (fail)
  generalize w.alloc (.cells #[.int .i64 0, .int .i64 0, .int .i64 0] 56) = W0 at *
  have hb0 : w.heap.size < W0.heap.size := block_lt_of_cell z0
  obtain ⟨B, hB⟩ : ∃ B, w.heap.size = B := ⟨_, rfl⟩
  have HB := Lib.hid hB
  simp only [hB] at z0 z1 z2 ZF hb0 ⊢
  clear hB
  go_wp2
  go_loopw [5, 6, 7] (fun v5 v6 _ wr => ∃ a b : Nat, v5 = .int .i64 (a : Int) ∧ v6 = .int .i64 (b : Int) ∧ a < b ∧ b ≤ n ∧ Own W0 wr ∧ af a = false ∧ (b < n → af b = true)) (fun v5 v6 _ _ => (intOf v6).toNat - (intOf v5).toNat)
  case atStart => exact ⟨0, n, rfl, rfl, h0, Nat.le_refl _, Own.refl W0, HF.out, fun h => absurd h (Nat.lt_irrefl _)⟩
  case round =>
    obtain ⟨a, b, rfl, rfl, hab, hb, q, ha, hbt⟩ := hrel
    have i1 : IntKind.i64.wrap ((b : Int) - a) = (b : Int) - a := IntWalk.i64_in _ (by omega)
    by_cases hlt : a + 1 < b
    · obtain ⟨m, hm⟩ : ∃ m, (a + b) / 2 = m := ⟨_, rfl⟩
      have ham : a < m := by omega
      have hmb : m < b := by omega
      have d1 : (1 : Int) < (b : Int) - a := by omega
      have i2 : IntKind.i64.wrap ((a : Int) + b) = (a : Int) + b := IntWalk.i64_in _ (by omega)
      have i3 : ((a : Int) + b).tdiv 2 = (m : Int) := by rw [Int.tdiv_eq_ediv_of_nonneg (by omega)]; omega
      have i4 : IntKind.i64.wrap (m : Int) = m := IntWalk.i64_in _ (by omega)
      obtain ⟨t, ht⟩ : ∃ t, af m = t := ⟨_, rfl⟩
      have HT := Lib.hid ht
      have hcall := HC.out m t wr (by omega) (g0.trans q) ht
      obtain ⟨r0, r1, r2⟩ := (HP.out.own (g0.trans q)) m (by omega)
      obtain ⟨⟨x, y⟩, hxy⟩ : ∃ v, at' l m = v := ⟨_, rfl⟩
      obtain ⟨s, hs⟩ : ∃ v, mo l m = v := ⟨_, rfl⟩
      rw [hxy] at r0 r1 hcall
      rw [hs] at r2 hcall
      simp only at r0 r1 hcall
      have HCALL := Lib.hid hcall
      have hmn : (m : Int) < n := by omega
      clear hm hxy hs ht hcall
      cases t with
      | true =>
        go_wp2_with (go_at_fn g; refine HCALL.out.mono ?_; rintro e w1 ⟨rfl, hg⟩)
        go_roundw
        case rel => exact ⟨a, m, rfl, rfl, ham, by omega, q.trans hg, ha, fun _ => HT.out⟩
        case measure => simp [intOf]; omega
      | false =>
        go_wp2_with (go_at_fn g; refine HCALL.out.mono ?_; rintro e w1 ⟨rfl, hg⟩)
        go_roundw
        case rel => exact ⟨m, b, rfl, rfl, hmb, hb, q.trans hg, HT.out, hbt⟩
        case measure => simp [intOf]; omega
    · obtain rfl : b = a + 1 := by omega
      have d1 : ¬ (1 : Int) < ((a + 1 : Nat) : Int) - a := by omega
      obtain ⟨r0, r1, r2⟩ := (HP.out.own (g0.trans q)) a (by omega)
      obtain ⟨⟨x, y⟩, hxy⟩ : ∃ v, at' l a = v := ⟨_, rfl⟩
      obtain ⟨s, hs⟩ : ∃ v, mo l a = v := ⟨_, rfl⟩
      have HXY := Lib.hid hxy
      have HS := Lib.hid hs
      rw [hxy] at r0 r1
      rw [hs] at r2
      simp only at r0 r1
      have f0 : wr.frozen? ⟨B, 0, none⟩ = false := frozen_kept q z0 (ZF.out 0)
      have f1 : wr.frozen? ⟨B, 1, none⟩ = false := frozen_kept q z1 (ZF.out 1)
      have f2 : wr.frozen? ⟨B, 2, none⟩ = false := frozen_kept q z2 (ZF.out 2)
      replace z0 := q.cell z0
      replace z1 := q.cell z1
      replace z2 := q.cell z2
      have han : (a : Int) < n := by omega
      clear hxy hs
      go_wp2
      have hBw : w.heap.size ≤ B := Nat.le_of_eq HB.out
      have gq := (((g0.trans q).setCell (p := ⟨B, 0, none⟩) hBw (.int .i64 x)).setCell (p := ⟨B, 1, none⟩) hBw (.int .i64 y)).setCell (p := ⟨B, 2, none⟩) hBw (.int .i64 s)
      have c0 : (((wr.setCell ⟨B, 0, none⟩ (.int .i64 x)).setCell ⟨B, 1, none⟩ (.int .i64 y)).setCell ⟨B, 2, none⟩ (.int .i64 s)).cell? ⟨B, 0, none⟩ = some (.int .i64 x) := by go_simp
      have c1 : (((wr.setCell ⟨B, 0, none⟩ (.int .i64 x)).setCell ⟨B, 1, none⟩ (.int .i64 y)).setCell ⟨B, 2, none⟩ (.int .i64 s)).cell? ⟨B, 1, none⟩ = some (.int .i64 y) := by go_simp
      have c2 : (((wr.setCell ⟨B, 0, none⟩ (.int .i64 x)).setCell ⟨B, 1, none⟩ (.int .i64 y)).setCell ⟨B, 2, none⟩ (.int .i64 s)).cell? ⟨B, 2, none⟩ = some (.int .i64 s) := by go_simp
      exact bodyPost_ret (pc_result rfl rfl c0 c1 c2) rfl ⟨a, by rw [HXY.out, HS.out], hb, ha, hbt, gq⟩
end Go.Proofs.Ytlepcahangkmiaa.TemW
