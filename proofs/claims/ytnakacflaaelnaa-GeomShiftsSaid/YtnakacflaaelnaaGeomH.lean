/-
  Walks of the small functions of the statements about geom. Condition: none.
-/
import Derived.Test.YtnakacflaaelnaaGeomP
namespace Go.Proofs.Ytnakacflaaelnaa.GeoW
open Go.ChangeShapes Go.WideShapes Go.ChangeAt Go.RowKit
open NumP NumW GeoP

theorem disc_at (x y u v : Int) (w : World) :
    Calls Try.prog 35 #[.int .i64 x, .int .i64 y, .int .i64 u, .int .i64 v] w fun e w' => e = .returned (.agg #[.int .i64 x, .int .i64 y, .int .i64 u, .int .i64 v, .int .i64 300]) ∧ Own w w' := by
  go_enter Try.func35, Try.ntmps35
  go_wp2
  exact bodyPost_ret (v := .agg #[.int .i64 x, .int .i64 y, .int .i64 u, .int .i64 v, .int .i64 300]) (by simp [results, Try.results35, go_sem]) rfl ⟨rfl, by repeat (first | exact Own.refl _ | apply Own.alloc | refine Own.setCell ?_ (by simp; try omega) _)⟩
theorem half_at (p : Pt) (t : Bool) (w : World) (H : Hid (halfP p = t)) :
    Calls Try.prog 26 #[.agg #[.int .i64 p.1, .int .i64 p.2]] w fun e w' => e = .returned (.bool t) ∧ Own w w' := by
  have hi := halfP_iff p
  rw [H.out] at hi
  clear H
  obtain ⟨x, y⟩ := p
  simp only at hi
  cases t
  · have t : x < -16384 ∨ ¬ x < -16384 ∧ 16384 < x ∨ ¬ x < -16384 ∧ ¬ 16384 < x ∧ y < -16384 ∨ ¬ x < -16384 ∧ ¬ 16384 < x ∧ ¬ y < -16384 ∧ 16384 < y := by simp at hi; omega
    clear hi
    rcases t with t | ⟨t, t1⟩ | ⟨t, t1, t2⟩ | ⟨t, t1, t2, t3⟩
    all_goals
      go_enter Try.func26, Try.ntmps26
      go_wp2
      go_ret
      exact ⟨by first | rfl | (exact ret_bool (by simp; omega)), (Own.refl w).alloc _⟩
  · obtain ⟨⟨h1, h2⟩, h3, h4⟩ := hi.1 rfl
    clear hi
    go_enter Try.func26, Try.ntmps26
    go_wp2
    go_ret
    exact ⟨by first | rfl | (exact ret_bool (by simp; omega)), (Own.refl w).alloc _⟩
theorem shifted_at (p t q : Pt) (w : World) (HQ : Hid (shift p t = q)) (hp : Hid (halfP p = true)) (ht : Hid (halfP t = true)) :
    Calls Try.prog 27 #[.agg #[.int .i64 p.1, .int .i64 p.2], .agg #[.int .i64 t.1, .int .i64 t.2]] w fun e w' => e = .returned (.agg #[.int .i64 q.1, .int .i64 q.2]) ∧ Own w w' := by
  obtain rfl := HQ.out
  have h1 := (halfP_iff p).1 hp.out
  have h2 := (halfP_iff t).1 ht.out
  clear HQ hp ht
  obtain ⟨x, y⟩ := p
  obtain ⟨a, b⟩ := t
  obtain ⟨⟨h11, h12⟩, h13, h14⟩ := h1
  obtain ⟨⟨h21, h22⟩, h23, h24⟩ := h2
  simp only at h11 h12 h13 h14 h21 h22 h23 h24
  go_enter Try.func27, Try.ntmps27
  go_wp2
  exact bodyPost_ret (v := .agg #[.int .i64 (x + a), .int .i64 (y + b)]) (by simp [results, Try.results27, go_sem]) rfl ⟨rfl, by repeat (first | exact Own.refl _ | apply Own.alloc | refine Own.setCell ?_ (by simp; try omega) _)⟩
set_option maxHeartbeats 1000000 in
theorem has_at (l : List Pt) (p : Pt) (sv : Value) (w : World) (HP : Hid (Pts w sv l)) (H : Hid (p ∈ l)) :
    Calls Try.prog 25 #[sv, .agg #[.int .i64 p.1, .int .i64 p.2]] w fun e w' => e = .returned (.bool true) ∧ Own w w' := by
  obtain ⟨A, cap, rfl, hc1, hc2, hop⟩ := HP.out.open
  unfold maxLen at hc2
  have HO := Lib.hid hop
  clear hop HP
  have hex : ∃ i, i < l.length ∧ at' l i = p := by
    obtain ⟨i, hi, e⟩ := List.mem_iff_getElem.1 H.out
    exact ⟨i, hi, by unfold at'; rw [List.getD_eq_getElem?_getD, List.getElem?_eq_getElem hi, Option.getD_some, e]⟩
  clear H
  obtain ⟨n, hn⟩ : ∃ n, l.length = n := ⟨_, rfl⟩
  rw [hn] at hc1 HO hex ⊢
  clear hn
  have HX := Lib.hid hex
  clear hex
  obtain ⟨px, py⟩ := p
  go_enter Try.func25, Try.ntmps25
  go_upto_region 1 with (fail)
  have k0 : (w.alloc (.cells #[.int .i64 px, .int .i64 py] 23)).cell? ⟨w.heap.size, 0, none⟩ = some (.int .i64 px) := by go_simp
  have k1 : (w.alloc (.cells #[.int .i64 px, .int .i64 py] 23)).cell? ⟨w.heap.size, 1, none⟩ = some (.int .i64 py) := by go_simp
  have g0 : Own w (w.alloc (.cells #[.int .i64 px, .int .i64 py] 23)) := (Own.refl w).alloc _
  generalize (w.alloc (.cells #[.int .i64 px, .int .i64 py] 23)) = W0 at *
  go_wp2
  go_loopw [5] (fun i wr => ∃ k : Nat, i = .int .i64 k ∧ k ≤ n ∧ Own W0 wr ∧ ∀ j, j < k → at' l j ≠ (px, py)) (fun i _ => n - (intOf i).toNat)
  case atStart => exact ⟨0, rfl, Nat.zero_le _, Own.refl W0, fun j hj => absurd hj (Nat.not_lt_zero _)⟩
  case round =>
    obtain ⟨k, rfl, hk, g1, hne⟩ := hrel
    have HN := Lib.hid hne
    clear hne
    by_cases hlt : k < n
    · obtain ⟨b, off, rfl, hc⟩ := HO.out (by omega)
      have e0 := g1.cell (g0.cell (hc k hlt).1)
      have e1 := g1.cell (g0.cell (hc k hlt).2)
      have q0 := g1.cell k0
      have q1 := g1.cell k1
      clear hc
      by_cases hs : at' l k = (px, py)
      · rw [hs] at e0 e1
        simp only at e0 e1
        have hb1 : ptB px py px py = true := ptB_yes rfl
        clear hs
        go_upto_region 4 with (fail)
        go_quiet (fail)
        go_wp2
        go_ret
        exact ⟨rfl, (g0.trans g1).drewN _⟩
      · have HS := Lib.hid hs
        obtain ⟨⟨x, y⟩, hp⟩ : ∃ p, at' l k = p := ⟨_, rfl⟩
        rw [hp] at e0 e1 hs
        simp only at e0 e1
        have hb1 := ptB_no hs
        clear hs hp
        go_upto_region 4 with (fail)
        go_quiet (fail)
        go_wp2
        go_roundw
        case rel => exact ⟨k + 1, by go_num, hlt, g1.drewN _, fun j hj => by
          by_cases e : j = k
          · rw [e]; exact HS.out
          · exact HN.out j (by omega)⟩
        case measure => simp [intOf]; omega
    · obtain ⟨i, hi, hi2⟩ := HX.out
      exact absurd hi2 (HN.out i (by omega))
end Go.Proofs.Ytnakacflaaelnaa.GeoW
