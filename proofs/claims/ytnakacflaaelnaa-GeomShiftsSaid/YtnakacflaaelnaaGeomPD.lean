/-
  Walk of slices.MinFunc at points, for whatever comparison that makes memory of its own: the first one that no other comes before. Condition: none.
-/
import Derived.Test.YtnakacflaaelnaaGeomPC
import Derived.Shelf.Abstract
namespace Go.Proofs.Ytnakacflaaelnaa.GeoW
open Go.ChangeShapes Go.WideShapes Go.ChangeAt Go.RowKit
open NumP NumW GeoP
attribute [local go_sem ↓] Go.wp_at_zero Go.wp_at_succ

/-- The pick among the first k. -/
def pickTo (cf : Pt → Pt → Int) (l : List Pt) (k : Nat) : Pt := ((l.take k).drop 1).foldl (pickS cf) (at' l 0)
theorem pickTo_one (cf : Pt → Pt → Int) {l : List Pt} (_ : 0 < l.length) : pickTo cf l 1 = at' l 0 := by
  unfold pickTo
  rw [List.drop_eq_nil_of_le (by rw [List.length_take]; omega)]
  rfl
theorem pickTo_all (cf : Pt → Pt → Int) (l : List Pt) : pickTo cf l l.length = pick cf l := by unfold pickTo pick; rw [List.take_length]
theorem pickTo_succ (cf : Pt → Pt → Int) {l : List Pt} {k : Nat} (h1 : 1 ≤ k) (h : k < l.length) : pickTo cf l (k + 1) = pickS cf (pickTo cf l k) (at' l k) := by
  unfold pickTo
  rw [take_at h, List.drop_append_of_le_length (by rw [List.length_take]; omega), List.foldl_append]
  rfl
theorem pickTo_mem (cf : Pt → Pt → Int) {l : List Pt} {k : Nat} (h1 : 1 ≤ k) (h : k ≤ l.length) : pickTo cf l k ∈ l := by
  induction k with
  | zero => omega
  | succ k ih =>
    by_cases g : k = 0
    · subst g; rw [pickTo_one cf (by omega)]; exact at_mem (by omega)
    · rw [pickTo_succ cf (by omega) (by omega)]
      unfold pickS
      split
      · exact at_mem (by omega)
      · exact ih (by omega) (by omega)
/-- What a comparison must do: it returns a number that hangs on the two points alone, and leaves what was there. -/
def Compares (g : Nat) (cb : Array Value) (cf : Pt → Pt → Int) (l : List Pt) (w : World) : Prop :=
  ∀ (p q : Pt) (v : Int) (w' : World), p ∈ l → q ∈ l → cf p q = v → Own w w' → Calls Try.prog g (#[.agg #[.int .i64 p.1, .int .i64 p.2], .agg #[.int .i64 q.1, .int .i64 q.2]] ++ cb) w' fun e w'' => e = .returned (.int .i64 v) ∧ Own w' w''
set_option maxRecDepth 100000 in
set_option maxHeartbeats 8000000 in
theorem pmin_at (cf : Pt → Pt → Int) (g : Nat) (cb : Array Value) (l : List Pt) (sv : Value) (m : Pt) (w : World) (eg : ∀ args w, (callFunc g args).run Try.prog w = .ok (.enter g args) w)
    (HP : Hid (Pts w sv l)) (hne : 0 < l.length) (H : Hid (pick cf l = m)) (HC : Hid (Compares g cb cf l w)) :
    Calls Try.prog 55 #[sv, .func (.func g) #[] cb] w fun e w' => e = .returned (.agg #[.int .i64 m.1, .int .i64 m.2]) ∧ Own w w' := by
  obtain ⟨A, cap, rfl, ha1, ha2, ha⟩ := HP.out.open
  obtain ⟨b, off, rfl, hc⟩ := ha hne
  unfold maxLen at ha2
  have HA := Lib.hid hc
  have HS := Lib.hid (fun k (h1 : 1 ≤ k) (h : k < l.length) => pickTo_succ cf h1 h)
  have HM := Lib.hid (fun k (h1 : 1 ≤ k) (h : k ≤ l.length) => pickTo_mem cf h1 h)
  have HQ := Lib.hid (fun k (h : k < l.length) => at_mem h)
  have HE := Lib.hid (show pickTo cf l l.length = m from (pickTo_all cf l).trans H.out)
  have HO := Lib.hid (pickTo_one cf hne)
  clear ha hc HP H
  obtain ⟨n, hn⟩ : ∃ n, l.length = n := ⟨_, rfl⟩
  rw [hn] at HA HS HM HQ HE ha1 hne ⊢
  clear hn
  have c0 := (HA.out 0 hne).1
  have c1 := (HA.out 0 hne).2
  rw [Nat.zero_mul, Nat.add_zero] at c0 c1
  obtain ⟨⟨sx, sy⟩, hs⟩ : ∃ p, at' l 0 = p := ⟨_, rfl⟩
  have HO2 := Lib.hid (show pickTo cf l 1 = (sx, sy) by rw [HO.out, hs])
  rw [hs] at c0 c1
  simp only at c0 c1
  clear hs HO
  have hbl := block_lt_of_cell c0
  simp only at hbl
  have hn1 : ¬ (n : Int) < 1 := by omega
  go_enter Try.func55, Try.ntmps55
  go_wp2
  go_loopw [6] (fun i wr => ∃ k : Nat, i = .int .i64 k ∧ 1 ≤ k ∧ k ≤ n ∧ Own w wr ∧
      wr.cell? ⟨w.heap.size, 0, none⟩ = some (.int .i64 0) ∧ wr.cell? ⟨w.heap.size, 1, none⟩ = some (.int .i64 0) ∧
      wr.cell? ⟨w.heap.size + 1, 0, none⟩ = some (.int .i64 (pickTo cf l k).1) ∧ wr.cell? ⟨w.heap.size + 1, 1, none⟩ = some (.int .i64 (pickTo cf l k).2) ∧
      wr.frozen? ⟨w.heap.size, 0, none⟩ = false ∧ wr.frozen? ⟨w.heap.size, 1, none⟩ = false ∧ wr.frozen? ⟨w.heap.size + 1, 0, none⟩ = false ∧ wr.frozen? ⟨w.heap.size + 1, 1, none⟩ = false) (fun i _ => n - (intOf i).toNat)
  case atStart =>
    refine ⟨1, rfl, Nat.le_refl _, hne, by repeat (first | exact Own.refl _ | apply Own.alloc | refine Own.setCell ?_ (by simp; try omega) _), ?_⟩
    rw [HO2.out]
    refine ⟨by go_simp, by go_simp, by go_simp, by go_simp, by go_simp, by go_simp, by go_simp, by go_simp⟩
  case round =>
    obtain ⟨k, rfl, hk1, hk, g0, k2, k3, k4, k5, z0, z1, z2, z3⟩ := hrel
    by_cases hlt : k < n
    · have st := HS.out k hk1 hlt
      have mq := HQ.out k hlt
      have mm := HM.out k hk1 hk
      obtain ⟨⟨qx, qy⟩, hq⟩ : ∃ p, at' l k = p := ⟨_, rfl⟩
      obtain ⟨⟨mx, my⟩, hm⟩ : ∃ p, pickTo cf l k = p := ⟨_, rfl⟩
      have e0 := g0.cell (HA.out k hlt).1
      have e1 := g0.cell (HA.out k hlt).2
      rw [hq] at e0 e1 st mq
      rw [hm] at k4 k5 st mm
      simp only at e0 e1 k4 k5
      clear hq hm
      obtain ⟨v, hv⟩ : ∃ v, cf (qx, qy) (mx, my) = v := ⟨_, rfl⟩
      unfold pickS at st
      rw [hv] at st
      have HST := Lib.hid st
      have HCC := Lib.hid (fun w' (h : Own w w') => HC.out (qx, qy) (mx, my) v w' mq mm hv h)
      clear st hv mq mm
      go_upto_region 7 with (fail)
      have f0 := Own.refl wr
      go_region_held3 (fun w' => w'.cell? ⟨b, off + k * 2, none⟩ = some (.int .i64 qx) ∧ w'.cell? ⟨b, off + k * 2 + 1, none⟩ = some (.int .i64 qy) ∧ w'.cell? ⟨w.heap.size + 1, 0, none⟩ = some (.int .i64 mx) ∧ w'.cell? ⟨w.heap.size + 1, 1, none⟩ = some (.int .i64 my) ∧ Own wr w') ((refine s4 ?_ e0 e1 k4 k5; repeat (first | (with_reducible assumption) | (exact Own.refl _) | (apply Own.alloc) | (apply Own.drew))))
        ((go_at_fn g; refine (HCC.out _ (by first | exact g0 | exact g0.drew)).mono ?_; rintro e w1 ⟨rfl, hg⟩; replace hg : Own wr w1 := Own.trans (by repeat (first | (with_reducible assumption) | (exact Own.refl _) | (apply Own.alloc) | (apply Own.drew))) hg))
      replace z0 : w1.frozen? _ = _ := frozen_kept hg k2 z0
      replace z1 : w1.frozen? _ = _ := frozen_kept hg k3 z1
      replace z2 : w1.frozen? _ = _ := frozen_kept hg k4 z2
      replace z3 : w1.frozen? _ = _ := frozen_kept hg k5 z3
      replace k2 := hg.cell k2
      replace k3 := hg.cell k3
      replace k4 := hg.cell k4
      replace k5 := hg.cell k5
      replace e0 := hg.cell e0
      replace e1 := hg.cell e1
      replace g0 := g0.trans hg
      clear hg f0
      by_cases d : v < 0
      · have HS2 := Lib.hid (HST.out.trans (if_pos d))
        go_wp2
        go_roundw
        case rel =>
          refine ⟨k + 1, by go_num, by omega, hlt, by repeat (first | exact g0 | apply Own.drewN | refine Own.setCell ?_ (by simp; try omega) _), ?_⟩
          rw [HS2.out]
          refine ⟨by go_simp, by go_simp, by go_simp, by go_simp, by go_simp, by go_simp, by go_simp, by go_simp⟩
        case measure => simp [intOf]; omega
      · have HS2 := Lib.hid (HST.out.trans (if_neg d))
        go_wp2
        go_roundw
        case rel =>
          refine ⟨k + 1, by go_num, by omega, hlt, g0, ?_⟩
          rw [HS2.out]
          exact ⟨k2, k3, k4, k5, z0, z1, z2, z3⟩
        case measure => simp [intOf]; omega
    · obtain rfl : k = n := by omega
      rw [HE.out] at k4 k5
      obtain ⟨mx, my⟩ := m
      simp only at k4 k5
      go_wp2
      exact bodyPost_ret (v := .agg #[.int .i64 mx, .int .i64 my]) (by simp [results, Try.results55, go_sem, k2, k3]) rfl ⟨rfl, (g0.setCell (by simp) _).setCell (by simp) _⟩
end Go.Proofs.Ytnakacflaaelnaa.GeoW
