/-
  Package crc: what the laws ask of the program; walks of the laws' lists and great. Condition: none.
-/
import Derived.Test.YtbplglndcagglaaCrcD
namespace Go.Proofs.Ytbplglndcagglaa.CrcW
open Go.ChangeShapes Go.WideShapes Go.ChangeAt Go.RowKit
open PairW CelW WirP CrcP WirW
/-- What the laws ask of the program's functions. -/
structure CrcC : Prop where
  sum : ∀ (b : Bs) (v : Value) (t : Nat) (w : World), Hid (Cel w v (cellsU b)) → b.length ≤ 200000 → Hid (ext 0 b = t) →
    Calls Try.prog 12 #[v] w fun e w' => e = .returned (.int .u32 (t : Int)) ∧ Own w w'
  extend : ∀ (s : Nat) (b : Bs) (v : Value) (t : Nat) (w : World), s < 4294967296 → Hid (Cel w v (cellsU b)) → b.length ≤ 200000 → Hid (ext s b = t) →
    Calls Try.prog 14 #[.int .u32 (s : Int), v] w fun e w' => e = .returned (.int .u32 (t : Int)) ∧ Own w w'
  frame : ∀ (c : Bs) (v : Value) (w : World), Hid (Cel w v (cellsU c)) → c.length ≤ 200000 →
    Calls Try.prog 16 #[v] w fun e w' => ∃ v', e = .returned (.tuple #[v', .int .i64 (frE c)]) ∧ w'.ownsRow w.heap.size 5 1 v' (frV c).length (cellsU (frV c)) ∧ Own w w'
  op : ∀ (b V : Bs) (v : Value) (f : Int) (m : Nat) (w : World), Hid (Cel w v (cellsU b)) → b.length ≤ 200000 → Hid (openE b = f ∧ openV b = V ∧ openK b = m) →
    Calls Try.prog 19 #[v] w fun e w' => ∃ v', e = .returned (.tuple #[v', .int .i64 (m : Int), .int .i64 f]) ∧ w'.ownsRow w.heap.size 5 1 v' V.length (cellsU V) ∧ Own w w'
  all : ∀ (b : Bs) (L : List Bs) (n : Nat) (v : Value) (w : World), Hid (Cel w v (cellsU b)) → b.length ≤ 200000 → Hid (allR b = (L, n)) →
    Calls Try.prog 21 #[v] w fun e w' => ∃ vl, e = .returned (.tuple #[vl, .int .i64 (n : Int)]) ∧ Lsts w' w.heap.size vl L ∧ Own w w'
/-- The slice v holds slices that hold these bytes, wherever they lie. -/
def Cels (w : World) (v : Value) (L : List Bs) : Prop := ∃ vs : List Value, vs.length = L.length ∧ Cel w v vs ∧ ∀ i (h : i < L.length) u, vs[i]? = some u → Cel w u (cellsU L[i])
theorem Cels.own {w w' : World} {v : Value} {L : List Bs} (h : Cels w v L) (q : Own w w') : Cels w' v L := by
  obtain ⟨vs, h1, h2, h3⟩ := h
  exact ⟨vs, h1, h2.own q, fun i hi u hu => (h3 i hi u hu).own q⟩
theorem cels_lsts {w : World} {H : Nat} {v : Value} {L : List Bs} (h : Lsts w H v L) : Cels w v L := by
  obtain ⟨vs, h1, h2, h3⟩ := h
  exact ⟨vs, h1, cel_of_row h2, fun i hi u hu => cel_of_row (h3 i hi u hu)⟩
/-- A list of slices, opened. -/
theorem cels_open {w : World} {v : Value} {L : List Bs} (h : Cels w v L) : ∃ A cap, v = .slice A L.length cap ∧ L.length ≤ cap ∧ cap ≤ maxLen ∧ (0 < L.length → ∃ g off : Nat, A = some ⟨g, off, none⟩ ∧ ∀ i (hi : i < L.length), ∃ u, w.cell? ⟨g, off + i, none⟩ = some u ∧ Cel w u (cellsU L[i])) := by
  obtain ⟨vs, h1, h2, h3⟩ := h
  obtain ⟨A, cap, k1, k2, k3, k4⟩ := h2
  rw [h1] at k1 k2 k4
  refine ⟨A, cap, k1, k2, k3, fun h0 => ?_⟩
  obtain ⟨g, off, k5, k6⟩ := k4 h0
  refine ⟨g, off, k5, fun i hi => ?_⟩
  have hv : i < vs.length := by omega
  exact ⟨vs[i], k6 i _ (List.getElem?_eq_getElem hv), h3 i hi _ (List.getElem?_eq_getElem hv)⟩
/-- The first k contents. -/
theorem Cels.take {w : World} {A : Option Addr} {n c k : Nat} {L : List Bs} (h : Cels w (.slice A n c) L) (hk : k ≤ n) : Cels w (.slice A k c) (L.take k) := by
  obtain ⟨vs, h1, h2, h3⟩ := h
  have hn : vs.length = n := by
    obtain ⟨A', c', hv, _⟩ := h2
    injection hv with e1 e2 e3
    exact e2.symm
  obtain ⟨A', c', hv, k2, k3, k4⟩ := h2
  injection hv with e1 e2 e3
  subst e1
  subst e3
  have hl : (vs.take k).length = k := by rw [List.length_take]; omega
  refine ⟨vs.take k, by rw [List.length_take, List.length_take, h1], ⟨_, _, by rw [hl], by rw [hl]; omega, k3, fun h0 => ?_⟩, fun i hi u hu => ?_⟩
  · obtain ⟨g, off, hA, hc⟩ := k4 (by omega)
    refine ⟨g, off, hA, fun i u hu => hc i u ?_⟩
    have hi : i < k := by have := (List.getElem?_eq_some_iff.1 hu).1; rwa [hl] at this
    rw [← hu, List.getElem?_take_of_lt hi]
  · rw [List.length_take] at hi
    rw [List.getElem?_take_of_lt (by omega)] at hu
    rw [List.getElem_take]
    exact h3 i (by omega) u hu
def greatB (L : List Bs) : Bool := decide (12 < L.length) || L.any fun c => decide (400 < c.length)
set_option maxRecDepth 100000 in
set_option maxHeartbeats 1000000 in
theorem great_at (L : List Bs) (v : Value) (t : Bool) (w : World) (HL : Hid (Cels w v L)) (H : Hid (greatB L = t)) :
    Calls Try.prog 24 #[v] w fun e w' => e = .returned (.bool t) ∧ w = w' := by
  obtain ⟨A, cap, rfl, h1, h2, h3⟩ := cels_open HL.out
  unfold maxLen at h2
  obtain ⟨n, hn⟩ : ∃ n, L.length = n := ⟨_, rfl⟩
  have HN := Lib.hid hn
  have HC := Lib.hid (fun (h : 0 < n) => h3 (by rw [hn]; exact h))
  rw [hn] at h1 ⊢
  clear h3 HL
  have HG := Lib.hid (show (12 < n ∨ ∃ i, ∃ h : i < L.length, 400 < L[i].length) ↔ t = true by
    rw [← H.out, greatB, Bool.or_eq_true, decide_eq_true_eq, List.any_eq_true]
    refine or_congr (by rw [hn]) ⟨fun ⟨i, h, k⟩ => ⟨L[i], List.getElem_mem h, by simpa using k⟩, fun ⟨x, hx, k⟩ => ?_⟩
    obtain ⟨i, h, rfl⟩ := List.mem_iff_getElem.1 hx
    exact ⟨i, h, by simpa using k⟩)
  clear H hn
  by_cases hbig : 12 < n
  · obtain rfl := HG.out.1 (.inl hbig)
    have d1 : (12 : Int) < n := by omega
    go_enter Try.func24, Try.ntmps24
    go_wp2
    go_ret
    exact ⟨rfl, rfl⟩
  · have d1 : ¬ (12 : Int) < n := by omega
    go_enter Try.func24, Try.ntmps24
    go_wp2
    go_loop [3] (fun vi => ∃ k : Nat, vi = .int .i64 (k : Int) ∧ k ≤ n ∧ ∀ j, j < k → ∀ h : j < L.length, ¬ 400 < L[j].length) (fun vi => n - (intOf vi).toNat)
    case atStart => exact ⟨0, rfl, Nat.zero_le _, fun j hj => absurd hj (Nat.not_lt_zero _)⟩
    case round =>
      obtain ⟨k, rfl, hk, hok⟩ := hrel
      have HOK := Lib.hid hok
      clear hok
      by_cases hlt : k < n
      · obtain ⟨g, off, rfl, hc⟩ := HC.out (by omega)
        have hkl : k < L.length := by rw [HN.out]; exact hlt
        obtain ⟨u, e0, hu⟩ := hc k hkl
        obtain ⟨A2, c2, rfl, l1, l2⟩ := cel_form hu
        clear l1 l2
        rw [cellsU_len] at e0
        have hkn : (k : Int) < n := by omega
        by_cases c : 400 < L[k].length
        · obtain rfl := HG.out.1 (.inr ⟨k, hkl, c⟩)
          obtain ⟨m, hm⟩ : ∃ m, L[k].length = m := ⟨_, rfl⟩
          rw [hm] at e0 c
          have d2 : (400 : Int) < m := by omega
          clear hc hu hm hkl
          go_wp2
          go_ret
          exact ⟨rfl, rfl⟩
        · have HX := Lib.hid (show ∀ h : k < L.length, ¬ 400 < L[k].length from fun _ => c)
          obtain ⟨m, hm⟩ : ∃ m, L[k].length = m := ⟨_, rfl⟩
          rw [hm] at e0 c
          have d2 : ¬ (400 : Int) < m := by omega
          clear hc hu hm hkl
          go_wp2
          go_round
          case rel => exact ⟨k + 1, by go_num, hlt, fun j hj => by
              by_cases e : j = k
              · subst e; exact HX.out
              · exact HOK.out j (by omega)⟩
          case measure => simp [intOf]; omega
      · obtain rfl : k = n := by omega
        have hf : t = false := by
          refine Bool.eq_false_iff.2 fun ht => ?_
          rcases HG.out.2 ht with h | ⟨i, h, hi⟩
          · exact hbig h
          · exact HOK.out i (by rw [← HN.out]; exact h) h hi
        subst hf
        go_wp2
        go_ret
        exact ⟨rfl, rfl⟩
set_option maxRecDepth 100000 in
set_option maxHeartbeats 2000000 in
theorem lists_yes (L : List Bs) (va vb : Value) (w : World) (HA : Hid (Cels w va L)) (HB : Hid (Cels w vb L)) :
    Calls Try.prog 23 #[va, vb] w fun e w' => e = .returned (.bool true) ∧ Own w w' := by
  obtain ⟨A, ca, rfl, ha1, ha2, ha⟩ := cels_open HA.out
  obtain ⟨B, cb, rfl, hb1, hb2, hb⟩ := cels_open HB.out
  unfold maxLen at ha2 hb2
  obtain ⟨n, hn⟩ : ∃ n, L.length = n := ⟨_, rfl⟩
  have HN := Lib.hid hn
  have HCA := Lib.hid (fun (h : 0 < n) => ha (by rw [hn]; exact h))
  have HCB := Lib.hid (fun (h : 0 < n) => hb (by rw [hn]; exact h))
  rw [hn] at ha1 hb1 ⊢
  clear ha hb HA HB hn
  go_enter Try.func23, Try.ntmps23
  go_wp2
  go_loopw [5] (fun vi wr => ∃ k : Nat, vi = .int .i64 (k : Int) ∧ k ≤ n ∧ Own w wr) (fun vi _ => n - (intOf vi).toNat)
  case atStart => exact ⟨0, rfl, Nat.zero_le _, Own.refl w⟩
  case round =>
    obtain ⟨k, rfl, hk, q⟩ := hrel
    by_cases hlt : k < n
    · have hkl : k < L.length := by rw [HN.out]; exact hlt
      obtain ⟨g, off, rfl, hc⟩ := HCA.out (by omega)
      obtain ⟨g2, off2, rfl, hc2⟩ := HCB.out (by omega)
      obtain ⟨u, e0, hu⟩ := hc k hkl
      obtain ⟨u2, e1, hu2⟩ := hc2 k hkl
      have c1 := fun N => conv_cel (P := Try.prog) (hu.own (q.drewN N)) (src := 23) (e := 5) (dst := 9) rfl rfl rfl
      have c2 := fun N => conv_cel (P := Try.prog) (hu2.own (q.drewN N)) (src := 23) (e := 5) (dst := 9) rfl rfl rfl
      replace e0 := q.cell e0
      replace e1 := q.cell e1
      obtain ⟨A2, d2, rfl, l1, l2⟩ := cel_form hu
      obtain ⟨B2, d3, rfl, l3, l4⟩ := cel_form hu2
      clear l1 l2 l3 l4
      obtain ⟨s, hs⟩ : ∃ s, strB L[k] = s := ⟨_, rfl⟩
      rw [hs] at c1 c2
      have hss : (s.toList == s.toList) = true := beq_self_eq_true _
      obtain ⟨m, hm⟩ : ∃ m, (cellsU L[k]).length = m := ⟨_, rfl⟩
      rw [hm] at c1 c2 e0 e1
      have hkn : (k : Int) < n := by omega
      clear hc hc2 hu hu2 hs hm hkl
      go_upto_region 6 with (fail)
      go_quiet (fail)
      go_wp2
      go_roundw
      case rel => exact ⟨k + 1, by go_num, hlt, q.drewN _⟩
      case measure => simp [intOf]; omega
    · obtain rfl : n = k := by omega
      go_wp2
      go_ret
      exact ⟨rfl, q⟩
end Go.Proofs.Ytbplglndcagglaa.CrcW
