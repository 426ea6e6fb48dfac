/-
  Walks of the specification of package graph: Reach, far. Condition: none.
-/
import Derived.Test.YtkdfmjhhdfiiiaaGraphB
import Derived.Test.YtkdfmjhhdfiiiaaGraphPlainB
namespace Go.Proofs.Ytkdfmjhhdfiiiaa.GraW
open Go.ChangeShapes Go.WideShapes Go.ChangeAt Go.RowKit
open PairW CelW GraP
/-- What Reach returns. -/
def reaE (N : Int) (l : List Ar) (a : Int) : Int := if chkE N l ≠ 0 then chkE N l else if inN N a = true then 0 else 6
def reaV (N : Int) (l : List Ar) (a : Int) : List Bool := if reaE N l a = 0 then rchV N.toNat l a.toNat else []
theorem reaV_bad {N : Int} {l : List Ar} {a : Int} (h : reaE N l a ≠ 0) : reaV N l a = [] := if_neg h
theorem rchV_len (n : Nat) (l : List Ar) (a : Nat) : (rchV n l a).length = n := by unfold rchV; rw [List.length_map, List.length_range]
theorem len_set {α : Type} {R : List α} {n i : Nat} {v : α} (h : R.length = n) : (R.set i v).length = n := by rw [List.length_set, h]
/-- A cell of a row that holds truths, or numbers. -/
theorem row_bool {w : World} {base g n c : Nat} {e : TypeId} {R : List Bool} (h : w.ownsRow base e 1 (.slice (some ⟨g, 0, none⟩) n c) n (cellsT R)) (hl : R.length = n) {i : Nat} (hi : i < n) : ∃ b, w.cell? ⟨g, i, none⟩ = some (.bool b) ∧ R[i]? = some b ∧ w.frozen? ⟨g, i, none⟩ = false := by
  have h0 : i < R.length := by omega
  exact ⟨R[i], (World.ownsRow.cellAt h i (by omega)).trans (cellsT_at h0), List.getElem?_eq_getElem h0, World.ownsRow.frozenAt h i⟩
theorem row_int {w : World} {base g n c : Nat} {e : TypeId} {R : List Int} (h : w.ownsRow base e 1 (.slice (some ⟨g, 0, none⟩) n c) n (cellsI R)) (hl : R.length = n) {i : Nat} (hi : i < n) : ∃ b, w.cell? ⟨g, i, none⟩ = some (.int .i64 b) ∧ R[i]? = some b ∧ w.frozen? ⟨g, i, none⟩ = false := by
  have h0 : i < R.length := by omega
  exact ⟨R[i], (World.ownsRow.cellAt h i (by omega)).trans (cellsI_at h0), List.getElem?_eq_getElem h0, World.ownsRow.frozenAt h i⟩
theorem row_put {w : World} {base g n c : Nat} {e : TypeId} {R : List Bool} (h : w.ownsRow base e 1 (.slice (some ⟨g, 0, none⟩) n c) n (cellsT R)) (i : Nat) (b : Bool) : (w.setCell ⟨g, i, none⟩ (.bool b)).ownsRow base e 1 (.slice (some ⟨g, 0, none⟩) n c) n (cellsT (R.set i b)) := by
  rw [← cellsT_set]
  exact (World.ownsRow.stored h i _).1
theorem row_puti {w : World} {base g n c : Nat} {e : TypeId} {R : List Int} (h : w.ownsRow base e 1 (.slice (some ⟨g, 0, none⟩) n c) n (cellsI R)) (i : Nat) (b : Int) : (w.setCell ⟨g, i, none⟩ (.int .i64 b)).ownsRow base e 1 (.slice (some ⟨g, 0, none⟩) n c) n (cellsI (R.set i b)) := by
  rw [← cellsI_set]
  exact (World.ownsRow.stored h i _).1
set_option maxRecDepth 100000 in
set_option maxHeartbeats 2000000 in
theorem rreach_at (N a : Int) (l : List Ar) (sv : Value) (f : Int) (V : List Bool) (w : World) (HP : Hid (Pts w sv l)) (H : Hid (reaE N l a = f ∧ reaV N l a = V)) :
    Calls Try.prog 19 #[grV N sv, .int .i64 a] w fun e w' => ∃ v, e = .returned (.tuple #[v, .int .i64 f]) ∧ w'.ownsRow w.heap.size 4 1 v V.length (cellsT V) ∧ Own w w' := by
  obtain ⟨i0, hi, hz0, hz1, hz2⟩ := info_parts (show (Try.prog.info? 4).map (fun i => (i.zero, i.size, i.bytes)) = some (some (.bool false), 1, 1) by kernel_rfl)
  have HI := Lib.hid hi
  have HZ0 := Lib.hid hz0
  have HZ1 := Lib.hid hz1
  have HZ2 := Lib.hid hz2
  obtain ⟨ce, hce⟩ : ∃ f, chkE N l = f := ⟨_, rfl⟩
  have HCE := Lib.hid hce
  obtain ⟨A, cap, rfl, a1, a2, a3⟩ := HP.out.open
  unfold maxLen at a2
  obtain ⟨m, hm⟩ : ∃ m, l.length = m := ⟨_, rfl⟩
  rw [hm] at a1 a3 HP ⊢
  have HM := Lib.hid hm
  have HCA := Lib.hid a3
  clear a3 hm
  by_cases c0 : ce = 0
  · subst c0
    obtain ⟨b0, b1, b2, G⟩ := chk_ok.1 hce
    obtain ⟨n, rfl⟩ : ∃ n : Nat, N = n := ⟨N.toNat, by omega⟩
    rw [Int.toNat_natCast] at G
    have HG := Lib.hid G
    have hn64 : n ≤ 64 := by omega
    by_cases c1 : inN (n : Int) a = true
    · obtain ⟨n0, n1⟩ := inN_iff.1 c1
      obtain ⟨x, rfl⟩ : ∃ x : Nat, a = x := ⟨a.toNat, by omega⟩
      have hxn : x < n := by omega
      obtain ⟨rfl, rfl⟩ : 0 = f ∧ rchV n l x = V := by
        have h1 : reaE n l x = 0 := by unfold reaE; rw [if_neg (by rw [hce]; simp), if_pos c1]
        refine ⟨by rw [← H.out.1, h1], by rw [← H.out.2]; unfold reaV; rw [if_pos h1, Int.toNat_natCast, Int.toNat_natCast]⟩
      have HC1 := Lib.hid c1
      have HXN := Lib.hid hxn
      have HBY := Lib.hid (show i0.bytes * n ≤ 281474976710656 by rw [hz2]; omega)
      have HMX := Lib.hid (show n ≤ maxLen by unfold maxLen; omega)
      have HZL := Lib.hid (show (madeCells (Value.bool false).cells (n * 1)).toList = cellsT (List.replicate n false) by rw [Nat.mul_one]; show (madeCells #[Value.bool false] n).toList = _; rw [toList_madeCells_one]; unfold cellsT; rw [List.map_replicate])
      have HST := Lib.hid (re_start (l := l) hxn)
      clear hi hz0 hz1 hz2 hce H G c1 n0 n1 b0 b1 b2
      go_enter Try.func19, Try.ntmps19
      go_upto_region 1 with (fail)
      have k0 : (w.alloc (.cells #[.int .i64 (n : Int), .slice A m cap] 24)).cell? ⟨w.heap.size, 0, none⟩ = some (.int .i64 (n : Int)) := by go_simp
      have k1 : (w.alloc (.cells #[.int .i64 (n : Int), .slice A m cap] 24)).cell? ⟨w.heap.size, 1, none⟩ = some (.slice A m cap) := by go_simp
      have g0 : Own w (w.alloc (.cells #[.int .i64 (n : Int), .slice A m cap] 24)) := (Own.refl w).alloc _
      generalize hW : (w.alloc (.cells #[.int .i64 (n : Int), .slice A m cap] 24)) = W0 at *
      have HBX := Lib.hid (show w.heap.size < W0.heap.size by rw [← hW]; simp)
      have HK0 := Lib.hid k0
      have HK1 := Lib.hid k1
      clear hW
      have HP0 := Lib.hid (HP.out.own g0)
      go_upto_region 7 with (first
        | (go_at_call 12; with_reducible refine (rcheck_at n l _ 0 _ HP0 HCE).mono ?_; rintro e w1 ⟨rfl, q1⟩; replace k0 := q1.cell k0; replace k1 := q1.cell k1)
        | (go_at_call 30; with_reducible refine (rnode_at n x _ _ _ true _ HC1).mono ?_; rintro e w2 ⟨rfl, q2⟩; replace k0 := q2.cell k0; replace k1 := q2.cell k1; have q12 := q1.trans q2)
        | (at_make; refine wpList_make_full _ rfl _ _ 33 rfl W0.heap.size 4 i0 (.bool false) 1 Try.underlying33 HI.out HZ0.out HZ1.out _ _ _ _ n rfl rfl rfl rfl HBY.out HMX.out q12.size ?_; intro w3 hown3 hg3; have q23 := (Own.refl w2).grown hg3 (by simp); replace k0 := q23.cell k0; replace k1 := q23.cell k1; have q3 := q12.trans q23; have HR3 := Lib.hid (show w3.ownsRow W0.heap.size 4 1 (.slice (some ⟨w2.heap.size, 0, none⟩) n n) n (cellsT (List.replicate n false)) from HZL.out ▸ hown3); clear hown3 hg3))
      have HGB := Lib.hid (show W0.heap.size ≤ w2.heap.size from q12.size)
      obtain ⟨g, hgg⟩ : ∃ g, w2.heap.size = g := ⟨_, rfl⟩
      rw [hgg] at HR3 HGB
      rw [hgg]
      clear hgg q1 q2 q12 q23 k0 k1
      obtain ⟨b0, e0, _, f0⟩ := row_bool HR3.out List.length_replicate hxn
      have hxn2 : (x : Int) < n := by omega
      go_upto_region 8 with (fail)
      have HR4 := Lib.hid (row_put HR3.out x true)
      have q4 := q3.setCell (p := ⟨g, x, none⟩) HGB.out (.bool true)
      generalize hw4 : w3.setCell ⟨g, x, none⟩ (.bool true) = w4 at *
      clear hw4 e0 f0 q3 HR3
      go_wp2
      go_loopw [8, 9] (fun vm _ wr => ∃ (k : Nat) (R : List Bool), vm = .int .i64 (k : Int) ∧ k ≤ n ∧ Own W0 wr ∧ wr.ownsRow W0.heap.size 4 1 (.slice (some ⟨g, 0, none⟩) n n) n (cellsT R) ∧ R.length = n ∧ ReS n l x R ∧ ReF n l x k R) (fun vm _ _ => n - (intOf vm).toNat)
      case atStart => exact ⟨0, _, rfl, Nat.zero_le _, q4, HR4.out, len_set List.length_replicate, HST.out.1, HST.out.2⟩
      case round =>
        obtain ⟨k, R, rfl, hk, q, hrow, hrl, hs, hf⟩ := hrel
        have k0 := q.cell HK0.out
        have k1 := q.cell HK1.out
        have HROW := Lib.hid hrow
        have HRL := Lib.hid hrl
        have HS := Lib.hid hs
        have HF := Lib.hid hf
        clear hrow hrl hs hf
        by_cases hlt : k < n
        · have hkn : (k : Int) < n := by omega
          go_wp2
          clear k0 k1
          go_loopw [9] (fun vi wy => ∃ (i : Nat) (R : List Bool), vi = .int .i64 (i : Int) ∧ i ≤ m ∧ Own W0 wy ∧ wy.ownsRow W0.heap.size 4 1 (.slice (some ⟨g, 0, none⟩) n n) n (cellsT R) ∧ R.length = n ∧ ReS n l x R ∧ ReF n l x k R ∧ ReU n l x k i R) (fun vi _ => m - (intOf vi).toNat)
          case atStart => exact ⟨0, R, rfl, Nat.zero_le _, q, HROW.out, HRL.out, HS.out, HF.out, fun j hj => absurd hj (Nat.not_lt_zero _)⟩
          case round =>
            clear HROW HRL HS HF q
            obtain ⟨i, R, rfl, hi, q, hrow, hrl, hs, hf, hu⟩ := hrel
            have k0 := q.cell HK0.out
            have k1 := q.cell HK1.out
            by_cases hlt2 : i < m
            · obtain ⟨b, off, rfl, hc⟩ := HCA.out (by omega)
              have hil : i < l.length := by rw [HM.out]; exact hlt2
              obtain ⟨u, v, huv, hun, hvn⟩ := HG.out.at hil
              have c0 := (g0.trans q).cell (hc i hlt2).1
              have c1 := (g0.trans q).cell (hc i hlt2).2
              rw [huv] at c0 c1
              simp only at c0 c1
              obtain ⟨bu, e0, hbu, _⟩ := row_bool hrow hrl hun
              obtain ⟨bv, e1, _, f1⟩ := row_bool hrow hrl hvn
              have him : (i : Int) < m := by omega
              have hun2 : (u : Int) < n := by omega
              have hvn2 : (v : Int) < n := by omega
              cases bu with
              | true =>
                obtain ⟨n1, n2, n3⟩ := re_set HG.out HXN.out hil huv (by omega) hbu hs hf hu
                have HN1 := Lib.hid n1
                have HN2 := Lib.hid n2
                have HN3 := Lib.hid n3
                have HROW := Lib.hid (row_put hrow v true)
                have HRL := Lib.hid (len_set (i := v) (v := true) hrl)
                clear hc huv hbu hs hf hu n1 n2 n3 hrow hrl hil
                go_wp2
                go_roundw
                case rel => exact ⟨i + 1, _, by go_num, hlt2, q.setCell HGB.out _, HROW.out, HRL.out, HN1.out, HN2.out, HN3.out⟩
                case measure => simp [intOf]; omega
              | false =>
                have HN3 := Lib.hid (re_skip huv (by unfold Tr; rw [hbu]; simp) hf hu)
                have HROW := Lib.hid hrow
                have HRL := Lib.hid hrl
                have HS := Lib.hid hs
                have HF := Lib.hid hf
                clear hc huv hbu hs hf hu hrow hrl hil
                go_wp2
                go_roundw
                case rel => exact ⟨i + 1, R, by go_num, hlt2, q, HROW.out, HRL.out, HS.out, HF.out, HN3.out⟩
                case measure => simp [intOf]; omega
            · obtain rfl : i = m := by omega
              have HN := Lib.hid (re_round HG.out HXN.out hf (by rw [HM.out]; exact hu))
              have HROW := Lib.hid hrow
              have HRL := Lib.hid hrl
              have HS := Lib.hid hs
              clear hs hf hu hrow hrl
              go_wp2
              go_roundw
              case rel => exact ⟨k + 1, R, by go_num, hlt, q, HROW.out, HRL.out, HS.out, HN.out⟩
              case measure => simp [intOf]; omega
        · obtain rfl : k = n := by omega
          have hR := re_end HG.out HXN.out HRL.out HS.out HF.out
          subst hR
          go_wp2
          go_ret2
          exact ⟨_, rfl, by rw [rchV_len]; exact row_down HROW.out (Nat.le_of_lt HBX.out), g0.trans q⟩
    · have c1 : inN (n : Int) a = false := Bool.eq_false_iff.2 c1
      obtain ⟨rfl, rfl⟩ : 6 = f ∧ [] = V := by
        have h1 : reaE n l a = 6 := by unfold reaE; rw [if_neg (by rw [hce]; simp), if_neg (by rw [c1]; simp)]
        exact ⟨by rw [← H.out.1, h1], by rw [← H.out.2, reaV_bad (by rw [h1]; decide)]⟩
      have HC1 := Lib.hid c1
      clear hi hz0 hz1 hz2 hce H G c1 b0 b1 b2
      go_enter Try.func19, Try.ntmps19
      go_upto_region 1 with (fail)
      have k0 : (w.alloc (.cells #[.int .i64 (n : Int), .slice A m cap] 24)).cell? ⟨w.heap.size, 0, none⟩ = some (.int .i64 (n : Int)) := by go_simp
      have k1 : (w.alloc (.cells #[.int .i64 (n : Int), .slice A m cap] 24)).cell? ⟨w.heap.size, 1, none⟩ = some (.slice A m cap) := by go_simp
      have g0 : Own w (w.alloc (.cells #[.int .i64 (n : Int), .slice A m cap] 24)) := (Own.refl w).alloc _
      generalize hW : (w.alloc (.cells #[.int .i64 (n : Int), .slice A m cap] 24)) = W0 at *
      have HBX := Lib.hid (show w.heap.size < W0.heap.size by rw [← hW]; simp)
      have HK0 := Lib.hid k0
      have HK1 := Lib.hid k1
      clear hW
      have HP0 := Lib.hid (HP.out.own g0)
      go_wp2_with (first
        | (go_at_call 12; with_reducible refine (rcheck_at n l _ 0 _ HP0 HCE).mono ?_; rintro e w1 ⟨rfl, q1⟩; replace k0 := q1.cell k0; replace k1 := q1.cell k1)
        | (go_at_call 30; with_reducible refine (rnode_at n a _ _ _ false _ HC1).mono ?_; rintro e w2 ⟨rfl, q2⟩; replace k0 := q2.cell k0; replace k1 := q2.cell k1; have q12 := q1.trans q2))
      go_ret2
      exact ⟨_, rfl, World.ownsRow_nil _ _ _ _, g0.trans q12⟩
  · obtain ⟨rfl, rfl⟩ : ce = f ∧ [] = V := by
      have h1 : reaE N l a = ce := by unfold reaE; rw [if_pos (by rw [hce]; exact c0), hce]
      exact ⟨by rw [← H.out.1, h1], by rw [← H.out.2, reaV_bad (by rw [h1]; exact c0)]⟩
    have d1 : (ce == 0) = false := beq_eq_false_iff_ne.2 c0
    clear hi hz0 hz1 hz2 hce H
    go_enter Try.func19, Try.ntmps19
    go_upto_region 1 with (fail)
    have k0 : (w.alloc (.cells #[.int .i64 N, .slice A m cap] 24)).cell? ⟨w.heap.size, 0, none⟩ = some (.int .i64 N) := by go_simp
    have k1 : (w.alloc (.cells #[.int .i64 N, .slice A m cap] 24)).cell? ⟨w.heap.size, 1, none⟩ = some (.slice A m cap) := by go_simp
    have g0 : Own w (w.alloc (.cells #[.int .i64 N, .slice A m cap] 24)) := (Own.refl w).alloc _
    generalize hW : (w.alloc (.cells #[.int .i64 N, .slice A m cap] 24)) = W0 at *
    have HBX := Lib.hid (show w.heap.size < W0.heap.size by rw [← hW]; simp)
    have HK0 := Lib.hid k0
    have HK1 := Lib.hid k1
    clear hW
    have HP0 := Lib.hid (HP.out.own g0)
    go_wp2_with (go_at_call 12; with_reducible refine (rcheck_at N l _ ce _ HP0 HCE).mono ?_; rintro e w1 ⟨rfl, q1⟩; replace k0 := q1.cell k0; replace k1 := q1.cell k1)
    go_ret2
    exact ⟨_, rfl, World.ownsRow_nil _ _ _ _, g0.trans q1⟩
end Go.Proofs.Ytkdfmjhhdfiiiaa.GraW
