/-
  Walks of the specification of package graph: Order. Condition: none.
-/
import Derived.Test.YtkdfmjhhdfiiiaaGraphO
import Derived.Test.YtkdfmjhhdfiiiaaBytes
namespace Go.Proofs.Ytkdfmjhhdfiiiaa.GraW
open Go.ChangeShapes Go.WideShapes Go.ChangeAt Go.RowKit
open PairW CelW GraP
/-- A row that lies above what is stored to stays. -/
theorem row_lo {w : World} {base n size : Nat} {e : TypeId} {v : Value} {xs : List Value} (h : w.ownsRow base e size v n xs) {p : Addr} (hp : p.block < base) (u : Value) : (w.setCell p u).ownsRow base e size v n xs := by
  refine ⟨h.1, h.2.imp id ?_⟩
  rintro ⟨g', cap', cur, h1, h2, h3, h4⟩
  refine ⟨g', cap', cur, h1, h2, ?_, h4⟩
  rw [Below.heap_setCell _ _ _ _ (by omega)]
  exact h3
set_option maxRecDepth 100000 in
set_option maxHeartbeats 4000000 in
theorem rorder_at (N : Int) (l : List Ar) (sv : Value) (f : Int) (V : List Nat) (w : World) (HP : Hid (Pts w sv l)) (H : Hid (ordE N l = f ∧ ordV N l = V)) :
    Calls Try.prog 16 #[grV N sv] w fun e w' => ∃ v, e = .returned (.tuple #[v, .int .i64 f]) ∧ w'.ownsRow w.heap.size 3 1 v V.length (cellsI (ints V)) ∧ Own w w' := by
  obtain ⟨i0, hi, hz0, hz1, hz2⟩ := info_parts (show (Try.prog.info? 3).map (fun i => (i.zero, i.size, i.bytes)) = some (some (.int .i64 0), 1, 8) by kernel_rfl)
  have HI := Lib.hid hi
  have HZ0 := Lib.hid hz0
  have HZ1 := Lib.hid hz1
  have HZ2 := Lib.hid hz2
  obtain ⟨i1, hi, hz0, hz1, hz2⟩ := info_parts (show (Try.prog.info? 4).map (fun i => (i.zero, i.size, i.bytes)) = some (some (.bool false), 1, 1) by kernel_rfl)
  have JI := Lib.hid hi
  have JZ0 := Lib.hid hz0
  have JZ1 := Lib.hid hz1
  have JZ2 := Lib.hid hz2
  obtain ⟨ce, hce⟩ : ∃ f, chkE N l = f := ⟨_, rfl⟩
  have HCE := Lib.hid hce
  obtain ⟨A, cap, rfl, a1, a2, a3⟩ := HP.out.open
  unfold maxLen at a2
  obtain ⟨m, hm⟩ : ∃ m, l.length = m := ⟨_, rfl⟩
  rw [hm] at a1 a3 HP ⊢
  have HM := Lib.hid hm
  have HCA := Lib.hid a3
  clear a3 hm
  by_cases c0 : ce = 0
  · subst c0
    obtain ⟨b0, b1, b2, G⟩ := chk_ok.1 hce
    obtain ⟨n, rfl⟩ : ∃ n : Nat, N = n := ⟨N.toNat, by omega⟩
    rw [Int.toNat_natCast] at G
    have HG := Lib.hid G
    have hn64 : n ≤ 64 := by omega
    obtain ⟨HSOME', HNONE'⟩ := ord_yes hce H.out
    have HSOME := Lib.hid HSOME'
    have HNONE := Lib.hid HNONE'
    clear HSOME' HNONE'
    have HBY := Lib.hid (show i1.bytes * n ≤ 281474976710656 by rw [hz2]; omega)
    have HMX := Lib.hid (show n ≤ maxLen by unfold maxLen; omega)
    have HZL := Lib.hid (show (madeCells (Value.bool false).cells (n * 1)).toList = cellsT (dn n []) by rw [← dn_nil, Nat.mul_one]; show (madeCells #[Value.bool false] n).toList = _; rw [toList_madeCells_one]; unfold cellsT; rw [List.map_replicate])
    clear hi hz0 hz1 hz2 hce H G b0 b1 b2
    go_enter Try.func16, Try.ntmps16
    go_upto_region 1 with (fail)
    have k0 : (w.alloc (.cells #[.int .i64 (n : Int), .slice A m cap] 24)).cell? ⟨w.heap.size, 0, none⟩ = some (.int .i64 (n : Int)) := by go_simp
    have k1 : (w.alloc (.cells #[.int .i64 (n : Int), .slice A m cap] 24)).cell? ⟨w.heap.size, 1, none⟩ = some (.slice A m cap) := by go_simp
    have g0 : Own w (w.alloc (.cells #[.int .i64 (n : Int), .slice A m cap] 24)) := (Own.refl w).alloc _
    generalize hW : (w.alloc (.cells #[.int .i64 (n : Int), .slice A m cap] 24)) = W0 at *
    have HBX := Lib.hid (show w.heap.size < W0.heap.size by rw [← hW]; simp)
    have HK0 := Lib.hid k0
    have HK1 := Lib.hid k1
    clear hW
    have HP0 := Lib.hid (HP.out.own g0)
    go_upto_region 5 with (first
      | (go_at_call 12; with_reducible refine (rcheck_at n l _ 0 _ HP0 HCE).mono ?_; rintro e w1 ⟨rfl, q1⟩; replace k0 := q1.cell k0; replace k1 := q1.cell k1; have p1 := q1)
      | (at_make; refine wpList_make_full _ rfl _ _ 33 rfl W0.heap.size 4 i1 (.bool false) 1 Try.underlying33 JI.out JZ0.out JZ1.out _ _ _ _ n rfl rfl rfl rfl HBY.out HMX.out p1.size ?_; intro w3 hown3 hg3; have q13 := (Own.refl w1).grown hg3 (by simp); have q3 := q1.trans q13; have HR3 := Lib.hid (show w3.ownsRow W0.heap.size 4 1 (.slice (some ⟨w1.heap.size, 0, none⟩) n n) n (cellsT (dn n [])) from HZL.out ▸ hown3); clear hown3 hg3 q13))
    have HGB := Lib.hid (show W0.heap.size ≤ w1.heap.size from q1.size)
    obtain ⟨g, hgg⟩ : ∃ g, w1.heap.size = g := ⟨_, rfl⟩
    rw [hgg] at HR3 HGB
    rw [hgg]
    clear hgg q1 p1 k0 k1
    have HGW := Lib.hid (show g < w3.heap.size by
      rcases HR3.out.2 with ⟨h, _⟩ | ⟨g', c', cur, h, _, hh, _⟩
      · cases h
      · injection h with h
        injection h with h
        injection h with h
        subst h
        exact (Array.getElem?_eq_some_iff.1 hh).1)
    have HS3 := Lib.hid q3.size
    go_wp2
    go_loopw [6, 7, 8, 9, 10] (fun vo _ _ _ _ wr => ∃ out : List Nat, OrdOk n l out ∧ Own W0 wr ∧ wr.ownsRow W0.heap.size 4 1 (.slice (some ⟨g, 0, none⟩) n n) n (cellsT (dn n out)) ∧ wr.ownsRow w3.heap.size 3 1 vo out.length (cellsI (ints out)) ∧ out.length ≤ n ∧ ordF n l (n - out.length) out = ordO n l ∧ w3.heap.size ≤ wr.heap.size) (fun vo _ _ _ _ _ => n - lenOf vo)
    case atStart => exact ⟨[], ord_nil n l, q3, HR3.out, World.ownsRow_nil _ _ _ _, Nat.zero_le _, rfl, Nat.le_refl _⟩
    case round =>
      clear HR3
      obtain ⟨out, hok, q, hdn, hrow, hlen, hord, hsz⟩ := hrel
      have HSZ := Lib.hid hsz
      clear hsz
      have k0 := q.cell HK0.out
      obtain ⟨Ao, co, rfl⟩ := rows_shape hrow
      have HOK := Lib.hid hok
      have HROW := Lib.hid hrow
      have HORD := Lib.hid hord
      have HDN := Lib.hid hdn
      clear hrow hord hok hdn
      obtain ⟨z, hz⟩ : ∃ z, out.length = z := ⟨_, rfl⟩
      have HZ := Lib.hid hz
      rw [hz] at hlen HROW HORD ⊢
      clear hz
      by_cases hlt : z < n
      · have hkn : (z : Int) < n := by omega
        generalize wr = wz at *
        go_upto_region 9 with (fail)
        clear k0
        go_loopw [7, 8, 9, 10] (fun vn va _ _ wr => ∃ a : Nat, va = .int .i64 (a : Int) ∧ a ≤ n ∧ wr = wz ∧ ((vn = .int .i64 (-1) ∧ ∀ j, j < a → free l out j = false) ∨ ∃ c : Nat, vn = .int .i64 (c : Int) ∧ nxt n l out = some c)) (fun _ va _ _ _ => n - (intOf va).toNat)
        case atStart => exact ⟨0, rfl, Nat.zero_le _, rfl, .inl ⟨rfl, fun j hj => absurd hj (Nat.not_lt_zero _)⟩⟩
        case round =>
          obtain ⟨a, rfl, han, rfl, hcase⟩ := hrel
          have k0 := q.cell HK0.out
          have k1 := q.cell HK1.out
          rcases hcase with ⟨rfl, hno⟩ | ⟨c, rfl, hc⟩
          · have HNO := Lib.hid hno
            clear hno
            by_cases hlt2 : a < n
            · have hla : (a : Int) < n := by omega
              obtain ⟨ba, e0, hba, _⟩ := row_bool HDN.out (dn_len _ _) hlt2
              rw [dn_at hlt2] at hba
              injection hba with hba
              have HF0 := Lib.hid (show (!ba) = frk l out a 0 by rw [← hba, frk_zero])
              clear hba
              go_upto_region 12 with (fail)
              rw [HF0.out]
              clear e0
              go_wp2
              go_loopw [9, 10] (fun vf vi wy => ∃ i : Nat, vi = .int .i64 (i : Int) ∧ i ≤ m ∧ wy = wr ∧ vf = .bool (frk l out a i)) (fun _ vi _ => m - (intOf vi).toNat)
              case atStart => exact ⟨0, rfl, Nat.zero_le _, rfl, rfl⟩
              case round =>
                obtain ⟨i, rfl, him, rfl, rfl⟩ := hrel
                by_cases hlt3 : i < m
                · have himz : (i : Int) < m := by omega
                  obtain ⟨b, off, rfl, hc⟩ := HCA.out (by omega)
                  have hil : i < l.length := by rw [HM.out]; exact hlt3
                  obtain ⟨u, v, huv, hun, hvn⟩ := HG.out.at hil
                  have c0 := (g0.trans q).cell (hc i hlt3).1
                  have c1 := (g0.trans q).cell (hc i hlt3).2
                  rw [huv] at c0 c1
                  simp only at c0 c1
                  have hst := frk_succ (out := out) (a := a) hil
                  rw [huv] at hst
                  unfold fr at hst
                  simp only [Int.toNat_natCast] at hst
                  have hunz : (u : Int) < n := by omega
                  clear hc huv hil
                  cases hfk : frk l out a i with
                  | false =>
                    have HST := Lib.hid (show frk l out a (i + 1) = false by rw [hst, hfk]; rfl)
                    clear hst hfk
                    go_wp2
                    go_roundw
                    case rel => exact ⟨i + 1, by go_num, hlt3, trivial, by rw [HST.out]⟩
                    case measure => simp [intOf]; omega
                  | true =>
                    rw [hfk, Bool.true_and] at hst
                    by_cases hva : v = a
                    · have d1 : ((v : Int) != (a : Int)) = false := bne_eq_false_iff_eq.2 (by omega)
                      obtain ⟨bu, e1, hbu, _⟩ := row_bool HDN.out (dn_len _ _) hun
                      rw [dn_at hun] at hbu
                      injection hbu with hbu
                      have HST := Lib.hid (show frk l out a (i + 1) = bu by rw [hst, decide_eq_false (fun e => e (by omega)), Bool.false_or, hbu])
                      clear hst hfk hbu hva
                      go_wp2
                      go_roundw
                      case rel => exact ⟨i + 1, by go_num, hlt3, trivial, by rw [HST.out]⟩
                      case measure => simp [intOf]; omega
                    · have d1 : ((v : Int) != (a : Int)) = true := bne_iff_ne.2 (by omega)
                      have HST := Lib.hid (show frk l out a (i + 1) = true by rw [hst, decide_eq_true (show (v : Int) ≠ (a : Int) by omega), Bool.true_or])
                      clear hst hfk hva
                      go_wp2
                      go_roundw
                      case rel => exact ⟨i + 1, by go_num, hlt3, trivial, by rw [HST.out]⟩
                      case measure => simp [intOf]; omega
                · have eim : i = m := by omega
                  subst eim
                  have HFR := Lib.hid (show frk l out a i = free l out a by rw [← HM.out]; rfl)
                  rw [HFR.out]
                  cases hfr : free l out a with
                  | true =>
                    have HNX := Lib.hid (nxt_some.2 ⟨hlt2, hfr, HNO.out⟩)
                    clear hfr
                    go_wp2
                    go_roundw
                    case rel => exact ⟨a + 1, by go_num, hlt2, trivial, .inr ⟨a, rfl, HNX.out⟩⟩
                    case measure => simp [intOf]; omega
                  | false =>
                    have HN2 := Lib.hid (show ∀ j, j < a + 1 → free l out j = false from fun j hj => by
                      by_cases e : j = a
                      · rw [e]; exact hfr
                      · exact HNO.out j (by omega))
                    clear hfr
                    go_wp2
                    go_roundw
                    case rel => exact ⟨a + 1, by go_num, hlt2, trivial, .inl ⟨rfl, HN2.out⟩⟩
                    case measure => simp [intOf]; omega
            · have HNN := Lib.hid (show nxt n l out = none from nxt_none.2 fun j hj => HNO.out j (by omega))
              obtain ⟨rfl, rfl⟩ := HNONE.out (by rw [← HORD.out, show n - z = (n - z - 1) + 1 by omega, ordF_stop HNN.out])
              go_wp2
              go_ret2
              exact ⟨_, rfl, World.ownsRow_nil _ _ _ _, g0.trans q⟩
          · obtain ⟨hcn, hcf, _⟩ := nxt_some.1 hc
            have HOK2 := Lib.hid (ord_more HG.out HOK.out hcn hcf)
            have HOF2 := Lib.hid (show ordF n l (n - (out ++ [c]).length) (out ++ [c]) = ordO n l from by
              rw [← HORD.out, List.length_append, HZ.out]
              show ordF n l (n - (z + 1)) (out ++ [c]) = _
              rw [show n - z = (n - (z + 1)) + 1 by omega, ordF_step hc])
            have HLE := Lib.hid (show (out ++ [c]).length = z + 1 by rw [List.length_append, HZ.out]; rfl)
            obtain ⟨bc, e0, _, f0⟩ := row_bool HDN.out (dn_len _ _) hcn
            have HDN2 := Lib.hid (show (wr.setCell ⟨g, c, none⟩ (.bool true)).ownsRow W0.heap.size 4 1 (.slice (some ⟨g, 0, none⟩) n n) n (cellsT (dn n (out ++ [c]))) by
              have := row_put HDN.out c true
              rw [dn_set] at this
              exact this)
            have HROW2 := Lib.hid (row_lo HROW.out (p := ⟨g, c, none⟩) HGW.out (.bool true))
            have QS := Lib.hid (q.setCell (p := ⟨g, c, none⟩) HGB.out (.bool true))
            have SS := Lib.hid (show w3.heap.size ≤ (wr.setCell ⟨g, c, none⟩ (.bool true)).heap.size from by simpa [World.setCell] using HSZ.out)
            have hcz : (c : Int) < n := by omega
            have hc0 : ¬ (c : Int) < 0 := by omega
            have K2 := Lib.hid (show z + 1 ≤ maxLen by unfold maxLen; omega)
            have K3 := Lib.hid (show (z + 1) * 8 ≤ 140737488355328 by omega)
            have HSTEP := Lib.hid (fun (wx : World) (q1 : Own (wr.setCell ⟨g, c, none⟩ (.bool true)) wx) => And.intro (row_own HROW2.out q1) (And.intro (row_own HDN2.out q1) (QS.out.trans q1)))
            clear hc hcf
            by_cases hla : (a : Int) < n
            all_goals
              go_upto_region 21 with (fail)
              generalize hw7 : wr.setCell ⟨g, c, none⟩ (.bool true) = w7 at *
              clear hw7 e0 f0
              have q7 := (Own.refl w7).alloc (.cells #[.int .i64 (c : Int)] 3)
              have HRO := Lib.hid (HSTEP.out _ q7).1
              have HD7 := Lib.hid (HSTEP.out _ q7).2.1
              have HQ7 := Lib.hid (HSTEP.out _ q7).2.2
              have HCE := Lib.hid (cel_lit (w := w7) (T := 3) (cs := #[.int .i64 (c : Int)]) (xs := [.int .i64 (c : Int)]) (k := 1) rfl rfl (by unfold maxLen; decide))
              have HBS := Lib.hid (show w3.heap.size ≤ (w7.alloc (.cells #[.int .i64 (c : Int)] 3)).heap.size from Nat.le_trans SS.out q7.size)
              clear q7
              go_wp2_with (at_builtin; refine wpList_append_k (by go_simp) _ _ 29 rfl w3.heap.size 3 i0 (.int .i64 0) 8 Try.underlying29 HI.out HZ0.out HZ1.out HZ2.out rfl (.slice Ao z co) z (cellsI (ints out)) rfl HRO.out _ [.int .i64 (c : Int)] rfl HCE.out (fun x hx => by rw [List.mem_singleton.1 hx]; rfl) (z + 1) rfl K2.out K3.out HBS.out ?_; intro v8 w8 hown8 hgr8; have HOWN8 := Lib.hid hown8; have HGR8 := Lib.hid hgr8; clear hown8 hgr8)
              obtain ⟨A8, c8, rfl⟩ := rows_shape HOWN8.out
              go_roundw
              case rel =>
                have hrb := fun k (hk : (Value.slice Ao z co).ownBlock = some k) => (HRO.out.lt k hk).1
                refine ⟨out ++ [c], HOK2.out, HQ7.out.grown HGR8.out (fun k hk => Nat.le_trans HS3.out (hrb k hk)), HD7.out.kept HGR8.out (.inr fun e => by
                  have h1 := hrb g e.symm
                  have h2 := HGW.out
                  omega), ?_, by rw [HLE.out]; exact hlt, HOF2.out, Nat.le_trans HBS.out HGR8.out.size⟩
                rw [HLE.out, ints_app, cellsI_app]
                exact HOWN8.out
              case measure => simp [lenOf]; omega
      · have eon : n = z := by omega
        have HLV := Lib.hid (HSOME.out out (by rw [← HORD.out, eon, Nat.sub_self]; rfl))
        obtain ⟨rfl, rfl⟩ := HLV.out
        have hltz : ¬ (z : Int) < n := by omega
        clear eon
        go_wp2
        go_ret2
        refine ⟨_, rfl, ?_, g0.trans q⟩
        rw [HZ.out]
        exact row_down HROW.out (Nat.le_trans g0.size HS3.out)
  · obtain ⟨rfl, rfl⟩ : ce = f ∧ [] = V := by
      have h1 : ordE N l = ce := by unfold ordE; rw [if_pos (by rw [hce]; exact c0), hce]
      exact ⟨by rw [← H.out.1, h1], by rw [← H.out.2, ordV_bad (by rw [h1]; exact c0)]⟩
    have d1 : (ce == 0) = false := beq_eq_false_iff_ne.2 c0
    clear hi hz0 hz1 hz2 hce H
    go_enter Try.func16, Try.ntmps16
    go_upto_region 1 with (fail)
    have k0 : (w.alloc (.cells #[.int .i64 N, .slice A m cap] 24)).cell? ⟨w.heap.size, 0, none⟩ = some (.int .i64 N) := by go_simp
    have k1 : (w.alloc (.cells #[.int .i64 N, .slice A m cap] 24)).cell? ⟨w.heap.size, 1, none⟩ = some (.slice A m cap) := by go_simp
    have g0 : Own w (w.alloc (.cells #[.int .i64 N, .slice A m cap] 24)) := (Own.refl w).alloc _
    generalize hW : (w.alloc (.cells #[.int .i64 N, .slice A m cap] 24)) = W0 at *
    clear hW
    have HP0 := Lib.hid (HP.out.own g0)
    go_wp2_with (go_at_call 12; with_reducible refine (rcheck_at N l _ ce _ HP0 HCE).mono ?_; rintro e w1 ⟨rfl, q1⟩; replace k0 := q1.cell k0; replace k1 := q1.cell k1; have p1 := q1)
    go_ret2
    exact ⟨_, rfl, World.ownsRow_nil _ _ _ _, g0.trans p1⟩
end Go.Proofs.Ytkdfmjhhdfiiiaa.GraW
