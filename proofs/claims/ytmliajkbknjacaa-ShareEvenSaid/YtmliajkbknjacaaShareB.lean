/-
  Walks of the specification of package share: Same, Split. Condition: none.
-/
import Derived.Test.YtmliajkbknjacaaShareA
import Derived.Test.YtmliajkbknjacaaSharePlainB
import Derived.Test.YtmliajkbknjacaaBytes
import Derived.Test.YtmliajkbknjacaaLists
namespace Go.Proofs.Ytmliajkbknjacaa.ShaW
open Go.ChangeShapes Go.WideShapes Go.ChangeAt Go.RowKit
open PairW CelW MchW ShaP
open AsgP (su su_zero su_succ su_congr)
set_option maxRecDepth 100000 in
theorem rsame_yes (l : List Int) (va vb : Value) (w : World) (HA : Hid (Cel w va (cellsI l))) (HB : Hid (Cel w vb (cellsI l))) :
    Calls Try.prog 12 #[va, vb] w fun e w' => e = .returned (.bool true) ∧ Own w w' := by
  obtain ⟨A, ca, rfl, a1, a2, a3⟩ := cel_ints HA.out
  obtain ⟨B, cb, rfl, b1, b2, b3⟩ := cel_ints HB.out
  unfold maxLen at a2 b2
  have HCA := Lib.hid a3
  have HCB := Lib.hid b3
  obtain ⟨n, hn⟩ : ∃ n, l.length = n := ⟨_, rfl⟩
  have HN := Lib.hid hn
  rw [hn] at a1 b1 ⊢
  clear a3 b3 HA HB hn
  go_enter Try.func12, Try.ntmps12
  go_wp2
  go_loopw [5] (fun i wr => ∃ k : Nat, i = .int .i64 k ∧ k ≤ n ∧ Own w wr) (fun i _ => n - (intOf i).toNat)
  case atStart => exact ⟨0, rfl, Nat.zero_le _, Own.refl w⟩
  case round =>
    obtain ⟨k, rfl, hk, q⟩ := hrel
    by_cases hlt : k < n
    · obtain ⟨g, off, rfl, hc⟩ := HCA.out (by rw [HN.out]; omega)
      obtain ⟨g2, off2, rfl, hc2⟩ := HCB.out (by rw [HN.out]; omega)
      have hkl : k < l.length := by rw [HN.out]; exact hlt
      have c0 := q.cell (hc k hkl)
      have c1 := q.cell (hc2 k hkl)
      obtain ⟨z, hz⟩ : ∃ z, l[k] = z := ⟨_, rfl⟩
      rw [hz] at c0 c1
      clear hc hc2 hz hkl
      have hkn : (k : Int) < n := by omega
      have hzz : (z != z) = false := by simp
      go_upto_region 6 with (fail)
      go_quiet (fail)
      go_wp2
      go_roundw
      case rel => exact ⟨k + 1, by go_num, hlt, q.drewN _⟩
      case measure => simp [intOf]; omega
    · obtain rfl : k = n := by omega
      go_wp2
      go_ret
      exact ⟨rfl, q⟩
theorem ne_after {w : World} {base n : Nat} {e : TypeId} {u v v' : Value} {xs : List Value} (hu : w.ownsRow base e 1 u n xs) (hn : v.ownBlock ≠ u.ownBlock) (h : v'.ownBlock = v.ownBlock ∨ v'.ownBlock = some w.heap.size) : v'.ownBlock ≠ u.ownBlock := by
  rcases h with h | h
  · rw [h]; exact hn
  · rw [h]
    intro e
    have := (hu.lt _ e.symm).2
    omega
theorem row_blk {w : World} {base n : Nat} {e : TypeId} {v : Value} {xs : List Value} (h : w.ownsRow base e 1 v n xs) (hn : 0 < n) : v.ownBlock ≠ none := by
  obtain ⟨g, cap, rfl, _⟩ := row_form h hn
  intro e
  cases e
theorem wF_cell {ws : List Int} {i : Nat} (h : i < ws.length) : ws[i]? = some (wF ws i) := by
  unfold wF
  rw [List.getD_eq_getElem?_getD, List.getElem?_eq_getElem h]
  rfl
set_option maxRecDepth 100000 in
set_option maxHeartbeats 8000000 in
theorem rsplit_at (t : Int) (ws : List Int) (v : Value) (f : Int) (M : List Int) (w : World) (HV : Hid (Cel w v (cellsI ws))) (HF : Hid (splE t ws = f)) (HM : Hid (splV t ws = M)) :
    Calls Try.prog 11 #[.int .i64 t, v] w fun e w' => ∃ x, e = .returned (.tuple #[x, .int .i64 f]) ∧ w'.ownsRow w.heap.size 3 1 x M.length (cellsI M) ∧ Own w w' := by
  obtain ⟨A, cap, rfl, h1, h2, h3⟩ := cel_int HV.out
  unfold maxLen at h2
  obtain ⟨n, hn⟩ : ∃ n, ws.length = n := ⟨_, rfl⟩
  rw [hn] at h1 h3 ⊢
  have HN := Lib.hid hn
  have H3 := Lib.hid h3
  obtain ⟨ii, hi, hz0, hz1, hz2⟩ := info_parts (show (Try.prog.info? 3).map (fun i => (i.zero, i.size, i.bytes)) = some (some (.int .i64 0), 1, 8) by kernel_rfl)
  have HI := Lib.hid hi
  have HZ0 := Lib.hid hz0
  have HZ1 := Lib.hid hz1
  have HZ2 := Lib.hid hz2
  have bad : f ≠ 0 → M = [] := fun e => by rw [← HM.out]; exact splV_bad (by rw [HF.out]; exact e)
  have BAD := Lib.hid bad
  clear hn h3 hi hz0 hz1 hz2 bad
  obtain ⟨b0, hb0⟩ : ∃ b, okW t = b := ⟨_, rfl⟩
  have hamt := amount_at t b0 w (Lib.hid hb0)
  have HB0 := Lib.hid hb0
  clear hb0
  cases b0 with
  | false =>
    obtain rfl : 1 = f := by rw [← HF.out]; exact (splE_t HB0.out).symm
    obtain rfl := BAD.out (by decide)
    go_enter Try.func11, Try.ntmps11
    go_wp2_with (go_at_call 22; refine hamt.mono ?_; rintro e w1 ⟨rfl, rfl⟩)
    go_ret2
    exact ⟨_, rfl, World.ownsRow_nil _ _ _ _, Own.refl _⟩
  | true =>
    obtain ⟨ht0, ht1⟩ := okW_iff.1 HB0.out
    by_cases hn0 : n = 0
    · obtain rfl : 4 = f := by rw [← HF.out]; exact (splE_empty HB0.out (by rw [HN.out]; exact hn0)).symm
      obtain rfl := BAD.out (by decide)
      subst hn0
      go_enter Try.func11, Try.ntmps11
      go_wp2_with (go_at_call 22; refine hamt.mono ?_; rintro e w1 ⟨rfl, rfl⟩)
      go_ret2
      exact ⟨_, rfl, World.ownsRow_nil _ _ _ _, Own.refl _⟩
    · have d0 : ((n : Int) == 0) = false := beq_eq_false_iff_ne.2 (by omega)
      by_cases hn1 : 512 < n
      · obtain rfl : 3 = f := by rw [← HF.out]; exact (splE_full HB0.out (by rw [HN.out]; exact hn1)).symm
        obtain rfl := BAD.out (by decide)
        have d1 : (512 : Int) < n := by omega
        go_enter Try.func11, Try.ntmps11
        go_wp2_with (go_at_call 22; refine hamt.mono ?_; rintro e w1 ⟨rfl, rfl⟩)
        go_ret2
        exact ⟨_, rfl, World.ownsRow_nil _ _ _ _, Own.refl _⟩
      · have d1 : ¬ (512 : Int) < n := by omega
        have hn2 : n ≤ 512 := by omega
        have hnp : 0 < n := by omega
        clear hn1 hn0
        go_enter Try.func11, Try.ntmps11
        go_wp2_with (go_at_call 22; refine hamt.mono ?_; rintro e w1 ⟨rfl, rfl⟩)
        clear hamt
        go_loopw [6, 7] (fun v6 v7 wr => ∃ (i : Nat) (s : Int), v6 = .int .i64 s ∧ v7 = .int .i64 (i : Int) ∧ i ≤ n ∧ w = wr ∧ su (wF ws) i = s ∧ ∀ k, k < i → okW (wF ws k) = true) (fun _ v7 _ => n - (intOf v7).toNat)
        case atStart => exact ⟨0, 0, rfl, rfl, Nat.zero_le _, rfl, rfl, fun k h => absurd h (Nat.not_lt_zero _)⟩
        case round =>
          obtain ⟨i, s, rfl, rfl, hi, rfl, hs, hok⟩ := hrel
          have HSU := Lib.hid hs
          have HOK := Lib.hid hok
          have hsb := su_w (ws := ws) (k := i) fun k hk => okW_iff.1 (hok k hk)
          rw [hs] at hsb
          obtain ⟨hs0, hs1⟩ := hsb
          have hs2 : s ≤ 562949953421312 := by omega
          clear hs hok hs1
          by_cases hlt : i < n
          · have hin : (i : Int) < n := by omega
            obtain ⟨g, off, rfl, h4⟩ := H3.out hnp
            have e0 := h4 i _ (wF_cell (by rw [HN.out]; exact hlt))
            obtain ⟨x, hx⟩ : ∃ x, wF ws i = x := ⟨_, rfl⟩
            rw [hx] at e0
            have HX := Lib.hid hx
            obtain ⟨b1, hb1⟩ : ∃ b, okW x = b := ⟨_, rfl⟩
            have hamt := amount_at x b1 w (Lib.hid hb1)
            have HB1 := Lib.hid hb1
            clear hb1 hx h4
            cases b1 with
            | false =>
              obtain rfl : 1 = f := by rw [← HF.out]; exact (splE_w HB0.out (by rw [HN.out]; exact hnp) (by rw [HN.out]; exact hn2) (all_no (by rw [HN.out]; exact hlt) (by rw [HX.out]; exact HB1.out))).symm
              obtain rfl := BAD.out (by decide)
              go_wp2_with (go_at_call 22; refine hamt.mono ?_; rintro e w1 ⟨rfl, rfl⟩)
              go_ret2
              exact ⟨_, rfl, World.ownsRow_nil _ _ _ _, Own.refl _⟩
            | true =>
              obtain ⟨hx0, hx1⟩ := okW_iff.1 HB1.out
              have HNX := Lib.hid (show su (wF ws) (i + 1) = s + x by rw [su_succ, HSU.out, HX.out])
              go_wp2_with (go_at_call 22; refine hamt.mono ?_; rintro e w1 ⟨rfl, rfl⟩)
              go_roundw
              case rel => exact ⟨i + 1, s + x, by go_num, by go_num, hlt, trivial, HNX.out, fun k hk => by
                by_cases e : k = i
                · subst e; rw [HX.out]; exact HB1.out
                · exact HOK.out k (by omega)⟩
              case measure => simp [intOf]; omega
          · obtain rfl : n = i := by omega
            have HALL := Lib.hid (all_mk (ws := ws) (by rw [HN.out]; exact HOK.out))
            have HSW := Lib.hid (show sumW ws = s by unfold sumW; rw [HN.out]; exact HSU.out)
            clear HOK
            by_cases hz : s = 0
            · subst hz
              obtain rfl : 11 = f := by rw [← HF.out]; exact (splE_zero HB0.out (by rw [HN.out]; exact hnp) (by rw [HN.out]; exact hn2) HALL.out HSW.out).symm
              obtain rfl := BAD.out (by decide)
              go_wp2
              go_ret2
              exact ⟨_, rfl, World.ownsRow_nil _ _ _ _, Own.refl _⟩
            · have d2 : (s == 0) = false := beq_eq_false_iff_ne.2 hz
              by_cases ho : 1099511627776 < s
              · obtain rfl : 12 = f := by rw [← HF.out]; exact (splE_over HB0.out (by rw [HN.out]; exact hnp) (by rw [HN.out]; exact hn2) HALL.out (by rw [HSW.out]; exact ho)).symm
                obtain rfl := BAD.out (by decide)
                go_wp2
                go_ret2
                exact ⟨_, rfl, World.ownsRow_nil _ _ _ _, Own.refl _⟩
              · have he0 : splE t ws = 0 := splE_fine HB0.out (by rw [HN.out]; exact hnp) (by rw [HN.out]; exact hn2) HALL.out (by rw [HSW.out]; exact hz) (by rw [HSW.out]; omega)
                obtain rfl : 0 = f := by rw [← HF.out]; exact he0.symm
                have HE0 := Lib.hid he0
                have hmv : mpF (shF t s (wF ws) n) n = M := by rw [← HM.out, splV_ok he0, HSW.out, HN.out]
                have HMV := Lib.hid hmv
                have hw := splE_wts he0
                rw [HSW.out, HN.out] at hw
                have HW := Lib.hid hw
                have hs9 : s ≤ 1099511627776 := by omega
                have hsp : 1 ≤ s := by omega
                clear he0 hmv hw ho BAD
                have HCW := Lib.hid (fun i (hi : i < n) => w_le HE0.out (i := i) (by rw [HN.out]; exact hi))
                have HQL := Lib.hid (fun i (hi : i < n) => q_le HE0.out (i := i) (by rw [HN.out]; exact hi))
                go_wp2
                go_loopw [8, 9, 10, 11, 12, 13] (fun v8 v9 v10 v11 _ _ wr => ∃ (i : Nat) (left : Int) (A1 A2 : Option Addr) (c1 c2 : Nat), v8 = .slice A1 i c1 ∧ v9 = .slice A2 i c2 ∧ v10 = .int .i64 left ∧ v11 = .int .i64 (i : Int) ∧ i ≤ n ∧ Own w wr ∧ wr.ownsRow w.heap.size 3 1 (.slice A1 i c1) i (cellsI (mpF (qF t s (wF ws)) i)) ∧ wr.ownsRow w.heap.size 3 1 (.slice A2 i c2) i (cellsI (mpF (rF t s (wF ws)) i)) ∧ ((Value.slice A2 i c2).ownBlock = none ∨ (Value.slice A2 i c2).ownBlock ≠ (Value.slice A1 i c1).ownBlock) ∧ t - su (qF t s (wF ws)) i = left) (fun _ _ _ v11 _ _ _ => n - (intOf v11).toNat)
                case atStart => exact ⟨0, t, none, none, 0, 0, rfl, rfl, rfl, rfl, Nat.zero_le _, Own.refl _, World.ownsRow_nil _ _ _ _, World.ownsRow_nil _ _ _ _, .inl rfl, by rw [su_zero]; omega⟩
                case round =>
                  obtain ⟨i, left, A1, A2, c1, c2, rfl, rfl, rfl, rfl, hi, hq, hr1, hr2, hap, hl⟩ := hrel
                  have HQ := Lib.hid hq
                  have HR1 := Lib.hid hr1
                  have HR2 := Lib.hid hr2
                  have HAP := Lib.hid hap
                  have HL := Lib.hid hl
                  have hqb := AsgP.su_bound (f := qF t s (wF ws)) (a := 0) (b := t) (n := i) fun k hk => ⟨HW.out.q0 (by omega), by have := HQL.out k (by omega); rwa [HSW.out] at this⟩
                  have hlb : t - 562949953421312 ≤ left ∧ left ≤ t := by
                    have : (i : Int) * t ≤ 512 * t := Int.mul_le_mul_of_nonneg_right (by omega) ht0
                    omega
                  obtain ⟨hl0, hl1⟩ := hlb
                  clear hq hr1 hr2 hap hl hqb
                  by_cases hlt : i < n
                  · have hin : (i : Int) < n := by omega
                    obtain ⟨g, off, rfl, h4⟩ := H3.out hnp
                    have e0 := HQ.out.cell (h4 i _ (wF_cell (by rw [HN.out]; exact hlt)))
                    have hx0 := HW.out.nn i hlt
                    have hx1 := HCW.out i hlt
                    rw [HSW.out] at hx1
                    have hq0 := HW.out.q0 hlt
                    have hq1 := HQL.out i hlt
                    rw [HSW.out] at hq1
                    obtain ⟨q, hq⟩ : ∃ q, qF t s (wF ws) i = q := ⟨_, rfl⟩
                    obtain ⟨r, hr⟩ : ∃ r, rF t s (wF ws) i = r := ⟨_, rfl⟩
                    have HQI := Lib.hid hq
                    have HRI := Lib.hid hr
                    obtain ⟨x, hx⟩ : ∃ x, wF ws i = x := ⟨_, rfl⟩
                    have hov := fun w => over_at t x s q r w ⟨ht0, ht1⟩ (by omega) (by omega) ⟨hsp, hs9⟩ (Lib.hid (by rw [← hq, ← hx]; rfl)) (Lib.hid (by rw [← hr, ← hx]; rfl))
                    have HOV := Lib.hid hov
                    rw [hq] at hq0 hq1
                    rw [hx] at e0
                    clear h4 hov hq hr hx0 hx1 hx
                    go_upto_region 24 with (go_at_call 23; refine (HOV.out _).mono ?_; rintro e w5 ⟨rfl, q5⟩; have HQ5 := Lib.hid (Own.of_drew q5); clear q5)
                    have q6 := (Own.refl w5).alloc (.cells #[.int .i64 q] 3)
                    have HRO1 := Lib.hid (row_own HR1.out (HQ5.out.trans q6))
                    have HRO2 := Lib.hid (row_own HR2.out (HQ5.out.trans q6))
                    have HCE := Lib.hid (cel_lit (w := w5) (T := 3) (cs := #[.int .i64 q]) (xs := [.int .i64 q]) (k := 1) rfl rfl (by unfold maxLen; decide))
                    have HQ6 := Lib.hid (HQ.out.trans (HQ5.out.trans q6))
                    have K2 := Lib.hid (show i + 1 ≤ maxLen by unfold maxLen; omega)
                    have K3 := Lib.hid (show (i + 1) * 8 ≤ 140737488355328 by omega)
                    have HNEXT := Lib.hid (show t - su (qF t s (wF ws)) (i + 1) = left - q by rw [su_succ, HQI.out]; have := HL.out; omega)
                    have HM1 := Lib.hid (show cellsI (mpF (qF t s (wF ws)) (i + 1)) = cellsI (mpF (qF t s (wF ws)) i) ++ [.int .i64 q] by rw [mpF_succ, cellsI_app, HQI.out]; rfl)
                    have HM2 := Lib.hid (show cellsI (mpF (rF t s (wF ws)) (i + 1)) = cellsI (mpF (rF t s (wF ws)) i) ++ [.int .i64 r] by rw [mpF_succ, cellsI_app, HRI.out]; rfl)
                    clear q6 e0
                    go_wp2_with (first
                      | (at_builtin; refine wpList_append_f (by go_simp) _ _ 22 rfl w.heap.size 3 ii (.int .i64 0) 8 Try.underlying22 HI.out HZ0.out HZ1.out HZ2.out rfl (.slice A1 i c1) i (cellsI (mpF (qF t s (wF ws)) i)) rfl HRO1.out _ [.int .i64 q] rfl HCE.out (fun x hx => by rw [List.mem_singleton.1 hx]; rfl) (i + 1) rfl K2.out K3.out HQ6.out.size ?_; intro v8 w8 hown8 hgr8 hat8; obtain ⟨A8, c8, rfl⟩ := rows_shape hown8; have HOWN8 := Lib.hid hown8; have HRU8 := Lib.hid (HRO2.out.kept hgr8 HAP.out); have HQ8 := Lib.hid (row_after HQ6.out HRO1.out hgr8 (Nat.le_refl _)); have HNE8 := Lib.hid (show (Value.slice A2 i c2).ownBlock ≠ (Value.slice A8 (i + 1) c8).ownBlock from by
                          rcases HAP.out with h | h
                          · rw [h]; exact fun e => row_blk hown8 (Nat.succ_pos _) e.symm
                          · exact fun e => ne_after HRO2.out (fun e => h e.symm) hat8 e.symm); have q9 := (Own.refl w8).alloc (.cells #[.int .i64 r] 3); have HRU9 := Lib.hid (row_own HRU8.out q9); have HOWN9 := Lib.hid (row_own hown8 q9); have HQ9 := Lib.hid (HQ8.out.trans q9); have HCE9 := Lib.hid (cel_lit (w := w8) (T := 3) (cs := #[.int .i64 r]) (xs := [.int .i64 r]) (k := 1) rfl rfl (by unfold maxLen; decide)); clear hown8 hgr8 hat8 q9)
                      | (at_builtin; refine wpList_append_f (by go_simp) _ _ 22 rfl w.heap.size 3 ii (.int .i64 0) 8 Try.underlying22 HI.out HZ0.out HZ1.out HZ2.out rfl (.slice A2 i c2) i (cellsI (mpF (rF t s (wF ws)) i)) rfl HRU9.out _ [.int .i64 r] rfl HCE9.out (fun x hx => by rw [List.mem_singleton.1 hx]; rfl) (i + 1) rfl K2.out K3.out HQ9.out.size ?_; intro v10 w10 hown10 hgr10 hat10; obtain ⟨A10, c10, rfl⟩ := rows_shape hown10; have HOWN10 := Lib.hid hown10; have HRO10 := Lib.hid (HOWN9.out.kept hgr10 (.inr fun e => HNE8.out e.symm)); have HQ10 := Lib.hid (row_after HQ9.out HRU9.out hgr10 (Nat.le_refl _)); have HNE10 := Lib.hid (ne_after HOWN9.out HNE8.out hat10); clear hown10 hgr10 hat10))
                    go_roundw
                    case rel => exact ⟨i + 1, left - q, A8, A10, c8, c10, rfl, rfl, by go_num, by go_num, hlt, HQ10.out, by rw [HM1.out]; exact HRO10.out, by rw [HM2.out]; exact HOWN10.out, .inr HNE10.out, HNEXT.out⟩
                    case measure => simp [intOf]; omega
                  · obtain rfl : n = i := by omega
                    obtain rfl : leftF t s (wF ws) n = left := HL.out
                    have hlf0 := HW.out.left0
                    obtain ⟨left, hlf⟩ : ∃ left, leftF t s (wF ws) n = left := ⟨_, rfl⟩
                    rw [hlf] at hl0 hl1 hlf0 ⊢
                    have HLF := Lib.hid hlf
                    obtain ⟨g1, cp1, hv1, _, _⟩ := row_form HR1.out hnp
                    injection hv1 with hA1 _ hc1
                    subst hA1
                    subst hc1
                    obtain ⟨g2, cp2, hv2, _, _⟩ := row_form HR2.out hnp
                    injection hv2 with hA2 _ hc2
                    subst hA2
                    subst hc2
                    have hg : g2 ≠ g1 := by
                      rcases HAP.out with h | h
                      · cases h
                      · exact fun e => h (by rw [e]; rfl)
                    have HG := Lib.hid (show g2 ∉ [g1] by simp [hg])
                    have HR10 := Lib.hid (show wr.ownsRow w.heap.size 3 1 (.slice (some ⟨g1, 0, none⟩) n c1) n (cellsI (outF (qF t s (wF ws)) (shF t s (wF ws) n) n 0)) from by rw [outF_zero]; exact HR1.out)
                    have HB1 := Lib.hid (HR1.out.lt g1 rfl).1
                    clear hlf hg HR1 HL HAP
                    generalize wr = w3 at *
                    go_wp2
                    go_loopw [14, 15, 16] (fun v14 _ _ wr => ∃ i : Nat, v14 = .int .i64 (i : Int) ∧ i ≤ n ∧ Kp [g1] w3 wr ∧ wr.ownsRow w.heap.size 3 1 (.slice (some ⟨g1, 0, none⟩) n c1) n (cellsI (outF (qF t s (wF ws)) (shF t s (wF ws) n) n i))) (fun v14 _ _ _ => n - (intOf v14).toNat)
                    case atStart => exact ⟨0, rfl, Nat.zero_le _, Kp.refl _ _, HR10.out⟩
                    case round =>
                      clear HR10
                      obtain ⟨i, rfl, hi, hkp, hrow⟩ := hrel
                      have HKP := Lib.hid hkp
                      have HROW := Lib.hid hrow
                      have HR4 := Lib.hid (hkp.row HR2.out HG.out)
                      clear hkp hrow
                      generalize wr = w4 at *
                      by_cases hlt : i < n
                      · have hin : (i : Int) < n := by omega
                        obtain ⟨ri, hri⟩ : ∃ ri, rF t s (wF ws) i = ri := ⟨_, rfl⟩
                        obtain ⟨y, e0', hy, _⟩ := row_int HR4.out mpF_len hlt
                        rw [mpF_at hlt, hri] at hy
                        injection hy with hy
                        subst hy
                        have E0 := Lib.hid e0'
                        have HRI := Lib.hid hri
                        clear hri e0'
                        go_wp2
                        go_loopw [15, 16] (fun v15 v16 wr => ∃ (j : Nat) (b : Int), v15 = .int .i64 b ∧ v16 = .int .i64 (j : Int) ∧ j ≤ n ∧ Own w4 wr ∧ 0 ≤ b ∧ b ≤ (j : Int) ∧ su (fun k => if prec (rF t s (wF ws)) k i = true then 1 else 0) j = b) (fun _ v16 _ => n - (intOf v16).toNat)
                        case atStart => exact ⟨0, 0, rfl, rfl, Nat.zero_le _, Own.refl _, Int.le_refl _, Int.le_refl _, rfl⟩
                        case round =>
                          obtain ⟨j, b, rfl, rfl, hj, hq, hb0, hb1, hs⟩ := hrel
                          have HQ4 := Lib.hid hq
                          have HSB := Lib.hid hs
                          clear hq hs
                          by_cases hlt2 : j < n
                          · have hjn : (j : Int) < n := by omega
                            obtain ⟨rj, hrj⟩ : ∃ rj, rF t s (wF ws) j = rj := ⟨_, rfl⟩
                            obtain ⟨y, e1', hy, _⟩ := row_int HR4.out mpF_len hlt2
                            rw [mpF_at hlt2, hrj] at hy
                            injection hy with hy
                            subst hy
                            have e0 := HQ4.out.cell E0.out
                            have e1 := HQ4.out.cell e1'
                            have HRJ := Lib.hid hrj
                            have yes : ri < rj ∨ (rj = ri ∧ j < i) → su (fun k => if prec (rF t s (wF ws)) k i = true then 1 else 0) (j + 1) = b + 1 := fun h => by
                              rw [su_succ, HSB.out]
                              try dsimp only
                              rw [if_pos (prec_iff.2 (by rw [HRI.out, HRJ.out]; exact h))]
                            have no : ¬ (ri < rj ∨ (rj = ri ∧ j < i)) → su (fun k => if prec (rF t s (wF ws)) k i = true then 1 else 0) (j + 1) = b := fun h => by
                              rw [su_succ, HSB.out]
                              try dsimp only
                              rw [if_neg (fun q => h (by have := prec_iff.1 q; rwa [HRI.out, HRJ.out] at this)), Int.add_zero]
                            have YES := Lib.hid yes
                            have NO := Lib.hid no
                            clear yes no hrj e1'
                            by_cases p1 : ri < rj
                            · have c1 : decide (ri < rj) = true := decide_eq_true p1
                              have HNX := Lib.hid (YES.out (.inl p1))
                              clear p1
                              go_upto_region 33 with (fail)
                              go_quiet (fail)
                              go_wp2
                              go_roundw
                              case rel => exact ⟨j + 1, b + 1, by go_num, by go_num, hlt2, HQ4.out.drewN _, by omega, by omega, HNX.out⟩
                              case measure => simp [intOf]; omega
                            · have c1 : decide (ri < rj) = false := decide_eq_false p1
                              by_cases p2 : rj = ri
                              · have c2 : (rj == ri) = true := beq_iff_eq.2 p2
                                by_cases p3 : j < i
                                · have c3 : decide (j < i) = true := decide_eq_true p3
                                  have c4 : decide ((j : Int) < (i : Int)) = true := decide_eq_true (by omega)
                                  have HNX := Lib.hid (YES.out (.inr ⟨p2, p3⟩))
                                  clear p1 p2 p3
                                  go_upto_region 33 with (fail)
                                  go_quiet (fail)
                                  go_wp2
                                  go_roundw
                                  case rel => exact ⟨j + 1, b + 1, by go_num, by go_num, hlt2, HQ4.out.drewN _, by omega, by omega, HNX.out⟩
                                  case measure => simp [intOf]; omega
                                · have c3 : decide (j < i) = false := decide_eq_false p3
                                  have c4 : decide ((j : Int) < (i : Int)) = false := decide_eq_false (by omega)
                                  have HNX := Lib.hid (NO.out (fun h => by rcases h with h | h; exact p1 h; exact p3 h.2))
                                  clear p1 p2 p3
                                  go_upto_region 33 with (fail)
                                  go_quiet (fail)
                                  go_wp2
                                  go_roundw
                                  case rel => exact ⟨j + 1, b, by go_num, by go_num, hlt2, HQ4.out.drewN _, by omega, by omega, HNX.out⟩
                                  case measure => simp [intOf]; omega
                              · have c2 : (rj == ri) = false := beq_eq_false_iff_ne.2 p2
                                have HNX := Lib.hid (NO.out (fun h => by rcases h with h | h; exact p1 h; exact p2 h.1))
                                clear p1 p2
                                go_upto_region 33 with (fail)
                                go_quiet (fail)
                                go_wp2
                                go_roundw
                                case rel => exact ⟨j + 1, b, by go_num, by go_num, hlt2, HQ4.out.drewN _, by omega, by omega, HNX.out⟩
                                case measure => simp [intOf]; omega
                          · obtain rfl : n = j := by omega
                            have HBEF := Lib.hid (show bef (rF t s (wF ws)) n i = b from HSB.out)
                            obtain ⟨q, hq⟩ : ∃ q, qF t s (wF ws) i = q := ⟨_, rfl⟩
                            obtain ⟨y, e2', hy, f2'⟩ := row_int HROW.out outF_len hlt
                            rw [outF_at hlt, hq] at hy
                            injection hy with hy
                            subst hy
                            have e2 := HQ4.out.cell e2'
                            have f2 := frozen_kept HQ4.out e2' f2'
                            have hq0 := HW.out.q0 hlt
                            have hq1 := HQL.out i hlt
                            rw [HSW.out] at hq1
                            rw [hq] at hq0 hq1
                            have HQI := Lib.hid hq
                            have HROW4 := Lib.hid (row_own HROW.out HQ4.out)
                            have HKQ := Lib.hid (HKP.out.trans (Kp.of_own HQ4.out))
                            clear hq e2' f2' hb1
                            by_cases hbl : b < left
                            · have HSH := Lib.hid (show shF t s (wF ws) n i = q + 1 by unfold shF; rw [HBEF.out, HLF.out, if_pos hbl, HQI.out])
                              have HP5 := Lib.hid (row_puti HROW4.out i (q + 1))
                              have HK5 := Lib.hid (HKQ.out.put (p := ⟨g1, i, none⟩) (fun _ => by simp) (.int .i64 (q + 1)))
                              go_wp2
                              go_roundw
                              case rel => exact ⟨i + 1, by go_num, hlt, HK5.out, by rw [← outF_set, HSH.out]; exact HP5.out⟩
                              case measure => simp [intOf]; omega
                            · have HSH := Lib.hid (show shF t s (wF ws) n i = qF t s (wF ws) i by unfold shF; rw [HBEF.out, HLF.out, if_neg hbl, Int.add_zero])
                              go_wp2
                              go_roundw
                              case rel => exact ⟨i + 1, by go_num, hlt, HKQ.out, by rw [outF_same HSH.out]; exact HROW4.out⟩
                              case measure => simp [intOf]; omega
                      · obtain rfl : n = i := by omega
                        have hfin := HROW.out
                        rw [outF_end, HMV.out] at hfin
                        have hml : M.length = n := by rw [← HMV.out, mpF_len]
                        have HFIN := Lib.hid hfin
                        clear hfin
                        go_wp2
                        go_ret2
                        exact ⟨_, rfl, by rw [hml]; exact HFIN.out, Kp.own HQ.out HKP.out (fun x hx => by simp at hx; subst hx; exact HB1.out)⟩
end Go.Proofs.Ytmliajkbknjacaa.ShaW
