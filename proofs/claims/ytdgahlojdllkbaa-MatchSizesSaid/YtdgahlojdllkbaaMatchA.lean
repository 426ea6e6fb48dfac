/-
  Walks of the specification of package match: Columns, Check, none, has, Ints. Condition: none.
-/
import Derived.Test.YtdgahlojdllkbaaMatchMem
import Derived.Lib.Hide
import Derived.Lib.SliceRun
import Derived.Deep.DeepCutAuto
namespace Go.Proofs.Ytdgahlojdllkbaa.MchW
open Go.ChangeShapes Go.WideShapes Go.ChangeAt Go.RowKit
open PairW CelW TabW MchP
set_option maxRecDepth 100000 in
theorem rcols_eq (l : List (List Bool)) (v : Value) (W : Nat) (w : World) (HT : Hid (Cels w v (cellsB l))) (HW : Hid (wd l = W)) :
    Calls Try.prog 28 #[v] w fun e w' => e = .returned (.int .i64 (W : Int)) ∧ w' = w := by
  obtain ⟨A, cap, rfl, h1, h2, h3⟩ := tb_open HT.out
  unfold maxLen at h2
  obtain ⟨n, hn⟩ : ∃ n, l.length = n := ⟨_, rfl⟩
  rw [hn] at h1 h3 ⊢
  have HN := Lib.hid hn
  clear hn
  by_cases h0 : n = 0
  · subst h0
    obtain rfl : 0 = W := by rw [← HW.out, wd_nil HN.out]
    clear h3
    go_enter Try.func28, Try.ntmps28
    go_wp2
    go_ret
    exact ⟨rfl, rfl⟩
  · obtain ⟨g, off, rfl, h4⟩ := h3 (by omega)
    obtain ⟨r, hr⟩ : ∃ r, l[0]? = some r := ⟨_, List.getElem?_eq_getElem (by rw [HN.out]; omega)⟩
    obtain ⟨u, h5, h6⟩ := h4 0 r hr
    obtain ⟨B, cr, rfl, h7, h8, _⟩ := cel_bool h6
    rw [← wd_of hr, HW.out] at h5 h7
    rw [Nat.add_zero] at h5
    unfold maxLen at h8
    have d0 : ((n : Int) == 0) = false := beq_eq_false_iff_ne.2 (by omega)
    have d1 : (0 : Int) < n := by omega
    clear h3 h4 hr h6 h0
    go_enter Try.func28, Try.ntmps28
    go_wp2
    go_ret
    exact ⟨rfl, rfl⟩
theorem rcols_at (l : List (List Bool)) (v : Value) (W : Nat) (w : World) (HT : Hid (Cels w v (cellsB l))) (HW : Hid (wd l = W)) :
    Calls Try.prog 28 #[v] w fun e w' => e = .returned (.int .i64 (W : Int)) ∧ w = w' :=
  (rcols_eq l v W w HT HW).mono fun _ _ h => ⟨h.1, h.2.symm⟩
set_option maxRecDepth 100000 in
set_option maxHeartbeats 1000000 in
theorem rcheck_at (l : List (List Bool)) (v : Value) (f : Int) (w : World) (HT : Hid (Cels w v (cellsB l))) (HF : Hid (chkE l = f)) :
    Calls Try.prog 14 #[v] w fun e w' => e = .returned (.int .i64 f) ∧ Own w w' := by
  obtain ⟨A, cap, rfl, h1, h2, h3⟩ := tb_open HT.out
  unfold maxLen at h2
  have H3 := Lib.hid h3
  clear h3
  obtain ⟨n, hn⟩ : ∃ n, l.length = n := ⟨_, rfl⟩
  rw [hn] at h1 H3 HT ⊢
  have HN := Lib.hid hn
  clear hn
  obtain ⟨W, hW⟩ : ∃ W, wd l = W := ⟨_, rfl⟩
  have HW := Lib.hid hW
  have hcall := rcols_at l _ W w HT HW
  clear hW
  by_cases h0 : 24 < n
  · obtain rfl : 3 = f := by rw [← HF.out]; exact (chk_full (.inl (by rw [HN.out]; exact h0))).symm
    have d0 : (24 : Int) < n := by omega
    go_enter Try.func14, Try.ntmps14
    go_wp2_with (go_at_call 28; refine hcall.mono ?_; rintro e w1 ⟨rfl, rfl⟩)
    go_ret
    exact ⟨rfl, Own.refl _⟩
  · have d0 : ¬ (24 : Int) < n := by omega
    by_cases h0' : 24 < W
    · obtain rfl : 3 = f := by rw [← HF.out]; exact (chk_full (.inr (by rw [HW.out]; exact h0'))).symm
      have d1 : (24 : Int) < W := by omega
      go_enter Try.func14, Try.ntmps14
      go_wp2_with (go_at_call 28; refine hcall.mono ?_; rintro e w1 ⟨rfl, rfl⟩)
      go_ret
      exact ⟨rfl, Own.refl _⟩
    · have d1 : ¬ (24 : Int) < W := by omega
      go_enter Try.func14, Try.ntmps14
      go_wp2_with (go_at_call 28; refine hcall.mono ?_; rintro e w1 ⟨rfl, rfl⟩)
      go_loopw [3] (fun vi wr => ∃ j : Nat, vi = .int .i64 (j : Int) ∧ j ≤ n ∧ Own w wr ∧ ∀ (i : Nat) r, i < j → l[i]? = some r → r.length = W) (fun vi _ => n - (intOf vi).toNat)
      case atStart => exact ⟨0, rfl, Nat.zero_le _, Own.refl w, fun i r h => absurd h (Nat.not_lt_zero _)⟩
      case round =>
        obtain ⟨j, rfl, hj, q, hok⟩ := hrel
        have HOK := Lib.hid hok
        have HQ := Lib.hid q
        clear hok q
        by_cases hlt : j < n
        · obtain ⟨g, off, rfl, h4⟩ := H3.out (by omega)
          obtain ⟨r, hr⟩ : ∃ r, l[j]? = some r := ⟨_, List.getElem?_eq_getElem (by rw [HN.out]; exact hlt)⟩
          obtain ⟨u, h5, h6⟩ := h4 j r hr
          obtain ⟨B, cr, rfl, h7, h8, _⟩ := cel_bool h6
          unfold maxLen at h8
          replace h5 := HQ.out.cell h5
          have hjn : (j : Int) < n := by omega
          have HR := Lib.hid hr
          obtain ⟨k, hk⟩ : ∃ k, r.length = k := ⟨_, rfl⟩
          rw [hk] at h5 h7
          have HK := Lib.hid hk
          have HTW := Lib.hid (fun N => Lib.hid (HT.out.own (HQ.out.drewN N)))
          clear h4 h6 hr hk hcall
          by_cases e : k = W
          · subst e
            go_upto_region 6 with (fail)
            go_quiet ((go_at_call 28; exact Calls.quiet_of_same (rcols_eq l _ k _ (HTW.out _) HW)))
            go_wp2
            go_roundw
            case rel => exact ⟨j + 1, by go_num, hlt, HQ.out.drewN _, fun i r' hi hr' => by
              by_cases e : i = j
              · subst e
                rw [HR.out] at hr'
                injection hr' with hr'
                rw [← hr']
                exact HK.out
              · exact HOK.out i r' (by omega) hr'⟩
            case measure => simp [intOf]; omega
          · obtain rfl : 2 = f := by rw [← HF.out]; exact (chk_form (by rw [HN.out]; omega) (by rw [HW.out]; omega) HR.out (by rw [HK.out, HW.out]; exact e)).symm
            have d2 : ((k : Int) != (W : Int)) = true := bne_iff_ne.2 (by omega)
            go_upto_region 6 with (fail)
            go_quiet ((go_at_call 28; exact Calls.quiet_of_same (rcols_eq l _ W _ (HTW.out _) HW)))
            go_wp2
            go_ret
            exact ⟨rfl, HQ.out.drewN _⟩
        · obtain rfl : n = j := by omega
          obtain rfl : 0 = f := by
            rw [← HF.out]
            exact (chk_sq (by rw [HN.out]; omega) (by rw [HW.out]; omega) (fun r hr => by
              obtain ⟨i, hi, e⟩ := List.mem_iff_getElem.1 hr
              rw [HW.out]
              exact HOK.out i r (by rw [← HN.out]; exact hi) (by rw [List.getElem?_eq_getElem hi, e]))).symm
          go_wp2
          go_ret
          exact ⟨rfl, HQ.out⟩
set_option maxRecDepth 100000 in
set_option maxHeartbeats 1000000 in
theorem rnone_at (n : Nat) (w : World) (hn : n ≤ 24) :
    Calls Try.prog 36 #[.int .i64 (n : Int)] w fun e w' => ∃ g c, e = .returned (.slice (some ⟨g, 0, none⟩) n c) ∧ w'.ownsRow w.heap.size 3 1 (.slice (some ⟨g, 0, none⟩) n c) n (cellsI (List.replicate n (-1))) ∧ Own w w' := by
  obtain ⟨i0, hi, hz0, hz1, hz2⟩ := info_parts (show (Try.prog.info? 3).map (fun i => (i.zero, i.size, i.bytes)) = some (some (.int .i64 0), 1, 8) by kernel_rfl)
  have HI := Lib.hid hi
  have HZ0 := Lib.hid hz0
  have HZ1 := Lib.hid hz1
  have HZ2 := Lib.hid hz2
  clear hi hz0 hz1 hz2
  go_enter Try.func36, Try.ntmps36
  go_wp2
  have HR0 := Lib.hid (show (w.alloc (.cells #[] 3)).ownsRow w.heap.size 3 1 (.slice (some ⟨w.heap.size, 0, none⟩) 0 0) 0 (cellsI (List.replicate 0 (-1))) from World.ownsRow_made w #[] 0 (Nat.le_refl _) (Nat.zero_le _) rfl)
  have HQ0 := Lib.hid (show Own w (w.alloc (.cells #[] 3)) from (Own.refl w).alloc _)
  go_loopw [3] (fun vo wr => ∃ (k g c : Nat), vo = .slice (some ⟨g, 0, none⟩) k c ∧ k ≤ n ∧ Own w wr ∧ wr.ownsRow w.heap.size 3 1 (.slice (some ⟨g, 0, none⟩) k c) k (cellsI (List.replicate k (-1)))) (fun vo _ => n - lenOf vo)
  case atStart => exact ⟨0, _, _, rfl, Nat.zero_le _, HQ0.out, HR0.out⟩
  case round =>
    clear HR0 HQ0
    obtain ⟨k, g, c, rfl, hk, q, hrow⟩ := hrel
    have HQ := Lib.hid q
    have HROW := Lib.hid hrow
    clear q hrow
    by_cases hlt : k < n
    · have hkn : (k : Int) < n := by omega
      have q7 := (Own.refl wr).alloc (.cells #[.int .i64 (-1)] 3)
      have HRO := Lib.hid (row_own HROW.out q7)
      have HCE := Lib.hid (cel_lit (w := wr) (T := 3) (cs := #[.int .i64 (-1)]) (xs := [.int .i64 (-1)]) (k := 1) rfl rfl (by unfold maxLen; decide))
      have HQ7 := Lib.hid (HQ.out.trans q7)
      have K2 := Lib.hid (show k + 1 ≤ maxLen by unfold maxLen; omega)
      have K3 := Lib.hid (show (k + 1) * 8 ≤ 140737488355328 by omega)
      have HRP := Lib.hid (show cellsI (List.replicate (k + 1) (-1)) = cellsI (List.replicate k (-1)) ++ [.int .i64 (-1)] by unfold cellsI; rw [List.replicate_succ', List.map_append]; rfl)
      clear q7
      go_wp2_with (at_builtin; refine wpList_append_c (by go_simp) _ _ 29 rfl w.heap.size 3 i0 (.int .i64 0) 8 Try.underlying29 HI.out HZ0.out HZ1.out HZ2.out rfl g k c (cellsI (List.replicate k (-1))) rfl HRO.out _ [.int .i64 (-1)] rfl HCE.out (fun x hx => by rw [List.mem_singleton.1 hx]; rfl) (k + 1) rfl K2.out K3.out HQ7.out.size ?_; intro g8 c8 w8 hown8 hgr8; have HOWN8 := Lib.hid hown8; have HGR8 := Lib.hid hgr8; clear hown8 hgr8)
      go_roundw
      case rel => exact ⟨k + 1, g8, c8, rfl, hlt, HQ7.out.grown HGR8.out (fun x hx => (HRO.out.lt x hx).1), by rw [HRP.out]; exact HOWN8.out⟩
      case measure => simp [lenOf]; omega
    · obtain rfl : n = k := by omega
      go_wp2
      go_ret
      exact ⟨g, c, rfl, HROW.out, HQ.out⟩
set_option maxRecDepth 100000 in
set_option maxHeartbeats 1000000 in
theorem rhas_at (m : List Int) (v : Value) (x : Int) (t : Bool) (w : World) (HC : Hid (Cel w v (cellsI m))) (HF : Hid (decide (x ∈ m) = t)) :
    Calls Try.prog 31 #[v, .int .i64 x] w fun e w' => e = .returned (.bool t) ∧ w = w' := by
  obtain ⟨A, cap, rfl, h1, h2, h3⟩ := cel_int HC.out
  unfold maxLen at h2
  have H3 := Lib.hid h3
  clear h3
  obtain ⟨n, hn⟩ : ∃ n, m.length = n := ⟨_, rfl⟩
  rw [hn] at h1 H3 ⊢
  have HN := Lib.hid hn
  clear hn
  go_enter Try.func31, Try.ntmps31
  go_wp2
  go_loopw [5] (fun vi wr => ∃ j : Nat, vi = .int .i64 (j : Int) ∧ j ≤ n ∧ wr = w ∧ ∀ (i : Nat) y, i < j → m[i]? = some y → y ≠ x) (fun vi _ => n - (intOf vi).toNat)
  case atStart => exact ⟨0, rfl, Nat.zero_le _, rfl, fun i y h => absurd h (Nat.not_lt_zero _)⟩
  case round =>
    obtain ⟨j, rfl, hj, rfl, hs⟩ := hrel
    have HS := Lib.hid hs
    clear hs
    by_cases hlt : j < n
    · obtain ⟨g, off, rfl, h4⟩ := H3.out (by omega)
      obtain ⟨y, hy⟩ : ∃ y, m[j]? = some y := ⟨_, List.getElem?_eq_getElem (by rw [HN.out]; exact hlt)⟩
      have e0 := h4 j y hy
      have hjn : (j : Int) < n := by omega
      have HY := Lib.hid hy
      clear h4 hy
      by_cases e : y = x
      · subst e
        obtain rfl : true = t := by rw [← HF.out]; exact (decide_eq_true (List.mem_of_getElem? HY.out)).symm
        go_wp2
        go_ret
        exact ⟨rfl, rfl⟩
      · have d1 : (y == x) = false := beq_eq_false_iff_ne.2 e
        go_wp2
        go_roundw
        case rel => exact ⟨j + 1, by go_num, hlt, trivial, fun i y' hi hy' => by
          by_cases e2 : i = j
          · subst e2
            rw [HY.out] at hy'
            injection hy' with hy'
            rw [← hy']
            exact e
          · exact HS.out i y' (by omega) hy'⟩
        case measure => simp [intOf]; omega
    · obtain rfl : n = j := by omega
      obtain rfl : false = t := by
        rw [← HF.out]
        refine (decide_eq_false fun h => ?_).symm
        obtain ⟨i, hi, e⟩ := List.mem_iff_getElem.1 h
        exact HS.out i x (by rw [← HN.out]; exact hi) (by rw [List.getElem?_eq_getElem hi, e]) rfl
      go_wp2
      go_ret
      exact ⟨rfl, rfl⟩
set_option maxRecDepth 100000 in
set_option maxHeartbeats 1000000 in
theorem rints_yes (l : List Int) (va vb : Value) (w : World) (HA : Hid (Cel w va (cellsI l))) (HB : Hid (Cel w vb (cellsI l))) :
    Calls Try.prog 18 #[va, vb] w fun e w' => e = .returned (.bool true) ∧ Own w w' := by
  obtain ⟨A, ca, rfl, a1, a2, a3⟩ := cel_ints HA.out
  obtain ⟨B, cb, rfl, b1, b2, b3⟩ := cel_ints HB.out
  unfold maxLen at a2 b2
  have HCA := Lib.hid a3
  have HCB := Lib.hid b3
  obtain ⟨n, hn⟩ : ∃ n, l.length = n := ⟨_, rfl⟩
  have HN := Lib.hid hn
  rw [hn] at a1 b1 ⊢
  clear a3 b3 HA HB hn
  go_enter Try.func18, Try.ntmps18
  go_wp2
  go_loopw [5] (fun i wr => ∃ k : Nat, i = .int .i64 k ∧ k ≤ n ∧ Own w wr) (fun i _ => n - (intOf i).toNat)
  case atStart => exact ⟨0, rfl, Nat.zero_le _, Own.refl w⟩
  case round =>
    obtain ⟨k, rfl, hk, q⟩ := hrel
    by_cases hlt : k < n
    · obtain ⟨g, off, rfl, hc⟩ := HCA.out (by rw [HN.out]; omega)
      obtain ⟨g2, off2, rfl, hc2⟩ := HCB.out (by rw [HN.out]; omega)
      have hkl : k < l.length := by rw [HN.out]; exact hlt
      have c0 := q.cell (hc k hkl)
      have c1 := q.cell (hc2 k hkl)
      obtain ⟨z, hz⟩ : ∃ z, l[k] = z := ⟨_, rfl⟩
      rw [hz] at c0 c1
      clear hc hc2 hz hkl
      have hkn : (k : Int) < n := by omega
      have hzz : (z == z) = true := beq_self_eq_true z
      go_upto_region 6 with (fail)
      go_quiet (fail)
      go_wp2
      go_roundw
      case rel => exact ⟨k + 1, by go_num, hlt, q.drewN _⟩
      case measure => simp [intOf]; omega
    · obtain rfl : k = n := by omega
      go_wp2
      go_ret
      exact ⟨rfl, q⟩
end Go.Proofs.Ytdgahlojdllkbaa.MchW
