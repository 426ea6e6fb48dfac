/-
  Walks of the program of package match: width, Check, size; of slices.Index, Contains, Clone at integers. Condition: none.
-/
import Derived.Test.YtdgahlojdllkbaaMatchMem
import Derived.Lib.Hide
import Derived.Lib.SliceRun
import Derived.Deep.DeepCutAuto
namespace Go.Proofs.Ytdgahlojdllkbaa.MchW
open Go.ChangeShapes Go.WideShapes Go.ChangeAt Go.RowKit
open PairW CelW TabW MchP
set_option maxRecDepth 100000 in
theorem pwidth_at (l : List (List Bool)) (v : Value) (W : Nat) (w : World) (HT : Hid (Cels w v (cellsB l))) (HW : Hid (wd l = W)) :
    Calls Try.prog 27 #[v] w fun e w' => e = .returned (.int .i64 (W : Int)) ∧ w = w' := by
  obtain ⟨A, cap, rfl, h1, h2, h3⟩ := tb_open HT.out
  unfold maxLen at h2
  obtain ⟨n, hn⟩ : ∃ n, l.length = n := ⟨_, rfl⟩
  rw [hn] at h1 h3 ⊢
  have HN := Lib.hid hn
  clear hn
  by_cases h0 : n = 0
  · subst h0
    obtain rfl : 0 = W := by rw [← HW.out, wd_nil HN.out]
    clear h3
    go_enter Try.func27, Try.ntmps27
    go_wp2
    go_ret
    exact ⟨rfl, rfl⟩
  · obtain ⟨g, off, rfl, h4⟩ := h3 (by omega)
    obtain ⟨r, hr⟩ : ∃ r, l[0]? = some r := ⟨_, List.getElem?_eq_getElem (by rw [HN.out]; omega)⟩
    obtain ⟨u, h5, h6⟩ := h4 0 r hr
    obtain ⟨B, cr, rfl, h7, h8, _⟩ := cel_bool h6
    rw [← wd_of hr, HW.out] at h5 h7
    rw [Nat.add_zero] at h5
    unfold maxLen at h8
    have d0 : ((n : Int) == 0) = false := beq_eq_false_iff_ne.2 (by omega)
    have d1 : (0 : Int) < n := by omega
    clear h3 h4 hr h6 h0
    go_enter Try.func27, Try.ntmps27
    go_wp2
    go_ret
    exact ⟨rfl, rfl⟩
set_option maxRecDepth 100000 in
set_option maxHeartbeats 1000000 in
theorem pcheck_at (l : List (List Bool)) (v : Value) (f : Int) (w : World) (HT : Hid (Cels w v (cellsB l))) (HF : Hid (chkE l = f)) :
    Calls Try.prog 13 #[v] w fun e w' => e = .returned (.int .i64 f) ∧ w = w' := by
  obtain ⟨A, cap, rfl, h1, h2, h3⟩ := tb_open HT.out
  unfold maxLen at h2
  have H3 := Lib.hid h3
  clear h3
  obtain ⟨n, hn⟩ : ∃ n, l.length = n := ⟨_, rfl⟩
  rw [hn] at h1 H3 HT ⊢
  have HN := Lib.hid hn
  clear hn
  obtain ⟨W, hW⟩ : ∃ W, wd l = W := ⟨_, rfl⟩
  have HW := Lib.hid hW
  have hcall := pwidth_at l _ W w HT HW
  clear hW
  by_cases h0 : 24 < n
  · obtain rfl : 3 = f := by rw [← HF.out]; exact (chk_full (.inl (by rw [HN.out]; exact h0))).symm
    have d0 : (24 : Int) < n := by omega
    go_enter Try.func13, Try.ntmps13
    go_wp2_with (go_at_call 27; refine hcall.mono ?_; rintro e w1 ⟨rfl, rfl⟩)
    go_ret
    exact ⟨rfl, rfl⟩
  · have d0 : ¬ (24 : Int) < n := by omega
    by_cases h0' : 24 < W
    · obtain rfl : 3 = f := by rw [← HF.out]; exact (chk_full (.inr (by rw [HW.out]; exact h0'))).symm
      have d1 : (24 : Int) < W := by omega
      go_enter Try.func13, Try.ntmps13
      go_wp2_with (go_at_call 27; refine hcall.mono ?_; rintro e w1 ⟨rfl, rfl⟩)
      go_ret
      exact ⟨rfl, rfl⟩
    · have d1 : ¬ (24 : Int) < W := by omega
      go_enter Try.func13, Try.ntmps13
      go_wp2_with (go_at_call 27; refine hcall.mono ?_; rintro e w1 ⟨rfl, rfl⟩)
      go_loopw [5, 17] (fun _ vi wr => ∃ j : Nat, vi = .int .i64 (j : Int) ∧ j ≤ n ∧ wr = w ∧ ∀ (i : Nat) r, i < j → l[i]? = some r → r.length = W) (fun _ vi _ => n - (intOf vi).toNat)
      case atStart => exact ⟨0, rfl, Nat.zero_le _, rfl, fun i r h => absurd h (Nat.not_lt_zero _)⟩
      case round =>
        obtain ⟨j, rfl, hj, rfl, hok⟩ := hrel
        have HOK := Lib.hid hok
        clear hok
        by_cases hlt : j < n
        · obtain ⟨g, off, rfl, h4⟩ := H3.out (by omega)
          obtain ⟨r, hr⟩ : ∃ r, l[j]? = some r := ⟨_, List.getElem?_eq_getElem (by rw [HN.out]; exact hlt)⟩
          obtain ⟨u, h5, h6⟩ := h4 j r hr
          obtain ⟨B, cr, rfl, h7, h8, _⟩ := cel_bool h6
          unfold maxLen at h8
          have hjn : (j : Int) < n := by omega
          have HR := Lib.hid hr
          obtain ⟨k, hk⟩ : ∃ k, r.length = k := ⟨_, rfl⟩
          rw [hk] at h5 h7
          have HK := Lib.hid hk
          clear h4 h6 hr hk hcall
          by_cases e : k = W
          · subst e
            go_wp2
            go_roundw
            case rel => exact ⟨j + 1, by go_num, hlt, trivial, fun i r' hi hr' => by
              by_cases e : i = j
              · subst e
                rw [HR.out] at hr'
                injection hr' with hr'
                rw [← hr']
                exact HK.out
              · exact HOK.out i r' (by omega) hr'⟩
            case measure => simp [intOf]; omega
          · obtain rfl : 2 = f := by rw [← HF.out]; exact (chk_form (by rw [HN.out]; omega) (by rw [HW.out]; omega) HR.out (by rw [HK.out, HW.out]; exact e)).symm
            have d2 : ((k : Int) != (W : Int)) = true := bne_iff_ne.2 (by omega)
            go_wp2
            go_ret
            exact ⟨rfl, rfl⟩
        · obtain rfl : j = n := by omega
          obtain rfl : 0 = f := by
            rw [← HF.out]
            exact (chk_sq (by rw [HN.out]; omega) (by rw [HW.out]; omega) (fun r hr => by
              obtain ⟨i, hi, e⟩ := List.mem_iff_getElem.1 hr
              rw [HW.out]
              exact HOK.out i r (by rw [← HN.out]; exact hi) (by rw [List.getElem?_eq_getElem hi, e]))).symm
          go_wp2
          go_ret
          exact ⟨rfl, rfl⟩
set_option maxRecDepth 100000 in
theorem psize_at (m : List Int) (v : Value) (z : Nat) (w : World) (HC : Hid (Cel w v (cellsI m))) (HZ : Hid (sz m = z)) :
    Calls Try.prog 24 #[v] w fun e w' => e = .returned (.int .i64 (z : Int)) ∧ w = w' := by
  obtain ⟨A, cap, rfl, h1, h2, h3⟩ := cel_int HC.out
  unfold maxLen at h2
  have H3 := Lib.hid h3
  clear h3
  obtain ⟨n, hn⟩ : ∃ n, m.length = n := ⟨_, rfl⟩
  rw [hn] at h1 H3 ⊢
  have HN := Lib.hid hn
  clear hn
  go_enter Try.func24, Try.ntmps24
  go_wp2
  go_loopw [3, 5, 8] (fun vn _ vi wr => ∃ j k : Nat, vi = .int .i64 (j : Int) ∧ vn = .int .i64 (k : Int) ∧ j ≤ n ∧ k ≤ j ∧ wr = w ∧ sz (m.take j) = k) (fun _ _ vi _ => n - (intOf vi).toNat)
  case atStart => exact ⟨0, 0, rfl, rfl, Nat.zero_le _, Nat.le_refl _, rfl, rfl⟩
  case round =>
    obtain ⟨j, k, rfl, rfl, hj, hk, rfl, hs⟩ := hrel
    have HS := Lib.hid hs
    clear hs
    by_cases hlt : j < n
    · obtain ⟨g, off, rfl, h4⟩ := H3.out (by omega)
      obtain ⟨x, hx⟩ : ∃ x, m[j]? = some x := ⟨_, List.getElem?_eq_getElem (by rw [HN.out]; exact hlt)⟩
      have e0 := h4 j x hx
      have hjn : (j : Int) < n := by omega
      have HT := Lib.hid (sz_take hx)
      clear h4 hx
      by_cases e : x = -1
      · subst e
        go_wp2
        go_roundw
        case rel => exact ⟨j + 1, k, by go_num, rfl, hlt, by omega, trivial, by rw [HT.out, if_pos rfl, HS.out]; rfl⟩
        case measure => simp [intOf]; omega
      · have d1 : (x != -1) = true := bne_iff_ne.2 e
        go_wp2
        go_roundw
        case rel => exact ⟨j + 1, k + 1, by go_num, by go_num, hlt, by omega, trivial, by rw [HT.out, if_neg e, HS.out]⟩
        case measure => simp [intOf]; omega
    · obtain rfl : j = n := by omega
      obtain rfl : k = z := by rw [← HZ.out, ← HS.out, List.take_of_length_le (by rw [HN.out]; exact Nat.le_refl _)]
      go_wp2
      go_ret
      exact ⟨rfl, rfl⟩
/-- The place of a number, or -1. -/
def ixI (m : List Int) (x : Int) : Int := match m.findIdx? (· == x) with | some i => (i : Int) | none => -1
theorem ixI_some {m : List Int} {x : Int} {i : Nat} (h : m[i]? = some x) (hb : ∀ (j : Nat) y, j < i → m[j]? = some y → y ≠ x) : ixI m x = i := by
  have : m.findIdx? (· == x) = some i := by
    rw [List.findIdx?_eq_some_iff_getElem]
    obtain ⟨hi, e⟩ := List.getElem?_eq_some_iff.1 h
    refine ⟨hi, by rw [e]; simp, fun j hj => ?_⟩
    have := hb j _ hj (List.getElem?_eq_getElem (by omega))
    simpa using this
  unfold ixI
  rw [this]
theorem ixI_none {m : List Int} {x : Int} (h : ∀ (j : Nat) y, m[j]? = some y → y ≠ x) : ixI m x = -1 := by
  have : m.findIdx? (· == x) = none := by
    rw [List.findIdx?_eq_none_iff]
    intro y hy
    obtain ⟨i, hi, e⟩ := List.mem_iff_getElem.1 hy
    have := h i y (by rw [List.getElem?_eq_getElem hi, e])
    simpa using this
  unfold ixI
  rw [this]
set_option maxRecDepth 100000 in
theorem pindex_at (m : List Int) (v : Value) (x f : Int) (w : World) (HC : Hid (Cel w v (cellsI m))) (HF : Hid (ixI m x = f)) :
    Calls Try.prog 41 #[v, .int .i64 x] w fun e w' => e = .returned (.int .i64 f) ∧ w = w' := by
  obtain ⟨A, cap, rfl, h1, h2, h3⟩ := cel_int HC.out
  unfold maxLen at h2
  have H3 := Lib.hid h3
  clear h3
  obtain ⟨n, hn⟩ : ∃ n, m.length = n := ⟨_, rfl⟩
  rw [hn] at h1 H3 ⊢
  have HN := Lib.hid hn
  clear hn
  go_enter Try.func41, Try.ntmps41
  go_wp2
  go_loopw [5, 8] (fun _ vi wr => ∃ j : Nat, vi = .int .i64 (j : Int) ∧ j ≤ n ∧ wr = w ∧ ∀ (i : Nat) y, i < j → m[i]? = some y → y ≠ x) (fun _ vi _ => n - (intOf vi).toNat)
  case atStart => exact ⟨0, rfl, Nat.zero_le _, rfl, fun i y h => absurd h (Nat.not_lt_zero _)⟩
  case round =>
    obtain ⟨j, rfl, hj, rfl, hs⟩ := hrel
    have HS := Lib.hid hs
    clear hs
    by_cases hlt : j < n
    · obtain ⟨g, off, rfl, h4⟩ := H3.out (by omega)
      obtain ⟨y, hy⟩ : ∃ y, m[j]? = some y := ⟨_, List.getElem?_eq_getElem (by rw [HN.out]; exact hlt)⟩
      have e0 := h4 j y hy
      have hjn : (j : Int) < n := by omega
      have HY := Lib.hid hy
      clear h4 hy
      by_cases e : x = y
      · subst e
        obtain rfl : (j : Int) = f := by rw [← HF.out]; exact (ixI_some HY.out HS.out).symm
        go_wp2
        go_ret
        exact ⟨rfl, rfl⟩
      · have d1 : (x == y) = false := beq_eq_false_iff_ne.2 e
        go_wp2
        go_roundw
        case rel => exact ⟨j + 1, by go_num, hlt, trivial, fun i y' hi hy' => by
          by_cases e2 : i = j
          · subst e2
            rw [HY.out] at hy'
            injection hy' with hy'
            rw [← hy']
            exact fun q => e q.symm
          · exact HS.out i y' (by omega) hy'⟩
        case measure => simp [intOf]; omega
    · obtain rfl : j = n := by omega
      obtain rfl : -1 = f := by
        rw [← HF.out]
        exact (ixI_none fun i y hy => HS.out i y (by rw [← HN.out]; exact (List.getElem?_eq_some_iff.1 hy).1) hy).symm
      go_wp2
      go_ret
      exact ⟨rfl, rfl⟩
set_option maxRecDepth 100000 in
theorem pcontains_at (m : List Int) (v : Value) (x : Int) (t : Bool) (w : World) (HC : Hid (Cel w v (cellsI m))) (HF : Hid (decide (x ∈ m) = t)) :
    Calls Try.prog 38 #[v, .int .i64 x] w fun e w' => e = .returned (.bool t) ∧ w = w' := by
  obtain ⟨f, hf⟩ : ∃ f, ixI m x = f := ⟨_, rfl⟩
  have hcall := pindex_at m v x f w HC (Lib.hid hf)
  cases t with
  | true =>
    have hm := of_decide_eq_true HF.out
    have hf0 : 0 ≤ f := by
      unfold ixI at hf
      split at hf
      · omega
      · rename_i h
        rw [List.findIdx?_eq_none_iff] at h
        have := h x hm
        simp at this
    clear hf hm
    go_enter Try.func38, Try.ntmps38
    go_wp2_with (go_at_call 41; refine hcall.mono ?_; rintro e w1 ⟨rfl, rfl⟩)
    go_ret
    exact ⟨rfl, rfl⟩
  | false =>
    have hm := of_decide_eq_false HF.out
    have hf0 : f = -1 := by
      rw [← hf]
      exact ixI_none fun j y hy e => hm (by rw [← e]; exact List.mem_of_getElem? hy)
    subst hf0
    clear hf hm
    go_enter Try.func38, Try.ntmps38
    go_wp2_with (go_at_call 41; refine hcall.mono ?_; rintro e w1 ⟨rfl, rfl⟩)
    go_ret
    exact ⟨rfl, rfl⟩
set_option maxRecDepth 100000 in
theorem pclone_at (m : List Int) (v : Value) (n : Nat) (w : World) (HC : Hid (Cel w v (cellsI m))) (HN : Hid (m.length = n)) (h0 : 0 < n) (hn : n ≤ 1000) :
    Calls Try.prog 45 #[v] w fun e w' => ∃ g c, e = .returned (.slice (some ⟨g, 0, none⟩) n c) ∧ w'.ownsRow w.heap.size 3 1 (.slice (some ⟨g, 0, none⟩) n c) n (cellsI m) ∧ Own w w' := by
  obtain ⟨i0, hi, hz0, hz1, hz2⟩ := info_parts (show (Try.prog.info? 3).map (fun i => (i.zero, i.size, i.bytes)) = some (some (.int .i64 0), 1, 8) by kernel_rfl)
  have HI := Lib.hid hi
  have HZ0 := Lib.hid hz0
  have HZ1 := Lib.hid hz1
  have HZ2 := Lib.hid hz2
  clear hi hz0 hz1 hz2
  obtain ⟨A, cap, rfl, h1, h2, h3⟩ := cel_int HC.out
  rw [HN.out] at h1 h3 ⊢
  obtain ⟨gb, ob, rfl, h4⟩ := h3 h0
  unfold maxLen at h2
  have HL := Lib.hid (show (cellsI m).length = n by rw [cellsI_len]; exact HN.out)
  have HCC : Hid (∀ (j : Nat) u, (cellsI m)[j]? = some u → (w.alloc (.cells #[] 3)).cell? ((⟨gb, ob, none⟩ : Addr).add j) = some u) := Lib.hid fun j u hj => by
    rw [Addr.add_lit]
    refine Lib.cell?_alloc_some _ ?_
    have hjl : j < m.length := by have := (List.getElem?_eq_some_iff.1 hj).1; rw [cellsI_len] at this; exact this
    rw [cellsI_at hjl] at hj
    injection hj with hj
    rw [← hj]
    exact h4 j _ (List.getElem?_eq_getElem hjl)
  clear h3 h4
  generalize hcm : cellsI m = L at HL HCC ⊢
  have HO := Lib.hid (show ∀ u ∈ L, u.oneCell' = true by rw [← hcm]; exact cellsI_one m)
  clear hcm
  have q24 : ∀ (w : World) (a : Option Addr) (n c n' c' : Nat), (binOp .eql 29 (.slice a n c) (.slice none n' c')).run Try.prog w = .ok (.bool a.isNone) w := fun w a n c n' c' => Lib.run_eql_slice_nil w _ _ a n c n' c' Try.underlying29
  go_enter Try.func45, Try.ntmps45
  go_wp2_with (at_builtin; refine wpList_append_own _ rfl _ _ 29 rfl w.heap.size 3 i0 (.int .i64 0) 1 8 Try.underlying29 HI.out HZ0.out HZ1.out HZ2.out rfl (by decide) _ _ _ rfl (World.ownsRow_made w #[] 0 (Nat.le_refl _) (Nat.zero_le _) rfl) _ n cap L rfl (by rw [HL.out]; omega) HCC.out HO.out (by unfold maxLen; omega) (by omega) (by simp) ?_; intro v' w1 hown hgrow hnil; have HOWN := Lib.hid hown; have HGR := Lib.hid hgrow; clear hown hgrow)
  go_wp2
  go_ret
  have hown := HOWN.out
  rw [Nat.zero_add, List.nil_append] at hown
  obtain ⟨A', c', rfl⟩ := rows_shape hown
  rcases hown.2 with ⟨q1, q2⟩ | ⟨g', cap', cur, q1, _⟩
  · omega
  · injection q1 with q1 _ q3
    subst q1
    exact ⟨g', c', rfl, hown, own_app HGR.out⟩
end Go.Proofs.Ytdgahlojdllkbaa.MchW
