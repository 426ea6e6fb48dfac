/-
  Walks of the library's comparisons and of TrimLeft as the program of package ident calls them: what a call returns for every input. Condition: none.
-/
import Derived.Test.YtifiljmiehddfaaDoorIdentB
import Derived.Test.YtifiljmiehddfaaDoorNamePlainP
import Derived.Sort.Grow
namespace Go.Proofs.YtifiljmiehddfaaDoor.NamW
open Go.ChangeShapes Go.WideShapes Go.ChangeAt Go.RowKit
open PairW NamP
/-- The world w' is w, with answers drawn from the tape and memory laid behind all that there is. -/
def Lays (w w' : World) : Prop := ∃ q os, w' = Sort.grow (w.drewN q) os
theorem Lays.refl (w : World) : Lays w w := ⟨0, #[], by rw [Sort.grow_empty]; rfl⟩
theorem Lays.drewN {a w : World} (h : Lays a w) (n : Nat) : Lays a (w.drewN n) := by
  obtain ⟨q, os, rfl⟩ := h
  refine ⟨q + n, os, ?_⟩
  show Sort.grow ((a.drewN q).drewN n) os = _
  rw [World.drewN_drewN]
theorem Lays.grow {a w : World} (h : Lays a w) (os : Array Obj) : Lays a (Sort.grow w os) := by
  obtain ⟨q, os', rfl⟩ := h
  exact ⟨q, _, Sort.grow_grow _ _ _⟩
theorem Lays.alloc {a w : World} (h : Lays a w) (o : Obj) : Lays a (w.alloc o) := by
  rw [Sort.alloc_eq_grow]
  exact h.grow _
theorem Lays.trans {a b c : World} (h : Lays a b) (k : Lays b c) : Lays a c := by
  obtain ⟨q, os, rfl⟩ := k
  exact (h.drewN q).grow os
theorem Lays.of_drew {w w' : World} (h : Drew w w') : Lays w w' := by
  obtain ⟨n, rfl⟩ := h
  exact (Lays.refl w).drewN n
theorem Lays.own {w w' : World} (h : Lays w w') : Own w w' := by
  obtain ⟨q, os, rfl⟩ := h
  refine ⟨rfl, rfl, ?_, fun i hi => ?_⟩
  · show w.heap.size ≤ (w.heap ++ os).size
    rw [Array.size_append]
    omega
  · show (w.heap ++ os)[i]? = w.heap[i]?
    rw [Array.getElem?_append_left hi]
theorem cmpInt_at (p q v : Int) (w : World) (H : Hid (cmpI p q = v)) :
    Calls Tryd.prog 41 #[.int .i64 p, .int .i64 q] w fun e w' => e = .returned (.int .i64 v) ∧ w = w' := by
  obtain rfl := H.out
  clear H
  by_cases h1 : p < q
  · rw [cmpI_lt h1]
    go_enter Tryd.func41, Tryd.ntmps41
    go_wp2
    go_ret
    exact ⟨rfl, rfl⟩
  · by_cases h2 : q < p
    · rw [cmpI_gt h2]
      go_enter Tryd.func41, Tryd.ntmps41
      go_wp2
      go_ret
      exact ⟨rfl, rfl⟩
    · rw [cmpI_eq (show p = q by omega)]
      go_enter Tryd.func41, Tryd.ntmps41
      go_wp2
      go_ret
      exact ⟨rfl, rfl⟩
theorem cmpStr_at (x y : ByteArray) (v : Int) (w : World) (H : Hid (cmpN (nums (bs x)) (nums (bs y)) = v)) :
    Calls Tryd.prog 48 #[.string x, .string y] w fun e w' => e = .returned (.int .i64 v) ∧ w = w' := by
  have h0 := cmpN_three (nums (bs x)) (nums (bs y))
  have hb : Op.bytesLess x.toList y.toList = decide (v < 0) := by rw [bs_toList, bs_toList, bytesLess_cmp, H.out]
  have hc : Op.bytesLess y.toList x.toList = decide (0 < v) := by
    rw [bs_toList, bs_toList, bytesLess_cmp, cmpN_swap, H.out]
    exact decide_eq_decide.2 (by omega)
  rw [H.out] at h0
  have he : (x.toList == y.toList) = decide (v = 0) := by
    rw [bs_toList, bs_toList, ← H.out]
    by_cases e : bs x = bs y
    · rw [e, cmpN_self]; simp
    · rw [beq_eq_false_iff_ne.2 e, decide_eq_false (fun k => e (nums_inj (cmpN_zero.1 k)))]
  clear H
  rcases h0 with rfl | rfl | rfl
  · rw [show decide ((-1 : Int) < 0) = true from rfl] at hb
    go_enter Tryd.func48, Tryd.ntmps48
    go_wp2
    go_ret
    exact ⟨rfl, rfl⟩
  · rw [show decide ((0 : Int) < 0) = false from rfl] at hb
    rw [show decide (0 < (0 : Int)) = false from rfl] at hc
    rw [show decide ((0 : Int) = 0) = true from rfl] at he
    go_enter Tryd.func48, Tryd.ntmps48
    go_wp2
    go_ret
    exact ⟨rfl, rfl⟩
  · rw [show decide ((1 : Int) < 0) = false from rfl] at hb
    rw [show decide (0 < (1 : Int)) = true from rfl] at hc
    rw [show decide ((1 : Int) = 0) = false from rfl] at he
    go_enter Tryd.func48, Tryd.ntmps48
    go_wp2
    go_ret
    exact ⟨rfl, rfl⟩
/-- cmp.Or of three integers. -/
theorem or3_at (a b c v : Int) (B : Nat) (w : World) (H : Hid (orZ a (orZ b c) = v)) (h0 : w.cell? ⟨B, 0, none⟩ = some (.int .i64 a)) (h1 : w.cell? ⟨B, 1, none⟩ = some (.int .i64 b)) (h2 : w.cell? ⟨B, 2, none⟩ = some (.int .i64 c)) :
    Calls Tryd.prog 66 #[.slice (some ⟨B, 0, none⟩) 3 3] w fun e w' => e = .returned (.int .i64 v) ∧ w = w' := by
  obtain rfl := H.out
  clear H
  unfold orZ
  by_cases ha : a = 0
  · rw [if_pos ha]
    subst ha
    by_cases hb : b = 0
    · rw [if_pos hb]
      subst hb
      by_cases hc : c = 0
      · subst hc
        go_enter Tryd.func66, Tryd.ntmps66
        go_wp2
        refine wp_loop_rounds 5 ?_
        rw [rounds_succ]
        go_wp2
        rw [rounds_succ]
        go_wp2
        rw [rounds_succ]
        go_wp2
        rw [rounds_succ]
        go_wp2
        go_ret
        exact ⟨rfl, rfl⟩
      · have hc2 : (c != 0) = true := bne_iff_ne.2 hc
        go_enter Tryd.func66, Tryd.ntmps66
        go_wp2
        refine wp_loop_rounds 5 ?_
        rw [rounds_succ]
        go_wp2
        rw [rounds_succ]
        go_wp2
        rw [rounds_succ]
        go_wp2
        go_ret
        exact ⟨rfl, rfl⟩
    · rw [if_neg hb]
      have hb2 : (b != 0) = true := bne_iff_ne.2 hb
      go_enter Tryd.func66, Tryd.ntmps66
      go_wp2
      refine wp_loop_rounds 5 ?_
      rw [rounds_succ]
      go_wp2
      rw [rounds_succ]
      go_wp2
      go_ret
      exact ⟨rfl, rfl⟩
  · rw [if_neg ha]
    have ha2 : (a != 0) = true := bne_iff_ne.2 ha
    go_enter Tryd.func66, Tryd.ntmps66
    go_wp2
    refine wp_loop_rounds 5 ?_
    rw [rounds_succ]
    go_wp2
    go_ret
    exact ⟨rfl, rfl⟩
set_option maxRecDepth 100000 in
theorem trimB_at (s r : ByteArray) (w : World) (hs : s.size ≤ maxLen) (H : Hid (bare (bs s) = bs r)) : Calls Tryd.prog 77 #[.string s, .int .u8 48] w fun e w' => e = .returned (.string r) ∧ w = w' := by
  unfold maxLen at hs
  go_enter Tryd.func77, Tryd.ntmps77
  go_wp2
  go_loop [0] (fun v => ∃ q : ByteArray, v = .string q ∧ q.size ≤ 9223372036854775807 ∧ bare (bs q) = bs r) (fun v => match v with | .string q => q.size | _ => 0)
  case atStart => exact ⟨s, rfl, by omega, H.out⟩
  case round =>
    obtain ⟨q, rfl, hq, he⟩ := hrel
    by_cases h0 : 0 < q.size
    · have hc := bs_cons q 0 h0
      rw [List.drop_zero] at hc
      rw [hc] at he
      unfold bare at he
      rw [List.dropWhile_cons] at he
      by_cases c : q[0].toNat = 48
      · have c1 : ((q[0].toNat : Int) == 48) = true := beq_iff_eq.2 (by omega)
        rw [if_pos (decide_eq_true c)] at he
        have HE := Lib.hid he
        have HB := Lib.hid (show bs (q.extract 1 q.size) = (bs q).drop 1 by rw [bs_extract, List.take_of_length_le (by rw [List.length_drop, bs_len]; omega)])
        have HZ := Lib.hid (show (q.extract 1 q.size).size = q.size - 1 by rw [ByteArray.size_extract]; omega)
        clear c he hc
        go_wp2
        refine ⟨⟨_, rfl, by rw [HZ.out]; omega, by rw [HB.out]; exact HE.out⟩, ?_⟩
        show (q.extract 1 q.size).size < q.size
        rw [HZ.out]
        omega
      · have c1 : ((q[0].toNat : Int) == 48) = false := beq_eq_false_iff_ne.2 (by omega)
        rw [if_neg (by simpa using c)] at he
        obtain rfl : q = r := bytes_inj (hc.trans he)
        clear c he hc H
        go_wp2
        go_ret
        exact ⟨rfl, rfl⟩
    · have h1 := bs_end q 0 (by omega)
      rw [List.drop_zero] at h1
      have he' := he
      rw [h1] at he'
      obtain rfl : q = r := bytes_inj (by show bs q = bs r; rw [h1, ← he']; rfl)
      have h2 : ¬ (0 : Int) < q.size := by omega
      clear he he' h1 H
      go_wp2
      go_ret
      exact ⟨rfl, rfl⟩
set_option maxRecDepth 100000 in
theorem trim_at (s r : ByteArray) (w : World) (hs : s.size ≤ maxLen) (H : Hid (bare (bs s) = bs r)) : Calls Tryd.prog 65 #[.string s, .string ⟨#[48]⟩] w fun e w' => e = .returned (.string r) ∧ w = w' := by
  have HS := Lib.hid hs
  clear hs
  by_cases h0 : s = ⟨#[]⟩
  · subst h0
    obtain rfl : (⟨#[]⟩ : ByteArray) = r := bytes_inj (by have := H.out; exact this)
    go_enter Tryd.func65, Tryd.ntmps65
    go_wp2
    go_ret
    exact ⟨rfl, rfl⟩
  · have e0 : s.toList ≠ [] := by
      rw [bs_toList]
      exact fun e => h0 (bytes_inj e)
    have e1 : (s.toList == []) = false := beq_eq_false_iff_ne.2 e0
    have e2 : s.toList.isEmpty = false := by rw [← List.beq_nil_eq]; exact e1
    clear h0
    go_enter Tryd.func65, Tryd.ntmps65
    go_wp2_with (go_at_call 77; refine (trimB_at s r _ HS.out H).mono ?_; rintro e w1 ⟨rfl, rfl⟩)
    go_ret
    exact ⟨rfl, rfl⟩
end Go.Proofs.YtifiljmiehddfaaDoor.NamW
