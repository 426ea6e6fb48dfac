/-
  Walks of the program's walk over the ends, and of Norm, Union, Common and Minus: what a call returns for every input. Condition: none.
-/
import Derived.Test.YtggceakihapgiaaSpanPD
namespace Go.Proofs.Ytggceakihapgiaa.SpaW
open Go.ChangeShapes Go.WideShapes Go.ChangeAt Go.RowKit
open PairW SpaP
theorem step_same {f : Int → Bool} {out : List Sp} {fr x : Int} {wi : Bool} (h : f x = wi) : stepW f (out, fr, wi) x = (out, fr, wi) := by unfold stepW; rw [if_pos h]
theorem step_open {f : Int → Bool} {out : List Sp} {fr x : Int} (h : f x = true) : stepW f (out, fr, false) x = (out, x, true) := by unfold stepW; rw [if_neg (by rw [h]; simp), if_neg (by simp)]
theorem step_shut {f : Int → Bool} {out : List Sp} {fr x : Int} (h : f x = false) : stepW f (out, fr, true) x = (out ++ [(fr, x)], x, false) := by unfold stepW; rw [if_neg (by rw [h]; simp), if_pos rfl]
theorem row_at_int {w : World} {base : Nat} {e : TypeId} {v : Value} {n : Nat} {R : List Int} (h : w.ownsRow base e 1 v n (R.map (Value.int .i64))) (hn : R.length = n) (h0 : 0 < n) : ∃ g cap, v = .slice (some ⟨g, 0, none⟩) n cap ∧ base ≤ g ∧ ∀ k, k < n → w.cell? ⟨g, k, none⟩ = some (.int .i64 (R.getD k 0)) := by
  obtain ⟨g, cap, rfl, h1, h2⟩ := row_form h h0
  refine ⟨g, cap, rfl, h1, fun k hk => ?_⟩
  have := World.ownsRow.cellAt h k (by omega)
  rw [this, List.getElem?_map, List.getElem?_eq_getElem (by omega), List.getD_eq_getElem?_getD, List.getElem?_eq_getElem (by omega)]
  rfl
set_option maxRecDepth 100000 in
set_option maxHeartbeats 4000000 in
theorem pwalk_at (a b v : List Sp) (f : Int) (sa sb : Value) (op : Int) (g : Nat) (lb : Array Value) (w : World) (eg : ∀ args w, (callFunc g args).run Try.prog w = .ok (.enter g args) w) (H : Hid (setE a b op = f ∧ setV a b op = v)) (HA : Hid (Pts w sa a)) (HB : Hid (Pts w sb b))
    (HG : Hid (Belongs g lb (fun x => opB op (hasB a x) (hasB b x)) w)) :
    Calls Try.prog 36 #[sa, sb, .func (.func g) #[] lb] w (SetRet v f w) := by
  obtain ⟨rfl, rfl⟩ := H.out
  clear H
  obtain ⟨ea, hea⟩ : ∃ e, chkE a = e := ⟨_, rfl⟩
  obtain ⟨eb, heb⟩ : ∃ e, chkE b = e := ⟨_, rfl⟩
  have HEA := Lib.hid hea
  have HEB := Lib.hid heb
  by_cases ha : ea = 0
  · subst ha
    by_cases hb : eb = 0
    · subst hb
      obtain ⟨i0, hi, hz0, hz1, hz2⟩ := info_parts (show (Try.prog.info? 36).map (fun i => (i.zero, i.size, i.bytes)) = some (some (.agg #[.int .i64 0, .int .i64 0]), 2, 16) by kernel_rfl)
      have HI := Lib.hid hi
      have HZ0 := Lib.hid hz0
      have HZ1 := Lib.hid hz1
      have HZ2 := Lib.hid hz2
      clear hi hz0 hz1 hz2
      have hza := (chkE_zero a).1 hea
      have hzb := (chkE_zero b).1 heb
      have hn : a.length + b.length ≤ 300 := by omega
      obtain ⟨R, hR⟩ : ∃ R, endsS (a ++ b) = R := ⟨_, rfl⟩
      have HR := Lib.hid hR
      have HW := Lib.hid (show (walkW (fun x => opB op (hasB a x) (hasB b x)) R).1 = setsL a b op by rw [← hR]; exact walk_sets op hza.2 hzb.2)
      have hRn : R.length ≤ 600 := by rw [← hR, endsS_len, List.length_append]; omega
      have HOK := Lib.hid (set_ok hea heb (op := op))
      have HFU := Lib.hid (set_full hea heb (op := op))
      obtain ⟨F, hF⟩ : ∃ F : Int → Bool, (fun x => opB op (hasB a x) (hasB b x)) = F := ⟨_, rfl⟩
      rw [hF] at HG HW
      have HT := Lib.hid (fun k (h : k < R.length) => walk_take F h)
      have HLN := Lib.hid (fun k (h : k ≤ R.length) => walk_len F R k h)
      have HW2 := Lib.hid (show (walkW F (R.take R.length)).1 = setsL a b op by rw [List.take_length]; exact HW.out)
      obtain ⟨N, hN⟩ : ∃ N, R.length = N := ⟨_, rfl⟩
      have HN := Lib.hid hN
      rw [hN] at hRn HT HLN HW2
      clear hza hzb hea heb hR hF hN HW
      go_enter Try.func36, Try.ntmps36
      go_upto_region 9 with (go_at_call 12; (first | (with_reducible refine (pcheck_at a _ _ _ HA HEA).mono ?_; rintro e w1 ⟨rfl, g0⟩) | (with_reducible refine (pcheck_at b _ _ _ (Lib.hid (HB.out.own g0)) HEB).mono ?_; rintro e w2 ⟨rfl, hg⟩; replace g0 := g0.trans hg; clear hg)))
      have hpe := pends_at a b sa sb R _ (Lib.hid (HA.out.own g0)) (Lib.hid (HB.out.own g0)) hn HR
      rw [HN.out] at hpe
      go_wp2_with (go_at_call 42; refine hpe.mono ?_; rintro e w3 ⟨sv, rfl, hrow, hg⟩; obtain ⟨⟨C, cc⟩, rfl⟩ := row_shape hrow)
      have h03 : Own w w3 := g0.trans hg
      have HC := Lib.hid (fun h0 => row_at_int hrow HN.out h0)
      have HFL := Lib.hid (h03.size)
      clear hrow hpe HA HB HEA HEB HR hg g0
      go_loopw [10, 11, 12, 29] (fun v10 v11 v12 i wr => ∃ k : Nat, i = .int .i64 k ∧ k ≤ N ∧ Own w3 wr ∧ v11 = .int .i64 (walkW F (R.take k)).2.1 ∧ v12 = .bool (walkW F (R.take k)).2.2 ∧ wr.ownsRow w3.heap.size 36 2 v10 (walkW F (R.take k)).1.length (cellsP (walkW F (R.take k)).1)) (fun _ _ _ i _ => N - (intOf i).toNat)
      case atStart => exact ⟨0, rfl, Nat.zero_le _, Own.refl w3, rfl, rfl, World.ownsRow_nil w3 _ _ _⟩
      case round =>
        obtain ⟨k, rfl, hk, q, e11, e12, hrow⟩ := hrel
        have HROW := Lib.hid hrow
        clear hrow
        by_cases hlt : k < N
        · have HST := Lib.hid (HT.out k hlt)
          have hlen := HLN.out k hk
          obtain ⟨⟨out, fr, wi⟩, hst⟩ : ∃ st, walkW F (R.take k) = st := ⟨_, rfl⟩
          rw [hst] at HST HROW e11 e12 hlen
          simp only at HROW e11 e12 hlen
          subst e11; subst e12
          obtain ⟨pg, pc, hsv, hpg, hcell⟩ := HC.out (by omega)
          cases hsv
          have e0 := q.cell (hcell k hlt)
          clear hcell hst
          obtain ⟨x, hx⟩ : ∃ x, R.getD k 0 = x := ⟨_, rfl⟩
          rw [hx] at e0 HST
          clear hx
          obtain ⟨tx, htx⟩ : ∃ t, F x = t := ⟨_, rfl⟩
          have hcall := HG.out wr x tx (h03.trans q) htx
          have HTX := Lib.hid htx
          clear htx
          have hkN : (k : Int) < N := by omega
          obtain ⟨L, hL⟩ : ∃ L, out.length = L := ⟨_, rfl⟩
          rw [hL] at HROW hlen
          have HL := Lib.hid hL
          clear hL
          cases wi
          · cases tx
            · have HS2 := Lib.hid (HST.out.trans (step_same HTX.out))
              clear HST HTX
              go_wp2_with (go_at_fn g; refine hcall.mono ?_; rintro e w4 ⟨rfl, hg⟩)
              go_roundw
              case rel => exact ⟨k + 1, by go_num, hlt, q.trans hg, by rw [HS2.out], by rw [HS2.out], by rw [HS2.out]; exact row_own (by rw [HL.out]; exact HROW.out) hg⟩
              case measure => simp [intOf]; omega
            · have HS2 := Lib.hid (HST.out.trans (step_open HTX.out))
              clear HST HTX
              go_wp2_with (go_at_fn g; refine hcall.mono ?_; rintro e w4 ⟨rfl, hg⟩)
              go_roundw
              case rel => exact ⟨k + 1, by go_num, hlt, q.trans hg, by rw [HS2.out], by rw [HS2.out], by rw [HS2.out]; exact row_own (by rw [HL.out]; exact HROW.out) hg⟩
              case measure => simp [intOf]; omega
          · cases tx
            · have HS2 := Lib.hid (HST.out.trans (step_shut HTX.out))
              clear HST HTX
              go_upto_region 14 with (go_at_fn g; refine hcall.mono ?_; rintro e w4 ⟨rfl, hg⟩; replace q := q.trans hg; have HROW1 := Lib.hid (row_own HROW.out hg))
              have g2 : Own w3 (w4.alloc (.cells #[.int .i64 fr, .int .i64 x] 36)) := q.alloc _
              have HROW2 := Lib.hid (HROW1.out.alloc (.cells #[.int .i64 fr, .int .i64 x] 36))
              go_wp2_with (at_builtin; refine wpList_append_lies _ rfl _ _ 22 rfl w3.heap.size 36 i0 _ 2 16 Try.underlying22 HI.out HZ0.out HZ1.out HZ2.out rfl (by omega) _ _ _ rfl HROW2.out ⟨w4.heap.size, 0, none⟩ 1 1 [.int .i64 fr, .int .i64 x] rfl rfl (World.news_of_block (cs := #[.int .i64 fr, .int .i64 x]) (t := 36) (fr := (0, 0)) (heap_alloc_new w4 _)) (by simp [Value.oneCell']) (by omega) (by unfold maxLen; omega) (by omega) g2.size _ rfl ?_)
              intro gg cap w5 hown hgr hat hlt4
              have hO : Own w3 w5 := g2.grown hgr (fun j hj => (HROW1.out.lt j hj).1)
              have HROW4 := Lib.hid hown
              clear hown hgr hat HROW1 HROW2 HROW
              go_wp2
              go_roundw
              case rel => exact ⟨k + 1, by go_num, hlt, hO, by rw [HS2.out], by rw [HS2.out], by rw [HS2.out]; simp only; rw [List.length_append, HL.out, cellsP_snoc]; exact HROW4.out⟩
              case measure => simp [intOf]; omega
            · have HS2 := Lib.hid (HST.out.trans (step_same HTX.out))
              clear HST HTX
              go_wp2_with (go_at_fn g; refine hcall.mono ?_; rintro e w4 ⟨rfl, hg⟩)
              go_roundw
              case rel => exact ⟨k + 1, by go_num, hlt, q.trans hg, by rw [HS2.out], by rw [HS2.out], by rw [HS2.out]; exact row_own (by rw [HL.out]; exact HROW.out) hg⟩
              case measure => simp [intOf]; omega
        · obtain rfl : k = N := by omega
          obtain ⟨⟨out, fr, wi⟩, hst⟩ : ∃ st, walkW F (R.take k) = st := ⟨_, rfl⟩
          rw [hst] at HROW e11 e12 HW2
          simp only at HROW e11 e12 HW2
          subst e11; subst e12
          rw [← HW2.out] at HOK HFU
          clear hst HW2 HT HLN HC
          have HROW1 := Lib.hid (row_base HROW.out HFL.out)
          obtain ⟨⟨D, dc⟩, rfl⟩ := row_shape HROW.out
          obtain ⟨L, hL⟩ : ∃ L, out.length = L := ⟨_, rfl⟩
          have HL := Lib.hid hL
          rw [hL] at HOK HFU HROW1
          rw [hL]
          clear hL HROW
          simp only at HROW1 ⊢
          by_cases h : 128 < L
          · have HV := Lib.hid (HFU.out h)
            go_wp2
            go_ret2
            exact set_ret HV.out (fresh_nil _ _) (h03.trans q)
          · have HV := Lib.hid (HOK.out h)
            go_wp2
            go_ret2
            exact set_ret HV.out (by unfold Fresh; rw [HL.out]; exact HROW1.out) (h03.trans q)
    · have HV := Lib.hid (set_b (op := op) hea heb hb)
      have hne : (eb != 0) = true := bne_iff_ne.2 hb
      clear hea heb hb
      go_enter Try.func36, Try.ntmps36
      go_wp2_with (go_at_call 12; (first | (with_reducible refine (pcheck_at a _ _ _ HA HEA).mono ?_; rintro e w1 ⟨rfl, g0⟩) | (with_reducible refine (pcheck_at b _ _ _ (Lib.hid (HB.out.own g0)) HEB).mono ?_; rintro e w2 ⟨rfl, hg⟩; replace g0 := g0.trans hg; clear hg)))
      go_ret2
      exact set_ret HV.out (fresh_nil _ _) g0
  · have HV := Lib.hid (set_a (b := b) (op := op) hea ha)
    have hne : (ea != 0) = true := bne_iff_ne.2 ha
    clear hea heb ha
    go_enter Try.func36, Try.ntmps36
    go_wp2_with (go_at_call 12; (first | (with_reducible refine (pcheck_at a _ _ _ HA HEA).mono ?_; rintro e w1 ⟨rfl, g0⟩) | (with_reducible refine (pcheck_at b _ _ _ (Lib.hid (HB.out.own g0)) HEB).mono ?_; rintro e w2 ⟨rfl, hg⟩; replace g0 := g0.trans hg; clear hg)))
    go_ret2
    exact set_ret HV.out (fresh_nil _ _) g0
set_option maxRecDepth 100000 in
theorem punion_at (a b v : List Sp) (f : Int) (sa sb : Value) (w : World) (H : Hid (setE a b 0 = f ∧ setV a b 0 = v)) (HA : Hid (Pts w sa a)) (HB : Hid (Pts w sb b)) :
    Calls Try.prog 22 #[sa, sb] w (SetRet v f w) := by
  have eg : ∀ args w, (callFunc 37 args).run Try.prog w = .ok (.enter 37 args) w := enters_of Try.func37 (by kernel_rfl) rfl
  obtain ⟨A, ca, rfl, _, _, _⟩ := HA.out.open
  obtain ⟨B, cb, rfl, _, _, _⟩ := HB.out.open
  obtain ⟨n, hn⟩ : ∃ n, a.length = n := ⟨_, rfl⟩
  obtain ⟨m, hm⟩ : ∃ m, b.length = m := ⟨_, rfl⟩
  rw [hn] at HA
  rw [hm] at HB
  rw [hn, hm]
  clear hn hm
  have g0 : Own w ((w.alloc (.cells #[.slice A n ca] 22)).alloc (.cells #[.slice B m cb] 22)) := ((Own.refl w).alloc _).alloc _
  have q0 : ((w.alloc (.cells #[.slice A n ca] 22)).alloc (.cells #[.slice B m cb] 22)).cell? ⟨w.heap.size, 0, none⟩ = some (.slice A n ca) := by go_simp
  have q1 : ((w.alloc (.cells #[.slice A n ca] 22)).alloc (.cells #[.slice B m cb] 22)).cell? ⟨w.heap.size + 1, 0, none⟩ = some (.slice B m cb) := by go_simp
  have HA1 := Lib.hid (HA.out.own g0)
  have HB1 := Lib.hid (HB.out.own g0)
  have HG := Lib.hid (pun1_at a b A B n m ca cb _ _ _ HA1 HB1 q0 q1)
  go_enter Try.func22, Try.ntmps22
  go_upto_region 1 with (fail)
  generalize (w.alloc (.cells #[.slice A n ca] 22)).alloc (.cells #[.slice B m cb] 22) = W0 at *
  go_wp2_with (go_at_call 36; refine (pwalk_at a b v f _ _ 0 37 #[.pointer (some ⟨w.heap.size, 0, none⟩), .pointer (some ⟨w.heap.size + 1, 0, none⟩)] _ eg H HA1 HB1 HG).mono ?_; rintro e w1 ⟨sv, rfl, hf, hg⟩)
  go_ret2
  exact ⟨sv, rfl, Fresh.base hf g0.size, g0.trans hg⟩
set_option maxRecDepth 100000 in
theorem pcommon_at (a b v : List Sp) (f : Int) (sa sb : Value) (w : World) (H : Hid (setE a b 1 = f ∧ setV a b 1 = v)) (HA : Hid (Pts w sa a)) (HB : Hid (Pts w sb b)) :
    Calls Try.prog 24 #[sa, sb] w (SetRet v f w) := by
  have eg : ∀ args w, (callFunc 38 args).run Try.prog w = .ok (.enter 38 args) w := enters_of Try.func38 (by kernel_rfl) rfl
  obtain ⟨A, ca, rfl, _, _, _⟩ := HA.out.open
  obtain ⟨B, cb, rfl, _, _, _⟩ := HB.out.open
  obtain ⟨n, hn⟩ : ∃ n, a.length = n := ⟨_, rfl⟩
  obtain ⟨m, hm⟩ : ∃ m, b.length = m := ⟨_, rfl⟩
  rw [hn] at HA
  rw [hm] at HB
  rw [hn, hm]
  clear hn hm
  have g0 : Own w ((w.alloc (.cells #[.slice A n ca] 22)).alloc (.cells #[.slice B m cb] 22)) := ((Own.refl w).alloc _).alloc _
  have q0 : ((w.alloc (.cells #[.slice A n ca] 22)).alloc (.cells #[.slice B m cb] 22)).cell? ⟨w.heap.size, 0, none⟩ = some (.slice A n ca) := by go_simp
  have q1 : ((w.alloc (.cells #[.slice A n ca] 22)).alloc (.cells #[.slice B m cb] 22)).cell? ⟨w.heap.size + 1, 0, none⟩ = some (.slice B m cb) := by go_simp
  have HA1 := Lib.hid (HA.out.own g0)
  have HB1 := Lib.hid (HB.out.own g0)
  have HG := Lib.hid (pco1_at a b A B n m ca cb _ _ _ HA1 HB1 q0 q1)
  go_enter Try.func24, Try.ntmps24
  go_upto_region 1 with (fail)
  generalize (w.alloc (.cells #[.slice A n ca] 22)).alloc (.cells #[.slice B m cb] 22) = W0 at *
  go_wp2_with (go_at_call 36; refine (pwalk_at a b v f _ _ 1 38 #[.pointer (some ⟨w.heap.size, 0, none⟩), .pointer (some ⟨w.heap.size + 1, 0, none⟩)] _ eg H HA1 HB1 HG).mono ?_; rintro e w1 ⟨sv, rfl, hf, hg⟩)
  go_ret2
  exact ⟨sv, rfl, Fresh.base hf g0.size, g0.trans hg⟩
set_option maxRecDepth 100000 in
theorem pminus_at (a b v : List Sp) (f : Int) (sa sb : Value) (w : World) (H : Hid (setE a b 2 = f ∧ setV a b 2 = v)) (HA : Hid (Pts w sa a)) (HB : Hid (Pts w sb b)) :
    Calls Try.prog 26 #[sa, sb] w (SetRet v f w) := by
  have eg : ∀ args w, (callFunc 39 args).run Try.prog w = .ok (.enter 39 args) w := enters_of Try.func39 (by kernel_rfl) rfl
  obtain ⟨A, ca, rfl, _, _, _⟩ := HA.out.open
  obtain ⟨B, cb, rfl, _, _, _⟩ := HB.out.open
  obtain ⟨n, hn⟩ : ∃ n, a.length = n := ⟨_, rfl⟩
  obtain ⟨m, hm⟩ : ∃ m, b.length = m := ⟨_, rfl⟩
  rw [hn] at HA
  rw [hm] at HB
  rw [hn, hm]
  clear hn hm
  have g0 : Own w ((w.alloc (.cells #[.slice A n ca] 22)).alloc (.cells #[.slice B m cb] 22)) := ((Own.refl w).alloc _).alloc _
  have q0 : ((w.alloc (.cells #[.slice A n ca] 22)).alloc (.cells #[.slice B m cb] 22)).cell? ⟨w.heap.size, 0, none⟩ = some (.slice A n ca) := by go_simp
  have q1 : ((w.alloc (.cells #[.slice A n ca] 22)).alloc (.cells #[.slice B m cb] 22)).cell? ⟨w.heap.size + 1, 0, none⟩ = some (.slice B m cb) := by go_simp
  have HA1 := Lib.hid (HA.out.own g0)
  have HB1 := Lib.hid (HB.out.own g0)
  have HG := Lib.hid (pmi1_at a b A B n m ca cb _ _ _ HA1 HB1 q0 q1)
  go_enter Try.func26, Try.ntmps26
  go_upto_region 1 with (fail)
  generalize (w.alloc (.cells #[.slice A n ca] 22)).alloc (.cells #[.slice B m cb] 22) = W0 at *
  go_wp2_with (go_at_call 36; refine (pwalk_at a b v f _ _ 2 39 #[.pointer (some ⟨w.heap.size, 0, none⟩), .pointer (some ⟨w.heap.size + 1, 0, none⟩)] _ eg H HA1 HB1 HG).mono ?_; rintro e w1 ⟨sv, rfl, hf, hg⟩)
  go_ret2
  exact ⟨sv, rfl, Fresh.base hf g0.size, g0.trans hg⟩
theorem pnorm_at (a v : List Sp) (f : Int) (sa : Value) (w : World) (H : Hid (setE a [] 0 = f ∧ setV a [] 0 = v)) (HA : Hid (Pts w sa a)) :
    Calls Try.prog 17 #[sa] w (SetRet v f w) := by
  go_enter Try.func17, Try.ntmps17
  go_wp2_with (go_at_call 22; refine (punion_at a [] v f _ _ _ H HA (Lib.hid (pts_nil w))).mono ?_; rintro e w1 ⟨sv, rfl, hf, g0⟩)
  go_ret2
  exact ⟨sv, rfl, hf, g0⟩
end Go.Proofs.Ytggceakihapgiaa.SpaW
