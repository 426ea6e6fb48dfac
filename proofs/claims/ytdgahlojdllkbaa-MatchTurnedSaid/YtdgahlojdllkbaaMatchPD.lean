/-
  Walks of the program of package match: greatest, Size, with, improve, Match. Condition: none.
-/
import Derived.Test.YtdgahlojdllkbaaMatchPC
import Derived.Test.YtdgahlojdllkbaaMatchPlainC
namespace Go.Proofs.Ytdgahlojdllkbaa.MchW
open Go.ChangeShapes Go.WideShapes Go.ChangeAt Go.RowKit
open PairW CelW TabW MchP
theorem rep_isP (l : List (List Bool)) (n : Nat) : IsP l (List.replicate n (-1)) := by
  refine ⟨fun i x h => ?_, fun i j c h => ?_⟩
  · rw [List.getElem?_replicate] at h
    split at h
    · injection h with h
      exact .inl h.symm
    · cases h
  · rw [List.getElem?_replicate] at h
    split at h
    · injection h with h
      omega
    · cases h
set_option maxRecDepth 100000 in
set_option maxHeartbeats 1000000 in
theorem greatest_at (l : List (List Bool)) (vl : Value) (W R : Nat) (w : World) (HT : Hid (Cels w vl (cellsB l))) (HS : Hid (Sq l)) (HR : Hid (l.length = R)) (HW : Hid (wd l = W)) (hW : W ≤ 24) (hR : R ≤ 24) :
    Calls Try.prog 25 #[vl] w fun e w' => ∃ g m, e = .returned (.slice (some ⟨g, 0, none⟩) R R) ∧ w'.ownsRow w.heap.size 3 1 (.slice (some ⟨g, 0, none⟩) R R) R (cellsI m) ∧ Own w w' ∧ Gt l W R m := by
  obtain ⟨AL, capl, rfl, t1, t2, _⟩ := tb_open HT.out
  rw [HR.out] at t1 HT ⊢
  unfold maxLen at t2
  have k0 : (w.alloc (.cells #[.int .i64 (-1)] 3)).cell? ⟨w.heap.size, 0, none⟩ = some (.int .i64 (-1)) := by go_simp
  have q0 : Own w (w.alloc (.cells #[.int .i64 (-1)] 3)) := (Own.refl w).alloc _
  go_enter Try.func25, Try.ntmps25
  go_upto_region 2 with (go_at_call 34; refine (prep_at R w.heap.size _ k0 (by omega)).mono ?_; rintro e w2 ⟨g, rfl, hr2, q2⟩; have HR2 := Lib.hid (row_down hr2 q0.size); have HQ2 := Lib.hid (q0.trans q2); clear hr2 q2)
  clear k0 q0
  have HPP := Lib.hid (rep_isP l R)
  go_upto_region 3 with (go_at_call 35; refine (enlarge_at l w _ 0 W R R g (List.replicate R (-1)) w2 HT HQ2 HR2 HPP HS HR HW hW hR (Nat.zero_le _)).mono ?_; rintro e w3 ⟨rfl, q3, m, hm, h, V, S, hinv⟩; have HQ3 := Lib.hid q3; have HM := Lib.hid hm; have HI := Lib.hid hinv; clear q3 hm hinv)
  go_wp2
  go_ret
  refine ⟨g, m, rfl, HM.out, Kp.own HQ2.out HQ3.out (fun x hx => ?_), _, _, _, _, HI.out⟩
  simp only [List.mem_cons, List.not_mem_nil, or_false] at hx
  rw [hx]
  exact (HR2.out.lt g rfl).1
set_option maxRecDepth 100000 in
set_option maxHeartbeats 1000000 in
theorem psizeOf_at (l : List (List Bool)) (vl : Value) (n : Nat) (f : Int) (w : World) (HT : Hid (Cels w vl (cellsB l))) (HF : Hid (chkE l = f)) (HN : Hid (nuV l = n)) :
    Calls Try.prog 11 #[vl] w fun e w' => e = .returned (.tuple #[.int .i64 (n : Int), .int .i64 f]) ∧ Own w w' ∧ (f = 0 → Mx (Pl l) n) := by
  have hcall := pcheck_at l vl f w HT HF
  by_cases h0 : f = 0
  · subst h0
    obtain ⟨b1, b2, b3⟩ := chk_ok HF.out
    obtain ⟨R, hR⟩ : ∃ R, l.length = R := ⟨_, rfl⟩
    obtain ⟨W, hW⟩ : ∃ W, wd l = W := ⟨_, rfl⟩
    rw [hR] at b1
    rw [hW] at b2
    have HR := Lib.hid hR
    have HW := Lib.hid hW
    have HS := Lib.hid b3
    have hg := greatest_at l vl W R w HT HS HR HW b2 b1
    clear hR hW b3
    go_enter Try.func11, Try.ntmps11
    go_wp2_with (first
      | (go_at_call 13; refine hcall.mono ?_; rintro e w1 ⟨rfl, rfl⟩)
      | (go_at_call 25; refine hg.mono ?_; rintro e w2 ⟨g, m, rfl, hm, q2, hgt⟩; have HM := Lib.hid (cel_of_row hm); have HQ := Lib.hid q2; have HG := Lib.hid hgt; have HZ := Lib.hid (show sz m = n by rw [← HN.out]; unfold nuV; rw [if_pos HF.out, nu_of (hgt.mx HR.out)]); clear hm q2 hgt)
      | (go_at_call 24; refine (psize_at m _ n w2 HM HZ).mono ?_; rintro e w3 ⟨rfl, rfl⟩))
    go_ret2
    exact ⟨rfl, HQ.out, fun _ => by rw [← HZ.out]; exact HG.out.mx HR.out⟩
  · obtain rfl : 0 = n := by rw [← HN.out]; exact (maV_bad (by rw [HF.out]; exact h0)).2.symm
    have d1 : (f == 0) = false := beq_eq_false_iff_ne.2 h0
    have d2 : (f != 0) = true := bne_iff_ne.2 h0
    go_enter Try.func11, Try.ntmps11
    go_wp2_with (go_at_call 13; refine hcall.mono ?_; rintro e w1 ⟨rfl, rfl⟩)
    go_ret2
    exact ⟨rfl, Own.refl _, fun e => absurd e h0⟩
theorem ixI_hf {l : List (List Bool)} {m : List Int} {c : Nat} (h : IsP l m) : ixI m c = -1 ∧ (∀ j : Nat, m[j]? ≠ some (c : Int)) ∨ ∃ k : Nat, ixI m c = (k : Int) ∧ m[k]? = some (c : Int) := by
  by_cases hx : ∃ k : Nat, m[k]? = some (c : Int)
  · obtain ⟨k, hk⟩ := hx
    refine .inr ⟨k, ixI_some hk fun j y hj hy e => ?_, hk⟩
    rw [e] at hy
    have := h.one j k c hy hk
    omega
  · have hx' : ∀ k : Nat, m[k]? ≠ some (c : Int) := fun k e => hx ⟨k, e⟩
    exact .inl ⟨ixI_none fun j y hy e => hx' j (by rw [hy, e]), hx'⟩
set_option maxRecDepth 100000 in
set_option maxHeartbeats 1000000 in
theorem with_at (l : List (List Bool)) (vl vm : Value) (W R n i c : Nat) (m : List Int) (w : World) (HT : Hid (Cels w vl (cellsB l))) (HM : Hid (Cel w vm (cellsI m))) (HP : Hid (IsP l m)) (HL : Hid (m.length = R)) (HS : Hid (Sq l)) (HR : Hid (l.length = R)) (HW : Hid (wd l = W)) (hW : W ≤ 24) (hR : R ≤ 24) (hi : i < R) (HA : Hid (at2 l i c = true)) (HC : Hid ((c : Int) ∉ m.take i)) (HN : Hid (Mx (Pl l) n)) :
    Calls Try.prog 39 #[vl, vm, .int .i64 (i : Int), .int .i64 (c : Int)] w fun e w' => ∃ g cp m', e = .returned (.slice (some ⟨g, 0, none⟩) R cp) ∧ w'.ownsRow w.heap.size 3 1 (.slice (some ⟨g, 0, none⟩) R cp) R (cellsI m') ∧ Own w w' ∧ (Ext l (m.take i ++ [(c : Int)]) ↔ sz m' = n) ∧ IsP l m' ∧ m'.length = R ∧ m'.take (i + 1) = m.take i ++ [(c : Int)] := by
  obtain ⟨AL, capl, rfl, t1, t2, _⟩ := tb_open HT.out
  rw [HR.out] at t1 HT ⊢
  unfold maxLen at t2
  obtain ⟨f, hf⟩ : ∃ f, ixI m c = f := ⟨_, rfl⟩
  have HF := Lib.hid hf
  have hfc := ixI_hf HP.out (c := c)
  rw [hf] at hfc
  have HFC := Lib.hid hfc
  have hiz : (i : Int) < R := by omega
  have hwrap : (i : Int) + 1 = ((i + 1 : Nat) : Int) := by omega
  have HWR := Lib.hid hwrap
  clear hf hfc hwrap
  go_enter Try.func39, Try.ntmps39
  go_upto_region 2 with (go_at_call 45; refine (pclone_at m vm R w HM HL (by omega) (by omega)).mono ?_; rintro e w1 ⟨g, cp, rfl, hr1, q1⟩; have HR1 := Lib.hid hr1; have HQ1 := Lib.hid q1; clear hr1 q1)
  have HM1 := Lib.hid (HM.out.own HQ1.out)
  have hcp : R ≤ cp ∧ cp ≤ 9223372036854775807 := by
    rcases HR1.out.2 with ⟨h, _⟩ | ⟨g', cap', cur, h1, _, _, h2, h3, _⟩
    · cases h
    · injection h1 with _ _ h4
      unfold maxLen at h3
      rw [h4]
      exact ⟨h2, h3⟩
  obtain ⟨hcp1, hcp2⟩ := hcp
  go_upto_region 3 with (go_at_call 41; refine (pindex_at m vm c f w1 HM1 HF).mono ?_; rintro e w2 ⟨rfl, rfl⟩)
  have HTK := Lib.hid (wth_take (by rw [HL.out]; exact hi) HFC.out HC.out)
  have HPW := Lib.hid (wth_isP HP.out (by rw [HL.out]; exact hi) HA.out HFC.out)
  have HLW := Lib.hid ((wth_len m i c f).trans HL.out)
  have hgb : w.heap.size ≤ g := (HR1.out.lt g rfl).1
  obtain ⟨y2, e2, hy2, f2⟩ := row_int HR1.out HL.out hi
  clear hy2
  have hj : ∀ w5, Hid (w5.ownsRow w.heap.size 3 1 (.slice (some ⟨g, 0, none⟩) R cp) R (cellsI (wth m i c f)) ∧ Own w w5) → Calls Try.prog 35 #[.slice AL R capl, .slice (some ⟨g, 0, none⟩) R cp, .int .i64 ((i + 1 : Nat) : Int)] w5 (Enl l w w5 (i + 1) W R cp g (wth m i c f)) := fun w5 h5 => enlarge_at l w _ (i + 1) W R cp g (wth m i c f) w5 HT (Lib.hid h5.out.2) (Lib.hid h5.out.1) HPW HS HR HW hW hR hi
  have hend : ∀ w5 w6, Own w w5 → Kp [g] w5 w6 → Own w w6 := fun w5 w6 h1 h2 => Kp.own h1 h2 (fun x hx => by
    simp only [List.mem_cons, List.not_mem_nil, or_false] at hx
    rw [hx]
    exact hgb)
  have HJ := Lib.hid hj
  have HEND := Lib.hid hend
  clear hj hend
  rcases HFC.out with ⟨rfl, _⟩ | ⟨k, rfl, hk⟩
  · have HX := Lib.hid (show (w1.setCell ⟨g, i, none⟩ (.int .i64 (c : Int))).ownsRow w.heap.size 3 1 (.slice (some ⟨g, 0, none⟩) R cp) R (cellsI (wth m i c (-1))) ∧ Own w (w1.setCell ⟨g, i, none⟩ (.int .i64 (c : Int))) from ⟨row_puti HR1.out i c, HQ1.out.setCell hgb _⟩)
    go_upto_region 6 with (fail)
    generalize w1.setCell ⟨g, i, none⟩ (.int .i64 (c : Int)) = w5 at *
    have hcall := HJ.out w5 HX
    rw [← HWR.out] at hcall
    clear e2 f2
    go_upto_region 7 with (go_at_call 35; refine hcall.mono ?_; rintro e w6 ⟨rfl, q6, m', hm6, h, V, S, hinv⟩; have HQ6 := Lib.hid (HEND.out w5 w6 HX.out.2 q6); have HM6 := Lib.hid hm6; have HI := Lib.hid (with_ext hinv HR.out hi HTK.out HN.out); clear q6 hm6 hinv)
    go_wp2
    go_ret
    exact ⟨g, cp, m', rfl, HM6.out, HQ6.out, HI.out⟩
  · have hkR : k < R := by rw [← HL.out]; exact (List.getElem?_eq_some_iff.1 hk).1
    have hkz : (k : Int) < R := by omega
    obtain ⟨y3, e3, hy3, f3⟩ := row_int HR1.out HL.out hkR
    have d1 : ((k : Int) != -1) = true := bne_iff_ne.2 (by omega)
    have hwt : wth m i c (k : Int) = (m.set k (-1)).set i (c : Int) := by unfold wth; rw [if_neg (by omega), Int.toNat_natCast]
    have HX1 := Lib.hid (row_puti HR1.out k (-1))
    obtain ⟨y4, e4, hy4, f4⟩ := row_int HX1.out (List.length_set.trans HL.out) hi
    have HX := Lib.hid (show ((w1.setCell ⟨g, k, none⟩ (.int .i64 (-1))).setCell ⟨g, i, none⟩ (.int .i64 (c : Int))).ownsRow w.heap.size 3 1 (.slice (some ⟨g, 0, none⟩) R cp) R (cellsI (wth m i c k)) ∧ Own w ((w1.setCell ⟨g, k, none⟩ (.int .i64 (-1))).setCell ⟨g, i, none⟩ (.int .i64 (c : Int))) from ⟨by rw [hwt]; exact row_puti HX1.out i c, (HQ1.out.setCell hgb _).setCell hgb _⟩)
    clear hy3 hy4 hk hwt
    go_upto_region 5 with (fail)
    clear e2 f2 e3 f3
    generalize w1.setCell ⟨g, k, none⟩ (.int .i64 (-1)) = w4 at *
    go_upto_region 6 with (fail)
    clear e4 f4
    generalize w4.setCell ⟨g, i, none⟩ (.int .i64 (c : Int)) = w5 at *
    have hcall := HJ.out w5 HX
    rw [← HWR.out] at hcall
    go_upto_region 7 with (go_at_call 35; refine hcall.mono ?_; rintro e w6 ⟨rfl, q6, m', hm6, h, V, S, hinv⟩; have HQ6 := Lib.hid (HEND.out w5 w6 HX.out.2 q6); have HM6 := Lib.hid hm6; have HI := Lib.hid (with_ext hinv HR.out hi HTK.out HN.out); clear q6 hm6 hinv)
    go_wp2
    go_ret
    exact ⟨g, cp, m', rfl, HM6.out, HQ6.out, HI.out⟩
theorem cel_take {w : World} {A : Option Addr} {R cp i : Nat} {m : List Int} (h : Cel w (.slice A R cp) (cellsI m)) (hl : m.length = R) (hi : i ≤ R) : Cel w (.slice A i cp) (cellsI (m.take i)) := by
  obtain ⟨A', c', e, h2, h3, h4⟩ := h
  injection e with e1 e2 e3
  subst e1
  subst e3
  rw [cellsI_len] at h2 h4
  have hlt : (cellsI (m.take i)).length = i := by rw [cellsI_len, List.length_take]; omega
  refine ⟨A, cp, by rw [hlt], by rw [hlt]; omega, h3, fun h0 => ?_⟩
  rw [hlt] at h0
  obtain ⟨b, off, h5, h6⟩ := h4 (by omega)
  refine ⟨b, off, h5, fun k u hu => h6 k u ?_⟩
  unfold cellsI at hu ⊢
  rw [List.map_take, List.getElem?_take] at hu
  split at hu
  · exact hu
  · cases hu
/-- What improve leaves. -/
def Imp (l : List (List Bool)) (w : World) (base R n i : Nat) (m : List Int) (e : Ending) (w' : World) : Prop := ∃ g cp m', e = .returned (.slice (some ⟨g, 0, none⟩) R cp) ∧ w'.ownsRow base 3 1 (.slice (some ⟨g, 0, none⟩) R cp) R (cellsI m') ∧ Own w w' ∧ IsP l m' ∧ m'.length = R ∧ sz m' = n ∧ m'.take i = m.take i ∧ ∃ x, m'[i]? = some x ∧ Nx l (m.take i) x
set_option maxRecDepth 100000 in
set_option maxHeartbeats 2000000 in
theorem improve_at (l : List (List Bool)) (vl : Value) (base W R n i g cp : Nat) (m : List Int) (w : World) (HT : Hid (Cels w vl (cellsB l))) (HM : Hid (w.ownsRow base 3 1 (.slice (some ⟨g, 0, none⟩) R cp) R (cellsI m))) (hb : base ≤ w.heap.size) (HP : Hid (IsP l m)) (HL : Hid (m.length = R)) (HZ : Hid (sz m = n)) (HS : Hid (Sq l)) (HR : Hid (l.length = R)) (HW : Hid (wd l = W)) (hW : W ≤ 24) (hR : R ≤ 24) (hi : i < R) (HN : Hid (Mx (Pl l) n)) :
    Calls Try.prog 30 #[vl, .slice (some ⟨g, 0, none⟩) R cp, .int .i64 (i : Int)] w (Imp l w base R n i m) := by
  obtain ⟨go, off, cap, A, cr, rfl, h1, h2, e0, h4, h5, hrow⟩ := tb_row HT.out HS.out HR.out HW.out hi
  unfold maxLen at h2 h5
  have HROW := Lib.hid hrow
  clear hrow
  have HMC := Lib.hid (show Cel w (.slice (some ⟨g, 0, none⟩) R cp) (cellsI m) from cel_of_row HM.out)
  have hcp : R ≤ cp ∧ cp ≤ 9223372036854775807 := by
    rcases HM.out.2 with ⟨h, _⟩ | ⟨g', cap', cur, h1, _, _, h2, h3, _⟩
    · cases h
    · injection h1 with _ _ h4
      unfold maxLen at h3
      rw [h4]
      exact ⟨h2, h3⟩
  obtain ⟨hcp1, hcp2⟩ := hcp
  have hiz : (i : Int) < R := by omega
  have hic : (i : Int) ≤ cp := by omega
  go_enter Try.func30, Try.ntmps30
  go_wp2
  clear e0
  go_loopw [7, 8, 9, 15] (fun _ _ _ vi wr => ∃ j : Nat, vi = .int .i64 (j : Int) ∧ j ≤ W ∧ Own w wr ∧ ∀ c, c < j → ¬ Ext l (m.take i ++ [(c : Int)])) (fun _ _ _ vi _ => W - (intOf vi).toNat)
  case atStart => exact ⟨0, rfl, Nat.zero_le _, Own.refl w, fun c h => absurd h (Nat.not_lt_zero _)⟩
  case round =>
    obtain ⟨j, rfl, hj, q, hno⟩ := hrel
    have HNO := Lib.hid hno
    have HQ := Lib.hid q
    have HLT := Lib.hid (show (m.take i).length = i by rw [List.length_take, HL.out]; omega)
    clear hno q
    by_cases hlt : j < W
    · have hjz : (j : Int) < W := by omega
      obtain ⟨gr, og, rfl, e1⟩ := HROW.out j hlt
      replace e1 := HQ.out.cell e1
      have HSTEP := Lib.hid (show ¬ Ext l (m.take i ++ [(j : Int)]) → ∀ c, c < j + 1 → ¬ Ext l (m.take i ++ [(c : Int)]) from fun hn c hc => by
        by_cases e : c = j
        · rw [e]; exact hn
        · exact HNO.out c (by omega))
      cases hp : at2 l i j with
      | false =>
        rw [hp] at e1
        have HN2 := Lib.hid (HSTEP.out fun h => by have := (ext_perm h).1; rw [HLT.out, hp] at this; cases this)
        clear hp
        go_wp2
        go_roundw
        case rel => exact ⟨j + 1, by go_num, hlt, HQ.out, HN2.out⟩
        case measure => simp [intOf]; omega
      | true =>
        rw [hp] at e1
        have HA := Lib.hid hp
        clear hp
        have HMT := Lib.hid (cel_take (HMC.out.own HQ.out) HL.out (Nat.le_of_lt hi))
        obtain ⟨t, ht⟩ : ∃ t, decide ((j : Int) ∈ m.take i) = t := ⟨_, rfl⟩
        have HTT := Lib.hid ht
        have hc1 := pcontains_at (m.take i) (.slice (some ⟨g, 0, none⟩) i cp) (j : Int) t wr HMT HTT
        clear ht
        cases t with
        | true =>
          have HN2 := Lib.hid (HSTEP.out fun h => (ext_perm h).2 (of_decide_eq_true HTT.out))
          go_wp2_with (go_at_call 38; refine hc1.mono ?_; rintro e w1 ⟨rfl, rfl⟩)
          go_roundw
          case rel => exact ⟨j + 1, by go_num, hlt, HQ.out, HN2.out⟩
          case measure => simp [intOf]; omega
        | false =>
          have HC := Lib.hid (of_decide_eq_false HTT.out)
          go_upto_region 5 with (go_at_call 38; refine hc1.mono ?_; rintro e w1 ⟨rfl, rfl⟩)
          clear e1 hc1
          have hc2 := with_at l (.slice (some ⟨go, off, none⟩) R cap) (.slice (some ⟨g, 0, none⟩) R cp) W R n i j m wr (Lib.hid (HT.out.own HQ.out)) (Lib.hid (HMC.out.own HQ.out)) HP HL HS HR HW hW hR hi HA HC HN
          go_upto_region 6 with (go_at_call 39; refine hc2.mono ?_; rintro e w2 ⟨g2, cp2, m2, rfl, hr2, q2, hx2, hp2, hl2, ht2⟩; have HR2 := Lib.hid hr2; have HQ2 := Lib.hid q2; have HX2 := Lib.hid hx2; have HP2 := Lib.hid hp2; have HL2 := Lib.hid hl2; have HT2 := Lib.hid ht2; clear hr2 q2 hx2 hp2 hl2 ht2)
          clear hc2
          obtain ⟨z2, hz2⟩ : ∃ z, sz m2 = z := ⟨_, rfl⟩
          have HZ2 := Lib.hid hz2
          have hc3 := psize_at m2 (.slice (some ⟨g2, 0, none⟩) R cp2) z2 w2 (Lib.hid (cel_of_row HR2.out)) HZ2
          have hc4 := psize_at m (.slice (some ⟨g, 0, none⟩) R cp) n w2 (Lib.hid ((HMC.out.own HQ.out).own HQ2.out)) HZ
          clear hz2
          by_cases e : z2 = n
          · subst e
            go_wp2_with (first
              | (go_at_call 24; with_reducible refine hc3.mono ?_; rintro e w3 ⟨rfl, rfl⟩)
              | (go_at_call 24; with_reducible refine hc4.mono ?_; rintro e w3 ⟨rfl, rfl⟩))
            go_ret
            refine ⟨g2, cp2, m2, rfl, row_down HR2.out (Nat.le_trans hb HQ.out.size), HQ.out.trans HQ2.out, HP2.out, HL2.out, HZ2.out, ?_, (j : Int), ?_, ?_⟩
            · have := congrArg (List.take i) HT2.out
              rw [List.take_take, Nat.min_eq_left (by omega), List.take_append_of_le_length (by rw [HLT.out]; exact Nat.le_refl _), List.take_take, Nat.min_self] at this
              exact this
            · have := congrArg (fun x => x[i]?) HT2.out
              simp only [List.getElem?_take] at this
              rw [if_pos (by omega)] at this
              rw [this]
              rw [List.getElem?_append_right (by rw [HLT.out]; exact Nat.le_refl _), HLT.out, Nat.sub_self]
              rfl
            · refine ⟨by omega, HX2.out.2 HZ2.out, fun y hy => ?_⟩
              obtain ⟨y1, y2⟩ := hy
              obtain ⟨c, rfl⟩ : ∃ c : Nat, y = (c : Int) := ⟨y.toNat, by omega⟩
              exact HNO.out c (by omega)
          · have HN2 := Lib.hid (HSTEP.out fun h => e (by rw [← HZ2.out]; exact HX2.out.1 h))
            have d1 : ((z2 : Int) == (n : Int)) = false := beq_eq_false_iff_ne.2 (by omega)
            go_wp2_with (first
              | (go_at_call 24; with_reducible refine hc3.mono ?_; rintro e w3 ⟨rfl, rfl⟩)
              | (go_at_call 24; with_reducible refine hc4.mono ?_; rintro e w3 ⟨rfl, rfl⟩))
            go_roundw
            case rel => exact ⟨j + 1, by go_num, hlt, HQ.out.trans HQ2.out, HN2.out⟩
            case measure => simp [intOf]; omega
    · obtain rfl : W = j := by omega
      obtain ⟨x, hx⟩ : ∃ x, m[i]? = some x := ⟨_, List.getElem?_eq_getElem (by rw [HL.out]; exact hi)⟩
      have hext := ext_take HP.out HN.out HZ.out (i + 1)
      rw [take_one hx] at hext
      have hxn : x = -1 := by
        rcases HP.out.ok i x hx with e | ⟨c, rfl, hc⟩
        · exact e
        · exact absurd hext (HNO.out c (by rw [← HW.out]; exact at2_col HS.out hc))
      subst hxn
      have HFIN := Lib.hid (show ∃ x, m[i]? = some x ∧ Nx l (m.take i) x from ⟨-1, hx, by omega, hext, fun y hy h => by
        obtain ⟨y1, y2⟩ := hy
        obtain ⟨c, rfl⟩ : ∃ c : Nat, y = (c : Int) := ⟨y.toNat, by omega⟩
        have h3 := (ext_perm h).1
        rw [HLT.out] at h3
        exact HNO.out c (by rw [← HW.out]; exact at2_col HS.out h3) h⟩)
      clear hx hext
      go_wp2
      go_ret
      exact ⟨g, cp, m, rfl, row_own HM.out HQ.out, HQ.out, HP.out, HL.out, HZ.out, rfl, HFIN.out⟩
set_option maxRecDepth 100000 in
set_option maxHeartbeats 2000000 in
theorem pmatch_at (l : List (List Bool)) (vl : Value) (M : List Int) (f : Int) (w : World) (HT : Hid (Cels w vl (cellsB l))) (HF : Hid (chkE l = f)) (HN : Hid (maV l = M)) :
    Calls Try.prog 16 #[vl] w fun e w' => ∃ v, e = .returned (.tuple #[v, .int .i64 f]) ∧ w'.ownsRow w.heap.size 3 1 v M.length (cellsI M) ∧ Own w w' ∧ (f = 0 → Best l M) := by
  have hcall := pcheck_at l vl f w HT HF
  by_cases h0 : f = 0
  · subst h0
    obtain ⟨b1, b2, b3⟩ := chk_ok HF.out
    obtain ⟨R, hR⟩ : ∃ R, l.length = R := ⟨_, rfl⟩
    obtain ⟨W, hW⟩ : ∃ W, wd l = W := ⟨_, rfl⟩
    rw [hR] at b1
    rw [hW] at b2
    have HR := Lib.hid hR
    have HW := Lib.hid hW
    have HS := Lib.hid b3
    have hg := greatest_at l vl W R w HT HS HR HW b2 b1
    obtain ⟨AL, capl, rfl, t1, t2, _⟩ := tb_open HT.out
    rw [HR.out] at t1 HT hcall hg ⊢
    unfold maxLen at t2
    clear hR hW b3
    go_enter Try.func16, Try.ntmps16
    go_upto_region 5 with (first
      | (go_at_call 13; refine hcall.mono ?_; rintro e w1 ⟨rfl, rfl⟩)
      | (go_at_call 25; refine hg.mono ?_; rintro e w2 ⟨g, m, rfl, hm, q2, hgt⟩; have HM := Lib.hid hm; have HQ := Lib.hid q2; have HG := Lib.hid hgt; clear hm q2 hgt))
    obtain ⟨n, hn⟩ : ∃ n, sz m = n := ⟨_, rfl⟩
    have HZ := Lib.hid hn
    have HMX := Lib.hid (show Mx (Pl l) n by rw [← hn]; exact HG.out.mx HR.out)
    have HI := Lib.hid HG.out.isP
    clear hn hcall hg
    go_wp2
    go_loopw [5, 6, 16] (fun vm _ vi wr => ∃ (j g cp : Nat) (m : List Int), vi = .int .i64 (j : Int) ∧ vm = .slice (some ⟨g, 0, none⟩) R cp ∧ j ≤ R ∧ Own w wr ∧ wr.ownsRow w.heap.size 3 1 (.slice (some ⟨g, 0, none⟩) R cp) R (cellsI m) ∧ IsP l m ∧ m.length = R ∧ sz m = n ∧ Ch l (m.take j)) (fun _ _ vi _ => R - (intOf vi).toNat)
    case atStart => exact ⟨0, g, R, m, rfl, rfl, Nat.zero_le _, HQ.out, HM.out, HI.out.1, HI.out.2.trans HR.out, HZ.out, by rw [List.take_zero]; exact ch_nil l⟩
    case round =>
      clear HM HQ HG HZ HI
      obtain ⟨j, g, cp, m, rfl, rfl, hj, q, hm, hp, hl, hz, hch⟩ := hrel
      have HM := Lib.hid hm
      have HQ := Lib.hid q
      have HP := Lib.hid hp
      have HL := Lib.hid hl
      have HZ := Lib.hid hz
      have HCH := Lib.hid hch
      clear hm q hp hl hz hch
      by_cases hlt : j < R
      · have hjz : (j : Int) < R := by omega
        have hc := improve_at l (.slice AL R capl) w.heap.size W R n j g cp m wr (Lib.hid (HT.out.own HQ.out)) HM HQ.out.size HP HL HZ HS HR HW b2 b1 hlt HMX
        go_wp2_with (go_at_call 30; refine hc.mono ?_; rintro e w3 ⟨g3, cp3, m3, rfl, hm3, q3, hp3, hl3, hz3, ht3, hx3⟩; have HM3 := Lib.hid hm3; have HQ3 := Lib.hid q3; have HP3 := Lib.hid hp3; have HL3 := Lib.hid hl3; have HZ3 := Lib.hid hz3; have HT3 := Lib.hid ht3; have HX3 := Lib.hid hx3; clear hm3 q3 hp3 hl3 hz3 ht3 hx3)
        go_roundw
        case rel =>
          obtain ⟨x, hx, hnx⟩ := HX3.out
          refine ⟨j + 1, g3, cp3, m3, by go_num, rfl, hlt, HQ.out.trans HQ3.out, HM3.out, HP3.out, HL3.out, HZ3.out, ?_⟩
          rw [take_one hx, HT3.out]
          exact HCH.out.snoc hnx
        case measure => simp [intOf]; omega
      · obtain rfl : R = j := by omega
        have HB := Lib.hid (show Best l m from ⟨HP.out, HL.out.trans HR.out.symm, by rw [HZ.out]; exact HMX.out, by have := HCH.out; rwa [List.take_of_length_le (by rw [HL.out]; exact Nat.le_refl _)] at this⟩)
        obtain rfl : m = M := by rw [← HN.out]; exact (HB.out.vals HF.out).2.symm
        go_wp2
        go_ret2
        exact ⟨_, rfl, by rw [HL.out]; exact HM.out, HQ.out, fun _ => HB.out⟩
  · obtain rfl : [] = M := by rw [← HN.out]; exact (maV_bad (by rw [HF.out]; exact h0)).1.symm
    have d1 : (f == 0) = false := beq_eq_false_iff_ne.2 h0
    have d2 : (f != 0) = true := bne_iff_ne.2 h0
    go_enter Try.func16, Try.ntmps16
    go_wp2_with (go_at_call 13; refine hcall.mono ?_; rintro e w1 ⟨rfl, rfl⟩)
    go_ret2
    exact ⟨_, rfl, World.ownsRow_nil _ _ _ _, Own.refl _, fun e => absurd e h0⟩
end Go.Proofs.Ytdgahlojdllkbaa.MchW
