/-
  Walks of the program of package match: enlarge, greatest, Size. Condition: none.
-/
import Derived.Test.YtfhdoeajoeaddaaMatchPB
import Derived.Test.YtfhdoeajoeaddaaRepeat
namespace Go.Proofs.Ytfhdoeajoeaddaa.MchW
open Go.ChangeShapes Go.WideShapes Go.ChangeAt Go.RowKit
open PairW CelW TabW MchP
/-- The rows that hold the columns, from the first j rows. -/
structure HJ (W : Nat) (m : List Int) (j : Nat) (h : List Int) : Prop where
  lh : h.length = W
  hv : ∀ (c : Nat) x, h[c]? = some x → x = -1 ∨ ∃ i : Nat, x = (i : Int)
  eq : ∀ i c : Nat, h[c]? = some (i : Int) ↔ i < j ∧ m[i]? = some (c : Int)
theorem hj_zero (W : Nat) (m : List Int) : HJ W m 0 (List.replicate W (-1)) := by
  refine ⟨List.length_replicate, fun c x h => ?_, fun i c => ⟨fun h => ?_, fun h => absurd h.1 (Nat.not_lt_zero _)⟩⟩
  · rw [List.getElem?_replicate] at h
    split at h
    · injection h with h
      exact .inl h.symm
    · cases h
  · rw [List.getElem?_replicate] at h
    split at h
    · injection h with h
      omega
    · cases h
theorem HJ.skip {W : Nat} {m : List Int} {j : Nat} {h : List Int} (k : HJ W m j h) (hx : m[j]? = some (-1)) : HJ W m (j + 1) h :=
  ⟨k.lh, k.hv, fun i c => (k.eq i c).trans ⟨fun q => ⟨by omega, q.2⟩, fun q => ⟨by
    by_cases e : i = j
    · have := q.2
      rw [e, hx] at this
      injection this with this
      omega
    · omega, q.2⟩⟩⟩
theorem HJ.put {l : List (List Bool)} {W : Nat} {m : List Int} {j : Nat} {h : List Int} {c0 : Nat} (k : HJ W m j h) (hp : IsP l m) (hx : m[j]? = some (c0 : Int)) (hc : c0 < W) : HJ W m (j + 1) (h.set c0 j) := by
  refine ⟨List.length_set.trans k.lh, fun c x hh => ?_, fun i c => ?_⟩
  · rw [List.getElem?_set] at hh
    split at hh
    · split at hh
      · injection hh with hh
        exact .inr ⟨j, hh.symm⟩
      · cases hh
    · exact k.hv c x hh
  · rw [List.getElem?_set]
    by_cases e : c0 = c
    · rw [if_pos e, if_pos (by rw [k.lh]; exact hc)]
      subst e
      constructor
      · intro q
        injection q with q
        obtain rfl : j = i := by omega
        exact ⟨by omega, hx⟩
      · rintro ⟨_, q⟩
        rw [hp.one i j c0 q hx]
    · rw [if_neg e, k.eq]
      constructor
      · exact fun q => ⟨by omega, q.2⟩
      · rintro ⟨q1, q2⟩
        refine ⟨?_, q2⟩
        by_cases e2 : i = j
        · rw [e2, hx] at q2
          injection q2 with q2
          omega
        · omega
theorem HJ.con {l : List (List Bool)} {W R : Nat} {m h : List Int} (k : HJ W m R h) (hp : IsP l m) (hl : m.length = R) (hR : l.length = R) : Con l W m h :=
  ⟨hl.trans hR.symm, k.lh, hp.ok, k.hv, fun i c => by
    rw [k.eq]
    exact ⟨fun q => ⟨by rw [← hl]; exact (List.getElem?_eq_some_iff.1 q).1, q⟩, fun q => q.2⟩⟩
theorem three_new (w : World) (v0 v1 v2 : Value) (T0 T1 T2 : TypeId) : ∃ W0, ((w.alloc (.cells #[v0] T0)).alloc (.cells #[v1] T1)).alloc (.cells #[v2] T2) = W0 ∧ W0.cell? ⟨w.heap.size, 0, none⟩ = some v0 ∧ W0.cell? ⟨w.heap.size + 1, 0, none⟩ = some v1 ∧ W0.cell? ⟨w.heap.size + 1 + 1, 0, none⟩ = some v2 ∧ Own w W0 ∧ W0.heap.size = w.heap.size + 3 := by
  refine ⟨_, rfl, ?_, ?_, ?_, (((Own.refl w).alloc _).alloc _).alloc _, ?_⟩ <;> go_simp
@[go_sem] theorem run_store_closure (P : Program) (w : World) (a : Addr) (m : Mode) (f : Fn) (ts cs : Array Value) : (store a (.func f ts cs) m).run P w = stored P w a (.func f ts cs) m := run_store P w a _ m rfl
theorem two_new (w : World) (v0 v1 : Value) (T0 T1 : TypeId) : ∃ W0, ((w.alloc (.cells #[v0] T0)).alloc (.cells #[v1] T1)) = W0 ∧ W0.cell? ⟨w.heap.size, 0, none⟩ = some v0 ∧ W0.frozen? ⟨w.heap.size, 0, none⟩ = false ∧ W0.cell? ⟨w.heap.size + 1, 0, none⟩ = some v1 ∧ W0.frozen? ⟨w.heap.size + 1, 0, none⟩ = false ∧ Own w W0 ∧ W0.heap.size = w.heap.size + 2 := by
  refine ⟨_, rfl, ?_, ?_, ?_, ?_, ((Own.refl w).alloc _).alloc _, ?_⟩ <;> go_simp
/-- What enlarge leaves. -/
def Enl (l : List (List Bool)) (w0 w : World) (fr W R cm gm : Nat) (m : List Int) (e : Ending) (w' : World) : Prop := e = .returned (.tuple #[]) ∧ Kp [gm] w w' ∧ ∃ m', w'.ownsRow w0.heap.size 3 1 (.slice (some ⟨gm, 0, none⟩) R cm) R (cellsI m') ∧ ∃ h V S, Inv l fr W R m m' h V S
set_option maxRecDepth 100000 in
set_option maxHeartbeats 4000000 in
theorem enlarge_at (l : List (List Bool)) (w0 : World) (vl : Value) (fr W R cm gm : Nat) (m : List Int) (w : World) (HT : Hid (Cels w0 vl (cellsB l))) (HQ : Hid (Own w0 w)) (HM : Hid (w.ownsRow w0.heap.size 3 1 (.slice (some ⟨gm, 0, none⟩) R cm) R (cellsI m))) (HP : Hid (IsP l m)) (HS : Hid (Sq l)) (HR : Hid (l.length = R)) (HW : Hid (wd l = W)) (hW : W ≤ 24) (hR : R ≤ 24) (hfr : fr ≤ R) :
    Calls Try.prog 40 #[vl, .slice (some ⟨gm, 0, none⟩) R cm, .int .i64 (fr : Int)] w (Enl l w0 w fr W R cm gm m) := by
  obtain ⟨AL, capl, rfl, t1, t2, _⟩ := tb_open HT.out
  rw [HR.out] at t1 HT ⊢
  unfold maxLen at t2
  have hml := row_len HM.out
  rw [cellsI_len] at hml
  obtain ⟨i1, hi, hz0, hz1, hz2⟩ := info_parts (show (Try.prog.info? 4).map (fun i => (i.zero, i.size, i.bytes)) = some (some (.bool false), 1, 1) by kernel_rfl)
  have JI := Lib.hid hi
  have JZ0 := Lib.hid hz0
  have JZ1 := Lib.hid hz1
  have HBY := Lib.hid (show i1.bytes * W ≤ 281474976710656 by rw [hz2]; omega)
  have HMX := Lib.hid (show W ≤ maxLen by unfold maxLen; omega)
  have HZL := Lib.hid (show (madeCells (Value.bool false).cells (W * 1)).toList = cellsT (List.replicate W false) by rw [Nat.mul_one]; show (madeCells #[Value.bool false] W).toList = _; rw [toList_madeCells_one]; unfold cellsT; rw [List.map_replicate])
  have hcmb : R ≤ cm ∧ cm ≤ maxLen := by
    rcases HM.out.2 with ⟨h, _⟩ | ⟨g', cap', cur, h1, _, _, h2, h3, _⟩
    · cases h
    · injection h1 with _ _ h4
      rw [h4]
      exact ⟨h2, h3⟩
  have HCB := Lib.hid hcmb
  clear hi hz0 hz1 hz2 hcmb
  go_enter Try.func40, Try.ntmps40
  go_upto_region 1 with (fail)
  obtain ⟨W0, hW0, k0, k1, k2, g0, z0⟩ := three_new w (.slice AL R capl) (.slice (some ⟨gm, 0, none⟩) R cm) (.int .i64 (fr : Int)) 38 23 3
  rw [hW0]
  clear hW0
  generalize hbm : w.heap.size + 1 = bm at *
  generalize hbf : bm + 1 = bf at *
  generalize hbl : w.heap.size = bl at *
  have HBM := Lib.hid hbm
  have HBF := Lib.hid hbf
  have HBL := Lib.hid hbl
  have Z0 := Lib.hid z0
  have G0 := Lib.hid g0
  clear hbm hbf hbl z0 g0
  have ka : (W0.alloc (.cells #[.int .i64 (-1)] 3)).cell? ⟨W0.heap.size, 0, none⟩ = some (.int .i64 (-1)) := by go_simp
  have qa := (Own.refl W0).alloc (.cells #[.int .i64 (-1)] 3)
  replace k0 := qa.cell k0
  replace k1 := qa.cell k1
  replace k2 := qa.cell k2
  have HTA := Lib.hid (HT.out.own (HQ.out.trans (G0.out.trans qa)))
  go_upto_region 2 with (first
    | (go_at_call 39; with_reducible refine (pwidth_at l _ W _ HTA HW).mono ?_; rintro e w1 ⟨rfl, rfl⟩)
    | (go_at_call 32; refine (prep_at W W0.heap.size _ ka (by omega)).mono ?_; rintro e w2 ⟨gh, rfl, hr2, q2⟩; have HR2 := Lib.hid hr2; have HQ2 := Lib.hid q2; replace k0 := q2.cell k0; replace k1 := q2.cell k1; replace k2 := q2.cell k2; clear hr2 q2))
  have k6 : (w2.alloc (.cells #[.slice (some ⟨gh, 0, none⟩) W W] 23)).cell? ⟨w2.heap.size, 0, none⟩ = some (.slice (some ⟨gh, 0, none⟩) W W) := by go_simp
  have q3 := (Own.refl w2).alloc (.cells #[.slice (some ⟨gh, 0, none⟩) W W] 23)
  have hz3 : (w2.alloc (.cells #[.slice (some ⟨gh, 0, none⟩) W W] 23)).heap.size = w2.heap.size + 1 := by go_simp
  generalize w2.alloc (.cells #[.slice (some ⟨gh, 0, none⟩) W W] 23) = w3 at *
  have Z3 := Lib.hid hz3
  replace k0 := q3.cell k0
  replace k1 := q3.cell k1
  replace k2 := q3.cell k2
  have hza : (W0.alloc (.cells #[.int .i64 (-1)] 3)).heap.size = W0.heap.size + 1 := by go_simp
  have HO3 := Lib.hid (((G0.out.trans qa).trans HQ2.out).trans q3)
  have HM3 := Lib.hid (row_own HM.out HO3.out)
  have HH3 := Lib.hid (row_own (row_down HR2.out (show w0.heap.size ≤ _ by have := HQ.out.size; have := ((G0.out.trans qa)).size; omega)) q3)
  have hbnd : gm < bl ∧ bl + 1 = bm ∧ bm + 1 = bf ∧ bf < gh ∧ gh < w2.heap.size := by
    have h1 := (HM.out.lt gm rfl).2
    have h2 := HR2.out.lt gh rfl
    have h3 := HBM.out
    have h4 := HBF.out
    have h5 := HBL.out
    have h6 := Z0.out
    omega
  generalize w2.heap.size = bh at *
  have HB := Lib.hid hbnd
  have K0 := Lib.hid k0
  have K1 := Lib.hid k1
  have K2 := Lib.hid k2
  have K6 := Lib.hid k6
  have HQ3 := Lib.hid (HQ.out.trans HO3.out)
  clear hbnd hz3 hza q3 qa ka HR2 HQ2 HTA k0 k2 k6
  have HJ0 := Lib.hid (hj_zero W m)
  go_wp2
  clear k1
  go_loopw [7, 8, 18] (fun _ _ vi wr => ∃ (j : Nat) (h : List Int), vi = .int .i64 (j : Int) ∧ j ≤ R ∧ Kp [gh] w3 wr ∧ wr.ownsRow w0.heap.size 3 1 (.slice (some ⟨gh, 0, none⟩) W W) W (cellsI h) ∧ HJ W m j h) (fun _ _ vi _ => R - (intOf vi).toNat)
  case atStart => exact ⟨0, _, rfl, Nat.zero_le _, Kp.refl _ _, HH3.out, HJ0.out⟩
  case round =>
    clear HJ0 HH3
    obtain ⟨j, h, rfl, hj, q, hrow, hjj⟩ := hrel
    have HROW := Lib.hid hrow
    have HKQ := Lib.hid q
    have HJJ := Lib.hid hjj
    clear hrow q hjj
    by_cases hlt : j < R
    · obtain ⟨x, e0', hx, _⟩ := row_int HM3.out hml hlt
      have e0 := HKQ.out.cell e0' (by have := HB.out; simp; omega)
      have hjz : (j : Int) < R := by omega
      have HX := Lib.hid hx
      clear e0' hx
      rcases HP.out.ok j x HX.out with rfl | ⟨c, rfl, hc⟩
      · have HN := Lib.hid (HJJ.out.skip HX.out)
        go_wp2
        go_roundw
        case rel => exact ⟨j + 1, h, by go_num, hlt, HKQ.out, HROW.out, HN.out⟩
        case measure => simp [intOf]; omega
      · have hcW : c < W := by rw [← HW.out]; exact at2_col HS.out hc
        have hcz : (c : Int) < W := by omega
        have d1 : ((c : Int) != -1) = true := bne_iff_ne.2 (by omega)
        obtain ⟨y, e1, _, f1⟩ := row_int HROW.out HJJ.out.lh hcW
        have k6 := HKQ.out.cell K6.out (by have := HB.out; simp; omega)
        have HN := Lib.hid (HJJ.out.put HP.out HX.out hcW)
        have HPU := Lib.hid (row_puti HROW.out c (j : Int))
        have HKP := Lib.hid (HKQ.out.put (p := ⟨gh, c, none⟩) (fun _ => by simp) (.int .i64 (j : Int)))
        clear hc
        go_wp2
        go_roundw
        case rel => exact ⟨j + 1, _, by go_num, hlt, HKP.out, HPU.out, HN.out⟩
        case measure => simp [intOf]; omega
    · obtain rfl : R = j := by omega
      have HCO := Lib.hid (HJJ.out.con HP.out hml HR.out)
      have HZ4 := Lib.hid (HKQ.out.size)
      clear HJJ
      generalize wr = w4 at *
      go_upto_region 10 with (fail)
      obtain ⟨w5, hw5, b0, f0, b1, f1, q5, z5⟩ := two_new w4 (.slice none 0 0) .nilFunc 39 66
      rw [hw5]
      clear hw5
      have Q5 := Lib.hid q5
      have Z5 := Lib.hid z5
      clear q5 z5
      have HQ5 := Lib.hid (HKQ.out.more (Kp.of_own (G := []) Q5.out) (fun x h => absurd h (by simp)))
      have hB := HB.out
      have hz4 := HZ4.out
      rw [Z3.out] at hz4
      have hz5 := Z5.out
      generalize hbs : w4.heap.size = bs at *
      generalize hbp : bs + 1 = bp at *
      have HBB := Lib.hid (show gm < bl ∧ bl + 1 = bm ∧ bm + 1 = bf ∧ bf < gh ∧ gh < bh ∧ bh < bs ∧ bs + 1 = bp ∧ w5.heap.size = bs + 2 from by omega)
      have HM5 := Lib.hid (HQ5.out.row HM3.out (by have := HBB.out; simp; omega))
      have HH5 := Lib.hid (row_own HROW.out Q5.out)
      clear hB hz4 hz5 hbs hbp Z5 HZ4 Q5 HB
      obtain ⟨vp, hvp⟩ : ∃ vp, Value.func (.func 43) #[] #[.pointer (some ⟨bl, 0, none⟩), .pointer (some ⟨bs, 0, none⟩), .pointer (some ⟨bh, 0, none⟩), .pointer (some ⟨bf, 0, none⟩), .pointer (some ⟨bp, 0, none⟩), .pointer (some ⟨bm, 0, none⟩)] = vp := ⟨_, rfl⟩
      have HQ6 := Lib.hid (HQ5.out.put (p := ⟨bp, 0, none⟩) (fun h => by have h1 := HBB.out; rw [Z3.out] at h; simp at h; omega) vp)
      have HM6 := Lib.hid (row_set HM5.out (p := ⟨bp, 0, none⟩) (by have := HBB.out; show bp ≠ gm; omega) vp)
      have HH6 := Lib.hid (row_set HH5.out (p := ⟨bp, 0, none⟩) (by have := HBB.out; show bp ≠ gh; omega) vp)
      have c1 : (w5.setCell ⟨bp, 0, none⟩ vp).cell? ⟨bp, 0, none⟩ = some vp := by go_simp
      have c0 : (w5.setCell ⟨bp, 0, none⟩ vp).cell? ⟨bs, 0, none⟩ = some (.slice none 0 0) := (put_cell w5 (p := ⟨bp, 0, none⟩) (q := ⟨bs, 0, none⟩) vp (by have := HBB.out; show bs ≠ bp; omega)).trans b0
      have g0 : (w5.setCell ⟨bp, 0, none⟩ vp).frozen? ⟨bs, 0, none⟩ = false := (World.frozen?_of_block (w := w5) (set_other w5 ⟨bp, 0, none⟩ vp (k := bs) (by have := HBB.out; show bs ≠ bp; omega))).trans f0
      have hz6 : (w5.setCell ⟨bp, 0, none⟩ vp).heap.size = w5.heap.size := by simp [World.setCell]
      have HZ6 := Lib.hid (hz6.trans HBB.out.2.2.2.2.2.2.2)
      clear hz6
      rw [← hvp] at HQ6 HM6 HH6 c1 c0 g0 HZ6
      clear hvp b0 f0
      go_upto_region 11 with (fail)
      generalize w5.setCell ⟨bp, 0, none⟩ (.func (.func 43) #[] #[.pointer (some ⟨bl, 0, none⟩), .pointer (some ⟨bs, 0, none⟩), .pointer (some ⟨bh, 0, none⟩), .pointer (some ⟨bf, 0, none⟩), .pointer (some ⟨bp, 0, none⟩), .pointer (some ⟨bm, 0, none⟩)]) = w6 at *
      have C1 := Lib.hid c1
      have C0 := Lib.hid c0
      have F0 := Lib.hid g0
      clear c1 c0 g0 b1 f1 HM5 HH5 HQ5 HROW
      have ng := HBB.out
      have K0' := Lib.hid (HQ6.out.cell K0.out (by simp; omega))
      have K1' := Lib.hid (HQ6.out.cell K1.out (by simp; omega))
      have k2 := HQ6.out.cell K2.out (by simp; omega)
      have K2' := Lib.hid k2
      have K6' := Lib.hid (HQ6.out.cell K6.out (by simp; omega))
      clear ng
      go_wp2
      clear k2
      go_loopw [11] (fun vi wr => ∃ (j : Nat) (m' h : List Int) (V S : Nat → Prop) (vs : Value), vi = .int .i64 (j : Int) ∧ fr ≤ j ∧ j ≤ R ∧ Kp [gm, gh, bs] w6 wr ∧ wr.ownsRow w0.heap.size 3 1 (.slice (some ⟨gm, 0, none⟩) R cm) R (cellsI m') ∧ wr.ownsRow w0.heap.size 3 1 (.slice (some ⟨gh, 0, none⟩) W W) W (cellsI h) ∧ wr.cell? ⟨bs, 0, none⟩ = some vs ∧ wr.frozen? ⟨bs, 0, none⟩ = false ∧ Inv l fr W j m m' h V S) (fun vi _ => R - (intOf vi).toNat)
      case atStart => exact ⟨fr, m, h, _, _, _, rfl, Nat.le_refl _, hfr, Kp.refl _ _, HM6.out, HH6.out, C0.out, F0.out, Inv.start HCO.out⟩
      case round =>
        clear HM6 HH6 C0 F0 HCO
        obtain ⟨j, m', h, V, S, vs, rfl, hfj, hj, q, hrm, hrh, cb, fb, hinv⟩ := hrel
        have HRM := Lib.hid hrm
        have HRH := Lib.hid hrh
        have HKQ := Lib.hid q
        have HINV := Lib.hid hinv
        have HCBS := Lib.hid cb
        have HFBS := Lib.hid fb
        have hlm : m'.length = R := by have := row_len hrm; rwa [cellsI_len] at this
        clear hrm hrh q hinv cb fb
        have ng := HBB.out
        have KL := Lib.hid (HKQ.out.cell K0'.out (by simp; omega))
        have k1 := HKQ.out.cell K1'.out (by simp; omega)
        have KM := Lib.hid k1
        have KF := Lib.hid (HKQ.out.cell K2'.out (by simp; omega))
        have k6 := HKQ.out.cell K6'.out (by simp; omega)
        have KH := Lib.hid k6
        have c1 := HKQ.out.cell C1.out (by simp; omega)
        have KP := Lib.hid c1
        have hws := HKQ.out.size
        rw [HZ6.out] at hws
        have HWS := Lib.hid hws
        clear ng hws
        by_cases hlt2 : j < R
        · obtain ⟨x, e0, hx, _⟩ := row_int HRM.out hlm hlt2
          have hjz : (j : Int) < R := by omega
          have HX := Lib.hid hx
          clear hx
          by_cases hx1 : x = -1
          · subst hx1
            have HQO := Lib.hid (Kp.own (HQ3.out) (Kp.more (G := [gm, gh, bs]) (a := w3) ((Kp.refl _ w3).trans ⟨HQ6.out.os, HQ6.out.output, HQ6.out.size, fun k h1 h2 => HQ6.out.block k h1 (fun e => h2 (by simp at e ⊢; exact .inr (.inl e)))⟩) HKQ.out (fun _ h _ => h)) (fun x hx => by
              simp only [List.mem_cons, List.not_mem_nil, or_false] at hx
              have h1 := (HRM.out.lt gm rfl).1
              have h2 := (HRH.out.lt gh rfl).1
              have h3 := HBB.out
              rcases hx with rfl | rfl | rfl <;> omega))
            clear c1
            go_upto_region 16 with (at_make; refine wpList_make_full _ rfl _ _ 39 rfl wr.heap.size 4 i1 (.bool false) 1 Try.underlying39 JI.out JZ0.out JZ1.out _ _ _ _ W rfl rfl rfl rfl HBY.out HMX.out (Nat.le_refl _) ?_; intro w7 hown7 hg7; have q7 := (Own.refl wr).grown hg7 (by simp); have HR7 := Lib.hid (show w7.ownsRow wr.heap.size 4 1 (.slice (some ⟨wr.heap.size, 0, none⟩) W W) W (cellsT (List.replicate W false)) from HZL.out ▸ hown7); clear hown7 hg7; have c9 := q7.cell HCBS.out; have f9 := frozen_kept q7 HCBS.out HFBS.out; have HQ7 := Lib.hid q7; clear q7)
            have ng := HBB.out
            have nw := HWS.out
            have nb : w0.heap.size ≤ gm := (HRM.out.lt gm rfl).1
            have hgs : ∃ g, wr.heap.size = g := ⟨_, rfl⟩
            have HR8 := Lib.hid (row_set (row_down HR7.out (show w0.heap.size ≤ wr.heap.size by omega)) (p := ⟨bs, 0, none⟩) (by show bs ≠ wr.heap.size; omega) (.slice (some ⟨wr.heap.size, 0, none⟩) W W))
            have c8 : (w7.setCell ⟨bs, 0, none⟩ (.slice (some ⟨wr.heap.size, 0, none⟩) W W)).cell? ⟨bs, 0, none⟩ = some (.slice (some ⟨wr.heap.size, 0, none⟩) W W) := by go_simp
            have f8 : (w7.setCell ⟨bs, 0, none⟩ (.slice (some ⟨wr.heap.size, 0, none⟩) W W)).frozen? ⟨bs, 0, none⟩ = false := by go_simp
            have HK8 := Lib.hid ((Kp.of_own (G := [bs]) HQ7.out).put (p := ⟨bs, 0, none⟩) (fun _ => by simp) (.slice (some ⟨wr.heap.size, 0, none⟩) W W))
            have HS8 := Lib.hid (show Own w0 (w7.setCell ⟨bs, 0, none⟩ (.slice (some ⟨wr.heap.size, 0, none⟩) W W)) from (HQO.out.trans HQ7.out).setCell (by show w0.heap.size ≤ bs; omega) _)
            obtain ⟨gs, hgs⟩ := hgs
            rw [hgs] at HR8 c8 f8 HK8 HS8 nw ⊢
            have HGS := Lib.hid hgs
            generalize w7.setCell ⟨bs, 0, none⟩ (.slice (some ⟨gs, 0, none⟩) W W) = w8 at *
            have AP : Ap gm gh gs bl bs bh bf bp bm := by constructor <;> (first | (simp; omega) | omega)
            have HPE : Hid (PE w0 w8 (.slice AL R capl) fr W R cm gm gh gs bl bs bh bf bp bm ⟨m', h, List.replicate W false⟩) := Lib.hid ⟨HS8.out, HK8.out.cell KL.out (by simp; omega), c8, HK8.out.cell KH.out (by simp; omega), HK8.out.cell KF.out (by simp; omega), HK8.out.cell KP.out (by simp; omega), HK8.out.cell KM.out (by simp; omega), ⟨HK8.out.row HRM.out (by simp; omega), HK8.out.row HRH.out (by simp; omega), HR8.out⟩⟩
            have HVV : Hid (∀ (c : Nat) x, h[c]? = some x → x = -1 ∨ ∃ r : Nat, x = (r : Int) ∧ r < R) := Lib.hid fun c x hx => by
              rcases HINV.out.con.hv c x hx with e | ⟨r, rfl⟩
              · exact .inl e
              · refine .inr ⟨r, rfl, ?_⟩
                have := (HINV.out.con.eq r c).2 hx
                rw [← hlm]
                exact (List.getElem?_eq_some_iff.1 this).1
            have HAP := Lib.hid AP
            have HC8 := Lib.hid c8
            have HF8 := Lib.hid f8
            have HNW := Lib.hid nw
            have c1 := HPE.out.cp
            clear ng nw nb hgs c8 f8 AP c9 f9 k1 k6 e0 HR7
            go_wp2_with (go_at_call 43; refine (place_at l w0 _ fr W R cm gm gh gs bl bs bh bf bp bm HT HS HR HW hW HCB.out HAP.out _ ⟨m', h, List.replicate W false⟩ j w8 rfl HPE HVV hlt2).mono ?_; rintro e w9 ⟨b, ⟨m2, h2, s2⟩, rfl, q9, r9, s9⟩; have HQ9 := Lib.hid q9; have HR9 := Lib.hid r9; have HS9 := Lib.hid s9; clear q9 r9 s9)
            go_roundw
            case measure => simp [intOf]; omega
            case rel =>
              have n1 := HBB.out
              have n2 := HNW.out
              have n3 := HZ6.out
              have r1 : Kp [gm, gh, bs] w6 w9 := by
                refine (HKQ.out.more HK8.out (fun x hx _ => ?_)).more HQ9.out (fun x hx hlt => ?_)
                · simp only [List.mem_cons, List.not_mem_nil, or_false] at hx ⊢
                  exact .inr (.inr hx)
                · simp only [List.mem_cons, List.not_mem_nil, or_false] at hx ⊢
                  rcases hx with e | e | e
                  · exact .inl e
                  · exact .inr (.inl e)
                  · omega
              have r2 := HQ9.out.cell HC8.out HAP.out.s
              have r3 := HQ9.out.frozen HC8.out HF8.out HAP.out.s
              cases b with
              | true => exact ⟨j + 1, m2, h2, V, S, _, by go_num, by omega, hlt2, r1, HR9.out.rm, HR9.out.rh, r2, r3, HINV.out.found hfj HX.out HS9.out⟩
              | false =>
                obtain ⟨V', S', hi⟩ := HINV.out.fails (fun i c h => by rw [← HW.out]; exact at2_col HS.out h) HS9.out
                exact ⟨j + 1, m2, h2, V', S', _, by go_num, by omega, hlt2, r1, HR9.out.rm, HR9.out.rh, r2, r3, hi⟩
          · have d1 : (x == -1) = false := beq_eq_false_iff_ne.2 hx1
            have HN := Lib.hid (HINV.out.skip (by rw [HX.out]; intro e; injection e with e; exact hx1 e))
            clear k6 c1
            go_wp2
            go_roundw
            case rel => exact ⟨j + 1, m', h, V, S, vs, by go_num, by omega, hlt2, HKQ.out, HRM.out, HRH.out, HCBS.out, HFBS.out, HN.out⟩
            case measure => simp [intOf]; omega
        · obtain rfl : R = j := by omega
          go_wp2
          go_end0
          refine ⟨rfl, ?_, m', HRM.out, h, V, S, HINV.out⟩
          have n1 := HBB.out
          have n2 := HBL.out
          refine ((Kp.of_own (G := [gm]) HO3.out).more HQ6.out (fun x hx hlt => ?_)).more HKQ.out (fun x hx hlt => ?_)
          · simp only [List.mem_cons, List.not_mem_nil, or_false] at hx
            omega
          · simp only [List.mem_cons, List.not_mem_nil, or_false] at hx ⊢
            omega
end Go.Proofs.Ytfhdoeajoeaddaa.MchW
