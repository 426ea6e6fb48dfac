/-
  Walks of the specification of package match: exchange, enlarge. Condition: none.
-/
import Derived.Test.YtdgahlojdllkbaaMatchA
import Derived.Test.YtdgahlojdllkbaaMatchPlainE
import Derived.Deep.LoopGhost
import Derived.Deep.CutRange
import Derived.Deep.CutBlock
namespace Go.Proofs.Ytdgahlojdllkbaa.MchW
open Go.ChangeShapes Go.WideShapes Go.ChangeAt Go.RowKit
open PairW CelW TabW MchP
/-- The column of a row, among the first k. -/
def Nq (o : List Int) (r k : Nat) (nx : Int) : Prop := (nx = -1 ∧ ∀ d, d < k → o[d]? ≠ some (r : Int)) ∨ ∃ d : Nat, d < k ∧ nx = (d : Int) ∧ o[d]? = some (r : Int)
theorem nq_zero (o : List Int) (r : Nat) : Nq o r 0 (-1) := .inl ⟨rfl, fun _ h => absurd h (Nat.not_lt_zero _)⟩
theorem Nq.yes {o : List Int} {r k : Nat} (h : o[k]? = some (r : Int)) : Nq o r (k + 1) (k : Int) := .inr ⟨k, Nat.lt_succ_self _, rfl, h⟩
theorem Nq.no {o : List Int} {r k : Nat} {nx x : Int} (h : Nq o r k nx) (hx : o[k]? = some x) (hn : x ≠ (r : Int)) : Nq o r (k + 1) nx := by
  rcases h with ⟨h1, h2⟩ | ⟨d, h1, h2, h3⟩
  · refine .inl ⟨h1, fun d hd e => ?_⟩
    by_cases q : d = k
    · rw [q, hx] at e
      injection e with e
      exact hn e
    · exact h2 d (by omega) e
  · exact .inr ⟨d, by omega, h2, h3⟩
/-- What exchange leaves. -/
def Xch (P : Nat → Nat → Prop) (w : World) (W : Nat) (o : List Int) (S : Nat → Prop) (i : Nat) (e : Ending) (w' : World) : Prop := ∃ g cp out, e = .returned (.slice (some ⟨g, 0, none⟩) W cp) ∧ w'.ownsRow w.heap.size 3 1 (.slice (some ⟨g, 0, none⟩) W cp) W (cellsI out) ∧ Own w w' ∧ Xe P W o S i out
/-- What exchange is given. -/
structure XPre (P : Nat → Nat → Prop) (W : Nat) (o : List Int) (V S : Nat → Prop) (i : Nat) (fm : List Int) (vis qu : List Nat) (T c : Nat) : Prop where
  ex : Ex P o i fm vis qu T
  at_ : vis[T]? = some c
  ow : Ow P W o
  free : o[c]? = some (-1)
  cl : Cw P o V S
  un : ∀ d : Nat, o[d]? ≠ some (i : Int)
  lf : fm.length = W
set_option maxRecDepth 100000 in
set_option maxHeartbeats 4000000 in
theorem exchange_at (P : Nat → Nat → Prop) (W : Nat) (o : List Int) (V S : Nat → Prop) (i : Nat) (fm : List Int) (vis qu : List Nat) (T c : Nat) (vo vf : Value) (w : World) (HO : Hid (Cel w vo (cellsI o))) (HF : Hid (Cel w vf (cellsI fm))) (HX : Hid (XPre P W o V S i fm vis qu T c)) (hW : W ≤ 24) :
    Calls Try.prog 44 #[vo, vf, .int .i64 (c : Int)] w (Xch P w W o S i) := by
  obtain ⟨i0, hi, hz0, hz1, hz2⟩ := info_parts (show (Try.prog.info? 3).map (fun i => (i.zero, i.size, i.bytes)) = some (some (.int .i64 0), 1, 8) by kernel_rfl)
  have HI := Lib.hid hi
  have HZ0 := Lib.hid hz0
  have HZ1 := Lib.hid hz1
  have HZ2 := Lib.hid hz2
  clear hi hz0 hz1 hz2
  have HS := Lib.hid (xi_start HX.out.ow HX.out.free HX.out.at_ HX.out.cl)
  have hcW : c < W := HS.out.cw
  obtain ⟨A, cap, rfl, h1, h2, h3⟩ := cel_int HO.out
  obtain ⟨B, caf, rfl, f1, f2, f3⟩ := cel_int HF.out
  rw [HX.out.ow.len] at h1 h3 HO ⊢
  rw [HX.out.lf] at f1 f3 HF ⊢
  obtain ⟨gb, ob, rfl, hoc⟩ := h3 (by omega)
  obtain ⟨gf, of, rfl, hfc⟩ := f3 (by omega)
  unfold maxLen at h2 f2
  have HOC := Lib.hid hoc
  have HFC := Lib.hid hfc
  have HL := Lib.hid (show (cellsI o).length = W by rw [cellsI_len]; exact HX.out.ow.len)
  have HCC : Hid (∀ (j : Nat) u, (cellsI o)[j]? = some u → (w.alloc (.cells #[] 3)).cell? ((⟨gb, ob, none⟩ : Addr).add j) = some u) := Lib.hid fun j u hj => by
    rw [Addr.add_lit]
    refine Lib.cell?_alloc_some _ ?_
    have hjl : j < o.length := by have := (List.getElem?_eq_some_iff.1 hj).1; rw [cellsI_len] at this; exact this
    rw [cellsI_at hjl] at hj
    injection hj with hj
    rw [← hj]
    exact hoc j _ (List.getElem?_eq_getElem hjl)
  have HON := Lib.hid (cellsI_one o)
  clear h3 f3 hoc hfc
  go_enter Try.func44, Try.ntmps44
  go_wp2_with (at_builtin; refine wpList_append_own _ rfl _ _ 29 rfl w.heap.size 3 i0 (.int .i64 0) 1 8 Try.underlying29 HI.out HZ0.out HZ1.out HZ2.out rfl (by decide) _ _ _ rfl (World.ownsRow_made w #[] 0 (Nat.le_refl _) (Nat.zero_le _) rfl) _ W cap (cellsI o) rfl (by rw [HL.out]; omega) HCC.out HON.out (by unfold maxLen; omega) (by omega) (by simp) ?_; intro v' w1 hown hgrow hnil; have HOWN := Lib.hid hown; have HGR := Lib.hid hgrow; clear hown hgrow hnil)
  have hown := HOWN.out
  rw [Nat.zero_add, List.nil_append] at hown
  obtain ⟨A', c', rfl⟩ := rows_shape hown
  obtain ⟨g, rfl⟩ : ∃ g, A' = some ⟨g, 0, none⟩ := by
    rcases hown.2 with ⟨q1, q2⟩ | ⟨g', cap', cur, q1, _⟩
    · omega
    · injection q1 with q1 _ q3
      exact ⟨g', q1⟩
  have HROW := Lib.hid hown
  have HQ1 := Lib.hid (own_app HGR.out)
  have HGB := Lib.hid (hown.lt g rfl).1
  clear hown HOWN HGR HCC
  go_loopg [2, 8, 9] (T + 1) (fun kx vc _ _ wr => ∃ out : List Int, Own w wr ∧ wr.ownsRow w.heap.size 3 1 (.slice (some ⟨g, 0, none⟩) W c') W (cellsI out) ∧ ((∃ t c : Nat, vc = .int .i64 (c : Int) ∧ t + 1 ≤ kx ∧ Xi P W o S vis out t c) ∨ (vc = .int .i64 (-1) ∧ Xe P W o S i out)))
  case atStart => exact ⟨o, HQ1.out, HROW.out, .inl ⟨T, c, rfl, Nat.le_refl _, HS.out⟩⟩
  case round =>
    clear hcW HS HQ1 HROW
    obtain ⟨out, q, hrow, hor⟩ := hrel
    have HQ := Lib.hid q
    have HROW := Lib.hid hrow
    clear q hrow
    rcases hor with ⟨t, c, rfl, hkx, hxi⟩ | ⟨rfl, hxe⟩
    · have HXI := Lib.hid hxi
      have hcW := hxi.cw
      obtain ⟨r, hfr, hor⟩ := hxi.go HX.out.ex HX.out.cl HX.out.ow.len HX.out.un
      have HOR := Lib.hid hor
      have hcz : (c : Int) < W := by omega
      have HFR := Lib.hid hfr
      have HEF := Lib.hid (HFC.out c _ hfr)
      clear hor hxi hfr
      generalize wr = w5 at *
      go_wp2
      go_loopw [8, 9] (fun vn vk wx => ∃ (k : Nat) (nx : Int), vk = .int .i64 (k : Int) ∧ vn = .int .i64 nx ∧ k ≤ W ∧ Own w5 wx ∧ Nq o r k nx) (fun _ vk _ => W - (intOf vk).toNat)
      case atStart => exact ⟨0, -1, rfl, rfl, Nat.zero_le _, Own.refl _, nq_zero o r⟩
      case round =>
        obtain ⟨k, nx, rfl, rfl, hk, q, hnq⟩ := hrel
        have HQX := Lib.hid q
        have HNQ := Lib.hid hnq
        clear q hnq
        by_cases hlt : k < W
        · have hkz : (k : Int) < W := by omega
          obtain ⟨x, hx⟩ : ∃ x, o[k]? = some x := ⟨_, List.getElem?_eq_getElem (by rw [HX.out.ow.len]; exact hlt)⟩
          have e0 := HQX.out.cell (HQ.out.cell (HOC.out k x hx))
          have e1 := HQX.out.cell (HQ.out.cell HEF.out)
          have HXK := Lib.hid hx
          clear hx
          by_cases e : x = (r : Int)
          · subst e
            go_upto_region 7 with (fail)
            go_quiet (fail)
            go_wp2
            go_roundw
            case rel => exact ⟨k + 1, (k : Int), by go_num, rfl, hlt, HQX.out.drewN _, Nq.yes HXK.out⟩
            case measure => simp [intOf]; omega
          · have d1 : (x == (r : Int)) = false := beq_eq_false_iff_ne.2 e
            go_upto_region 7 with (fail)
            go_quiet (fail)
            go_wp2
            go_roundw
            case rel => exact ⟨k + 1, nx, by go_num, rfl, hlt, HQX.out.drewN _, HNQ.out.no HXK.out e⟩
            case measure => simp [intOf]; omega
        · obtain rfl : W = k := by omega
          have HROWX := Lib.hid (row_own HROW.out HQX.out)
          obtain ⟨y, e2, _, f2⟩ := row_int HROWX.out HXI.out.len hcW
          have e1 := HQX.out.cell (HQ.out.cell HEF.out)
          have HPU := Lib.hid (row_puti HROWX.out c (r : Int))
          have HQP := Lib.hid ((HQ.out.trans HQX.out).setCell (p := ⟨g, c, none⟩) HGB.out (.int .i64 (r : Int)))
          rcases HOR.out with ⟨hno, hxe⟩ | ⟨t2, c2, ht2, hoc2, hx2⟩
          · obtain rfl : nx = -1 := by
              rcases HNQ.out with ⟨h, _⟩ | ⟨d, _, _, h⟩
              · exact h
              · exact absurd h (hno d)
            have HXE := Lib.hid hxe
            clear hno hxe
            go_wp2
            go_roundg 0
            case measure => omega
            case rel => exact ⟨_, HQP.out, HPU.out, .inr ⟨rfl, HXE.out⟩⟩
          · obtain rfl : nx = (c2 : Int) := by
              rcases HNQ.out with ⟨_, h⟩ | ⟨d, _, h1, h2⟩
              · exact absurd hoc2 (h c2 (by rw [← HX.out.ow.len]; exact (List.getElem?_eq_some_iff.1 hoc2).1))
              · rw [h1, HX.out.ow.one d c2 r h2 hoc2]
            have HX2 := Lib.hid hx2
            clear hoc2 hx2
            go_wp2
            go_roundg (t2 + 1)
            case measure => omega
            case rel => exact ⟨_, HQP.out, HPU.out, .inl ⟨t2, c2, rfl, Nat.le_refl _, HX2.out⟩⟩
    · go_wp2
      go_ret
      exact ⟨g, c', out, rfl, HROW.out, HQ.out, hxe⟩
/-- The allowed places behind a beginning, without used columns. -/
def Pu (l : List (List Bool)) (fr : Nat) (used : List Int) (r c : Nat) : Prop := fr ≤ r ∧ at2 l r c = true ∧ (c : Int) ∉ used
theorem bf_rows {P : Nat → Nat → Prop} {W : Nat} {o : List Int} {i : Nat} {fm : List Int} {vis qu : List Nat} {qn cn : Nat} (h : Bf P W o i fm vis qu qn cn) {s r : Nat} (hs : qu[s]? = some r) : r = i ∨ ∃ c : Nat, o[c]? = some (r : Int) := by
  cases s with
  | zero =>
    rw [h.q0] at hs
    injection hs with hs
    exact .inl hs.symm
  | succ t =>
    have h1 := (List.getElem?_eq_some_iff.1 hs).1
    have h2 := h.ql
    obtain ⟨c, hc⟩ : ∃ c, vis[t]? = some c := ⟨_, List.getElem?_eq_getElem (by omega)⟩
    obtain ⟨r', k1, k2⟩ := h.qs t c hc
    rw [hs] at k1
    injection k1 with k1
    exact .inr ⟨c, by rw [k1]; exact k2⟩
/-- What enlarge of the specification leaves. -/
def Lrg (P : Nat → Nat → Prop) (w : World) (W : Nat) (o : List Int) (S : Nat → Prop) (i : Nat) (vo : Value) (e : Ending) (w' : World) : Prop :=
  (∃ g cp out, e = .returned (.tuple #[.slice (some ⟨g, 0, none⟩) W cp, .bool true]) ∧ w'.ownsRow w.heap.size 3 1 (.slice (some ⟨g, 0, none⟩) W cp) W (cellsI out) ∧ Own w w' ∧ Xe P W o S i out) ∨
  (e = .returned (.tuple #[vo, .bool false]) ∧ Own w w' ∧ ∃ V2 S2 : Nat → Prop, Cw P o V2 S2 ∧ V2 i)
set_option maxRecDepth 100000 in
set_option maxHeartbeats 8000000 in
theorem rlarge_at (l : List (List Bool)) (fr W R : Nat) (used o : List Int) (V S : Nat → Prop) (i : Nat) (vl vo vu : Value) (w : World) (HT : Hid (Cels w vl (cellsB l))) (HO : Hid (Cel w vo (cellsI o))) (HU : Hid (Cel w vu (cellsI used))) (HI2 : Hid (In2 (Pu l fr used) W fr i o V S)) (HS : Hid (Sq l)) (HR : Hid (l.length = R)) (HW : Hid (wd l = W)) (hW : W ≤ 24) (hi : i < R) (hfr : fr ≤ i) :
    Calls Try.prog 37 #[vl, vo, vu, .int .i64 (i : Int)] w (Lrg (Pu l fr used) w W o S i vo) := by
  obtain ⟨i0, hi0, hz0, hz1, hz2⟩ := info_parts (show (Try.prog.info? 3).map (fun i => (i.zero, i.size, i.bytes)) = some (some (.int .i64 0), 1, 8) by kernel_rfl)
  have HI := Lib.hid hi0
  have HZ0 := Lib.hid hz0
  have HZ1 := Lib.hid hz1
  have HZ2 := Lib.hid hz2
  clear hi0 hz0 hz1 hz2
  obtain ⟨A, cap, rfl, h1, h2, h3⟩ := cel_int HO.out
  rw [HI2.out.ow.len] at h1 h3 HO ⊢
  unfold maxLen at h2
  have HOC := Lib.hid h3
  obtain ⟨AL, capl, rfl, t1, t2, _⟩ := tb_open HT.out
  rw [HR.out] at t1 HT ⊢
  unfold maxLen at t2
  clear h3
  go_enter Try.func37, Try.ntmps37
  go_upto_region 2 with (go_at_call 36; refine (rnone_at W _ hW).mono ?_; rintro e w1 ⟨gf, cf, rfl, hr1, q1⟩; have HRF := Lib.hid hr1; have HQ1 := Lib.hid q1; clear hr1 q1)
  have hgf : w.heap.size ≤ gf ∧ gf < w1.heap.size := HRF.out.lt gf rfl
  have HGF := Lib.hid hgf
  have hcf : W ≤ cf ∧ cf ≤ 9223372036854775807 := by
    rcases HRF.out.2 with ⟨h, _⟩ | ⟨g', cap', cur, h1, _, _, h2, h3, _⟩
    · cases h
    · injection h1 with _ _ h4
      unfold maxLen at h3
      rw [h4]
      exact ⟨h2, h3⟩
  obtain ⟨hcf1, hcf2⟩ := hcf
  have hq0 := World.ownsRow_lit (base := w1.heap.size) (e := 3) (size := 1) w1 #[.int .i64 (i : Int)] 1 (Nat.le_refl _) (by unfold maxLen; decide) rfl
  have HR0 := Lib.hid (row_own HRF.out ((Own.refl w1).alloc (.cells #[.int .i64 (i : Int)] 3)))
  have HQ0 := Lib.hid (HQ1.out.alloc (.cells #[.int .i64 (i : Int)] 3))
  have hgq : ∃ gq, w1.heap.size = gq := ⟨_, rfl⟩
  have HQR := Lib.hid (show (w1.alloc (.cells #[.int .i64 (i : Int)] 3)).ownsRow w1.heap.size 3 1 (.slice (some ⟨w1.heap.size, 0, none⟩) 1 1) [i].length (cellsI (natsI [i])) from hq0)
  obtain ⟨wq, hwq⟩ := hgq
  rw [hwq] at HQR hgf ⊢
  have HWQ := Lib.hid (show wq ≤ w1.heap.size by omega)
  generalize w1.alloc (.cells #[.int .i64 (i : Int)] 3) = w2 at *
  have HBF := Lib.hid (bf_start (Pu l fr used) W o i)
  have HWZ := Lib.hid (show gf < wq by omega)
  clear hq0 hwq hgf HRF
  go_wp2
  go_loopw [11, 12, 13] (fun vq vn _ wr => ∃ (vis qu : List Nat) (qn gq cq : Nat) (fm : List Int), vq = .slice (some ⟨gq, 0, none⟩) qu.length cq ∧ vn = .int .i64 (qn : Int) ∧ qn ≤ qu.length ∧ Own w wr ∧ wr.ownsRow w.heap.size 3 1 (.slice (some ⟨gf, 0, none⟩) W cf) W (cellsI fm) ∧ wr.ownsRow wq 3 1 (.slice (some ⟨gq, 0, none⟩) qu.length cq) qu.length (cellsI (natsI qu)) ∧ Bf (Pu l fr used) W o i fm vis qu qn 0) (fun _ vn _ _ => W + 1 - (intOf vn).toNat)
  case atStart => exact ⟨[], [i], 0, wq, 1, _, rfl, rfl, Nat.zero_le _, HQ0.out, HR0.out, HQR.out, HBF.out⟩
  case round =>
    clear HR0 HQ0 HQR HBF
    obtain ⟨vis, qu, qn, gq, cq, fm, rfl, rfl, hqn, q, hrf, hrq, hbf⟩ := hrel
    have HQ := Lib.hid q
    have HRF := Lib.hid hrf
    have HRQ := Lib.hid hrq
    have HBF := Lib.hid hbf
    have hfew := hbf.few
    clear q hrf hrq hbf
    obtain ⟨z, hz⟩ : ∃ z, qu.length = z := ⟨_, rfl⟩
    have HZ := Lib.hid hz
    rw [hz] at hqn hfew HRQ ⊢
    clear hz
    generalize wr = w5 at *
    by_cases hlt : qn < z
    · have hqz : (qn : Int) < z := by omega
      obtain ⟨r, hr⟩ : ∃ r, qu[qn]? = some r := ⟨_, List.getElem?_eq_getElem (by rw [HZ.out]; exact hlt)⟩
      have hrr : r < R ∧ fr ≤ r := by
        rcases bf_rows HBF.out hr with e | ⟨c, e⟩
        · omega
        · rcases HI2.out.ow.ok c _ e with q | ⟨r', q, p1, p2, _⟩
          · omega
          · obtain rfl : r = r' := by omega
            exact ⟨by rw [← HR.out]; exact at2_row p2, p1⟩
      obtain ⟨hrR, hrf⟩ := hrr
      have HQR := Lib.hid hr
      clear hr
      go_wp2
      go_loopw [11, 13] (fun vq vc wx => ∃ (vis qu : List Nat) (gq cq cn : Nat) (fm : List Int), vq = .slice (some ⟨gq, 0, none⟩) qu.length cq ∧ vc = .int .i64 (cn : Int) ∧ cn ≤ W ∧ Own w wx ∧ wx.ownsRow w.heap.size 3 1 (.slice (some ⟨gf, 0, none⟩) W cf) W (cellsI fm) ∧ wx.ownsRow wq 3 1 (.slice (some ⟨gq, 0, none⟩) qu.length cq) qu.length (cellsI (natsI qu)) ∧ Bf (Pu l fr used) W o i fm vis qu qn cn ∧ qu[qn]? = some r) (fun _ vc _ => W - (intOf vc).toNat)
      case atStart => exact ⟨vis, qu, gq, cq, 0, fm, by rw [HZ.out], rfl, Nat.zero_le _, HQ.out, HRF.out, by rw [HZ.out]; exact HRQ.out, HBF.out, HQR.out⟩
      case round =>
        clear HQ HRF HRQ HBF HZ HQR hlt hqz
        obtain ⟨vis, qu, gq, cq, cn, fm, rfl, rfl, hcn, q, hrf, hrq, hbf, hqr⟩ := hrel
        have HQ := Lib.hid q
        have HRF := Lib.hid hrf
        have HRQ := Lib.hid hrq
        have HBF := Lib.hid hbf
        have HQR := Lib.hid hqr
        have hfew := hbf.few
        have hqn2 := (List.getElem?_eq_some_iff.1 hqr).1
        clear q hrf hrq hbf hqr
        obtain ⟨z, hz⟩ : ∃ z, qu.length = z := ⟨_, rfl⟩
        have HZ := Lib.hid hz
        rw [hz] at hqn2 hfew HRQ ⊢
        clear hz
        generalize wr = w6 at *
        by_cases hlt : cn < W
        · have hcz : (cn : Int) < W := by omega
          have hqz : (qn : Int) < z := by omega
          have hrz : (r : Int) < R := by omega
          obtain ⟨y, eq, hy, _⟩ := row_int HRQ.out ((natsI_len qu).trans HZ.out) hqn2
          rw [natsI_at HQR.out] at hy
          injection hy with hy
          subst hy
          obtain ⟨gl, ol, cpl, A2, cr, he, _, _, e1, h4, h5, hrow⟩ := tb_row HT.out HS.out HR.out HW.out hrR
          injection he with ea eb ec
          subst ea
          subst ec
          obtain ⟨g2, og, rfl, e2⟩ := hrow cn hlt
          replace e1 := HQ.out.cell e1
          replace e2 := HQ.out.cell e2
          unfold maxLen at h5
          have hcap : z ≤ cq ∧ cq ≤ 9223372036854775807 := by
            rcases HRQ.out.2 with ⟨h, _⟩ | ⟨g', cap', cur, h1, _, _, h2, h3, _⟩
            · cases h
            · injection h1 with _ _ h4
              unfold maxLen at h3
              rw [h4]
              exact ⟨h2, h3⟩
          obtain ⟨hcap1, hcap2⟩ := hcap
          obtain ⟨x, e3, hx, f3⟩ := row_int HRF.out HBF.out.lf hlt
          have HX := Lib.hid hx
          have HUW := Lib.hid (HU.out.own HQ.out)
          clear hrow hx eb
          cases hp : at2 l r cn with
          | false =>
            rw [hp] at e2
            have HN := Lib.hid (HBF.out.skip fun r' hr' hpp => by
              rw [HQR.out] at hr'
              injection hr' with hr'
              rw [← hr'] at hpp
              have := hpp.2.1
              rw [hp] at this
              cases this)
            clear hp
            go_wp2
            go_roundw
            case rel => exact ⟨vis, qu, gq, cq, cn + 1, fm, by rw [HZ.out], by go_num, hlt, HQ.out, HRF.out, by rw [HZ.out]; exact HRQ.out, HN.out, HQR.out⟩
            case measure => simp [intOf]; omega
          | true =>
            rw [hp] at e2
            have HP := Lib.hid hp
            clear hp
            by_cases hx0 : 0 ≤ x
            · have HN := Lib.hid (HBF.out.skip fun r' _ _ => (HBF.out.vm cn).2 ⟨x.toNat, by rw [HX.out]; congr 1; omega⟩)
              go_wp2
              go_roundw
              case rel => exact ⟨vis, qu, gq, cq, cn + 1, fm, by rw [HZ.out], by go_num, hlt, HQ.out, HRF.out, by rw [HZ.out]; exact HRQ.out, HN.out, HQR.out⟩
              case measure => simp [intOf]; omega
            · obtain rfl : x = -1 := by
                rcases HBF.out.fv cn x HX.out with e | ⟨r', e⟩ <;> omega
              obtain ⟨t, ht⟩ : ∃ t, decide ((cn : Int) ∈ used) = t := ⟨_, rfl⟩
              have HTT := Lib.hid ht
              have hhas := rhas_at used vu (cn : Int) t w6 HUW HTT
              clear ht
              cases t with
              | true =>
                have HN := Lib.hid (HBF.out.skip fun r' _ hpp => absurd (of_decide_eq_true HTT.out) hpp.2.2)
                go_wp2_with (go_at_call 31; refine hhas.mono ?_; rintro e w7 ⟨rfl, rfl⟩)
                go_roundw
                case rel => exact ⟨vis, qu, gq, cq, cn + 1, fm, by rw [HZ.out], by go_num, hlt, HQ.out, HRF.out, by rw [HZ.out]; exact HRQ.out, HN.out, HQR.out⟩
                case measure => simp [intOf]; omega
              | false =>
                have HPP := Lib.hid (show Pu l fr used r cn from ⟨hrf, HP.out, of_decide_eq_false HTT.out⟩)
                have hgq := (HRQ.out.lt gq rfl).1
                have hngq : gq ≠ gf := by have := HWZ.out; omega
                have HPU := Lib.hid (row_puti HRF.out cn (r : Int))
                have HRQ1 := Lib.hid (row_set HRQ.out (p := ⟨gf, cn, none⟩) (fun e => hngq e.symm) (.int .i64 (r : Int)))
                have HQ1 := Lib.hid (HQ.out.setCell (p := ⟨gf, cn, none⟩) HGF.out.1 (.int .i64 (r : Int)))
                have hos : ∃ y, o[cn]? = some y := ⟨_, List.getElem?_eq_getElem (by rw [HI2.out.ow.len]; exact hlt)⟩
                obtain ⟨y, hy⟩ := hos
                obtain ⟨gb, ob, rfl, hoc⟩ := HOC.out (by omega)
                have e5' := hoc cn y hy
                have HY := Lib.hid hy
                have HNG := Lib.hid hngq
                clear hoc hy hgq hngq
                go_upto_region 10 with (go_at_call 31; refine hhas.mono ?_; rintro e w7 ⟨rfl, rfl⟩)
                clear hhas e1 e2 e3 f3 eq
                generalize w6.setCell ⟨gf, cn, none⟩ (.int .i64 (r : Int)) = w7 at *
                have e5 := HQ1.out.cell e5'
                rcases HI2.out.ow.ok cn y HY.out with rfl | ⟨r', rfl, hpr⟩
                · have HFD := Lib.hid (HBF.out.found HQR.out HPP.out HX.out)
                  have HXP := Lib.hid (show XPre (Pu l fr used) W o V S i (fm.set cn r) (vis ++ [cn]) qu vis.length cn from ⟨HFD.out.1, HFD.out.2, HI2.out.ow, HY.out, HI2.out.cl, fun d e => by have := HI2.out.old d i e; omega, List.length_set.trans HBF.out.lf⟩)
                  have hexc := exchange_at (Pu l fr used) W o V S i (fm.set cn r) (vis ++ [cn]) qu vis.length cn (.slice (some ⟨gb, ob, none⟩) W cap) (.slice (some ⟨gf, 0, none⟩) W cf) w7 (Lib.hid (HO.out.own HQ1.out)) (Lib.hid (cel_of_row HPU.out)) HXP hW
                  go_wp2_with (go_at_call 44; refine hexc.mono ?_; rintro e w8 ⟨g8, c8, out, rfl, hr8, q8, hx8⟩; have HR8 := Lib.hid hr8; have HQ8 := Lib.hid q8; have HX8 := Lib.hid hx8; clear hr8 q8 hx8)
                  go_ret2
                  exact .inl ⟨g8, c8, out, rfl, row_down HR8.out HQ1.out.size, HQ1.out.trans HQ8.out, HX8.out⟩
                · have d5 : ¬ (r' : Int) < 0 := by omega
                  have HVS := Lib.hid (HBF.out.visit HQR.out HPP.out HX.out HY.out)
                  have q7 := (Own.refl w7).alloc (.cells #[.int .i64 (r' : Int)] 3)
                  have HRO := Lib.hid (row_own HRQ1.out q7)
                  have HRF7 := Lib.hid (row_own HPU.out q7)
                  have HCE := Lib.hid (cel_lit (w := w7) (T := 3) (cs := #[.int .i64 (r' : Int)]) (xs := [.int .i64 (r' : Int)]) (k := 1) rfl rfl (by unfold maxLen; decide))
                  have HQ7 := Lib.hid (HQ1.out.trans q7)
                  have K2 := Lib.hid (show z + 1 ≤ maxLen by unfold maxLen; omega)
                  have K3 := Lib.hid (show (z + 1) * 8 ≤ 140737488355328 by omega)
                  have HBS := Lib.hid (show wq ≤ (w7.alloc (.cells #[.int .i64 (r' : Int)] 3)).heap.size by have := (HRO.out.lt gq rfl); omega)
                  clear q7
                  go_wp2_with (at_builtin; refine wpList_append_c (by go_simp) _ _ 29 rfl wq 3 i0 (.int .i64 0) 8 Try.underlying29 HI.out HZ0.out HZ1.out HZ2.out rfl gq z cq (cellsI (natsI qu)) rfl HRO.out _ [.int .i64 (r' : Int)] rfl HCE.out (fun x hx => by rw [List.mem_singleton.1 hx]; rfl) (z + 1) rfl K2.out K3.out HBS.out ?_; intro g8 c8 w8 hown8 hgr8; have HOWN8 := Lib.hid hown8; have HGR8 := Lib.hid hgr8; clear hown8 hgr8)
                  go_roundw
                  case rel =>
                    have hl : (qu ++ [r']).length = z + 1 := by rw [List.length_append, HZ.out]; rfl
                    refine ⟨vis ++ [cn], qu ++ [r'], g8, c8, cn + 1, fm.set cn r, by rw [hl], by go_num, hlt, HQ7.out.grown HGR8.out (fun k hk => ?_), HRF7.out.kept HGR8.out (.inr fun e => ?_), ?_, HVS.out, ?_⟩
                    · have h1 := (HRO.out.lt k hk).1
                      have h2 := HGF.out
                      have h3 := HWZ.out
                      omega
                    · injection e with e
                      exact HNG.out e.symm
                    · rw [hl, natsI_app, cellsI_app]
                      exact HOWN8.out
                    · rw [List.getElem?_append_left (by rw [HZ.out]; exact hqn2)]
                      exact HQR.out
                  case measure => simp [intOf]; omega
        · obtain rfl : W = cn := by omega
          have HN := Lib.hid (HBF.out.next fun r' c hpp => by rw [← HW.out]; exact at2_col HS.out hpp.2.1)
          go_wp2
          go_roundw
          case rel => exact ⟨vis, qu, qn + 1, gq, cq, fm, by rw [HZ.out], by go_num, by rw [HZ.out]; exact hqn2, HQ.out, HRF.out, by rw [HZ.out]; exact HRQ.out, HN.out⟩
          case measure => simp [intOf]; omega
    · obtain rfl : z = qn := by omega
      have HSH := Lib.hid (HBF.out.shut (Nat.le_of_eq HZ.out))
      have HMI := Lib.hid (List.mem_of_getElem? HBF.out.q0)
      go_wp2
      go_ret2
      exact .inr ⟨rfl, HQ.out, _, _, HSH.out, HMI.out⟩
end Go.Proofs.Ytdgahlojdllkbaa.MchW
