/-
  Walks of the program of package match: what is reached (a closure that calls itself), Cover, Valid. Condition: none.
-/
import Derived.Test.YtdgahlojdllkbaaMatchPD
import Derived.Test.YtdgahlojdllkbaaMatchPlainD
import Derived.Test.YtdgahlojdllkbaaHeld
namespace Go.Proofs.Ytdgahlojdllkbaa.MchW
open Go.ChangeShapes Go.WideShapes Go.ChangeAt Go.RowKit
open PairW CelW TabW MchP
structure Rw2 (w : World) (base gr gc R W : Nat) (rs cs : List Bool) : Prop where
  rr : w.ownsRow base 4 1 (.slice (some ⟨gr, 0, none⟩) R R) R (cellsT rs)
  rc : w.ownsRow base 4 1 (.slice (some ⟨gc, 0, none⟩) W W) W (cellsT cs)
/-- What the visit has before it. -/
structure VE (w0 w : World) (vl vm : Value) (W R gr gc br bl bc bv bm : Nat) (rs cs : List Bool) : Prop where
  q : Own w0 w
  cr : w.cell? ⟨br, 0, none⟩ = some (.slice (some ⟨gr, 0, none⟩) R R)
  cl : w.cell? ⟨bl, 0, none⟩ = some vl
  cc : w.cell? ⟨bc, 0, none⟩ = some (.slice (some ⟨gc, 0, none⟩) W W)
  cv : w.cell? ⟨bv, 0, none⟩ = some (.func (.func 40) #[] #[.pointer (some ⟨br, 0, none⟩), .pointer (some ⟨bl, 0, none⟩), .pointer (some ⟨bc, 0, none⟩), .pointer (some ⟨bv, 0, none⟩), .pointer (some ⟨bm, 0, none⟩)])
  cb : w.cell? ⟨bm, 0, none⟩ = some vm
  rw : Rw2 w w0.heap.size gr gc R W rs cs
structure Av (gr gc br bl bc bv bm : Nat) : Prop where
  rc : gr ≠ gc
  r : br ∉ [gr, gc]
  l : bl ∉ [gr, gc]
  c : bc ∉ [gr, gc]
  v : bv ∉ [gr, gc]
  m : bm ∉ [gr, gc]
section
variable {w0 w w' : World} {vl vm : Value} {base W R gr gc br bl bc bv bm : Nat} {rs cs rs' cs' : List Bool}
theorem Rw2.lens (h : Rw2 w base gr gc R W rs cs) : rs.length = R ∧ cs.length = W := by
  have h1 := row_len h.rr
  have h2 := row_len h.rc
  rw [cellsT_len] at h1 h2
  exact ⟨h1, h2⟩
theorem Rw2.bases (h : Rw2 w base gr gc R W rs cs) : ∀ x, x ∈ [gr, gc] → base ≤ x := fun x hx => by
  simp only [List.mem_cons, List.not_mem_nil, or_false] at hx
  rcases hx with rfl | rfl
  · exact (h.rr.lt _ rfl).1
  · exact (h.rc.lt _ rfl).1
theorem Rw2.drew (h : Rw2 w base gr gc R W rs cs) : Rw2 w.drew base gr gc R W rs cs := ⟨h.rr, h.rc⟩
theorem VE.next (h : VE w0 w vl vm W R gr gc br bl bc bv bm rs cs) (p : Av gr gc br bl bc bv bm) (k : Kp [gr, gc] w w') (r : Rw2 w' w0.heap.size gr gc R W rs' cs') : VE w0 w' vl vm W R gr gc br bl bc bv bm rs' cs' :=
  ⟨Kp.own h.q k r.bases, k.cell h.cr p.r, k.cell h.cl p.l, k.cell h.cc p.c, k.cell h.cv p.v, k.cell h.cb p.m, r⟩
theorem Rw2.putr (h : Rw2 w base gr gc R W rs cs) (n : gr ≠ gc) (i : Nat) : Rw2 (w.setCell ⟨gr, i, none⟩ (.bool true)) base gr gc R W (rs.set i true) cs := ⟨row_put h.rr i true, row_set h.rc n _⟩
theorem Rw2.putc (h : Rw2 w base gr gc R W rs cs) (n : gr ≠ gc) (i : Nat) : Rw2 (w.setCell ⟨gc, i, none⟩ (.bool true)) base gr gc R W rs (cs.set i true) := ⟨row_set h.rr (fun e => n e.symm) _, row_put h.rc i true⟩
end
/-- What the visit leaves. -/
def Vis (l : List (List Bool)) (m : List Int) (w0 w : World) (W R gr gc : Nat) (rs cs : List Bool) (i : Nat) (e : Ending) (w' : World) : Prop := ∃ rs' cs', e = .returned (.tuple #[]) ∧ Kp [gr, gc] w w' ∧ Rw2 w' w0.heap.size gr gc R W rs' cs' ∧ Vi l m W (rs.set i true) cs i 0 rs' cs'
theorem Vis.out {l : List (List Bool)} {m : List Int} {w0 w : World} {W R gr gc : Nat} {rs cs : List Bool} {i : Nat} {e : Ending} {w' : World} (h : Vis l m w0 w W R gr gc rs cs i e w') : ∃ rs' cs', e = .returned (.tuple #[]) ∧ Kp [gr, gc] w w' ∧ Rw2 w' w0.heap.size gr gc R W rs' cs' ∧ Vi l m W (rs.set i true) cs i 0 rs' cs' := h
set_option maxRecDepth 100000 in
set_option maxHeartbeats 4000000 in
theorem visit_at (l : List (List Bool)) (m : List Int) (w0 : World) (vl vm : Value) (W R gr gc br bl bc bv bm : Nat) (V S : Nat → Prop) (HT : Hid (Cels w0 vl (cellsB l))) (HM : Hid (Cel w0 vm (cellsI m))) (HP : Hid (IsP l m)) (HL : Hid (m.length = R)) (HS : Hid (Sq l)) (HR : Hid (l.length = R)) (HW : Hid (wd l = W)) (HV : Hid ((∀ r c, V r → at2 l r c = true → S c) ∧ ∀ c, S c → ∃ q : Nat, m[q]? = some (c : Int) ∧ V q)) (AP : Av gr gc br bl bc bv bm) : ∀ (k : Nat) (rs cs : List Bool) (i : Nat) (w : World) (_ : un cs = k) (_ : Hid (VE w0 w vl vm W R gr gc br bl bc bv bm rs cs)) (_ : Hid (V i)) (_ : i < R),
    Calls Try.prog 40 #[.int .i64 (i : Int), .pointer (some ⟨br, 0, none⟩), .pointer (some ⟨bl, 0, none⟩), .pointer (some ⟨bc, 0, none⟩), .pointer (some ⟨bv, 0, none⟩), .pointer (some ⟨bm, 0, none⟩)] w (Vis l m w0 w W R gr gc rs cs i) := by
  intro k
  induction k using Nat.strongRecOn with
  | _ k ih =>
  intro rs cs i w hk HE HVI hi
  have IH := Lib.hid ih
  clear ih
  have HAP := Lib.hid AP
  clear AP
  obtain ⟨g, off, cap, A, cr, rfl, h1, h2, e0, h4, h5, hrow⟩ := tb_row HT.out HS.out HR.out HW.out hi
  unfold maxLen at h2 h5
  have HROW := Lib.hid hrow
  clear hrow
  obtain ⟨yr, er, _, fr⟩ := row_bool HE.out.rw.rr HE.out.rw.lens.1 hi
  have k1 := HE.out.cr
  have HR0 := Lib.hid (HE.out.rw.putr HAP.out.rc i)
  have HK0 := Lib.hid ((Kp.refl [gr, gc] w).put (p := ⟨gr, i, none⟩) (fun _ => by simp) (.bool true))
  have hiz : (i : Int) < R := by omega
  go_enter Try.func40, Try.ntmps40
  go_upto_region 1 with (fail)
  generalize hw1 : w.setCell ⟨gr, i, none⟩ (.bool true) = w1 at *
  have HE0 := Lib.hid (HE.out.next HAP.out HK0.out HR0.out)
  clear hw1 er fr k1
  replace e0 := HE0.out.q.cell e0
  have k2 := HE0.out.cl
  go_wp2
  clear k2 e0
  go_loopw [7, 8, 17] (fun _ _ vi wr => ∃ (c : Nat) (rs1 cs1 : List Bool), vi = .int .i64 (c : Int) ∧ c ≤ W ∧ Kp [gr, gc] w1 wr ∧ Rw2 wr w0.heap.size gr gc R W rs1 cs1 ∧ un cs1 ≤ k ∧ ∀ rs' cs', Vi l m W rs1 cs1 i c rs' cs' → Vi l m W (rs.set i true) cs i 0 rs' cs') (fun _ _ vi _ => W - (intOf vi).toNat)
  case atStart => exact ⟨0, _, _, rfl, Nat.zero_le _, Kp.refl _ _, HR0.out, Nat.le_of_eq hk, fun _ _ h => h⟩
  case round =>
    obtain ⟨c, rs1, cs1, rfl, hc, q, hrw, hun, hvi⟩ := hrel
    have HVV := Lib.hid hvi
    have HQ := Lib.hid q
    have HRW := Lib.hid hrw
    have HUN := Lib.hid hun
    have HE1 := Lib.hid (HE0.out.next HAP.out q hrw)
    clear hvi q hrw hun
    by_cases hlt : c < W
    · have hcz : (c : Int) < W := by omega
      obtain ⟨g2, og, rfl, e1⟩ := HROW.out c hlt
      replace e1 := HE1.out.q.cell e1
      cases hp : at2 l i c with
      | false =>
        rw [hp] at e1
        have HPP := Lib.hid hp
        clear hp
        go_wp2
        go_roundw
        case rel => exact ⟨c + 1, rs1, cs1, by go_num, hlt, HQ.out, HRW.out, HUN.out, fun r' c' h => HVV.out r' c' (.skip hlt (.inl HPP.out) h)⟩
        case measure => simp [intOf]; omega
      | true =>
        rw [hp] at e1
        have HPP := Lib.hid hp
        clear hp
        obtain ⟨sb, e2, hs, f2⟩ := row_bool HRW.out.rc HRW.out.lens.2 hlt
        have k3 := HE1.out.cc
        have HSB := Lib.hid hs
        clear hs
        cases sb with
        | true =>
          clear f2
          go_wp2
          go_roundw
          case rel => exact ⟨c + 1, rs1, cs1, by go_num, hlt, HQ.out, HRW.out, HUN.out, fun r' c' h => HVV.out r' c' (.skip hlt (.inr HSB.out) h)⟩
          case measure => simp [intOf]; omega
        | false =>
          obtain ⟨r, hr, hvr⟩ := HV.out.2 c (HV.out.1 i c HVI.out HPP.out)
          have hrR : r < R := by rw [← HL.out]; exact (List.getElem?_eq_some_iff.1 hr).1
          have HMR := Lib.hid hr
          have HVR := Lib.hid hvr
          have HIX := Lib.hid (show ixI m (c : Int) = (r : Int) from ixI_some hr fun j y hj hy e => by
            rw [e] at hy
            have := HP.out.one j r c hy hr
            omega)
          clear hr hvr
          go_upto_region 6 with (fail)
          have HRW1 := Lib.hid (HRW.out.putc HAP.out.rc c)
          have HQ1 := Lib.hid ((Kp.refl [gr, gc] wr).put (p := ⟨gc, c, none⟩) (fun _ => by simp) (.bool true))
          generalize wr.setCell ⟨gc, c, none⟩ (.bool true) = w2 at *
          have HE2 := Lib.hid (HE1.out.next HAP.out HQ1.out HRW1.out)
          have HQD := Lib.hid ((Kp.refl [gr, gc] w2).drew)
          have HED := Lib.hid (HE2.out.next HAP.out HQD.out HRW1.out.drew)
          have HUS := Lib.hid (un_set HSB.out)
          have k4 := HE2.out.cv
          have k5 := HE2.out.cb
          have m4 := HED.out.cv
          have m5 := HED.out.cb
          have HMD := Lib.hid (HM.out.own HED.out.q)
          have hcall := IH.out (un (cs1.set c true)) (by have := HUS.out; have := HUN.out; omega) rs1 (cs1.set c true) r w2.drew rfl HED HVR hrR
          clear e1 e2 f2 k3
          go_region_held3 (fun w' => w'.cell? ⟨bv, 0, none⟩ = some (.func (.func 40) #[] #[.pointer (some ⟨br, 0, none⟩), .pointer (some ⟨bl, 0, none⟩), .pointer (some ⟨bc, 0, none⟩), .pointer (some ⟨bv, 0, none⟩), .pointer (some ⟨bm, 0, none⟩)]) ∧ w'.cell? ⟨bm, 0, none⟩ = some vm) (first | exact ⟨k4, k5⟩ | exact ⟨m4, m5⟩ | exact ⟨p4, p5⟩) ((first | (go_at_call 41; with_reducible refine (pindex_at m vm (c : Int) (r : Int) _ HMD HIX).mono ?_; rintro e w5 ⟨rfl, rfl⟩) | (go_at_call 40; with_reducible refine hcall.mono ?_; rintro e w5 hvis; obtain ⟨rs2, cs2, rfl, q5, r5, v5⟩ := Vis.out hvis; have p4 := q5.cell m4 HAP.out.v; have p5 := q5.cell m5 HAP.out.m; have HQ5 := Lib.hid q5; have HR5 := Lib.hid r5; have HV5 := Lib.hid v5; clear q5 r5 v5)))
          clear hcall
          have HUL := Lib.hid (un_le HV5.out.grow.2.1 HV5.out.grow.2.2.2)
          go_wp2
          go_roundw
          case rel => exact ⟨c + 1, rs2, cs2, by go_num, hlt, ((HQ.out.trans HQ1.out).trans HQD.out).trans HQ5.out, HR5.out, by have h1 := HUS.out; have h2 := HUN.out; have h3 : un cs2 ≤ un (cs1.set c true) := HUL.out; omega, fun r' c' h => HVV.out r' c' (.go hlt HPP.out HSB.out HMR.out HV5.out h)⟩
          case measure => simp [intOf]; omega
    · obtain rfl : W = c := by omega
      go_wp2
      go_end0
      exact ⟨_, _, rfl, HK0.out.trans HQ.out, HRW.out, HVV.out _ _ (.done (Nat.le_refl _))⟩
end Go.Proofs.Ytdgahlojdllkbaa.MchW
