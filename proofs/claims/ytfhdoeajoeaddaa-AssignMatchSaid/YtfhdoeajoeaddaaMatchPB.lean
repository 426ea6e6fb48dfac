/-
  Walk of the program's closure that calls itself: the search of a path. Condition: none.
-/
import Derived.Test.YtfhdoeajoeaddaaMatchPA
namespace Go.Proofs.Ytfhdoeajoeaddaa.MchW
open Go.ChangeShapes Go.WideShapes Go.ChangeAt Go.RowKit
open PairW CelW TabW MchP
/-- The columns that were not seen. -/
def un (s : List Bool) : Nat := s.countP (!·)
theorem un_set {s : List Bool} {c : Nat} (h : s[c]? = some false) : un (s.set c true) + 1 = un s := by
  obtain ⟨hc, e⟩ := List.getElem?_eq_some_iff.1 h
  have h1 : 0 < un s := List.countP_pos_iff.2 ⟨false, List.mem_of_getElem? h, rfl⟩
  unfold un at h1 ⊢
  rw [List.countP_set hc, e]
  simp
  omega
theorem un_le : ∀ {s s' : List Bool}, s'.length = s.length → (∀ d : Nat, s[d]? = some true → s'[d]? = some true) → un s' ≤ un s
  | [], s', hl, _ => by rw [List.eq_nil_of_length_eq_zero hl]; exact Nat.le_refl _
  | b :: s, [], hl, _ => by simp at hl
  | b :: s, b' :: s', hl, h => by
    have ih := un_le (s := s) (s' := s') (by simpa using hl) fun d hd => by
      have := h (d + 1) (by simpa using hd)
      simpa using this
    have h0 := h 0
    unfold un at ih ⊢
    rw [List.countP_cons, List.countP_cons]
    cases b <;> cases b' <;> simp at h0 ⊢ <;> omega
/-- Three rows of one's own. -/
structure Rws (w : World) (base cm gm gh gs R W : Nat) (a : St) : Prop where
  rm : w.ownsRow base 3 1 (.slice (some ⟨gm, 0, none⟩) R cm) R (cellsI a.m)
  rh : w.ownsRow base 3 1 (.slice (some ⟨gh, 0, none⟩) W W) W (cellsI a.h)
  rs : w.ownsRow base 4 1 (.slice (some ⟨gs, 0, none⟩) W W) W (cellsT a.s)
/-- What the search has before it. -/
structure PE (w0 w : World) (vl : Value) (fr W R cm gm gh gs bl bs bh bf bp bm : Nat) (a : St) : Prop where
  q : Own w0 w
  cl : w.cell? ⟨bl, 0, none⟩ = some vl
  cs : w.cell? ⟨bs, 0, none⟩ = some (.slice (some ⟨gs, 0, none⟩) W W)
  ch : w.cell? ⟨bh, 0, none⟩ = some (.slice (some ⟨gh, 0, none⟩) W W)
  cf : w.cell? ⟨bf, 0, none⟩ = some (.int .i64 (fr : Int))
  cp : w.cell? ⟨bp, 0, none⟩ = some (.func (.func 43) #[] #[.pointer (some ⟨bl, 0, none⟩), .pointer (some ⟨bs, 0, none⟩), .pointer (some ⟨bh, 0, none⟩), .pointer (some ⟨bf, 0, none⟩), .pointer (some ⟨bp, 0, none⟩), .pointer (some ⟨bm, 0, none⟩)])
  cb : w.cell? ⟨bm, 0, none⟩ = some (.slice (some ⟨gm, 0, none⟩) R cm)
  rw : Rws w w0.heap.size cm gm gh gs R W a
/-- The blocks lie apart. -/
structure Ap (gm gh gs bl bs bh bf bp bm : Nat) : Prop where
  mh : gm ≠ gh
  ms : gm ≠ gs
  hs : gh ≠ gs
  l : bl ∉ [gm, gh, gs]
  s : bs ∉ [gm, gh, gs]
  h : bh ∉ [gm, gh, gs]
  f : bf ∉ [gm, gh, gs]
  p : bp ∉ [gm, gh, gs]
  m : bm ∉ [gm, gh, gs]
section
variable {w0 w w' : World} {vl : Value} {base fr W R cm gm gh gs bl bs bh bf bp bm : Nat} {a a' : St}
theorem Rws.lens (h : Rws w base cm gm gh gs R W a) : a.m.length = R ∧ a.h.length = W ∧ a.s.length = W := by
  have h1 := row_len h.rm
  have h2 := row_len h.rh
  have h3 := row_len h.rs
  rw [cellsI_len] at h1 h2
  rw [cellsT_len] at h3
  exact ⟨h1, h2, h3⟩
theorem Rws.bases (h : Rws w base cm gm gh gs R W a) : ∀ x, x ∈ [gm, gh, gs] → base ≤ x := fun x hx => by
  simp only [List.mem_cons, List.not_mem_nil, or_false] at hx
  rcases hx with rfl | rfl | rfl
  · exact (h.rm.lt _ rfl).1
  · exact (h.rh.lt _ rfl).1
  · exact (h.rs.lt _ rfl).1
theorem PE.next (h : PE w0 w vl fr W R cm gm gh gs bl bs bh bf bp bm a) (p : Ap gm gh gs bl bs bh bf bp bm) (k : Kp [gm, gh, gs] w w') (r : Rws w' w0.heap.size cm gm gh gs R W a') : PE w0 w' vl fr W R cm gm gh gs bl bs bh bf bp bm a' :=
  ⟨Kp.own h.q k r.bases, k.cell h.cl p.l, k.cell h.cs p.s, k.cell h.ch p.h, k.cell h.cf p.f, k.cell h.cp p.p, k.cell h.cb p.m, r⟩
theorem Rws.drew (h : Rws w base cm gm gh gs R W a) : Rws w.drew base cm gm gh gs R W a := ⟨h.rm, h.rh, h.rs⟩
theorem Rws.puts (h : Rws w base cm gm gh gs R W a) (ms : gm ≠ gs) (hs : gh ≠ gs) (c : Nat) : Rws (w.setCell ⟨gs, c, none⟩ (.bool true)) base cm gm gh gs R W ⟨a.m, a.h, a.s.set c true⟩ :=
  ⟨row_set h.rm (fun e => ms e.symm) _, row_set h.rh (fun e => hs e.symm) _, row_put h.rs c true⟩
theorem Rws.putmh (h : Rws w base cm gm gh gs R W a) (mh : gm ≠ gh) (ms : gm ≠ gs) (hs : gh ≠ gs) (i c : Nat) : Rws ((w.setCell ⟨gm, i, none⟩ (.int .i64 (c : Int))).setCell ⟨gh, c, none⟩ (.int .i64 (i : Int))) base cm gm gh gs R W ⟨a.m.set i c, a.h.set c i, a.s⟩ :=
  ⟨row_set (row_puti h.rm i c) (fun e => mh e.symm) _, row_puti (row_set h.rh mh _) c i, row_set (row_set h.rs ms _) hs _⟩
end
/-- What the search leaves. -/
def Found (l : List (List Bool)) (w0 w : World) (fr W R cm gm gh gs : Nat) (a : St) (i : Nat) (e : Ending) (w' : World) : Prop := ∃ b a', e = .returned (.bool b) ∧ Kp [gm, gh, gs] w w' ∧ Rws w' w0.heap.size cm gm gh gs R W a' ∧ Sc l fr W a i 0 b a'
set_option maxRecDepth 100000 in
set_option maxHeartbeats 4000000 in
theorem place_at (l : List (List Bool)) (w0 : World) (vl : Value) (fr W R cm gm gh gs bl bs bh bf bp bm : Nat) (HT : Hid (Cels w0 vl (cellsB l))) (HS : Hid (Sq l)) (HR : Hid (l.length = R)) (HW : Hid (wd l = W)) (hW : W ≤ 24) (hcm : R ≤ cm ∧ cm ≤ maxLen) (AP : Ap gm gh gs bl bs bh bf bp bm) : ∀ (k : Nat) (a : St) (i : Nat) (w : World) (_ : un a.s = k) (_ : Hid (PE w0 w vl fr W R cm gm gh gs bl bs bh bf bp bm a)) (_ : Hid (∀ (c : Nat) x, a.h[c]? = some x → x = -1 ∨ ∃ r : Nat, x = (r : Int) ∧ r < R)) (_ : i < R),
    Calls Try.prog 43 #[.int .i64 (i : Int), .pointer (some ⟨bl, 0, none⟩), .pointer (some ⟨bs, 0, none⟩), .pointer (some ⟨bh, 0, none⟩), .pointer (some ⟨bf, 0, none⟩), .pointer (some ⟨bp, 0, none⟩), .pointer (some ⟨bm, 0, none⟩)] w (Found l w0 w fr W R cm gm gh gs a i) := by
  intro k
  induction k using Nat.strongRecOn with
  | _ k ih =>
  intro a i w hk HE HV hi
  have IH := Lib.hid ih
  clear ih
  have HAP := Lib.hid AP
  clear AP
  obtain ⟨hcm1, hcm2⟩ := hcm
  unfold maxLen at hcm2
  obtain ⟨g, off, cap, A, cr, rfl, h1, h2, e0, h4, h5, hrow⟩ := tb_row HT.out HS.out HR.out HW.out hi
  unfold maxLen at h2 h5
  have HROW := Lib.hid hrow
  clear hrow
  replace e0 := HE.out.q.cell e0
  have k0 := HE.out.cl
  have hiz : (i : Int) < R := by omega
  go_enter Try.func43, Try.ntmps43
  go_wp2
  clear k0 e0
  go_loopw [9, 10, 11, 17] (fun _ _ _ vi wr => ∃ (c : Nat) (a1 : St), vi = .int .i64 (c : Int) ∧ c ≤ W ∧ Kp [gm, gh, gs] w wr ∧ Rws wr w0.heap.size cm gm gh gs R W a1 ∧ a1.m = a.m ∧ a1.h = a.h ∧ un a1.s ≤ k ∧ ∀ b a', Sc l fr W a1 i c b a' → Sc l fr W a i 0 b a') (fun _ _ _ vi _ => W - (intOf vi).toNat)
  case atStart => exact ⟨0, a, rfl, Nat.zero_le _, Kp.refl _ _, HE.out.rw, rfl, rfl, Nat.le_of_eq hk, fun _ _ h => h⟩
  case round =>
    obtain ⟨c, a1, rfl, hc, q, hrws, hm1, hh1, hun, hsc⟩ := hrel
    have HSC := Lib.hid hsc
    have HQ := Lib.hid q
    have HRW := Lib.hid hrws
    have HM1 := Lib.hid hm1
    have HH1 := Lib.hid hh1
    have HUN := Lib.hid hun
    have HE1 := Lib.hid (HE.out.next HAP.out q hrws)
    clear hsc q hrws hm1 hh1 hun
    by_cases hlt : c < W
    · have hcz : (c : Int) < W := by omega
      obtain ⟨gr, og, rfl, e1⟩ := HROW.out c hlt
      replace e1 := HE1.out.q.cell e1
      cases hp : at2 l i c with
      | false =>
        rw [hp] at e1
        have HP := Lib.hid hp
        clear hp
        go_wp2
        go_roundw
        case rel => exact ⟨c + 1, a1, by go_num, hlt, HQ.out, HRW.out, HM1.out, HH1.out, HUN.out, fun b a' h => HSC.out b a' (.skip hlt (.inl HP.out) h)⟩
        case measure => simp [intOf]; omega
      | true =>
        rw [hp] at e1
        have HP := Lib.hid hp
        clear hp
        obtain ⟨sb, e2, hs, f2⟩ := row_bool HRW.out.rs HRW.out.lens.2.2 hlt
        have k2 := HE1.out.cs
        have HSB := Lib.hid hs
        clear hs
        cases sb with
        | true =>
          clear f2
          go_wp2
          go_roundw
          case rel => exact ⟨c + 1, a1, by go_num, hlt, HQ.out, HRW.out, HM1.out, HH1.out, HUN.out, fun b a' h => HSC.out b a' (.skip hlt (.inr HSB.out) h)⟩
          case measure => simp [intOf]; omega
        | false =>
          go_upto_region 6 with (fail)
          have HRW1 := Lib.hid (HRW.out.puts HAP.out.ms HAP.out.hs c)
          have HQ1 := Lib.hid ((Kp.refl [gm, gh, gs] wr).put (p := ⟨gs, c, none⟩) (fun _ => by simp) (.bool true))
          generalize wr.setCell ⟨gs, c, none⟩ (.bool true) = w1 at *
          have HE2 := Lib.hid (HE1.out.next HAP.out HQ1.out HRW1.out)
          have HUS := Lib.hid (un_set HSB.out)
          obtain ⟨x, e3, hx, f3⟩ := row_int HRW1.out.rh HRW1.out.lens.2.1 hlt
          have HX := Lib.hid (show a1.h[c]? = some x from hx)
          have k3 := HE2.out.ch
          clear hx e1 e2 f2 k2
          obtain ⟨ym, e4, _, f4⟩ := row_int HRW1.out.rm HRW1.out.lens.1 hi
          have n1 := HAP.out.mh
          have n2 : gh ≠ gm := fun e => n1 e.symm
          rcases HV.out c x (by rw [← HH1.out]; exact HX.out) with rfl | ⟨r, rfl, hr⟩
          · have k6 := HE2.out.cb
            have n3 : gm ≠ bh := fun e => HAP.out.h (by rw [← e]; simp)
            have n4 : gh ≠ bm := fun e => HAP.out.m (by rw [← e]; simp)
            have n5 : bh ≠ gm := fun e => n3 e.symm
            have n6 : bm ≠ gh := fun e => n4 e.symm
            go_upto_region 8 with (fail)
            go_region
            go_wp2
            go_ret
            refine ⟨true, _, rfl, ?_, (HRW1.out.putmh HAP.out.mh HAP.out.ms HAP.out.hs i c).drew, HSC.out _ _ (.free hlt HP.out HSB.out HX.out)⟩
            exact (((HQ.out.trans HQ1.out).put (p := ⟨gm, i, none⟩) (fun _ => by simp) _).put (p := ⟨gh, c, none⟩) (fun _ => by simp) _).drew
          · have k4 := HE2.out.cf
            have d0 : ((r : Int) == -1) = false := beq_eq_false_iff_ne.2 (by omega)
            by_cases hrf : r < fr
            · have d1 : ¬ (fr : Int) ≤ (r : Int) := by omega
              clear e4 f4 n1 n2
              go_wp2
              go_roundw
              case rel => exact ⟨c + 1, _, by go_num, hlt, HQ.out.trans HQ1.out, HRW1.out, HM1.out, HH1.out, by have := HUS.out; have := HUN.out; show un (a1.s.set c true) ≤ k; omega, fun b a' h => HSC.out b a' (.fixed hlt HP.out HSB.out HX.out hrf h)⟩
              case measure => simp [intOf]; omega
            · have d1 : (fr : Int) ≤ (r : Int) := by omega
              have k5 := HE2.out.cp
              have hcall := IH.out (un (a1.s.set c true)) (by have := HUS.out; have := HUN.out; omega) ⟨a1.m, a1.h, a1.s.set c true⟩ r w1 rfl HE2 (Lib.hid (show ∀ (c : Nat) x, a1.h[c]? = some x → x = -1 ∨ ∃ r : Nat, x = (r : Int) ∧ r < R from fun c x h => HV.out c x (by rw [← HH1.out]; exact h))) hr
              clear e4 f4
              go_upto_region 7 with (fail)
              go_cut [48] (fun s wx => ∃ b a2, s = .bool b ∧ Kp [gm, gh, gs] w1 wx ∧ Rws wx w0.heap.size cm gm gh gs R W a2 ∧ Sc l fr W ⟨a1.m, a1.h, a1.s.set c true⟩ r 0 b a2)
              case first =>
                go_wp2_with (go_at_call 43; refine hcall.mono ?_; rintro e w2 ⟨b, a2, rfl, q2, r2, s2⟩)
                go_meet
                exact ⟨b, a2, rfl, q2, r2, s2⟩
              case rest =>
                obtain ⟨b, a2, rfl, q2, r2, s2⟩ := hcut
                have HS2 := Lib.hid s2
                have HR2 := Lib.hid r2
                have HQ2 := Lib.hid q2
                have HE3 := Lib.hid (HE2.out.next HAP.out q2 r2)
                clear s2 r2 q2 hcall e3 f3 k3 k4 k5
                cases b with
                | false =>
                  have HFL := Lib.hid (HS2.out.fails rfl)
                  have HUL := Lib.hid (un_le HS2.out.seen.1 HS2.out.seen.2)
                  go_wp2
                  go_roundw
                  case rel => exact ⟨c + 1, a2, by go_num, hlt, (HQ.out.trans HQ1.out).trans HQ2.out, HR2.out, HFL.out.1.trans HM1.out, HFL.out.2.1.trans HH1.out, by have h1 := HUS.out; have h2 := HUN.out; have h3 : un a2.s ≤ un (a1.s.set c true) := HUL.out; omega, fun b a' h => HSC.out b a' (.deepF hlt HP.out HSB.out HX.out (by omega) HS2.out h)⟩
                  case measure => simp [intOf]; omega
                | true =>
                  obtain ⟨x, e3, _, f3⟩ := row_int HR2.out.rh HR2.out.lens.2.1 hlt
                  obtain ⟨ym, e4, _, f4⟩ := row_int HR2.out.rm HR2.out.lens.1 hi
                  have k3 := HE3.out.ch
                  have k6 := HE3.out.cb
                  have n3 : gm ≠ bh := fun e => HAP.out.h (by rw [← e]; simp)
                  have n4 : gh ≠ bm := fun e => HAP.out.m (by rw [← e]; simp)
                  have n5 : bh ≠ gm := fun e => n3 e.symm
                  have n6 : bm ≠ gh := fun e => n4 e.symm
                  go_upto_region 8 with (fail)
                  go_region
                  go_wp2
                  go_ret
                  refine ⟨true, _, rfl, ?_, (HR2.out.putmh HAP.out.mh HAP.out.ms HAP.out.hs i c).drew, HSC.out _ _ (.deepT hlt HP.out HSB.out HX.out (by omega) HS2.out)⟩
                  exact ((((HQ.out.trans HQ1.out).trans HQ2.out).put (p := ⟨gm, i, none⟩) (fun _ => by simp) _).put (p := ⟨gh, c, none⟩) (fun _ => by simp) _).drew
    · obtain rfl : c = W := by omega
      go_wp2
      go_ret
      exact ⟨false, _, rfl, HQ.out, HRW.out, HSC.out _ _ (.done (Nat.le_refl _))⟩
end Go.Proofs.Ytfhdoeajoeaddaa.MchW
