/-
  Walks of the program of package assign: shift. Condition: none.
-/
import Derived.Test.YtfhdoeajoeaddaaAssignPC
import Derived.Deep.LoopGhost
namespace Go.Proofs.Ytfhdoeajoeaddaa.AsgW
open Go.ChangeShapes Go.WideShapes Go.ChangeAt Go.RowKit
open PairW CelW TabW MchW AsgP
section
variable {w w' : World} {bs P n gU gV gL gH : Nat} {vc : Value} {U V L H : List Int}
theorem Pn.lt (p : Pn w bs P vc n gU gV gL gH U V L H) : P < w.heap.size ∧ gU < w.heap.size ∧ gV < w.heap.size ∧ gL < w.heap.size ∧ gH < w.heap.size :=
  ⟨block_lt_of_cell p.c0, (p.rU.lt _ rfl).2, (p.rV.lt _ rfl).2, (p.rL.lt _ rfl).2, (p.rH.lt _ rfl).2⟩
/-- A cell of another block. -/
theorem Pn.far (p : Pn w bs P vc n gU gV gL gH U V L H) {a : Addr} (h : ∀ x ∈ [P, gU, gV, gL, gH], x ≠ a.block) (u : Value) : Pn (w.setCell a u) bs P vc n gU gV gL gH U V L H := by
  have hP := h P (by simp)
  have h1 := (h gU (by simp)).symm
  have h2 := (h gV (by simp)).symm
  have h3 := (h gL (by simp)).symm
  have h4 := (h gH (by simp)).symm
  exact ⟨(put_cell w u hP).trans p.c0, (put_cell w u hP).trans p.c1, (put_cell w u hP).trans p.c2, (put_cell w u hP).trans p.c3, (put_cell w u hP).trans p.c4, row_set p.rU h1 u, row_set p.rV h2 u, row_set p.rL h3 u, row_set p.rH h4 u, p.dUV, p.dUL, p.dUH, p.dVL, p.dVH, p.dLH, p.pU, p.pV, p.pL, p.pH⟩
end
set_option maxRecDepth 100000 in
set_option maxHeartbeats 4000000 in
theorem pshift_at (T : Nat → Nat → Prop) (vc : Value) (bs P n gU gV gL gH b2 gF s fst free : Nat) (U V L0 H0 : List Int) (R : List Nat) (F : List Int) (vr : Value) (w : World) (HP : Hid (Pn w bs P vc n gU gV gL gH U V L0 H0)) (hb : gL < b2 ∧ gH < b2)
    (HRR : Hid (w.ownsRow b2 3 1 vr R.length (cellsI (natsI R)))) (HRF : Hid (w.ownsRow b2 3 1 (.slice (some ⟨gF, 0, none⟩) n n) n (cellsI F))) (HSF : Hid (Sf n T H0 s fst R F free)) (HM : Hid (Mh n s n L0 H0)) (HTG : Hid (∀ r j : Nat, r < n → r ≠ s → L0.getD r 0 = (j : Int) → T r j)) (hs : s < n) :
    Calls Try.prog 37 #[.pointer (some ⟨P, 0, none⟩), .agg #[vr, .slice (some ⟨gF, 0, none⟩) n n, .int .i64 (free : Int)]] w fun e w' => e = .returned (.tuple #[]) ∧ ∃ L H, Pn w' bs P vc n gU gV gL gH U V L H ∧ Kp [gL, gH] w w' ∧ Sd n T L0 H0 s R L H := by
  obtain ⟨pp, hsh⟩ := sh_start HSF.out HM.out HTG.out
  have HSH := Lib.hid hsh
  clear hsh
  have hRp := HSF.out.bb.pos
  obtain ⟨g, cap, hv, hg1, _⟩ := row_form HRR.out hRp
  subst hv
  obtain ⟨b, e0, hb0, _⟩ := row_int HRR.out (natsI_len R) (i := 0) hRp
  rw [natsI_at HSF.out.bb.hd] at hb0
  injection hb0 with hb0
  subst hb0
  have hFb := (HRF.out.lt gF rfl).1
  have ng : g ∉ [gL, gH] := by simp; omega
  have nF : gF ∉ [gL, gH] := by simp; omega
  obtain ⟨z, hz⟩ : ∃ z, R.length = z := ⟨_, rfl⟩
  rw [hz] at hRp ⊢
  have hzp : (0 : Int) < z := by omega
  have HNG := Lib.hid ng
  have HNF := Lib.hid nF
  have E0 := Lib.hid e0
  clear hz ng nF hg1 hFb e0
  go_enter Try.func37, Try.ntmps37
  go_upto_region 1 with (fail)
  have B1 := Lib.hid (Blk.new w #[.slice (some ⟨g, 0, none⟩) z cap, .slice (some ⟨gF, 0, none⟩) n n, .int .i64 (free : Int)] 57)
  have q1 := (Own.refl w).alloc (.cells #[.slice (some ⟨g, 0, none⟩) z cap, .slice (some ⟨gF, 0, none⟩) n n, .int .i64 (free : Int)] 57)
  generalize w.alloc (.cells #[.slice (some ⟨g, 0, none⟩) z cap, .slice (some ⟨gF, 0, none⟩) n n, .int .i64 (free : Int)] 57) = w1 at *
  have HQ1 := Lib.hid q1
  have HP1 := Lib.hid (HP.out.own q1)
  have hbx : w.heap.size ∉ [gL, gH] := by have := HP.out.lt; simp; omega
  have HBX := Lib.hid hbx
  have k2 : w1.cell? ⟨w.heap.size, 2, none⟩ = some (.int .i64 (free : Int)) := B1.out.cell 2
  have E1 := Lib.hid (q1.cell E0.out)
  have HRF1 := Lib.hid (row_own HRF.out q1)
  generalize hbx' : w.heap.size = bx at *
  clear hbx q1 hbx'
  go_wp2
  clear k2
  go_loopg [4, 5, 6] (pp + 1) (fun kx v4 v5 _ wr => ∃ (i j : Int) (L H : List Int), v4 = .int .i64 j ∧ v5 = .int .i64 i ∧ Pn wr bs P vc n gU gV gL gH U V L H ∧ Kp [gL, gH] w1 wr ∧ ((i ≠ (s : Int) ∧ ∃ h p : Nat, j = (h : Int) ∧ p + 1 ≤ kx ∧ Sh n T L0 H0 s R F h p L H) ∨ (i = (s : Int) ∧ Sd n T L0 H0 s R L H)))
  case atStart => exact ⟨-1, free, L0, H0, rfl, rfl, HP1.out, Kp.refl _ _, .inl ⟨by omega, free, pp, rfl, Nat.le_refl _, HSH.out⟩⟩
  case round =>
    obtain ⟨i, j, L, H, rfl, rfl, hp, hkp, hor⟩ := hrel
    have HPP := Lib.hid hp
    have HKP := Lib.hid hkp
    clear hp hkp
    have k0 : wr.cell? ⟨bx, 0, none⟩ = some (.slice (some ⟨g, 0, none⟩) z cap) := HKP.out.cell (show w1.cell? ⟨bx, 0, none⟩ = some (.slice (some ⟨g, 0, none⟩) z cap) from B1.out.cell 0) HBX.out
    have k1 : wr.cell? ⟨bx, 1, none⟩ = some (.slice (some ⟨gF, 0, none⟩) n n) := HKP.out.cell (show w1.cell? ⟨bx, 1, none⟩ = some (.slice (some ⟨gF, 0, none⟩) n n) from B1.out.cell 1) HBX.out
    have e0 := HKP.out.cell E1.out HNG.out
    rcases hor with ⟨hi, h, p, rfl, hpk, hsh⟩ | ⟨rfl, hsd⟩
    · have d0 : (i != (s : Int)) = true := bne_iff_ne.2 hi
      have HSH := Lib.hid hsh
      have hhn := hsh.lt
      obtain ⟨q, hq1, hq2, _⟩ := hsh.at'
      have hqn := HSF.out.bb.lt q (mem_of hq2)
      have HQ2 := Lib.hid hq2
      clear hsh hq2
      have e1 := (row_get (HKP.out.row HRF1.out HNF.out) hhn).1
      rw [hq1] at e1
      have k3 := HPP.out.c3
      have e2 := (HPP.out.aL hqn).1
      obtain ⟨y, hy⟩ : ∃ y, L.getD q 0 = y := ⟨_, rfl⟩
      rw [hy] at e2
      have HY := Lib.hid hy
      have hhz : (h : Int) < n := by omega
      have hqz : (q : Int) < n := by omega
      have hgive := pgive_at vc bs P n gU gV gL gH U V L H q h wr HPP hqn hhn
      clear hy hq1
      go_wp2_with (go_at_call 35; refine hgive.mono ?_; rintro e w5 ⟨rfl, p5, q5⟩; have P5 := Lib.hid p5; have Q5 := Lib.hid q5; clear p5 q5)
      by_cases hqs : q = s
      · subst hqs
        have HFI := Lib.hid (HSH.out.fin hs HSF.out.bb.s_in HQ2.out)
        go_roundg (gk - 1)
        case measure => omega
        case rel => exact ⟨q, y, _, _, rfl, rfl, P5.out, HKP.out.trans Q5.out, .inr ⟨rfl, HFI.out⟩⟩
      · obtain ⟨x, p', hx, hp', hsh'⟩ := HSH.out.step HSF.out.bb HM.out HQ2.out hqs
        obtain rfl : y = (x : Int) := HY.out.symm.trans hx
        have HSH' := Lib.hid hsh'
        clear hsh' hx
        go_roundg (gk - 1)
        case measure => omega
        case rel => exact ⟨q, x, _, _, rfl, rfl, P5.out, HKP.out.trans Q5.out, .inl ⟨by omega, x, p', rfl, by omega, HSH'.out⟩⟩
    · have HSD := Lib.hid hsd
      have d0 : ((s : Int) != (s : Int)) = false := by simp
      clear hsd
      go_wp2
      go_end0
      exact ⟨rfl, L, H, HPP.out, (Kp.of_own HQ1.out).trans HKP.out, HSD.out⟩
end Go.Proofs.Ytfhdoeajoeaddaa.AsgW
