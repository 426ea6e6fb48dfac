/-
  The program's plan in memory; walks of its methods slack and give. Condition: none.
-/
import Derived.Test.YtfhdoeajoeaddaaAssignPA
import Derived.Test.YtfhdoeajoeaddaaAssignPlainG
namespace Go.Proofs.Ytfhdoeajoeaddaa.AsgW
open Go.ChangeShapes Go.WideShapes Go.ChangeAt Go.RowKit
open PairW CelW TabW MchW AsgP
abbrev sv (g n : Nat) : Value := .slice (some ⟨g, 0, none⟩) n n
/-- A plan: a struct of five slices, four of them rows of its own. -/
structure Pn (w : World) (bs P : Nat) (vc : Value) (n gU gV gL gH : Nat) (U V L H : List Int) : Prop where
  c0 : w.cell? ⟨P, 0, none⟩ = some vc
  c1 : w.cell? ⟨P, 1, none⟩ = some (.slice (some ⟨gU, 0, none⟩) n n)
  c2 : w.cell? ⟨P, 2, none⟩ = some (.slice (some ⟨gV, 0, none⟩) n n)
  c3 : w.cell? ⟨P, 3, none⟩ = some (.slice (some ⟨gL, 0, none⟩) n n)
  c4 : w.cell? ⟨P, 4, none⟩ = some (.slice (some ⟨gH, 0, none⟩) n n)
  rU : w.ownsRow bs 3 1 (.slice (some ⟨gU, 0, none⟩) n n) n (cellsI U)
  rV : w.ownsRow bs 3 1 (.slice (some ⟨gV, 0, none⟩) n n) n (cellsI V)
  rL : w.ownsRow bs 3 1 (.slice (some ⟨gL, 0, none⟩) n n) n (cellsI L)
  rH : w.ownsRow bs 3 1 (.slice (some ⟨gH, 0, none⟩) n n) n (cellsI H)
  dUV : gU ≠ gV
  dUL : gU ≠ gL
  dUH : gU ≠ gH
  dVL : gV ≠ gL
  dVH : gV ≠ gH
  dLH : gL ≠ gH
  pU : P ≠ gU
  pV : P ≠ gV
  pL : P ≠ gL
  pH : P ≠ gH
section
variable {w w' : World} {bs P n gU gV gL gH : Nat} {vc : Value} {U V L H : List Int}
theorem Pn.own (p : Pn w bs P vc n gU gV gL gH U V L H) (q : Own w w') : Pn w' bs P vc n gU gV gL gH U V L H :=
  ⟨q.cell p.c0, q.cell p.c1, q.cell p.c2, q.cell p.c3, q.cell p.c4, row_own p.rU q, row_own p.rV q, row_own p.rL q, row_own p.rH q, p.dUV, p.dUL, p.dUH, p.dVL, p.dVH, p.dLH, p.pU, p.pV, p.pL, p.pH⟩
theorem Pn.drewN (p : Pn w bs P vc n gU gV gL gH U V L H) (k : Nat) : Pn (w.drewN k) bs P vc n gU gV gL gH U V L H := p.own ((Own.refl w).drewN k)
theorem Pn.drew (p : Pn w bs P vc n gU gV gL gH U V L H) : Pn w.drew bs P vc n gU gV gL gH U V L H := p.own (Own.refl w).drew
theorem Pn.putU (p : Pn w bs P vc n gU gV gL gH U V L H) (i : Nat) (x : Int) : Pn (w.setCell ⟨gU, i, none⟩ (.int .i64 x)) bs P vc n gU gV gL gH (U.set i x) V L H :=
  ⟨(put_cell w _ p.pU).trans p.c0, (put_cell w _ p.pU).trans p.c1, (put_cell w _ p.pU).trans p.c2, (put_cell w _ p.pU).trans p.c3, (put_cell w _ p.pU).trans p.c4, row_puti p.rU i x, row_set p.rV p.dUV _, row_set p.rL p.dUL _, row_set p.rH p.dUH _, p.dUV, p.dUL, p.dUH, p.dVL, p.dVH, p.dLH, p.pU, p.pV, p.pL, p.pH⟩
theorem Pn.putV (p : Pn w bs P vc n gU gV gL gH U V L H) (i : Nat) (x : Int) : Pn (w.setCell ⟨gV, i, none⟩ (.int .i64 x)) bs P vc n gU gV gL gH U (V.set i x) L H :=
  ⟨(put_cell w _ p.pV).trans p.c0, (put_cell w _ p.pV).trans p.c1, (put_cell w _ p.pV).trans p.c2, (put_cell w _ p.pV).trans p.c3, (put_cell w _ p.pV).trans p.c4, row_set p.rU (Ne.symm p.dUV) _, row_puti p.rV i x, row_set p.rL p.dVL _, row_set p.rH p.dVH _, p.dUV, p.dUL, p.dUH, p.dVL, p.dVH, p.dLH, p.pU, p.pV, p.pL, p.pH⟩
theorem Pn.putL (p : Pn w bs P vc n gU gV gL gH U V L H) (i : Nat) (x : Int) : Pn (w.setCell ⟨gL, i, none⟩ (.int .i64 x)) bs P vc n gU gV gL gH U V (L.set i x) H :=
  ⟨(put_cell w _ p.pL).trans p.c0, (put_cell w _ p.pL).trans p.c1, (put_cell w _ p.pL).trans p.c2, (put_cell w _ p.pL).trans p.c3, (put_cell w _ p.pL).trans p.c4, row_set p.rU (Ne.symm p.dUL) _, row_set p.rV (Ne.symm p.dVL) _, row_puti p.rL i x, row_set p.rH p.dLH _, p.dUV, p.dUL, p.dUH, p.dVL, p.dVH, p.dLH, p.pU, p.pV, p.pL, p.pH⟩
theorem Pn.putH (p : Pn w bs P vc n gU gV gL gH U V L H) (i : Nat) (x : Int) : Pn (w.setCell ⟨gH, i, none⟩ (.int .i64 x)) bs P vc n gU gV gL gH U V L (H.set i x) :=
  ⟨(put_cell w _ p.pH).trans p.c0, (put_cell w _ p.pH).trans p.c1, (put_cell w _ p.pH).trans p.c2, (put_cell w _ p.pH).trans p.c3, (put_cell w _ p.pH).trans p.c4, row_set p.rU (Ne.symm p.dUH) _, row_set p.rV (Ne.symm p.dVH) _, row_set p.rL (Ne.symm p.dLH) _, row_puti p.rH i x, p.dUV, p.dUL, p.dUH, p.dVL, p.dVH, p.dLH, p.pU, p.pV, p.pL, p.pH⟩
theorem Pn.lU (p : Pn w bs P vc n gU gV gL gH U V L H) : U.length = n := (cellsI_len U).symm.trans (row_len p.rU)
theorem Pn.lV (p : Pn w bs P vc n gU gV gL gH U V L H) : V.length = n := (cellsI_len V).symm.trans (row_len p.rV)
theorem Pn.lL (p : Pn w bs P vc n gU gV gL gH U V L H) : L.length = n := (cellsI_len L).symm.trans (row_len p.rL)
theorem Pn.lH (p : Pn w bs P vc n gU gV gL gH U V L H) : H.length = n := (cellsI_len H).symm.trans (row_len p.rH)
/-- A cell of a row of one's own. -/
theorem row_get {g c : Nat} {R : List Int} (h : w.ownsRow bs 3 1 (.slice (some ⟨g, 0, none⟩) n c) n (cellsI R)) {i : Nat} (hi : i < n) : w.cell? ⟨g, i, none⟩ = some (.int .i64 (R.getD i 0)) ∧ w.frozen? ⟨g, i, none⟩ = false := by
  have hl : R.length = n := (cellsI_len R).symm.trans (row_len h)
  obtain ⟨b, h1, h2, h3⟩ := row_int h hl hi
  rw [getD_of h2]
  exact ⟨h1, h3⟩
theorem Pn.aU (p : Pn w bs P vc n gU gV gL gH U V L H) {i : Nat} (hi : i < n) : w.cell? ⟨gU, i, none⟩ = some (.int .i64 (U.getD i 0)) ∧ w.frozen? ⟨gU, i, none⟩ = false := row_get p.rU hi
theorem Pn.aV (p : Pn w bs P vc n gU gV gL gH U V L H) {i : Nat} (hi : i < n) : w.cell? ⟨gV, i, none⟩ = some (.int .i64 (V.getD i 0)) ∧ w.frozen? ⟨gV, i, none⟩ = false := row_get p.rV hi
theorem Pn.aL (p : Pn w bs P vc n gU gV gL gH U V L H) {i : Nat} (hi : i < n) : w.cell? ⟨gL, i, none⟩ = some (.int .i64 (L.getD i 0)) ∧ w.frozen? ⟨gL, i, none⟩ = false := row_get p.rL hi
theorem Pn.aH (p : Pn w bs P vc n gU gV gL gH U V L H) {i : Nat} (hi : i < n) : w.cell? ⟨gH, i, none⟩ = some (.int .i64 (H.getD i 0)) ∧ w.frozen? ⟨gH, i, none⟩ = false := row_get p.rH hi
end
set_option maxRecDepth 100000 in
set_option maxHeartbeats 1000000 in
theorem pslack_at (c : Tb) (vc : Value) (bs P n gU gV gL gH : Nat) (U V L H : List Int) (i j : Nat) (x : Int) (w : World) (HT : Hid (Cels w vc (cellsG c))) (HP : Hid (Pn w bs P vc n gU gV gL gH U V L H)) (HS : Hid (Sqa c)) (HR : Hid (Rga c)) (HN : Hid (c.length = n)) (HFE : Hid (Fe c n U V)) (hi : i < n) (hj : j < n) (HX : Hid (sl c U V i j = x)) :
    Calls Try.prog 34 #[.pointer (some ⟨P, 0, none⟩), .int .i64 (i : Int), .int .i64 (j : Int)] w fun e w' => e = .returned (.int .i64 x) ∧ ∃ k, w' = w.drewN k := by
  have k0 := HP.out.c0
  have k1 := HP.out.c1
  have k2 := HP.out.c2
  have e3 := (HP.out.aU hi).1
  have e4 := (HP.out.aV hj).1
  obtain ⟨g, off, cap, gr, og, cr, rfl, h1, h2, e1, h5, h6, hcell⟩ := gt_row HT.out HS.out HN.out hi
  have e2 := hcell j hj
  obtain ⟨bu1, bu2⟩ := HFE.out.bu i hi
  obtain ⟨bv1, bv2⟩ := HFE.out.bv j hj
  obtain ⟨bc1, bc2⟩ := okc_of HR.out i j
  have hx := HX.out
  unfold sl at hx
  unfold maxLen at h2 h6
  have hin : (i : Int) < n := by omega
  have hjn : (j : Int) < n := by omega
  generalize ct c i j = cx at *
  generalize U.getD i 0 = ux at *
  generalize V.getD j 0 = vx at *
  subst hx
  clear hcell HX
  go_enter Try.func34, Try.ntmps34
  go_upto_region 1 with (fail)
  go_quiet (fail)
  go_wp2
  go_ret
  exact ⟨rfl, _, rfl⟩
set_option maxRecDepth 100000 in
set_option maxHeartbeats 2000000 in
theorem pgive_at (vc : Value) (bs P n gU gV gL gH : Nat) (U V L H : List Int) (i j : Nat) (w : World) (HP : Hid (Pn w bs P vc n gU gV gL gH U V L H)) (hi : i < n) (hj : j < n) :
    Calls Try.prog 35 #[.pointer (some ⟨P, 0, none⟩), .int .i64 (i : Int), .int .i64 (j : Int)] w fun e w' => e = .returned (.tuple #[]) ∧ Pn w' bs P vc n gU gV gL gH U V (L.set i j) (H.set j i) ∧ Kp [gL, gH] w w' := by
  have k3 := HP.out.c3
  have k4 := HP.out.c4
  obtain ⟨e1, f1⟩ := HP.out.aL hi
  obtain ⟨e2, f2⟩ := HP.out.aH hj
  have d1 : ¬ gL = gH := HP.out.dLH
  have d2 : ¬ gH = gL := fun e => d1 e.symm
  have d3 : ¬ P = gL := HP.out.pL
  have d4 : ¬ P = gH := HP.out.pH
  have d5 : ¬ gL = P := fun e => d3 e.symm
  have d6 : ¬ gH = P := fun e => d4 e.symm
  have b1 := block_lt_of_cell e1
  have b2 := block_lt_of_cell e2
  have hin : (i : Int) < n := by omega
  have hjn : (j : Int) < n := by omega
  generalize L.getD i 0 = lx at *
  generalize H.getD j 0 = hx at *
  go_enter Try.func35, Try.ntmps35
  go_wp2_with fail
  go_region
  go_end0
  refine ⟨rfl, ((HP.out.putL i j).putH j i).drew, ((((Kp.refl _ w).put ?_ _).put ?_ _).drew)⟩ <;> simp
end Go.Proofs.Ytfhdoeajoeaddaa.AsgW
