/-
  Walks of the program of package assign: place. Condition: none.
-/
import Derived.Test.YtfhdoeajoeaddaaAssignPE
namespace Go.Proofs.Ytfhdoeajoeaddaa.AsgW
open Go.ChangeShapes Go.WideShapes Go.ChangeAt Go.RowKit
open PairW CelW TabW MchW AsgP
theorem Blk.kp {G : List Nat} {w w' : World} {B : Nat} {cs : Array Value} {T : TypeId} (h : Blk w B cs T) (k : Kp G w w') (hn : B ∉ G) : Blk w' B cs T := (k.block B h.lt hn).trans h
/-- A search that is kept in a local variable. -/
structure Sv (wr : World) (b2 B gF n : Nat) (vr : Value) (f : Int) (R : List Nat) (F : List Int) : Prop where
  lb : b2 ≤ B
  bS : Blk wr B #[vr, .slice (some ⟨gF, 0, none⟩) n n, .int .i64 f] 57
  rR : wr.ownsRow b2 3 1 vr R.length (cellsI (natsI R))
  rF : wr.ownsRow b2 3 1 (.slice (some ⟨gF, 0, none⟩) n n) n (cellsI F)
section
variable {w wr w' : World} {b2 B gF n : Nat} {vr : Value} {f : Int} {R : List Nat} {F : List Int}
theorem Sv.own (p : Sv wr b2 B gF n vr f R F) (q : Own wr w') : Sv w' b2 B gF n vr f R F := ⟨p.lb, p.bS.own q, row_own p.rR q, row_own p.rF q⟩
/-- Written anew. -/
theorem Sv.put {vr' : Value} {gF' : Nat} {f' : Int} {R' : List Nat} {F' : List Int} {b3 : Nat} (lb : b2 ≤ B) (bS : Blk wr B #[vr, .slice (some ⟨gF, 0, none⟩) n n, .int .i64 f] 57) (hb : b2 ≤ b3) (hR : wr.ownsRow b3 3 1 vr' R'.length (cellsI (natsI R'))) (hF : wr.ownsRow b3 3 1 (.slice (some ⟨gF', 0, none⟩) n n) n (cellsI F')) :
    Sv (((wr.setCell ⟨B, 0, none⟩ vr').setCell ⟨B, 1, none⟩ (.slice (some ⟨gF', 0, none⟩) n n)).setCell ⟨B, 2, none⟩ (.int .i64 f')) b2 B gF' n vr' f' R' F' := by
  have nb : vr'.ownBlock ≠ some B := bS.ne_row hR (by decide)
  have nf : B ≠ gF' := bS.ne_row1 hF (by decide)
  refine ⟨lb, ((bS.put 0 vr').put 1 (.slice (some ⟨gF', 0, none⟩) n n)).put 2 (.int .i64 f'), row_down ?_ hb, row_down (row_set (row_set (row_set hF nf _) nf _) nf _) hb⟩
  have h : ∀ {w0 : World} (i : Nat) (u : Value), w0.ownsRow b3 3 1 vr' R'.length (cellsI (natsI R')) → (w0.setCell ⟨B, i, none⟩ u).ownsRow b3 3 1 vr' R'.length (cellsI (natsI R')) := fun i u r => ownsRow_setCell_other r (a := ⟨B, i, none⟩) (fun e => nb (by first | exact e | exact e.symm)) u
  exact h 2 _ (h 1 _ (h 0 _ hR))
end
/-- Three cells of another block. -/
theorem Pn.far3 {w : World} {bs P n gU gV gL gH B : Nat} {vc a b d : Value} {U V L H : List Int} (p : Pn w bs P vc n gU gV gL gH U V L H) (h : ∀ x ∈ [P, gU, gV, gL, gH], x ≠ B) : Pn (((w.setCell ⟨B, 0, none⟩ a).setCell ⟨B, 1, none⟩ b).setCell ⟨B, 2, none⟩ d) bs P vc n gU gV gL gH U V L H :=
  ((p.far (a := ⟨B, 0, none⟩) h a).far (a := ⟨B, 1, none⟩) h b).far (a := ⟨B, 2, none⟩) h d
theorem kp_put3 {G : List Nat} {w w' : World} {B : Nat} {a b d : Value} (k : Kp G w w') (h : w.heap.size ≤ B) : Kp G w (((w'.setCell ⟨B, 0, none⟩ a).setCell ⟨B, 1, none⟩ b).setCell ⟨B, 2, none⟩ d) :=
  ((k.put (p := ⟨B, 0, none⟩) (fun e => absurd e (Nat.not_lt.2 h)) a).put (p := ⟨B, 1, none⟩) (fun e => absurd e (Nat.not_lt.2 h)) b).put (p := ⟨B, 2, none⟩) (fun e => absurd e (Nat.not_lt.2 h)) d
/-- Plans write into blocks of their own only. -/
theorem Pn.ok {w w' w0 : World} {P n gU gV gL gH : Nat} {vc : Value} {U V L H : List Int} {c : Tb} (p : Pn w w0.heap.size P vc n gU gV gL gH U V L H) (ht : Cels w0 vc (cellsG c)) (q : Own w0 w) (k : Kp [gU, gV, gL, gH] w w') : Own w0 w' ∧ Cels w' vc (cellsG c) := by
  have h := Kp.own q k (fun x hx => by
    have h1 := (p.rU.lt _ rfl).1
    have h2 := (p.rV.lt _ rfl).1
    have h3 := (p.rL.lt _ rfl).1
    have h4 := (p.rH.lt _ rfl).1
    simp at hx
    rcases hx with rfl | rfl | rfl | rfl <;> assumption)
  exact ⟨h, ht.own h⟩
set_option maxRecDepth 100000 in
set_option maxHeartbeats 4000000 in
theorem pplace_at (c : Tb) (vc : Value) (w0 : World) (P n gU gV gL gH k : Nat) (U V L H : List Int) (w : World) (HT : Hid (Cels w0 vc (cellsG c))) (HO : Hid (Own w0 w)) (HP : Hid (Pn w w0.heap.size P vc n gU gV gL gH U V L H)) (HS : Hid (Sqa c)) (HR : Hid (Rga c)) (HN : Hid (c.length = n)) (b1 : n ≤ 16) (HPC : Hid (Pc c n k U V L H)) (hk : k < n) :
    Calls Try.prog 33 #[.pointer (some ⟨P, 0, none⟩), .int .i64 (k : Int)] w fun e w' => e = .returned (.tuple #[]) ∧ ∃ U' V' L' H', Pn w' w0.heap.size P vc n gU gV gL gH U' V' L' H' ∧ Kp [gU, gV, gL, gH] w w' ∧ Pc c n (k + 1) U' V' L' H' := by
  have HPW := Lib.hid (HPC.out.begin hk)
  have hsea : Calls Try.prog 36 #[.pointer (some ⟨P, 0, none⟩), .int .i64 (k : Int), .int .i64 0] w _ := psearch_at c vc _ P n gU gV gL gH U V L H k 0 w (Lib.hid (HT.out.own HO.out)) HP HS HR HN (Lib.hid HPW.out.fe) (Lib.hid HPW.out.mh) b1 hk (Nat.zero_le _)
  obtain ⟨lt1, lt2, lt3, lt4, lt5⟩ := HP.out.lt
  have HNB := Lib.hid (show ∀ B, w.heap.size ≤ B → ∀ x ∈ [P, gU, gV, gL, gH], x ≠ B from fun B hB x hx => by
    simp at hx
    rcases hx with rfl | rfl | rfl | rfl | rfl <;> omega)
  go_enter Try.func33, Try.ntmps33
  go_upto_region 1 with (go_at_call 36; refine hsea.mono ?_; rintro e w2 ⟨gF, vr, f, R, F, rfl, q2, r2, r3, s2⟩; obtain ⟨A, cr, rfl⟩ := rows_shape r2; have HQ2 := Lib.hid q2; have HR2 := Lib.hid r2; have HR3 := Lib.hid r3; have HS2 := Lib.hid s2; clear q2 r2 r3 s2)
  have q3 := (Own.refl w2).alloc (.cells #[.slice A R.length cr, .slice (some ⟨gF, 0, none⟩) n n, .int .i64 f] 57)
  have HSV := Lib.hid (show Sv (w2.alloc (.cells #[.slice A R.length cr, .slice (some ⟨gF, 0, none⟩) n n, .int .i64 f] 57)) w.heap.size w2.heap.size gF n (.slice A R.length cr) f R F from ⟨HQ2.out.size, Blk.new w2 _ _, row_own HR2.out q3, row_own HR3.out q3⟩)
  have HQ3 := Lib.hid (HQ2.out.trans q3)
  have HB := Lib.hid HQ2.out.size
  generalize w2.alloc (.cells #[.slice A R.length cr, .slice (some ⟨gF, 0, none⟩) n n, .int .i64 f] 57) = w3 at *
  generalize w2.heap.size = B at *
  have HP3 := Lib.hid (HP.out.own HQ3.out)
  clear q3 HR2 HR3 HQ2 hsea lt1 lt2 lt3 lt4 lt5
  go_loopg [] (n + 1) (fun kx wr => ∃ (U V : List Int) (vr : Value) (gF : Nat) (f : Int) (R : List Nat) (F : List Int), Pn wr w0.heap.size P vc n gU gV gL gH U V L H ∧ Kp [gU, gV] w wr ∧ Sv wr w.heap.size B gF n vr f R F ∧ Pw c n k U V L H ∧ Sea n (Ti c U V) H k 0 R F f ∧ (f = -1 → n + 1 - R.length ≤ kx))
  case atStart => exact ⟨U, V, _, gF, f, R, F, HP3.out, Kp.of_own HQ3.out, HSV.out, HPW.out, HS2.out, fun _ => by omega⟩
  case round =>
    clear HSV HQ3 HP3 HPW HS2
    obtain ⟨U, V, vr, gF, f, R, F, hp, hkp, hsv, hpw, hs2, hf⟩ := hrel
    have HP4 := Lib.hid hp
    have HK4 := Lib.hid hkp
    have HS4 := Lib.hid hsv
    have HW4 := Lib.hid hpw
    have HE4 := Lib.hid hs2
    have HF4 := Lib.hid hf
    obtain ⟨A, cr, rfl⟩ := rows_shape hsv.rR
    have s0 : wr.cell? ⟨B, 0, none⟩ = some (.slice A R.length cr) := hsv.bS.cell 0
    have s1 : wr.cell? ⟨B, 1, none⟩ = some (.slice (some ⟨gF, 0, none⟩) n n) := hsv.bS.cell 1
    have s2 : wr.cell? ⟨B, 2, none⟩ = some (.int .i64 f) := hsv.bS.cell 2
    have HK4' := Lib.hid (show Kp [gU, gV, gL, gH] w wr from (Kp.refl _ w).more hkp fun x hx _ => by simp at hx ⊢; rcases hx with h | h <;> simp [h])
    have HTW := Lib.hid (HP.out.ok HT.out HO.out HK4'.out).2
    clear hp hkp hsv hpw hs2 hf
    by_cases d0 : f = -1
    · subst d0
      obtain ⟨_, hbf, hclo⟩ | ⟨free, hfr, _⟩ := HE4.out
      · have HBF := Lib.hid hbf
        have hfew := hbf.few
        have hg := HF4.out rfl
        have HFR := Lib.hid (show ∃ j, j < n ∧ F.getD j 0 = -1 from by
          obtain ⟨j, h1, h2⟩ := HW4.out.fr
          exact ⟨j, h1, (HBF.out.frm j h1).resolve_right fun ⟨r, e, _⟩ => by omega⟩)
        have hlt := HP.out.lt
        have hrep := preprice_at c vc _ P n gU gV gL gH w.heap.size gF k U V L H (-1) R F _ wr HTW HP4 HS HR HN (Lib.hid HW4.out.fe) b1 ⟨hlt.2.1, hlt.2.2.1⟩ (Lib.hid HS4.out.rR) (Lib.hid HS4.out.rF) HBF HFR
        clear hbf hclo hlt
        go_upto_region 3 with (go_at_call 42; refine hrep.mono ?_; rintro e w5 ⟨rfl, U', V', b, p5, k5, a5, l5⟩; have P5 := Lib.hid p5; have K5 := Lib.hid k5; have A5 := Lib.hid a5; have L5 := Lib.hid l5; clear p5 k5 a5 l5)
        obtain ⟨hpw5, he5⟩ := HW4.out.raise (okc_of HR.out) HBF.out A5.out L5.out
        have HW5 := Lib.hid hpw5
        have HE5 := Lib.hid he5
        have HK5 := Lib.hid (HK4.out.trans K5.out)
        have HK5' := Lib.hid (show Kp [gU, gV, gL, gH] w w5 from (Kp.refl _ w).more HK5.out fun x hx _ => by simp at hx ⊢; rcases hx with h | h <;> simp [h])
        have HT5 := Lib.hid (HP.out.ok HT.out HO.out HK5'.out).2
        have nB : B ∉ [gU, gV] := fun h => HNB.out B HB.out B (by simp at h ⊢; rcases h with h | h <;> simp [h]) rfl
        have HBS := Lib.hid (HS4.out.bS.kp K5.out nB)
        have hsea : Calls Try.prog 36 #[.pointer (some ⟨P, 0, none⟩), .int .i64 (k : Int), .int .i64 0] w5 _ := psearch_at c vc _ P n gU gV gL gH U' V' L H k 0 w5 HT5 P5 HS HR HN (Lib.hid HW5.out.fe) (Lib.hid HW5.out.mh) b1 hk (Nat.zero_le _)
        clear hpw5 he5 nB s0 s1 s2 hrep
        go_wp2_with (go_at_call 36; refine hsea.mono ?_; rintro e w6 ⟨gF', vr', f', R', F', rfl, q6, r2, r3, s6⟩; obtain ⟨A', cr', rfl⟩ := rows_shape r2; have HQ6 := Lib.hid q6; have HR2 := Lib.hid r2; have HR3 := Lib.hid r3; have HS6 := Lib.hid s6; have y0 : w6.cell? ⟨B, 0, none⟩ = some (.slice A R.length cr) := (HBS.out.own q6).cell 0; have y1 : w6.cell? ⟨B, 1, none⟩ = some (.slice (some ⟨gF, 0, none⟩) n n) := (HBS.out.own q6).cell 1; have y2 : w6.cell? ⟨B, 2, none⟩ = some (.int .i64 (-1)) := (HBS.out.own q6).cell 2; have z0 := (HBS.out.own q6).frozen 0; have z1 := (HBS.out.own q6).frozen 1; have z2 := (HBS.out.own q6).frozen 2; clear q6 r2 r3 s6)
        go_roundg (gk - 1)
        case measure => omega
        case rel => exact ⟨U', V', _, gF', f', R', F', (P5.out.own HQ6.out).far3 (HNB.out B HB.out), kp_put3 (HK5.out.trans (Kp.of_own HQ6.out)) HB.out, Sv.put HB.out (HBS.out.own HQ6.out) HK5.out.size HR2.out HR3.out, HW5.out, HS6.out, fun e => by
          obtain ⟨_, g', k'⟩ | ⟨fr, e2, _⟩ := HS6.out
          · have h1 := A5.out.far HBF.out HW4.out.mh HE5.out g' k'
            have h2 := g'.few
            omega
          · omega⟩
      · omega
    · have d0b : (f == -1) = false := beq_eq_false_iff_ne.2 d0
      obtain ⟨hf1, _⟩ | ⟨free, rfl, hsf⟩ := HE4.out
      · exact absurd hf1 d0
      · have HSF := Lib.hid hsf
        have hlt := HP.out.lt
        have hshift := pshift_at (Ti c U V) vc _ P n gU gV gL gH w.heap.size gF k 0 free U V L H R F _ wr HP4 ⟨hlt.2.2.2.1, hlt.2.2.2.2⟩ (Lib.hid HS4.out.rR) (Lib.hid HS4.out.rF) HSF (Lib.hid HW4.out.mh) (Lib.hid HW4.out.tg) hk
        clear hsf hlt
        go_wp2_with (go_at_call 37; refine hshift.mono ?_; rintro e w5 ⟨rfl, L', H', p5, k5, d5⟩; have P5 := Lib.hid p5; have K5 := Lib.hid k5; have D5 := Lib.hid d5; clear p5 k5 d5)
        go_end0
        refine ⟨rfl, U, V, L', H', P5.out, ?_, HW4.out.done D5.out (HSF.out.bb.rows HW4.out.mh)⟩
        exact HK4'.out.more K5.out fun x hx _ => by simp at hx ⊢; rcases hx with h | h <;> simp [h]
end Go.Proofs.Ytfhdoeajoeaddaa.AsgW
