/-
  Walks of the program of package assign: search. Condition: none.
-/
import Derived.Test.YtfhdoeajoeaddaaAssignPB
import Derived.Test.YtfhdoeajoeaddaaRepeat
namespace Go.Proofs.Ytfhdoeajoeaddaa.AsgW
open Go.ChangeShapes Go.WideShapes Go.ChangeAt Go.RowKit
open PairW CelW TabW MchW AsgP
/-! ### A block of cells -/
def Blk (w : World) (B : Nat) (cs : Array Value) (T : TypeId) : Prop := w.heap[B]? = some (.cells cs T (0, 0))
section
variable {w w' : World} {B : Nat} {cs : Array Value} {T : TypeId}
theorem Blk.lt (h : Blk w B cs T) : B < w.heap.size := (Array.getElem?_eq_some_iff.1 h).1
theorem Blk.cell (h : Blk w B cs T) (i : Nat) : w.cell? ⟨B, i, none⟩ = cs[i]? := cell_of_row w B i cs T (0, 0) h
theorem Blk.frozen (h : Blk w B cs T) (i : Nat) : w.frozen? ⟨B, i, none⟩ = false := by
  unfold Blk at h
  unfold World.frozen?
  simp [h]
theorem Blk.own (h : Blk w B cs T) (q : Own w w') : Blk w' B cs T := (q.block B h.lt).trans h
theorem Blk.far (h : Blk w B cs T) {p : Addr} (hp : B ≠ p.block) (u : Value) : Blk (w.setCell p u) B cs T := (set_other w p u hp).trans h
theorem Blk.put (h : Blk w B cs T) (i : Nat) (u : Value) : Blk (w.setCell ⟨B, i, none⟩ u) B (cs.setIfInBounds i u) T := by
  unfold Blk at h ⊢
  simp only [World.setCell]
  rw [Array.getElem?_modify, if_pos rfl, h]
  simp
theorem Blk.grown {row : Option Nat} (h : Blk w B cs T) (g : w.grownBy w' row) (hr : row ≠ some B) : Blk w' B cs T := (g.block B h.lt fun e => hr e.symm).trans h
theorem Blk.new (w : World) (cs : Array Value) (T : TypeId) : Blk (w.alloc (.cells cs T)) w.heap.size cs T := heap_alloc_new w _
/-- A row of another type lies in another block. -/
theorem Blk.ne_row {base n m : Nat} {e : TypeId} {v : Value} {xs : List Value} (h : Blk w B cs T) (r : w.ownsRow base e m v n xs) (he : e ≠ T) : v.ownBlock ≠ some B := fun eb => by
  rcases r.2 with ⟨h3, _⟩ | ⟨g', cap, cur, h3, _, h4, _⟩
  · rw [h3] at eb; cases eb
  · rw [h3] at eb
    injection eb with eb
    have eb : g' = B := eb
    subst eb
    have h4' := h4.symm.trans h
    injection h4' with h4'
    injection h4' with _ h5
    exact he h5
theorem Blk.ne_row1 {base n g c m : Nat} {e : TypeId} {xs : List Value} (h : Blk w B cs T) (r : w.ownsRow base e m (.slice (some ⟨g, 0, none⟩) n c) n xs) (he : e ≠ T) : B ≠ g := fun eb => h.ne_row r he (by rw [eb]; rfl)
end
/-! ### A search in memory -/
structure So (w wr : World) (br gs gF n : Nat) (vr : Value) (f : Int) (R : List Nat) (F : List Int) : Prop where
  own : Own w wr
  lb : w.heap.size ≤ br
  ls : w.heap.size ≤ gs
  d : br ≠ gs
  bR : Blk wr br #[.slice none 0 0, .slice none 0 0, .int .i64 0] 57
  bS : Blk wr gs #[vr, .slice (some ⟨gF, 0, none⟩) n n, .int .i64 f] 57
  rR : wr.ownsRow w.heap.size 3 1 vr R.length (cellsI (natsI R))
  rF : wr.ownsRow w.heap.size 3 1 (.slice (some ⟨gF, 0, none⟩) n n) n (cellsI F)
  vF : vr.ownBlock ≠ some gF
section
variable {w wr w' : World} {br gs gF n : Nat} {vr : Value} {f : Int} {R : List Nat} {F : List Int}
theorem So.to (p : So w wr br gs gF n vr f R F) (q : Own wr w') : So w w' br gs gF n vr f R F :=
  ⟨p.own.trans q, p.lb, p.ls, p.d, p.bR.own q, p.bS.own q, row_own p.rR q, row_own p.rF q, p.vF⟩
theorem So.lF (p : So w wr br gs gF n vr f R F) : F.length = n := (cellsI_len F).symm.trans (row_len p.rF)
theorem So.s0 (p : So w wr br gs gF n vr f R F) : wr.cell? ⟨gs, 0, none⟩ = some vr := p.bS.cell 0
theorem So.s1 (p : So w wr br gs gF n vr f R F) : wr.cell? ⟨gs, 1, none⟩ = some (.slice (some ⟨gF, 0, none⟩) n n) := p.bS.cell 1
theorem So.s2 (p : So w wr br gs gF n vr f R F) : wr.cell? ⟨gs, 2, none⟩ = some (.int .i64 f) := p.bS.cell 2
theorem So.b0 (p : So w wr br gs gF n vr f R F) : wr.cell? ⟨br, 0, none⟩ = some (.slice none 0 0) := p.bR.cell 0
theorem So.b1 (p : So w wr br gs gF n vr f R F) : wr.cell? ⟨br, 1, none⟩ = some (.slice none 0 0) := p.bR.cell 1
theorem So.b2 (p : So w wr br gs gF n vr f R F) : wr.cell? ⟨br, 2, none⟩ = some (.int .i64 0) := p.bR.cell 2
theorem So.sF (p : So w wr br gs gF n vr f R F) : gs ≠ gF := p.bS.ne_row1 p.rF (by decide)
theorem So.bF (p : So w wr br gs gF n vr f R F) : br ≠ gF := p.bR.ne_row1 p.rF (by decide)
theorem So.gb (p : So w wr br gs gF n vr f R F) : w.heap.size ≤ gF := (p.rF.lt gF rfl).1
theorem So.putF (p : So w wr br gs gF n vr f R F) (i : Nat) (x : Int) : So w (wr.setCell ⟨gF, i, none⟩ (.int .i64 x)) br gs gF n vr f R (F.set i x) :=
  ⟨p.own.setCell p.gb _, p.lb, p.ls, p.d, p.bR.far p.bF _, p.bS.far p.sF _, ownsRow_setCell_other p.rR (a := ⟨gF, i, none⟩) (fun e => p.vF (by first | exact e | exact e.symm)) _, row_puti p.rF i x, p.vF⟩
theorem So.free (p : So w wr br gs gF n vr f R F) (x : Int) : So w (wr.setCell ⟨gs, 2, none⟩ (.int .i64 x)) br gs gF n vr x R F :=
  ⟨p.own.setCell p.ls _, p.lb, p.ls, p.d, p.bR.far p.d _, p.bS.put 2 _, ownsRow_setCell_other p.rR (a := ⟨gs, 2, none⟩) (fun e => p.bS.ne_row p.rR (by decide) (by first | exact e | exact e.symm)) _, row_set p.rF p.sF _, p.vF⟩
/-- The result written. -/
theorem So.fin (p : So w wr br gs gF n vr f R F) : ∃ W, ((wr.setCell ⟨br, 0, none⟩ vr).setCell ⟨br, 1, none⟩ (.slice (some ⟨gF, 0, none⟩) n n)).setCell ⟨br, 2, none⟩ (.int .i64 f) = W ∧ W.cell? ⟨br, 0, none⟩ = some vr ∧ W.cell? ⟨br, 1, none⟩ = some (.slice (some ⟨gF, 0, none⟩) n n) ∧ W.cell? ⟨br, 2, none⟩ = some (.int .i64 f) ∧ Own w W ∧ W.ownsRow w.heap.size 3 1 vr R.length (cellsI (natsI R)) ∧ W.ownsRow w.heap.size 3 1 (.slice (some ⟨gF, 0, none⟩) n n) n (cellsI F) := by
  have b := ((p.bR.put 0 vr).put 1 (.slice (some ⟨gF, 0, none⟩) n n)).put 2 (.int .i64 f)
  have nb : vr.ownBlock ≠ some br := p.bR.ne_row p.rR (by decide)
  refine ⟨_, rfl, b.cell 0, b.cell 1, b.cell 2, ((p.own.setCell p.lb _).setCell p.lb _).setCell p.lb _, ?_, row_set (row_set (row_set p.rF p.bF _) p.bF _) p.bF _⟩
  have h : ∀ {w0 : World} (i : Nat) (u : Value), w0.ownsRow w.heap.size 3 1 vr R.length (cellsI (natsI R)) → (w0.setCell ⟨br, i, none⟩ u).ownsRow w.heap.size 3 1 vr R.length (cellsI (natsI R)) := fun i u r => ownsRow_setCell_other r (a := ⟨br, i, none⟩) (fun e => nb (by first | exact e | exact e.symm)) u
  exact h 2 _ (h 1 _ (h 0 _ p.rR))
/-- One row more. -/
theorem So.app {v' : Value} {y : Nat} (p : So w wr br gs gF n vr f R F) (hr : w'.ownsRow w.heap.size 3 1 v' (R.length + 1) (cellsI (natsI R ++ [(y : Int)]))) (hg : wr.grownBy w' vr.ownBlock) (hb : v'.ownBlock = vr.ownBlock ∨ v'.ownBlock = some wr.heap.size) :
    So w (w'.setCell ⟨gs, 0, none⟩ v') br gs gF n v' f (R ++ [y]) F := by
  have h1 : vr.ownBlock ≠ some gs := p.bS.ne_row p.rR (by decide)
  have h2 : vr.ownBlock ≠ some br := p.bR.ne_row p.rR (by decide)
  have b1 := p.bS.grown hg h1
  have hF : w'.ownsRow w.heap.size 3 1 (.slice (some ⟨gF, 0, none⟩) n n) n (cellsI F) := row_stays p.rF fun k hk => by
    injection hk with hk
    subst hk
    exact hg.block _ (p.rF.lt _ rfl).2 fun e => p.vF e.symm
  refine ⟨(p.own.grown hg fun k hk => (p.rR.lt k hk).1).setCell p.ls _, p.lb, p.ls, p.d, (p.bR.grown hg h2).far p.d _, b1.put 0 _, ?_, row_set hF p.sF _, fun e => ?_⟩
  · rw [natsI_app, List.length_append]
    exact ownsRow_setCell_other hr (a := ⟨gs, 0, none⟩) (fun e => b1.ne_row hr (by decide) (by first | exact e | exact e.symm)) _
  · rcases hb with h | h
    · exact p.vF (h.symm.trans e)
    · have := (p.rF.lt gF rfl).2
      rw [h] at e
      injection e with e
      omega
end
theorem results_cell1 {fn : Func} {p : Tmp} {ty : TypeId} (h : fn.results = #[.cell p ty]) (tmps : Array Value) (P : Program) (w : World) :
    (results fn tmps).run P w = ((asAddr (tmps.getD p undef)).run P w).andThen fun a w₁ => ((loadVar ty a).run P w₁).andThen fun v w₂ => .ok v w₂ := by
  simp only [results, h]
  simp [Sem.run_bind]
  cases (Sem.run P (asAddr (tmps[p]?.getD undef)) w) with
  | ok a w1 =>
    simp only [Result.andThen]
    cases Sem.run P (loadVar ty a) w1 <;> rfl
  | halt h w => rfl
/-- A search that lies in memory, as the one result. -/
theorem ss_result {fn : Func} {p : Tmp} (h : fn.results = #[.cell p 57]) {tmps : Array Value} {w : World} {B : Nat} {x y z : Value} (hp : tmps.getD p undef = .pointer (some ⟨B, 0, none⟩)) (h0 : w.cell? ⟨B, 0, none⟩ = some x) (h1 : w.cell? ⟨B, 1, none⟩ = some y) (h2 : w.cell? ⟨B, 2, none⟩ = some z) :
    (results fn tmps).run Try.prog w = .ok (.agg #[x, y, z]) w := by
  rw [results_cell1 h, hp]
  go_simp
theorem lits2 (w : World) (a b : Value) (T : TypeId) : ∃ W0, (w.alloc (.cells #[a] T)).alloc (.cells #[b] T) = W0 ∧ Blk W0 w.heap.size #[a] T ∧ Blk W0 (w.heap.size + 1) #[b] T ∧ Own w W0 ∧ W0.heap.size = w.heap.size + 2 := by
  refine ⟨_, rfl, (Blk.new w _ T).own ((Own.refl _).alloc _), ?_, ((Own.refl w).alloc _).alloc _, ?_⟩
  · have := Blk.new (w.alloc (.cells #[a] T)) #[b] T
    simpa using this
  · go_simp
set_option maxRecDepth 100000 in
set_option maxHeartbeats 4000000 in
theorem psearch_at (c : Tb) (vc : Value) (bs P n gU gV gL gH : Nat) (U V L H : List Int) (s fst : Nat) (w : World) (HT : Hid (Cels w vc (cellsG c))) (HP : Hid (Pn w bs P vc n gU gV gL gH U V L H)) (HS : Hid (Sqa c)) (HR : Hid (Rga c)) (HN : Hid (c.length = n)) (HFE : Hid (Fe c n U V)) (HM : Hid (Mh n s n L H)) (b1 : n ≤ 16) (hs : s < n) (hf : fst ≤ s) :
    Calls Try.prog 36 #[.pointer (some ⟨P, 0, none⟩), .int .i64 (s : Int), .int .i64 (fst : Int)] w fun e w' => ∃ (gF : Nat) (vr : Value) (f : Int) (R : List Nat) (F : List Int), e = .returned (.agg #[vr, .slice (some ⟨gF, 0, none⟩) n n, .int .i64 f]) ∧ Own w w' ∧ w'.ownsRow w.heap.size 3 1 vr R.length (cellsI (natsI R)) ∧ w'.ownsRow w.heap.size 3 1 (.slice (some ⟨gF, 0, none⟩) n n) n (cellsI F) ∧ Sea n (Ti c U V) H s fst R F f := by
  obtain ⟨i0, hi, hz0, hz1, hz2⟩ := info_parts (show (Try.prog.info? 3).map (fun i => (i.zero, i.size, i.bytes)) = some (some (.int .i64 0), 1, 8) by kernel_rfl)
  have HI := Lib.hid hi
  have HZ0 := Lib.hid hz0
  have HZ1 := Lib.hid hz1
  have HZ2 := Lib.hid hz2
  clear hi hz0 hz1 hz2
  obtain ⟨AC, capc, rfl, t1, t2, _⟩ := gt_open HT.out
  rw [HN.out] at t1 HT HP
  unfold maxLen at t2
  go_enter Try.func36, Try.ntmps36
  go_upto_region 1 with (fail)
  refine wp_scope_straight ?_
  have B1 := Lib.hid (Blk.new w #[.slice none 0 0, .slice none 0 0, .int .i64 0] 57)
  have q1 := (Own.refl w).alloc (.cells #[.slice none 0 0, .slice none 0 0, .int .i64 0] 57)
  generalize w.alloc (.cells #[.slice none 0 0, .slice none 0 0, .int .i64 0] 57) = w1 at *
  obtain ⟨w2, hw2, D0, D1, q2, z2⟩ := lits2 w1 (.int .i64 (s : Int)) (.int .i64 (-1)) 3
  have HW2 := Lib.hid hw2
  have HD0 := Lib.hid D0
  have HD1 := Lib.hid D1
  clear hw2 D0 D1
  have k0 := (HP.out.own (q1.trans q2)).c0
  rw [← HW2.out] at k0
  have HQ1 := Lib.hid q1
  have HQ2 := Lib.hid q2
  have HZ := Lib.hid z2
  clear q1 q2 z2
  go_wp2_with (go_at_call 32; rw [HW2.out]; refine (prep_at n _ _ (HD1.out.cell 0) (by omega)).mono ?_; rintro e w3 ⟨gF, rfl, hr3, q3⟩; have HR3 := Lib.hid hr3; have HQ3 := Lib.hid q3; clear hr3 q3)
  have HSO := Lib.hid (show So w (w3.alloc (.cells #[.slice (some ⟨w1.heap.size, 0, none⟩) 1 1, .slice (some ⟨gF, 0, none⟩) n n, .int .i64 (-1)] 57)) w.heap.size w3.heap.size gF n (.slice (some ⟨w1.heap.size, 0, none⟩) 1 1) (-1) [s] (List.replicate n (-1)) from by
    have r0 := World.ownsRow_lit (base := w.heap.size) (e := 3) (size := 1) w1 #[.int .i64 (s : Int)] 1 HQ1.out.size (by decide) rfl
    have q4 := (Own.refl w3).alloc (.cells #[.slice (some ⟨w1.heap.size, 0, none⟩) 1 1, .slice (some ⟨gF, 0, none⟩) n n, .int .i64 (-1)] 57)
    have qa := (Own.refl (w1.alloc (.cells #[.int .i64 (s : Int)] 3))).alloc (.cells #[.int .i64 (-1)] 3)
    rw [HW2.out] at qa
    have h1 := B1.out.lt
    have h2 := HQ2.out.size
    have h3 := HQ3.out.size
    have h4 := HR3.out.lt gF rfl
    refine ⟨((HQ1.out.trans HQ2.out).trans HQ3.out).trans q4, Nat.le_refl _, by omega, by omega, ((B1.out.own HQ2.out).own HQ3.out).own q4, Blk.new w3 _ _, ?_, row_own (row_down HR3.out (by omega)) q4, fun e => ?_⟩
    · exact row_own r0 ((qa.trans HQ3.out).trans q4)
    · injection e with e
      have e : w1.heap.size = gF := e
      have := HZ.out
      omega)
  generalize w3.alloc (.cells #[.slice (some ⟨w1.heap.size, 0, none⟩) 1 1, .slice (some ⟨gF, 0, none⟩) n n, .int .i64 (-1)] 57) = w4 at *
  generalize w3.heap.size = gs at *
  have HV0 := Lib.hid (show ∃ vr, vr = (.slice (some ⟨w1.heap.size, 0, none⟩) 1 1 : Value) ∧ So w w4 w.heap.size gs gF n vr (-1) [s] (List.replicate n (-1)) from ⟨_, rfl, HSO.out⟩)
  generalize hbr : w.heap.size = br at *
  clear HSO k0 HD0 HD1 HW2 HR3 HQ1 HQ2 HQ3 HZ B1
  have HBF := Lib.hid (bf_start (n := n) (Ti c U V) H hs hf)
  go_step3
  go_wp2
  go_loopw [8, 9, 10, 11, 39] (fun v8 _ _ _ _ wr => ∃ (k : Nat) (vr : Value) (R : List Nat) (F : List Int), v8 = .int .i64 (k : Int) ∧ k ≤ R.length ∧ So w wr br gs gF n vr (-1) R F ∧ Bf n (Ti c U V) H s fst R F ∧ Clo n (Ti c U V) H fst R F k) (fun v8 _ _ _ _ _ => n - (intOf v8).toNat)
  case atStart =>
    obtain ⟨vr, _, hso⟩ := HV0.out
    exact ⟨0, vr, [s], _, rfl, Nat.zero_le _, hso, HBF.out, fun k r h => absurd h (Nat.not_lt_zero _)⟩
  case round =>
    clear HV0 HBF
    obtain ⟨k, vr, R, F, rfl, hk, hso, hbf, hclo⟩ := hrel
    have HSO := Lib.hid hso
    have HBF := Lib.hid hbf
    have HCLO := Lib.hid hclo
    have hfew := hbf.few
    clear hso hbf hclo
    obtain ⟨A, cr, hvr⟩ := rows_shape HSO.out.rR
    obtain ⟨z, hz⟩ : ∃ z, R.length = z := ⟨_, rfl⟩
    have HZL := Lib.hid hz
    subst hvr
    have s0 := HSO.out.s0
    have s1 := HSO.out.s1
    have s2 := HSO.out.s2
    have hzn : z ≤ n := by omega
    have k4 := (HP.out.own HSO.out.own).c4
    by_cases hlt : k < z
    · obtain ⟨i, hi⟩ : ∃ i, R[k]? = some i := ⟨_, List.getElem?_eq_getElem (by omega)⟩
      have hin := HBF.out.bb.lt i (mem_of hi)
      obtain ⟨g, cap, hv, _, _⟩ := row_form HSO.out.rR (by omega)
      injection hv with hA _ hcp
      subst hA
      subst hcp
      obtain ⟨b, e0, hb, _⟩ := row_int HSO.out.rR (natsI_len R) (i := k) (by omega)
      rw [natsI_at hi] at hb
      injection hb with hb
      subst hb
      have hkz : (k : Int) < z := by omega
      have HI0 := Lib.hid hi
      rw [hz] at s0
      clear hi hz
      go_wp2
      go_loopw [10, 11, 39] (fun _ _ v39 wx => ∃ (x : Nat) (vr : Value) (R : List Nat) (F : List Int), v39 = .int .i64 (x : Int) ∧ x ≤ n ∧ So w wx br gs gF n vr (-1) R F ∧ Bf n (Ti c U V) H s fst R F ∧ Clo n (Ti c U V) H fst R F k ∧ R[k]? = some i ∧ ClR n (Ti c U V) H fst F i x) (fun _ _ v39 _ => n - (intOf v39).toNat)
      case atStart => exact ⟨0, _, R, F, rfl, Nat.zero_le _, HSO.out, HBF.out, HCLO.out, HI0.out, fun x h => absurd h (Nat.not_lt_zero _)⟩
      case round =>
        clear HSO HBF HCLO HI0 s0 s1 s2 k4 e0 HZL
        obtain ⟨x, vr, R, F, rfl, hx, hso, hbf, hclo, hri, hcr⟩ := hrel
        have HSO := Lib.hid hso
        have HBF := Lib.hid hbf
        have HCLO := Lib.hid hclo
        have HRI := Lib.hid hri
        have HCR := Lib.hid hcr
        have hkl : k < R.length := (List.getElem?_eq_some_iff.1 hri).1
        clear hso hbf hclo hri hcr
        by_cases hlt2 : x < n
        · have hxn : (x : Int) < n := by omega
          have HPW := Lib.hid (HP.out.own HSO.out.own)
          have e1 := (HPW.out.aH hlt2).1
          have s1 := HSO.out.s1
          obtain ⟨e2, f2⟩ := row_get HSO.out.rF hlt2
          obtain ⟨y, hy⟩ : ∃ y, H.getD x 0 = y := ⟨_, rfl⟩
          obtain ⟨fx, hfx⟩ : ∃ fx, F.getD x 0 = fx := ⟨_, rfl⟩
          rw [hy] at e1
          rw [hfx] at e2
          have HY := Lib.hid hy
          have HFX := Lib.hid hfx
          clear hy hfx
          by_cases d1 : fx = -1
          · subst d1
            obtain ⟨q, hq⟩ : ∃ q, sl c U V i x = q := ⟨_, rfl⟩
            have HQ := Lib.hid hq
            clear hq
            have hslack := pslack_at c _ bs P n gU gV gL gH U V L H i x q wr (Lib.hid (HT.out.own HSO.out.own)) HPW HS HR HN HFE hin hlt2 HQ
            by_cases d2 : 0 < q
            · have HNX := Lib.hid (HCR.out.next (.inr (.inl (show ¬ Ti c U V i x by unfold Ti; rw [HQ.out]; omega))))
              go_wp2_with (go_at_call 34; refine hslack.mono ?_; rintro e w5 ⟨rfl, kk, hw5⟩; have HSO5 := Lib.hid (show So w w5 br gs gF n vr (-1) R F from by rw [hw5]; exact HSO.out.to ((Own.refl _).drewN kk)); clear hw5)
              go_roundw
              case rel => exact ⟨x + 1, vr, R, F, by go_num, hlt2, HSO5.out, HBF.out, HCLO.out, HRI.out, HNX.out⟩
              case measure => simp [intOf]; omega
            · have ht : Ti c U V i x := by unfold Ti; rw [HQ.out]; omega
              have HTI := Lib.hid ht
              clear ht
              by_cases d3 : y = -1
              · subst d3
                have HFO := Lib.hid (HBF.out.found hlt2 HY.out HRI.out HTI.out)
                go_upto_region 11 with (go_at_call 34; refine hslack.mono ?_; rintro e w5 ⟨rfl, kk, hw5⟩; have HSO5 := Lib.hid (show So w w5 br gs gF n vr (-1) R F from by rw [hw5]; exact HSO.out.to ((Own.refl _).drewN kk)); clear hw5; have s1 := HSO5.out.s1; have s2 := HSO5.out.s2; obtain ⟨e2, f2⟩ := row_get HSO5.out.rF hlt2)
                have HSO6 := Lib.hid (HSO5.out.putF x (i : Int))
                generalize w5.setCell ⟨gF, x, none⟩ (.int .i64 (i : Int)) = w6 at *
                clear s1 s2 e2 f2 HSO5 e1
                have s2 := HSO6.out.s2
                have f2 := HSO6.out.bS.frozen 2
                go_upto_region 15 with (fail)
                have HSO7 := Lib.hid (HSO6.out.free (x : Int))
                generalize w6.setCell ⟨gs, 2, none⟩ (.int .i64 (x : Int)) = w7 at *
                have HSEA := Lib.hid (show Sea n (Ti c U V) H s fst R (F.set x (i : Int)) (x : Int) from .inr ⟨x, rfl, HFO.out⟩)
                clear s2 f2 HSO6 hslack
                obtain ⟨A, cr, hvr⟩ := rows_shape HSO7.out.rR
                subst hvr
                have s0 := HSO7.out.s0
                have s1 := HSO7.out.s1
                have s2 := HSO7.out.s2
                have r0 := HSO7.out.bR.frozen 0
                have r1 := HSO7.out.bR.frozen 1
                have r2 := HSO7.out.bR.frozen 2
                have p0 := HSO7.out.b0
                have p1 := HSO7.out.b1
                have p2 := HSO7.out.b2
                obtain ⟨W, hW, x0, x1, x2, q9, r8, r9⟩ := HSO7.out.fin
                have HF9 := Lib.hid (And.intro q9 (And.intro r8 r9))
                clear q9 r8 r9
                go_wp2
                rw [Exit.noGoto_ret]
                exact bodyPost_ret (ss_result rfl rfl x0 x1 x2) rfl ⟨gF, _, _, R, _, rfl, HF9.out.1, HF9.out.2.1, HF9.out.2.2, HSEA.out⟩
              · have d3b : (y != -1) = true := bne_iff_ne.2 d3
                obtain ⟨r, hrn, _, hyr, _⟩ := (HM.out.col x hlt2 (by omega)).resolve_left (by rw [HY.out]; exact d3)
                rw [HY.out] at hyr
                subst hyr
                have d3c : ((r : Int) == -1) = false := beq_eq_false_iff_ne.2 d3
                by_cases d4 : (r : Int) < fst
                · have HNX := Lib.hid (HCR.out.next (.inr (.inr ⟨by rw [HY.out]; exact d3, by rw [HY.out]; exact d4⟩)))
                  go_wp2_with (go_at_call 34; refine hslack.mono ?_; rintro e w5 ⟨rfl, kk, hw5⟩; have HSO5 := Lib.hid (show So w w5 br gs gF n vr (-1) R F from by rw [hw5]; exact HSO.out.to ((Own.refl _).drewN kk)); clear hw5)
                  go_roundw
                  case rel => exact ⟨x + 1, vr, R, F, by go_num, hlt2, HSO5.out, HBF.out, HCLO.out, HRI.out, HNX.out⟩
                  case measure => simp [intOf]; omega
                · have HMO := Lib.hid (HBF.out.more HM.out hlt2 HFX.out HY.out (by omega) HRI.out HTI.out)
                  have hfew3 := HMO.out.few
                  rw [List.length_append] at hfew3
                  have hfew3 : R.length + 1 ≤ n := hfew3
                  have hFl : x < F.length := by rw [HSO.out.lF]; exact hlt2
                  have HCL2 := Lib.hid (HCLO.out.more (j := x) (q := i) (y := r) hFl (Nat.le_of_lt hkl))
                  have HRI2 := Lib.hid (show (R ++ [r])[k]? = some i by rw [List.getElem?_append_left hkl]; exact HRI.out)
                  have HCR2 := Lib.hid ((HCR.out.more (j := x) (q := i) hFl).next (.inl (by rw [gset_of hFl]; omega)))
                  go_upto_region 11 with (go_at_call 34; refine hslack.mono ?_; rintro e w5 ⟨rfl, kk, hw5⟩; have HSO5 := Lib.hid (show So w w5 br gs gF n vr (-1) R F from by rw [hw5]; exact HSO.out.to ((Own.refl _).drewN kk)); clear hw5; have s1 := HSO5.out.s1; have s2 := HSO5.out.s2; obtain ⟨e2, f2⟩ := row_get HSO5.out.rF hlt2)
                  have HSO6 := Lib.hid (HSO5.out.putF x (i : Int))
                  generalize w5.setCell ⟨gF, x, none⟩ (.int .i64 (i : Int)) = w6 at *
                  clear s1 s2 e2 f2 HSO5 e1 hslack hFl
                  obtain ⟨A, cr, hvr⟩ := rows_shape HSO6.out.rR
                  subst hvr
                  have q7 := (Own.refl w6).alloc (.cells #[.int .i64 (r : Int)] 3)
                  have HSO7 := Lib.hid (HSO6.out.to q7)
                  have HRO := Lib.hid HSO7.out.rR
                  obtain ⟨zz, hzz⟩ : ∃ zz, R.length = zz := ⟨_, rfl⟩
                  have HZZ := Lib.hid hzz
                  have s0 := HSO6.out.s0
                  have HCE := Lib.hid (cel_lit (w := w6) (T := 3) (cs := #[.int .i64 (r : Int)]) (xs := [.int .i64 (r : Int)]) (k := 1) rfl rfl (by unfold maxLen; decide))
                  rw [hzz] at hfew3 s0 HRO
                  have K2 := Lib.hid (show zz + 1 ≤ maxLen by unfold maxLen; omega)
                  have K3 := Lib.hid (show (zz + 1) * 8 ≤ 140737488355328 by omega)
                  have HQ7 := Lib.hid (HSO7.out.own)
                  clear hzz q7
                  go_upto_region 14 with (at_builtin; refine wpList_append_f (by go_simp) _ _ 23 rfl w.heap.size 3 i0 (.int .i64 0) 8 Try.underlying23 HI.out HZ0.out HZ1.out HZ2.out rfl (.slice A zz cr) zz (cellsI (natsI R)) rfl HRO.out _ [.int .i64 (r : Int)] rfl HCE.out (fun x hx => by rw [List.mem_singleton.1 hx]; rfl) (zz + 1) rfl K2.out K3.out HQ7.out.size ?_; intro v8 w8 hown8 hgr8 hb8; obtain ⟨A8, c8, rfl⟩ := rows_shape hown8; have HSO8 := Lib.hid (HSO7.out.app (y := r) (by rw [HZZ.out, cellsI_app]; exact hown8) (by rw [HZZ.out]; exact hgr8) (by rw [HZZ.out]; exact hb8)); have s8 : w8.cell? ⟨gs, 0, none⟩ = some (.slice A R.length cr) := (HSO7.out.bS.grown (by exact hgr8) (by rw [← HZZ.out]; exact HSO7.out.bS.ne_row HSO7.out.rR (by decide))).cell 0; have f8 := (HSO7.out.bS.grown (by exact hgr8) (by rw [← HZZ.out]; exact HSO7.out.bS.ne_row HSO7.out.rR (by decide))).frozen 0; clear hown8 hgr8 hb8)
                  go_wp2
                  go_roundw
                  case rel => exact ⟨x + 1, _, _, _, by go_num, hlt2, HSO8.out, HMO.out, HCL2.out, HRI2.out, HCR2.out⟩
                  case measure => simp [intOf]; omega
          · have d1b : (fx != -1) = true := bne_iff_ne.2 d1
            have HNX := Lib.hid (HCR.out.next (.inl (by rw [HFX.out]; exact d1)))
            go_wp2
            go_roundw
            case rel => exact ⟨x + 1, vr, R, F, by go_num, hlt2, HSO.out, HBF.out, HCLO.out, HRI.out, HNX.out⟩
            case measure => simp [intOf]; omega
        · obtain rfl : x = n := by omega
          have HCN := Lib.hid (HCLO.out.next HRI.out HCR.out)
          have hfew2 := HBF.out.few
          go_wp2
          go_roundw
          case rel => exact ⟨k + 1, vr, R, F, by go_num, hkl, HSO.out, HBF.out, HCN.out⟩
          case measure => simp [intOf]; omega
    · obtain rfl : k = z := by omega
      have r0 := HSO.out.bR.frozen 0
      have r1 := HSO.out.bR.frozen 1
      have r2 := HSO.out.bR.frozen 2
      have p0 := HSO.out.b0
      have p1 := HSO.out.b1
      have p2 := HSO.out.b2
      rw [hz] at s0
      have HSEA := Lib.hid (show Sea n (Ti c U V) H s fst R F (-1) from .inl ⟨rfl, HBF.out, by rw [hz]; exact HCLO.out⟩)
      obtain ⟨W, hW, x0, x1, x2, q9, r8, r9⟩ := HSO.out.fin
      rw [hz] at hW x0 r8
      have HF9 := Lib.hid (And.intro q9 (And.intro r8 r9))
      clear hz q9 r8 r9
      go_wp2
      rw [Exit.noGoto_ret]
      exact bodyPost_ret (ss_result rfl rfl x0 x1 x2) rfl ⟨gF, _, _, R, F, rfl, HF9.out.1, by rw [HZL.out]; exact HF9.out.2.1, HF9.out.2.2, HSEA.out⟩
end Go.Proofs.Ytfhdoeajoeaddaa.AsgW
