/-
  Walks of the program of package match: reached, places, Cover. Condition: none.
-/
import Derived.Test.YtdgahlojdllkbaaMatchPE
import Derived.Test.YtdgahlojdllkbaaRegInv
import Derived.OneCell
namespace Go.Proofs.Ytdgahlojdllkbaa.MchW
open Go.ChangeShapes Go.WideShapes Go.ChangeAt Go.RowKit
open PairW CelW TabW MchP
def Mk (wc w : World) (n : Nat) (v : Value) : Prop := ∃ g, v = .slice (some ⟨g, 0, none⟩) n n ∧ w.ownsRow wc.heap.size 4 1 v n (cellsT (List.replicate n false))
def Pt (wc w : World) (v : Value) : Prop := ∃ (B : Nat) (u : Value), v = .pointer (some ⟨B, 0, none⟩) ∧ wc.heap.size ≤ B ∧ w.heap[B]? = some (.cells #[u] 38 (0, 0))
def Hld (w : World) (p v : Value) : Prop := ∃ B : Nat, p = .pointer (some ⟨B, 0, none⟩) ∧ w.heap[B]? = some (.cells #[v] 38 (0, 0))
theorem block_own {w w' : World} (q : Own w w') {B : Nat} {o : Obj} (h : w.heap[B]? = some o) : w'.heap[B]? = some o := (q.block B (Array.getElem?_eq_some_iff.1 h).1).trans h
theorem set_box {w : World} {hb : Nat} {v : Value} {T : TypeId} (h : w.heap[hb]? = some (.cells #[v] T (0, 0))) (u : Value) : (w.setCell ⟨hb, 0, none⟩ u).heap[hb]? = some (.cells #[u] T (0, 0)) := one_setCell h
section
variable {wc w w' : World} {n : Nat} {v p u z : Value} {B : Nat}
theorem Mk.own (h : Mk wc w n v) (q : Own w w') : Mk wc w' n v := by
  obtain ⟨g, h1, h2⟩ := h
  exact ⟨g, h1, row_own h2 q⟩
theorem Mk.fresh (h : Mk wc w n v) {m : Nat} (e : v.ownBlock = (Value.slice (some ⟨w.heap.size, 0, none⟩) m m).ownBlock) : False := by
  obtain ⟨g, rfl, h2⟩ := h
  have h3 := (h2.lt g rfl).2
  injection e with e
  have e : g = w.heap.size := e
  omega
theorem Mk.put (h : Mk wc w n v) (hb : w.heap[B]? = some (.cells #[u] 38 (0, 0))) (z : Value) : Mk wc (w.setCell ⟨B, 0, none⟩ z) n v := by
  obtain ⟨g, rfl, h2⟩ := h
  refine ⟨g, rfl, row_set h2 (fun e => ?_) z⟩
  have e : B = g := e
  subst e
  rcases h2.2 with ⟨h3, _⟩ | ⟨g', cap, cur, h3, _, h4, _⟩
  · cases h3
  · injection h3 with h3
    injection h3 with h3
    injection h3 with h3
    subst h3
    rw [hb] at h4
    injection h4 with h4
    injection h4 with _ h5
    exact absurd h5 (by decide)
theorem Pt.own (h : Pt wc w v) (q : Own w w') : Pt wc w' v := by
  obtain ⟨B, u, h1, h2, h3⟩ := h
  exact ⟨B, u, h1, h2, block_own q h3⟩
theorem Pt.fresh (h : Pt wc w v) (e : v = .pointer (some ⟨w.heap.size, 0, none⟩)) : False := by
  obtain ⟨B, u, rfl, _, h3⟩ := h
  have := (Array.getElem?_eq_some_iff.1 h3).1
  injection e with e
  injection e with e
  injection e with e
  omega
theorem pt_new (h : wc.heap.size ≤ w.heap.size) : Pt wc (w.alloc (.cells #[.slice none 0 0] 38)) (.pointer (some ⟨w.heap.size, 0, none⟩)) := ⟨_, _, rfl, h, heap_alloc_new w _⟩
theorem Pt.put (h : Pt wc w v) (hb : w.heap[B]? = some (.cells #[u] 38 (0, 0))) (z : Value) : Pt wc (w.setCell ⟨B, 0, none⟩ z) v := by
  obtain ⟨B', u', h1, h2, h3⟩ := h
  by_cases e : B' = B
  · subst e
    exact ⟨B', z, h1, h2, set_box h3 z⟩
  · exact ⟨B', u', h1, h2, (set_other w ⟨B, 0, none⟩ z e).trans h3⟩
theorem Hld.own (h : Hld w p v) (q : Own w w') : Hld w' p v := by
  obtain ⟨B, h1, h2⟩ := h
  exact ⟨B, h1, block_own q h2⟩
theorem Hld.far (h : Hld w p v) (hb : u = .pointer (some ⟨B, 0, none⟩)) (hn : p ≠ u) (z : Value) : Hld (w.setCell ⟨B, 0, none⟩ z) p v := by
  obtain ⟨B', h1, h2⟩ := h
  exact ⟨B', h1, (set_other w ⟨B, 0, none⟩ z fun e => hn (by rw [h1, hb, show B' = B from e])).trans h2⟩
theorem mk_run (w wc : World) (n : Nat) {i0 : TypeInfo} (hi : Try.prog.info? 4 = some i0) (hz0 : i0.zero = some (.bool false)) (hz1 : i0.size = 1) (hz2 : i0.bytes = 1) (hn : n ≤ 24) (hb : wc.heap.size ≤ w.heap.size) :
    ∃ w', (Instr.makeSlice 38 (.int .i64 (n : Int)) (.int .i64 (n : Int))).run Try.prog w = .ok (.slice (some ⟨w.heap.size, 0, none⟩) n n) w' ∧ w'.ownsRow wc.heap.size 4 1 (.slice (some ⟨w.heap.size, 0, none⟩) n n) n (cellsT (List.replicate n false)) ∧ w.grownBy w' none := by
  obtain ⟨w', h1, h2, h3⟩ := run_makeSlice_full (P := Try.prog) w wc.heap.size 38 4 i0 (.bool false) 1 Try.underlying38 hi hz0 hz1 .i64 .i64 n (by omega) (by rw [hz2]; omega) (by unfold maxLen; omega) hb
  refine ⟨w', h1, ?_, h3⟩
  have e : (madeCells (Value.bool false).cells (n * 1)).toList = cellsT (List.replicate n false) := by
    rw [Nat.mul_one]
    show (madeCells #[Value.bool false] n).toList = _
    rw [toList_madeCells_one]
    unfold cellsT
    rw [List.map_replicate]
  rw [← e]
  exact h2
end
theorem two_boxes (w : World) (v0 v1 : Value) (T0 T1 : TypeId) : ∃ W0, ((w.alloc (.cells #[v0] T0)).alloc (.cells #[v1] T1)) = W0 ∧ W0.cell? ⟨w.heap.size, 0, none⟩ = some v0 ∧ W0.cell? ⟨w.heap.size + 1, 0, none⟩ = some v1 ∧ Own w W0 ∧ W0.heap.size = w.heap.size + 2 := by
  refine ⟨_, rfl, ?_, ?_, ((Own.refl w).alloc _).alloc _, ?_⟩ <;> go_simp
theorem one_new (w : World) (v : Value) (T : TypeId) : ∃ W0, (w.alloc (.cells #[v] T)) = W0 ∧ W0.cell? ⟨w.heap.size, 0, none⟩ = some v ∧ W0.frozen? ⟨w.heap.size, 0, none⟩ = false ∧ Own w W0 ∧ W0.heap.size = w.heap.size + 1 := by
  refine ⟨_, rfl, ?_, ?_, (Own.refl w).alloc _, ?_⟩ <;> go_simp
theorem box_row {w : World} {base g n c B : Nat} {u : Value} {xs : List Value} (h2 : w.ownsRow base 4 1 (.slice (some ⟨g, 0, none⟩) n c) n xs) (hb : w.heap[B]? = some (.cells #[u] 38 (0, 0))) : B ≠ g := fun e => by
  subst e
  rcases h2.2 with ⟨h3, _⟩ | ⟨g', cap, cur, h3, _, h4, _⟩
  · cases h3
  · injection h3 with h3
    injection h3 with h3
    injection h3 with h3
    subst h3
    rw [hb] at h4
    injection h4 with h4
    injection h4 with _ h5
    exact absurd h5 (by decide)
/-- What reached leaves. -/
def Rea (l : List (List Bool)) (m : List Int) (w : World) (R W : Nat) (e : Ending) (w' : World) : Prop := ∃ g1 g2 rs cs, e = .returned (.tuple #[.slice (some ⟨g1, 0, none⟩) R R, .slice (some ⟨g2, 0, none⟩) W W]) ∧ Own w w' ∧ Rw2 w' w.heap.size g1 g2 R W rs cs ∧ Rc l m R W R rs cs
set_option maxRecDepth 100000 in
set_option maxHeartbeats 8000000 in
theorem reached_at (l : List (List Bool)) (m : List Int) (vl vm : Value) (W R : Nat) (V S : Nat → Prop) (w : World) (HT : Hid (Cels w vl (cellsB l))) (HM : Hid (Cel w vm (cellsI m))) (HP : Hid (IsP l m)) (HL : Hid (m.length = R)) (HS : Hid (Sq l)) (HR : Hid (l.length = R)) (HW : Hid (wd l = W)) (hW : W ≤ 24) (hR : R ≤ 24) (HV : Hid ((∀ r c, V r → at2 l r c = true → S c) ∧ ∀ c, S c → ∃ q : Nat, m[q]? = some (c : Int) ∧ V q)) (HVN : Hid (∀ i : Nat, m[i]? = some (-1) → V i)) :
    Calls Try.prog 32 #[vl, vm] w (Rea l m w R W) := by
  obtain ⟨i0, hi, hz0, hz1, hz2⟩ := info_parts (show (Try.prog.info? 4).map (fun i => (i.zero, i.size, i.bytes)) = some (some (.bool false), 1, 1) by kernel_rfl)
  have HI := Lib.hid hi
  have HZ0 := Lib.hid hz0
  have HZ1 := Lib.hid hz1
  have HZ2 := Lib.hid hz2
  clear hi hz0 hz1 hz2
  obtain ⟨AL, capl, rfl, t1, t2, _⟩ := tb_open HT.out
  obtain ⟨Am, capm, rfl, u1, u2, _⟩ := cel_int HM.out
  rw [HR.out] at t1 HT ⊢
  rw [HL.out] at u1 HM ⊢
  unfold maxLen at t2 u2
  go_enter Try.func32, Try.ntmps32
  go_upto_region 1 with (fail)
  obtain ⟨wc, hwc, k0, k1, qc, zc⟩ := two_boxes w (.slice AL R capl) (.slice Am R capm) 22 29
  rw [hwc]
  clear hwc
  generalize hbm : w.heap.size + 1 = bm at *
  generalize hbl : w.heap.size = bl at *
  have HBM := Lib.hid hbm
  have HBL := Lib.hid hbl
  have QC := Lib.hid qc
  have ZC := Lib.hid zc
  have HTW := HT
  replace HT := Lib.hid (HTW.out.own qc)
  clear hbm hbl qc zc
  refine RegI.wp_gen ?_
  intro A hA
  have HAct := Lib.hid hA
  have e2 : (A.tmps[2]?).getD undef = .pointer (some ⟨bl, 0, none⟩) := by rw [hA]; rfl
  have hsz : A.tmps.size = 33 := by rw [hA]; rfl
  clear hA
  refine RegI.region_slots [11, 12, 13, 14, 15, 16, 6, 7] (fun L x w' => Own wc w' ∧ (L.getD 0 false = true → x 11 = (.slice AL R capl)) ∧ (L.getD 1 false = true → x 12 = .int .i64 (R : Int)) ∧ (L.getD 2 false = true → Mk wc w' R (x 13)) ∧ (L.getD 3 false = true → x 14 = (.slice AL R capl)) ∧ (L.getD 4 false = true → x 15 = .int .i64 (W : Int)) ∧ (L.getD 5 false = true → Mk wc w' W (x 16)) ∧ (L.getD 6 false = true → Pt wc w' (x 6)) ∧ (L.getD 7 false = true → Pt wc w' (x 7)) ∧ (L.getD 8 false = true → (L.getD 6 false = true ∧ L.getD 2 false = true) ∧ Hld w' (x 6) (x 13)) ∧ (L.getD 9 false = true → (L.getD 7 false = true ∧ L.getD 5 false = true ∧ L.getD 8 false = true) ∧ Hld w' (x 7) (x 16)) ∧ (L.getD 6 false = true → L.getD 7 false = true → x 6 ≠ x 7) ∧ (L.getD 2 false = true → L.getD 5 false = true → (x 13).ownBlock ≠ (x 16).ownBlock)) (by kernel_rfl) (by kernel_rfl) ?h0 ?hs ?he
  case h0 => exact ⟨(Own.refl wc).drew, fun h => (RegI.rep_false h).elim, fun h => (RegI.rep_false h).elim, fun h => (RegI.rep_false h).elim, fun h => (RegI.rep_false h).elim, fun h => (RegI.rep_false h).elim, fun h => (RegI.rep_false h).elim, fun h => (RegI.rep_false h).elim, fun h => (RegI.rep_false h).elim, fun h => (RegI.rep_false h).elim, fun h => (RegI.rep_false h).elim, fun h _ => (RegI.rep_false h).elim, fun h _ => (RegI.rep_false h).elim⟩
  case hs =>
    refine And.intro ?s0 (And.intro ?s1 (And.intro ?s2 (And.intro ?s3 (And.intro ?s4 (And.intro ?s5 (And.intro ?s6 (And.intro ?s7 (And.intro ?s8 (And.intro ?s9 (trivial))))))))))
    case s0 =>
      refine RegI.step_value rfl rfl rfl (by decide) ?_
      rintro L x w1 ⟨hO, f0, f1, f2, f3, f4, f5, f6, f7, f8, f9, fd, fe⟩ hr hu
      have v2 : ((RegI.FX A _ x).tmps[2]?).getD undef = _ := (RegI.fx_outG (D := [11, 12, 13, 14, 15, 16, 6, 7]) (by decide)).trans e2
      have c0 := hO.cell k0
      refine ⟨(.slice AL R capl), w1, ?_, hO, fun _ => rfl, fun h => f1 (RegI.gd_ne (by decide) h), fun h => f2 (RegI.gd_ne (by decide) h), fun h => f3 (RegI.gd_ne (by decide) h), fun h => f4 (RegI.gd_ne (by decide) h), fun h => f5 (RegI.gd_ne (by decide) h), fun h => f6 (RegI.gd_ne (by decide) h), fun h => f7 (RegI.gd_ne (by decide) h), fun h => ⟨⟨RegI.gd_keep (f8 (RegI.gd_ne (by decide) h)).1.1, RegI.gd_keep (f8 (RegI.gd_ne (by decide) h)).1.2⟩, (f8 (RegI.gd_ne (by decide) h)).2⟩, fun h => ⟨⟨RegI.gd_keep (f9 (RegI.gd_ne (by decide) h)).1.1, RegI.gd_keep (f9 (RegI.gd_ne (by decide) h)).1.2.1, RegI.gd_keep (f9 (RegI.gd_ne (by decide) h)).1.2.2⟩, (f9 (RegI.gd_ne (by decide) h)).2⟩, fun h1 h2 => fd (RegI.gd_ne (by decide) h1) (RegI.gd_ne (by decide) h2), fun h1 h2 => fe (RegI.gd_ne (by decide) h1) (RegI.gd_ne (by decide) h2)⟩
      clear f0 f1 f2 f3 f4 f5 f6 f7 f8 f9 fd fe hr hu hO
      go_simp
    case s1 =>
      refine RegI.step_value rfl rfl rfl (by decide) ?_
      rintro L x w1 ⟨hO, f0, f1, f2, f3, f4, f5, f6, f7, f8, f9, fd, fe⟩ hr hu
      have v11 : ((RegI.FX A _ x).tmps[11]?).getD undef = _ := (RegI.fx_inG (D := [11, 12, 13, 14, 15, 16, 6, 7]) (by decide) (by rw [hsz]; decide)).trans (f0 (hr { on := 0, ground := .data } (by simp) rfl))
      refine ⟨.int .i64 (R : Int), w1, ?_, hO, fun h => f0 (RegI.gd_ne (by decide) h), fun _ => rfl, fun h => f2 (RegI.gd_ne (by decide) h), fun h => f3 (RegI.gd_ne (by decide) h), fun h => f4 (RegI.gd_ne (by decide) h), fun h => f5 (RegI.gd_ne (by decide) h), fun h => f6 (RegI.gd_ne (by decide) h), fun h => f7 (RegI.gd_ne (by decide) h), fun h => ⟨⟨RegI.gd_keep (f8 (RegI.gd_ne (by decide) h)).1.1, RegI.gd_keep (f8 (RegI.gd_ne (by decide) h)).1.2⟩, (f8 (RegI.gd_ne (by decide) h)).2⟩, fun h => ⟨⟨RegI.gd_keep (f9 (RegI.gd_ne (by decide) h)).1.1, RegI.gd_keep (f9 (RegI.gd_ne (by decide) h)).1.2.1, RegI.gd_keep (f9 (RegI.gd_ne (by decide) h)).1.2.2⟩, (f9 (RegI.gd_ne (by decide) h)).2⟩, fun h1 h2 => fd (RegI.gd_ne (by decide) h1) (RegI.gd_ne (by decide) h2), fun h1 h2 => fe (RegI.gd_ne (by decide) h1) (RegI.gd_ne (by decide) h2)⟩
      clear f0 f1 f2 f3 f4 f5 f6 f7 f8 f9 fd fe hr hu hO
      go_simp
    case s2 =>
      refine RegI.step_value rfl rfl rfl (by decide) ?_
      rintro L x w1 ⟨hO, f0, f1, f2, f3, f4, f5, f6, f7, f8, f9, fd, fe⟩ hr hu
      have v12 : ((RegI.FX A _ x).tmps[12]?).getD undef = _ := (RegI.fx_inG (D := [11, 12, 13, 14, 15, 16, 6, 7]) (by decide) (by rw [hsz]; decide)).trans (f1 (hr { on := 1, ground := .data } (by simp) rfl))
      obtain ⟨w2, hrun, hown, hgr⟩ := mk_run w1 wc R HI.out HZ0.out HZ1.out HZ2.out (by omega) hO.size
      have hg : Own w1 w2 := (Own.refl w1).grown hgr (by simp)
      refine ⟨.slice (some ⟨w1.heap.size, 0, none⟩) R R, w2, ?_, hO.trans hg, fun h => f0 (RegI.gd_ne (by decide) h), fun h => f1 (RegI.gd_ne (by decide) h), fun _ => ⟨_, rfl, hown⟩, fun h => f3 (RegI.gd_ne (by decide) h), fun h => f4 (RegI.gd_ne (by decide) h), fun h => (f5 (RegI.gd_ne (by decide) h)).own hg, fun h => (f6 (RegI.gd_ne (by decide) h)).own hg, fun h => (f7 (RegI.gd_ne (by decide) h)).own hg, fun h => (RegI.gd_no hu (f8 (RegI.gd_ne (by decide) h)).1.2).elim, fun h => ⟨⟨RegI.gd_keep (f9 (RegI.gd_ne (by decide) h)).1.1, RegI.gd_keep (f9 (RegI.gd_ne (by decide) h)).1.2.1, RegI.gd_keep (f9 (RegI.gd_ne (by decide) h)).1.2.2⟩, (f9 (RegI.gd_ne (by decide) h)).2.own hg⟩, fun h1 h2 => fd (RegI.gd_ne (by decide) h1) (RegI.gd_ne (by decide) h2), fun _ h2 e => (f5 (RegI.gd_ne (by decide) h2)).fresh e.symm⟩
      clear f0 f1 f2 f3 f4 f5 f6 f7 f8 f9 fd fe hr hu
      simp only [execOp, Act.eval, Array.getD_eq_getD_getElem?]
      rw [v12]
      show Sem.run _ (bind _ _) _ = _
      rw [Sem.run_bind, hrun]
      rfl
    case s3 =>
      refine RegI.step_value rfl rfl rfl (by decide) ?_
      rintro L x w1 ⟨hO, f0, f1, f2, f3, f4, f5, f6, f7, f8, f9, fd, fe⟩ hr hu
      have v2 : ((RegI.FX A _ x).tmps[2]?).getD undef = _ := (RegI.fx_outG (D := [11, 12, 13, 14, 15, 16, 6, 7]) (by decide)).trans e2
      have c0 := hO.cell k0
      refine ⟨(.slice AL R capl), w1, ?_, hO, fun h => f0 (RegI.gd_ne (by decide) h), fun h => f1 (RegI.gd_ne (by decide) h), fun h => f2 (RegI.gd_ne (by decide) h), fun _ => rfl, fun h => f4 (RegI.gd_ne (by decide) h), fun h => f5 (RegI.gd_ne (by decide) h), fun h => f6 (RegI.gd_ne (by decide) h), fun h => f7 (RegI.gd_ne (by decide) h), fun h => ⟨⟨RegI.gd_keep (f8 (RegI.gd_ne (by decide) h)).1.1, RegI.gd_keep (f8 (RegI.gd_ne (by decide) h)).1.2⟩, (f8 (RegI.gd_ne (by decide) h)).2⟩, fun h => ⟨⟨RegI.gd_keep (f9 (RegI.gd_ne (by decide) h)).1.1, RegI.gd_keep (f9 (RegI.gd_ne (by decide) h)).1.2.1, RegI.gd_keep (f9 (RegI.gd_ne (by decide) h)).1.2.2⟩, (f9 (RegI.gd_ne (by decide) h)).2⟩, fun h1 h2 => fd (RegI.gd_ne (by decide) h1) (RegI.gd_ne (by decide) h2), fun h1 h2 => fe (RegI.gd_ne (by decide) h1) (RegI.gd_ne (by decide) h2)⟩
      clear f0 f1 f2 f3 f4 f5 f6 f7 f8 f9 fd fe hr hu hO
      go_simp
    case s4 =>
      refine RegI.step_call rfl rfl rfl (by decide) ?_
      rintro L x w1 ⟨hO, f0, f1, f2, f3, f4, f5, f6, f7, f8, f9, fd, fe⟩ hr hu
      have v14 : ((RegI.FX A _ x).tmps[14]?).getD undef = _ := (RegI.fx_inG (D := [11, 12, 13, 14, 15, 16, 6, 7]) (by decide) (by rw [hsz]; decide)).trans (f3 (hr { on := 3, ground := .data } (by simp) rfl))
      refine ⟨27, #[(.slice AL R capl)], ?_, ?_⟩
      · clear f0 f1 f2 f3 f4 f5 f6 f7 f8 f9 fd fe hr hu hO
        rw [execOp_call_go]
        simp [Act.eval, v14]
      · refine (pwidth_at l (.slice AL R capl) W w1 (Lib.hid (HT.out.own hO)) HW).mono ?_
        rintro e w2 ⟨rfl, rfl⟩
        exact ⟨_, rfl, hO, fun h => f0 (RegI.gd_ne (by decide) h), fun h => f1 (RegI.gd_ne (by decide) h), fun h => f2 (RegI.gd_ne (by decide) h), fun h => f3 (RegI.gd_ne (by decide) h), fun _ => rfl, fun h => f5 (RegI.gd_ne (by decide) h), fun h => f6 (RegI.gd_ne (by decide) h), fun h => f7 (RegI.gd_ne (by decide) h), fun h => ⟨⟨RegI.gd_keep (f8 (RegI.gd_ne (by decide) h)).1.1, RegI.gd_keep (f8 (RegI.gd_ne (by decide) h)).1.2⟩, (f8 (RegI.gd_ne (by decide) h)).2⟩, fun h => ⟨⟨RegI.gd_keep (f9 (RegI.gd_ne (by decide) h)).1.1, RegI.gd_keep (f9 (RegI.gd_ne (by decide) h)).1.2.1, RegI.gd_keep (f9 (RegI.gd_ne (by decide) h)).1.2.2⟩, (f9 (RegI.gd_ne (by decide) h)).2⟩, fun h1 h2 => fd (RegI.gd_ne (by decide) h1) (RegI.gd_ne (by decide) h2), fun h1 h2 => fe (RegI.gd_ne (by decide) h1) (RegI.gd_ne (by decide) h2)⟩
    case s5 =>
      refine RegI.step_value rfl rfl rfl (by decide) ?_
      rintro L x w1 ⟨hO, f0, f1, f2, f3, f4, f5, f6, f7, f8, f9, fd, fe⟩ hr hu
      have v15 : ((RegI.FX A _ x).tmps[15]?).getD undef = _ := (RegI.fx_inG (D := [11, 12, 13, 14, 15, 16, 6, 7]) (by decide) (by rw [hsz]; decide)).trans (f4 (hr { on := 4, ground := .data } (by simp) rfl))
      obtain ⟨w2, hrun, hown, hgr⟩ := mk_run w1 wc W HI.out HZ0.out HZ1.out HZ2.out (by omega) hO.size
      have hg : Own w1 w2 := (Own.refl w1).grown hgr (by simp)
      refine ⟨.slice (some ⟨w1.heap.size, 0, none⟩) W W, w2, ?_, hO.trans hg, fun h => f0 (RegI.gd_ne (by decide) h), fun h => f1 (RegI.gd_ne (by decide) h), fun h => (f2 (RegI.gd_ne (by decide) h)).own hg, fun h => f3 (RegI.gd_ne (by decide) h), fun h => f4 (RegI.gd_ne (by decide) h), fun _ => ⟨_, rfl, hown⟩, fun h => (f6 (RegI.gd_ne (by decide) h)).own hg, fun h => (f7 (RegI.gd_ne (by decide) h)).own hg, fun h => ⟨⟨RegI.gd_keep (f8 (RegI.gd_ne (by decide) h)).1.1, RegI.gd_keep (f8 (RegI.gd_ne (by decide) h)).1.2⟩, (f8 (RegI.gd_ne (by decide) h)).2.own hg⟩, fun h => (RegI.gd_no hu (f9 (RegI.gd_ne (by decide) h)).1.2.1).elim, fun h1 h2 => fd (RegI.gd_ne (by decide) h1) (RegI.gd_ne (by decide) h2), fun h1 _ e => (f2 (RegI.gd_ne (by decide) h1)).fresh e⟩
      clear f0 f1 f2 f3 f4 f5 f6 f7 f8 f9 fd fe hr hu
      simp only [execOp, Act.eval, Array.getD_eq_getD_getElem?]
      rw [v15]
      show Sem.run _ (bind _ _) _ = _
      rw [Sem.run_bind, hrun]
      rfl
    case s6 =>
      refine RegI.step_value rfl rfl rfl (by decide) ?_
      rintro L x w1 ⟨hO, f0, f1, f2, f3, f4, f5, f6, f7, f8, f9, fd, fe⟩ hr hu
      have hg : Own w1 (w1.alloc (.cells #[.slice none 0 0] 38)) := (Own.refl w1).alloc _
      refine ⟨.pointer (some ⟨w1.heap.size, 0, none⟩), w1.alloc (.cells #[.slice none 0 0] 38), ?_, hO.trans hg, fun h => f0 (RegI.gd_ne (by decide) h), fun h => f1 (RegI.gd_ne (by decide) h), fun h => (f2 (RegI.gd_ne (by decide) h)).own hg, fun h => f3 (RegI.gd_ne (by decide) h), fun h => f4 (RegI.gd_ne (by decide) h), fun h => (f5 (RegI.gd_ne (by decide) h)).own hg, fun _ => pt_new hO.size, fun h => (f7 (RegI.gd_ne (by decide) h)).own hg, fun h => (RegI.gd_no hu (f8 (RegI.gd_ne (by decide) h)).1.1).elim, fun h => ⟨⟨RegI.gd_keep (f9 (RegI.gd_ne (by decide) h)).1.1, RegI.gd_keep (f9 (RegI.gd_ne (by decide) h)).1.2.1, RegI.gd_keep (f9 (RegI.gd_ne (by decide) h)).1.2.2⟩, (f9 (RegI.gd_ne (by decide) h)).2.own hg⟩, fun _ h2 e => (f7 (RegI.gd_ne (by decide) h2)).fresh e.symm, fun h1 h2 => fe (RegI.gd_ne (by decide) h1) (RegI.gd_ne (by decide) h2)⟩
      clear f0 f1 f2 f3 f4 f5 f6 f7 f8 f9 fd fe hr hu hO
      go_simp
    case s7 =>
      refine RegI.step_value rfl rfl rfl (by decide) ?_
      rintro L x w1 ⟨hO, f0, f1, f2, f3, f4, f5, f6, f7, f8, f9, fd, fe⟩ hr hu
      have hg : Own w1 (w1.alloc (.cells #[.slice none 0 0] 38)) := (Own.refl w1).alloc _
      refine ⟨.pointer (some ⟨w1.heap.size, 0, none⟩), w1.alloc (.cells #[.slice none 0 0] 38), ?_, hO.trans hg, fun h => f0 (RegI.gd_ne (by decide) h), fun h => f1 (RegI.gd_ne (by decide) h), fun h => (f2 (RegI.gd_ne (by decide) h)).own hg, fun h => f3 (RegI.gd_ne (by decide) h), fun h => f4 (RegI.gd_ne (by decide) h), fun h => (f5 (RegI.gd_ne (by decide) h)).own hg, fun h => (f6 (RegI.gd_ne (by decide) h)).own hg, fun _ => pt_new hO.size, fun h => ⟨⟨RegI.gd_keep (f8 (RegI.gd_ne (by decide) h)).1.1, RegI.gd_keep (f8 (RegI.gd_ne (by decide) h)).1.2⟩, (f8 (RegI.gd_ne (by decide) h)).2.own hg⟩, fun h => (RegI.gd_no hu (f9 (RegI.gd_ne (by decide) h)).1.1).elim, fun h1 _ e => (f6 (RegI.gd_ne (by decide) h1)).fresh e, fun h1 h2 => fe (RegI.gd_ne (by decide) h1) (RegI.gd_ne (by decide) h2)⟩
      clear f0 f1 f2 f3 f4 f5 f6 f7 f8 f9 fd fe hr hu hO
      go_simp
    case s8 =>
      refine RegI.step_skip rfl rfl rfl ?_
      rintro L x w1 ⟨hO, f0, f1, f2, f3, f4, f5, f6, f7, f8, f9, fd, fe⟩ hr hu
      have t1 := f6 (hr { on := 6, ground := .data } (by simp) rfl)
      have t2 := f2 (hr { on := 2, ground := .data } (by simp) rfl)
      have u1 := (hr { on := 6, ground := .data } (by simp) rfl)
      have u2 := (hr { on := 2, ground := .data } (by simp) rfl)
      have u3 := (hr { on := 7, ground := .phase } (by simp) rfl)
      have hnn := fd u1 u3
      obtain ⟨B, u, hB, hb1, hbox⟩ := t1
      obtain ⟨gz, hz, hzr⟩ := t2
      have v6 : ((RegI.FX A _ x).tmps[6]?).getD undef = _ := (RegI.fx_inG (D := [11, 12, 13, 14, 15, 16, 6, 7]) (by decide) (by rw [hsz]; decide)).trans hB
      have v13 : ((RegI.FX A _ x).tmps[13]?).getD undef = _ := (RegI.fx_inG (D := [11, 12, 13, 14, 15, 16, 6, 7]) (by decide) (by rw [hsz]; decide)).trans hz
      have cB := cell_of_one hbox
      have fB := free_of_one hbox
      have hbx := hB
      have hne : x 7 ≠ x 6 := fun e => hnn e.symm
      refine ⟨w1.setCell ⟨B, 0, none⟩ (.slice (some ⟨gz, 0, none⟩) R R), ?_, hO.setCell hb1 _, fun h => f0 (RegI.gd_ne (by decide) h), fun h => f1 (RegI.gd_ne (by decide) h), fun h => (f2 (RegI.gd_ne (by decide) h)).put hbox _, fun h => f3 (RegI.gd_ne (by decide) h), fun h => f4 (RegI.gd_ne (by decide) h), fun h => (f5 (RegI.gd_ne (by decide) h)).put hbox _, fun h => (f6 (RegI.gd_ne (by decide) h)).put hbox _, fun h => (f7 (RegI.gd_ne (by decide) h)).put hbox _, fun _ => ⟨⟨RegI.gd_keep u1, RegI.gd_keep u2⟩, ⟨B, hB, by rw [hz]; exact set_box hbox _⟩⟩, fun h => (RegI.gd_no hu (f9 (RegI.gd_ne (by decide) h)).1.2.2).elim, fun h1 h2 => fd (RegI.gd_ne (by decide) h1) (RegI.gd_ne (by decide) h2), fun h1 h2 => fe (RegI.gd_ne (by decide) h1) (RegI.gd_ne (by decide) h2)⟩
      clear f0 f1 f2 f3 f4 f5 f6 f7 f8 f9 fd fe hr hu hO hnn hne hbox hzr
      go_simp
    case s9 =>
      refine RegI.step_skip rfl rfl rfl ?_
      rintro L x w1 ⟨hO, f0, f1, f2, f3, f4, f5, f6, f7, f8, f9, fd, fe⟩ hr hu
      have t1 := f7 (hr { on := 7, ground := .data } (by simp) rfl)
      have t2 := f5 (hr { on := 5, ground := .data } (by simp) rfl)
      have u1 := (hr { on := 7, ground := .data } (by simp) rfl)
      have u2 := (hr { on := 5, ground := .data } (by simp) rfl)
      have u3 := (hr { on := 6, ground := .phase } (by simp) rfl)
      have hnn := fd u3 u1
      have u4 := (hr { on := 8, ground := .chain } (by simp) rfl)
      obtain ⟨B, u, hB, hb1, hbox⟩ := t1
      obtain ⟨gz, hz, hzr⟩ := t2
      have v7 : ((RegI.FX A _ x).tmps[7]?).getD undef = _ := (RegI.fx_inG (D := [11, 12, 13, 14, 15, 16, 6, 7]) (by decide) (by rw [hsz]; decide)).trans hB
      have v16 : ((RegI.FX A _ x).tmps[16]?).getD undef = _ := (RegI.fx_inG (D := [11, 12, 13, 14, 15, 16, 6, 7]) (by decide) (by rw [hsz]; decide)).trans hz
      have cB := cell_of_one hbox
      have fB := free_of_one hbox
      have hbx := hB
      have hne : x 6 ≠ x 7 := hnn
      refine ⟨w1.setCell ⟨B, 0, none⟩ (.slice (some ⟨gz, 0, none⟩) W W), ?_, hO.setCell hb1 _, fun h => f0 (RegI.gd_ne (by decide) h), fun h => f1 (RegI.gd_ne (by decide) h), fun h => (f2 (RegI.gd_ne (by decide) h)).put hbox _, fun h => f3 (RegI.gd_ne (by decide) h), fun h => f4 (RegI.gd_ne (by decide) h), fun h => (f5 (RegI.gd_ne (by decide) h)).put hbox _, fun h => (f6 (RegI.gd_ne (by decide) h)).put hbox _, fun h => (f7 (RegI.gd_ne (by decide) h)).put hbox _, fun h => ⟨⟨RegI.gd_keep (f8 (RegI.gd_ne (by decide) h)).1.1, RegI.gd_keep (f8 (RegI.gd_ne (by decide) h)).1.2⟩, (f8 (RegI.gd_ne (by decide) h)).2.far hbx hne _⟩, fun _ => ⟨⟨RegI.gd_keep u1, RegI.gd_keep u2, RegI.gd_keep u4⟩, ⟨B, hB, by rw [hz]; exact set_box hbox _⟩⟩, fun h1 h2 => fd (RegI.gd_ne (by decide) h1) (RegI.gd_ne (by decide) h2), fun h1 h2 => fe (RegI.gd_ne (by decide) h1) (RegI.gd_ne (by decide) h2)⟩
      clear f0 f1 f2 f3 f4 f5 f6 f7 f8 f9 fd fe hr hu hO hnn hne hbox hzr
      go_simp
  case he =>
    rintro L x w1 ⟨hO, f0, f1, f2, f3, f4, f5, f6, f7, f8, f9, fd, fe⟩ hall
    obtain ⟨gr, hgr, hrr⟩ := f2 (hall 2 (by decide))
    obtain ⟨gc, hgc, hrc⟩ := f5 (hall 5 (by decide))
    obtain ⟨br, hbr, hxr⟩ := (f8 (hall 8 (by decide))).2
    obtain ⟨bc, hbc, hxc⟩ := (f9 (hall 9 (by decide))).2
    have hne1 := fd (hall 6 (by decide)) (hall 7 (by decide))
    have hne2 := fe (hall 2 (by decide)) (hall 5 (by decide))
    rw [hgr] at hrr hxr hne2
    rw [hgc] at hrc hxc hne2
    rw [hbr, hbc] at hne1
    have hn1 : br ≠ bc := fun e => hne1 (by rw [e])
    have hn2 : gr ≠ gc := fun e => hne2 (by rw [e]; rfl)
    clear f0 f1 f2 f3 f4 f5 f6 f7 f8 f9 fd fe hall hsz e2 hne1 hne2
    rw [HAct.out]
    clear HAct
    simp only [RegI.FX, List.foldl_cons, List.foldl_nil, hbr, hbc]
    clear hgr hgc hbr hbc
    have cbr := cell_of_one hxr
    have cbc := cell_of_one hxc
    have HNB := Lib.hid (show br ≠ gr ∧ br ≠ gc ∧ bc ≠ gr ∧ bc ≠ gc from ⟨box_row hrr hxr, box_row hrc hxr, box_row hrr hxc, box_row hrc hxc⟩)
    have HRR := Lib.hid hrr
    have HRC := Lib.hid hrc
    have HO := Lib.hid hO
    have HNN := Lib.hid hn2
    have CBR := Lib.hid cbr
    have CBC := Lib.hid cbc
    have K0 := Lib.hid (hO.cell k0)
    have K1 := Lib.hid (hO.cell k1)
    clear hrr hrc hO hn1 hn2 hxr hxc cbr cbc k0 k1
    go_simp
    go_upto_region 3 with (fail)
    obtain ⟨w2, hw2, b0, f0, q2, z2⟩ := one_new w1 .nilFunc 54
    rw [hw2]
    clear hw2
    have HOW := Lib.hid (QC.out.trans HO.out)
    have HNZ := Lib.hid (show bl + 1 = bm ∧ wc.heap.size = bl + 2 ∧ wc.heap.size ≤ gr ∧ wc.heap.size ≤ gc ∧ gr < w1.heap.size ∧ gc < w1.heap.size ∧ br < w1.heap.size ∧ bc < w1.heap.size ∧ wc.heap.size ≤ w1.heap.size ∧ w.heap.size = bl from ⟨HBM.out, ZC.out, (HRR.out.lt gr rfl).1, (HRC.out.lt gc rfl).1, (HRR.out.lt gr rfl).2, (HRC.out.lt gc rfl).2, block_lt_of_cell CBR.out, block_lt_of_cell CBC.out, HO.out.size, HBL.out⟩)
    have Q2 := Lib.hid q2
    obtain ⟨bv, hbv⟩ : ∃ b, w1.heap.size = b := ⟨_, rfl⟩
    rw [hbv] at b0 f0 HNZ ⊢
    have HBV := Lib.hid hbv
    clear hbv q2 z2
    obtain ⟨vf, hvf⟩ : ∃ vf, Value.func (.func 40) #[] #[.pointer (some ⟨br, 0, none⟩), .pointer (some ⟨bl, 0, none⟩), .pointer (some ⟨bc, 0, none⟩), .pointer (some ⟨bv, 0, none⟩), .pointer (some ⟨bm, 0, none⟩)] = vf := ⟨_, rfl⟩
    have ng := HNZ.out
    have c0 : (w2.setCell ⟨bv, 0, none⟩ vf).cell? ⟨bv, 0, none⟩ = some vf := by go_simp
    have c1 : (w2.setCell ⟨bv, 0, none⟩ vf).cell? ⟨br, 0, none⟩ = some (.slice (some ⟨gr, 0, none⟩) R R) := (put_cell w2 vf (by show br ≠ bv; omega)).trans (Q2.out.cell CBR.out)
    have c2 : (w2.setCell ⟨bv, 0, none⟩ vf).cell? ⟨bc, 0, none⟩ = some (.slice (some ⟨gc, 0, none⟩) W W) := (put_cell w2 vf (by show bc ≠ bv; omega)).trans (Q2.out.cell CBC.out)
    have c3 : (w2.setCell ⟨bv, 0, none⟩ vf).cell? ⟨bl, 0, none⟩ = some (.slice AL R capl) := (put_cell w2 vf (by show bl ≠ bv; omega)).trans (Q2.out.cell K0.out)
    have c4 : (w2.setCell ⟨bv, 0, none⟩ vf).cell? ⟨bm, 0, none⟩ = some (.slice Am R capm) := (put_cell w2 vf (by show bm ≠ bv; omega)).trans (Q2.out.cell K1.out)
    have r1 := row_set (row_down (row_own HRR.out Q2.out) (show w.heap.size ≤ wc.heap.size by omega)) (p := ⟨bv, 0, none⟩) (by show bv ≠ gr; omega) vf
    have r2 := row_set (row_down (row_own HRC.out Q2.out) (show w.heap.size ≤ wc.heap.size by omega)) (p := ⟨bv, 0, none⟩) (by show bv ≠ gc; omega) vf
    have q3 : Own w (w2.setCell ⟨bv, 0, none⟩ vf) := (HOW.out.trans Q2.out).setCell (by show w.heap.size ≤ bv; omega) vf
    rw [← hvf] at c0 c1 c2 c3 c4 r1 r2 q3
    have AP : Av gr gc br bl bc bv bm := by
      have hb := HNB.out
      constructor
      · exact HNN.out
      all_goals (simp; omega)
    clear hvf ng
    go_upto_region 4 with (fail)
    generalize w2.setCell ⟨bv, 0, none⟩ (.func (.func 40) #[] #[.pointer (some ⟨br, 0, none⟩), .pointer (some ⟨bl, 0, none⟩), .pointer (some ⟨bc, 0, none⟩), .pointer (some ⟨bv, 0, none⟩), .pointer (some ⟨bm, 0, none⟩)]) = w3 at *
    have HVE := Lib.hid (show VE w w3 (.slice AL R capl) (.slice Am R capm) W R gr gc br bl bc bv bm (List.replicate R false) (List.replicate W false) from ⟨q3, c1, c3, c2, c0, c4, r1, r2⟩)
    have HAP := Lib.hid AP
    have HMW := Lib.hid (HM.out.own q3)
    clear c0 c1 c2 c3 r1 r2 q3 AP b0 f0
    have HRC0 := Lib.hid (rc_zero l m R W)
    go_wp2
    clear c4
    go_loopw [9, 10, 20] (fun _ _ vi wr => ∃ (j : Nat) (rs cs : List Bool), vi = .int .i64 (j : Int) ∧ j ≤ R ∧ Kp [gr, gc] w3 wr ∧ Rw2 wr w.heap.size gr gc R W rs cs ∧ Rc l m R W j rs cs) (fun _ _ vi _ => R - (intOf vi).toNat)
    case atStart => exact ⟨0, _, _, rfl, Nat.zero_le _, Kp.refl _ _, HVE.out.rw, HRC0.out⟩
    case round =>
      obtain ⟨j, rs, cs, rfl, hj, q, hrw, hrc⟩ := hrel
      have HQ := Lib.hid q
      have HRW := Lib.hid hrw
      have HRC := Lib.hid hrc
      have HV1 := Lib.hid (HVE.out.next HAP.out q hrw)
      clear q hrw hrc
      by_cases hlt : j < R
      · have hjz : (j : Int) < R := by omega
        have HMC := Lib.hid (cel_int (HM.out.own HV1.out.q))
        obtain ⟨A', cp', e', _, _, hop⟩ := HMC.out
        rw [HL.out] at e' hop
        injection e' with ea eb ec
        subst ea
        subst ec
        obtain ⟨gb, ob, rfl, hcell⟩ := hop (by omega)
        obtain ⟨x', hx⟩ : ∃ x', m[j]? = some x' := ⟨_, List.getElem?_eq_getElem (by rw [HL.out]; exact hlt)⟩
        have e0 := hcell j x' hx
        have HX := Lib.hid hx
        clear hop hcell hx eb HMC
        by_cases e : x' = -1
        · subst e
          have k8 := HV1.out.cv
          have hcall := visit_at l m w (.slice AL R capl) (.slice (some ⟨gb, ob, none⟩) R capm) W R gr gc br bl bc bv bm V S HTW HM HP HL HS HR HW HV HAP.out (un cs) rs cs j wr rfl HV1 (Lib.hid (HVN.out j HX.out)) hlt
          go_wp2_with (go_at_call 40; refine hcall.mono ?_; rintro e w5 ⟨rs2, cs2, rfl, q5, r5, v5⟩; have HQ5 := Lib.hid q5; have HR5 := Lib.hid r5; have HV5 := Lib.hid v5; clear q5 r5 v5)
          go_roundw
          case rel => exact ⟨j + 1, rs2, cs2, by go_num, hlt, HQ.out.trans HQ5.out, HR5.out, HRC.out.more HL.out hlt HV5.out⟩
          case measure => simp [intOf]; omega
        · have d1 : (x' == -1) = false := beq_eq_false_iff_ne.2 e
          have HSK := Lib.hid (HRC.out.skip (by rw [HX.out]; intro h; injection h with h; exact e h))
          go_wp2
          go_roundw
          case rel => exact ⟨j + 1, rs, cs, by go_num, hlt, HQ.out, HRW.out, HSK.out⟩
          case measure => simp [intOf]; omega
      · obtain rfl : R = j := by omega
        have k1 := HV1.out.cr
        have k2 := HV1.out.cc
        go_upto_region 10 with (fail)
        go_quiet (fail)
        go_wp2
        go_ret2
        exact ⟨gr, gc, rs, cs, rfl, HV1.out.q.drewN _, ⟨HRW.out.rr, HRW.out.rc⟩, HRC.out⟩
set_option maxRecDepth 100000 in
set_option maxHeartbeats 1000000 in
theorem places_at (s : List Bool) (v : Bool) (sv : Value) (n : Nat) (w : World) (HC : Hid (Cel w sv (cellsT s))) (HN : Hid (s.length = n)) (hn : n ≤ 24) :
    Calls Try.prog 33 #[sv, .bool v] w fun e w' => ∃ r, e = .returned r ∧ w'.ownsRow w.heap.size 3 1 r (plc s v n).length (cellsI (natsI (plc s v n))) ∧ Own w w' := by
  obtain ⟨i0, hi, hz0, hz1, hz2⟩ := info_parts (show (Try.prog.info? 3).map (fun i => (i.zero, i.size, i.bytes)) = some (some (.int .i64 0), 1, 8) by kernel_rfl)
  have HI := Lib.hid hi
  have HZ0 := Lib.hid hz0
  have HZ1 := Lib.hid hz1
  have HZ2 := Lib.hid hz2
  clear hi hz0 hz1 hz2
  obtain ⟨A, cap, rfl, h1, h2, h3⟩ := cel_bool HC.out
  unfold maxLen at h2
  rw [HN.out] at h1 h3 ⊢
  have H3 := Lib.hid h3
  clear h3
  go_enter Try.func33, Try.ntmps33
  go_wp2
  go_loopw [5, 6, 7, 10] (fun vo _ _ vi wr => ∃ j : Nat, vi = .int .i64 (j : Int) ∧ j ≤ n ∧ Own w wr ∧ wr.ownsRow w.heap.size 3 1 vo (plc s v j).length (cellsI (natsI (plc s v j)))) (fun _ _ _ vi _ => n - (intOf vi).toNat)
  case atStart => exact ⟨0, rfl, Nat.zero_le _, Own.refl w, World.ownsRow_nil _ _ _ _⟩
  case round =>
    obtain ⟨j, rfl, hj, q, hrow⟩ := hrel
    have HQ := Lib.hid q
    have HROW := Lib.hid hrow
    clear q hrow
    by_cases hlt : j < n
    · obtain ⟨g, off, rfl, h4⟩ := H3.out (by omega)
      obtain ⟨b, hb⟩ : ∃ b, s[j]? = some b := ⟨_, List.getElem?_eq_getElem (by rw [HN.out]; exact hlt)⟩
      have e0 := HQ.out.cell (h4 j b hb)
      have hjn : (j : Int) < n := by omega
      have HP := Lib.hid (plc_succ s v j)
      have HB := Lib.hid hb
      clear h4 hb
      by_cases e : b = v
      · subst e
        have d1 : (b == b) = true := by simp
        have HPS := Lib.hid (show plc s b (j + 1) = plc s b j ++ [j] by rw [HP.out, if_pos HB.out])
        obtain ⟨z, hz⟩ : ∃ z, (plc s b j).length = z := ⟨_, rfl⟩
        have hzj := plc_len s b j
        rw [hz] at hzj HROW
        have HZ := Lib.hid hz
        clear hz
        obtain ⟨Ao, co, rfl⟩ := rows_shape HROW.out
        have q7 := (Own.refl wr).alloc (.cells #[.int .i64 (j : Int)] 3)
        have HRO := Lib.hid (row_own HROW.out q7)
        have HCE := Lib.hid (cel_lit (w := wr) (T := 3) (cs := #[.int .i64 (j : Int)]) (xs := [.int .i64 (j : Int)]) (k := 1) rfl rfl (by unfold maxLen; decide))
        have HQ7 := Lib.hid (HQ.out.trans q7)
        have K2 := Lib.hid (show z + 1 ≤ maxLen by unfold maxLen; omega)
        have K3 := Lib.hid (show (z + 1) * 8 ≤ 140737488355328 by omega)
        clear q7
        go_wp2_with (at_builtin; refine wpList_append_k (by go_simp) _ _ 29 rfl w.heap.size 3 i0 (.int .i64 0) 8 Try.underlying29 HI.out HZ0.out HZ1.out HZ2.out rfl _ z (cellsI (natsI (plc s b j))) rfl HRO.out _ [.int .i64 (j : Int)] rfl HCE.out (fun x hx => by rw [List.mem_singleton.1 hx]; rfl) (z + 1) rfl K2.out K3.out HQ7.out.size ?_; intro v8 w8 hown8 hgr8; have HOWN8 := Lib.hid hown8; have HGR8 := Lib.hid hgr8; clear hown8 hgr8)
        go_roundw
        case rel =>
          refine ⟨j + 1, by go_num, hlt, row_after HQ7.out HRO.out HGR8.out (Nat.le_refl _), ?_⟩
          rw [HPS.out, List.length_append, HZ.out]
          unfold natsI
          rw [List.map_append, cellsI_app]
          exact HOWN8.out
        case measure => simp [intOf]; omega
      · have d1 : (b == v) = false := beq_eq_false_iff_ne.2 e
        have HPS := Lib.hid (show plc s v (j + 1) = plc s v j by rw [HP.out, if_neg (by rw [HB.out]; intro h; injection h with h; exact e h), List.append_nil])
        cases b <;> cases v <;> first
          | exact absurd rfl e
          | (clear e d1
             go_wp2
             go_roundw
             case rel => exact ⟨j + 1, by go_num, hlt, HQ.out, by rw [HPS.out]; exact HROW.out⟩
             case measure => simp [intOf]; omega)
    · obtain rfl : n = j := by omega
      go_wp2
      go_ret
      exact ⟨_, rfl, HROW.out, HQ.out⟩
end Go.Proofs.Ytdgahlojdllkbaa.MchW
