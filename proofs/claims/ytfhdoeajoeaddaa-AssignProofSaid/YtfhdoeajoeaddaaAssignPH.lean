/-
  Walks of the program of package assign: cheapest. Condition: none.
-/
import Derived.Test.YtfhdoeajoeaddaaAssignPG
import Derived.Test.YtfhdoeajoeaddaaRegInv
namespace Go.Proofs.Ytfhdoeajoeaddaa.AsgW
open Go.ChangeShapes Go.WideShapes Go.ChangeAt Go.RowKit
open PairW CelW TabW MchW AsgP
/-- A row of one's own that has one number everywhere. -/
def Zr (wc w : World) (n : Nat) (z : Int) (v : Value) : Prop := ∃ g, v = sv g n ∧ w.ownsRow wc.heap.size 3 1 v n (cellsI (List.replicate n z))
/-- A literal of one number. -/
def On (w : World) (v : Value) : Prop := ∃ B, v = .slice (some ⟨B, 0, none⟩) 1 1 ∧ Blk w B #[.int .i64 (-1)] 3
/-- Four rows, each in a block of its own. -/
structure R4 (wc w : World) (n gU gV gL gH : Nat) : Prop where
  rU : w.ownsRow wc.heap.size 3 1 (sv gU n) n (cellsI (List.replicate n 0))
  rV : w.ownsRow wc.heap.size 3 1 (sv gV n) n (cellsI (List.replicate n 0))
  rL : w.ownsRow wc.heap.size 3 1 (sv gL n) n (cellsI (List.replicate n (-1)))
  rH : w.ownsRow wc.heap.size 3 1 (sv gH n) n (cellsI (List.replicate n (-1)))
  dUV : gU ≠ gV
  dUL : gU ≠ gL
  dUH : gU ≠ gH
  dVL : gV ≠ gL
  dVH : gV ≠ gH
  dLH : gL ≠ gH
def Ag (wc w : World) (n : Nat) (vc v : Value) : Prop := ∃ gU gV gL gH, v = .agg #[vc, sv gU n, sv gV n, sv gL n, sv gH n] ∧ R4 wc w n gU gV gL gH
def Bo (wc w : World) (n : Nat) (vc v : Value) : Prop := ∃ B gU gV gL gH, v = .pointer (some ⟨B, 0, none⟩) ∧ Blk w B #[vc, sv gU n, sv gV n, sv gL n, sv gH n] 46 ∧ R4 wc w n gU gV gL gH
section
variable {wc w w' : World} {n gU gV gL gH : Nat} {z : Int} {v u vc : Value}
theorem Zr.own (h : Zr wc w n z v) (q : Own w w') : Zr wc w' n z v := by
  obtain ⟨g, h1, h2⟩ := h
  exact ⟨g, h1, row_own h2 q⟩
theorem Zr.fresh (h : Zr wc w n z v) {m : Nat} (hm : w.heap.size ≤ m) (e : v.ownBlock = (sv m n).ownBlock) : False := by
  obtain ⟨g, rfl, h2⟩ := h
  have h3 := (h2.lt g rfl).2
  injection e with e
  have e : g = m := e
  omega
theorem On.own (h : On w v) (q : Own w w') : On w' v := by
  obtain ⟨g, h1, h2⟩ := h
  exact ⟨g, h1, h2.own q⟩
theorem R4.own (h : R4 wc w n gU gV gL gH) (q : Own w w') : R4 wc w' n gU gV gL gH := ⟨row_own h.rU q, row_own h.rV q, row_own h.rL q, row_own h.rH q, h.dUV, h.dUL, h.dUH, h.dVL, h.dVH, h.dLH⟩
theorem Ag.own (h : Ag wc w n vc v) (q : Own w w') : Ag wc w' n vc v := by
  obtain ⟨gU, gV, gL, gH, h1, h2⟩ := h
  exact ⟨gU, gV, gL, gH, h1, h2.own q⟩
theorem Bo.own (h : Bo wc w n vc v) (q : Own w w') : Bo wc w' n vc v := by
  obtain ⟨B, gU, gV, gL, gH, h1, h2, h3⟩ := h
  exact ⟨B, gU, gV, gL, gH, h1, h2.own q, h3.own q⟩
end
theorem mki_run (w wc : World) (n : Nat) {i0 : TypeInfo} (hi : Try.prog.info? 3 = some i0) (hz0 : i0.zero = some (.int .i64 0)) (hz1 : i0.size = 1) (hz2 : i0.bytes = 8) (hn : n ≤ 16) (hb : wc.heap.size ≤ w.heap.size) :
    ∃ w', (Instr.makeSlice 23 (.int .i64 (n : Int)) (.int .i64 (n : Int))).run Try.prog w = .ok (.slice (some ⟨w.heap.size, 0, none⟩) n n) w' ∧ w'.ownsRow wc.heap.size 3 1 (.slice (some ⟨w.heap.size, 0, none⟩) n n) n (cellsI (List.replicate n 0)) ∧ w.grownBy w' none := by
  obtain ⟨w', h1, h2, h3⟩ := run_makeSlice_full (P := Try.prog) w wc.heap.size 23 3 i0 (.int .i64 0) 1 Try.underlying23 hi hz0 hz1 .i64 .i64 n (by omega) (by rw [hz2]; omega) (by unfold maxLen; omega) hb
  refine ⟨w', h1, ?_, h3⟩
  have e : (madeCells (Value.int .i64 0).cells (n * 1)).toList = cellsI (List.replicate n 0) := by
    rw [Nat.mul_one]
    show (madeCells #[Value.int .i64 0] n).toList = _
    rw [toList_madeCells_one]
    unfold cellsI
    rw [List.map_replicate]
  rw [← e]
  exact h2
set_option maxRecDepth 100000 in
set_option maxHeartbeats 8000000 in
theorem pcheap_at (c : Tb) (vc : Value) (n : Nat) (w : World) (HT : Hid (Cels w vc (cellsG c))) (HS : Hid (Sqa c)) (HR : Hid (Rga c)) (HN : Hid (c.length = n)) (b1 : n ≤ 16) :
    Calls Try.prog 23 #[vc] w fun e w' => ∃ (P gU gV gL gH : Nat) (U V L H : List Int), e = .returned (.pointer (some ⟨P, 0, none⟩)) ∧ Own w w' ∧ Pn w' w.heap.size P vc n gU gV gL gH U V L H ∧ Pf c n U V L H := by
  obtain ⟨i0, hi, hz0, hz1, hz2⟩ := info_parts (show (Try.prog.info? 3).map (fun i => (i.zero, i.size, i.bytes)) = some (some (.int .i64 0), 1, 8) by kernel_rfl)
  have HI := Lib.hid hi
  have HZ0 := Lib.hid hz0
  have HZ1 := Lib.hid hz1
  have HZ2 := Lib.hid hz2
  clear hi hz0 hz1 hz2
  obtain ⟨AC, capc, rfl, t1, t2, _⟩ := gt_open HT.out
  rw [HN.out] at t1 HT ⊢
  unfold maxLen at t2
  go_enter Try.func23, Try.ntmps23
  go_upto_region 1 with (fail)
  refine RegI.wp_gen ?_
  intro A hA
  have HAct := Lib.hid hA
  have e0 : (A.tmps[0]?).getD undef = (.slice AC n capc) := by rw [hA]; rfl
  have hsz : A.tmps.size = 32 := by rw [hA]; rfl
  clear hA
  refine RegI.region_slots [5, 6, 7, 8, 9, 10, 11, 12, 13, 14, 15, 16, 17, 18, 19, 20, 21, 3] (fun L x w' => Own w w' ∧ (L.getD 0 false = true → x 5 = (.slice AC n capc)) ∧ (L.getD 1 false = true → x 6 = (.slice AC n capc)) ∧ (L.getD 2 false = true → x 7 = .int .i64 (n : Int)) ∧ (L.getD 3 false = true → Zr w w' n 0 (x 8)) ∧ (L.getD 4 false = true → x 9 = (.slice AC n capc)) ∧ (L.getD 5 false = true → x 10 = .int .i64 (n : Int)) ∧ (L.getD 6 false = true → Zr w w' n 0 (x 11)) ∧ (L.getD 7 false = true → On w' (x 12)) ∧ (L.getD 8 false = true → x 13 = (.slice AC n capc)) ∧ (L.getD 9 false = true → x 14 = .int .i64 (n : Int)) ∧ (L.getD 10 false = true → Zr w w' n (-1) (x 15)) ∧ (L.getD 11 false = true → On w' (x 16)) ∧ (L.getD 12 false = true → x 17 = (.slice AC n capc)) ∧ (L.getD 13 false = true → x 18 = .int .i64 (n : Int)) ∧ (L.getD 14 false = true → Zr w w' n (-1) (x 19)) ∧ (L.getD 15 false = true → Ag w w' n (.slice AC n capc) (x 20)) ∧ (L.getD 16 false = true → Bo w w' n (.slice AC n capc) (x 21)) ∧ (L.getD 17 false = true → Bo w w' n (.slice AC n capc) (x 3)) ∧ (L.getD 3 false = true → L.getD 6 false = true → (x 8).ownBlock ≠ (x 11).ownBlock) ∧ (L.getD 3 false = true → L.getD 10 false = true → (x 8).ownBlock ≠ (x 15).ownBlock) ∧ (L.getD 3 false = true → L.getD 14 false = true → (x 8).ownBlock ≠ (x 19).ownBlock) ∧ (L.getD 6 false = true → L.getD 10 false = true → (x 11).ownBlock ≠ (x 15).ownBlock) ∧ (L.getD 6 false = true → L.getD 14 false = true → (x 11).ownBlock ≠ (x 19).ownBlock) ∧ (L.getD 10 false = true → L.getD 14 false = true → (x 15).ownBlock ≠ (x 19).ownBlock)) (by kernel_rfl) (by kernel_rfl) ?h0 ?hs ?he
  case h0 => exact ⟨(Own.refl w).drew, fun h => (RegI.rep_false h).elim, fun h => (RegI.rep_false h).elim, fun h => (RegI.rep_false h).elim, fun h => (RegI.rep_false h).elim, fun h => (RegI.rep_false h).elim, fun h => (RegI.rep_false h).elim, fun h => (RegI.rep_false h).elim, fun h => (RegI.rep_false h).elim, fun h => (RegI.rep_false h).elim, fun h => (RegI.rep_false h).elim, fun h => (RegI.rep_false h).elim, fun h => (RegI.rep_false h).elim, fun h => (RegI.rep_false h).elim, fun h => (RegI.rep_false h).elim, fun h => (RegI.rep_false h).elim, fun h => (RegI.rep_false h).elim, fun h => (RegI.rep_false h).elim, fun h => (RegI.rep_false h).elim, fun h _ => (RegI.rep_false h).elim, fun h _ => (RegI.rep_false h).elim, fun h _ => (RegI.rep_false h).elim, fun h _ => (RegI.rep_false h).elim, fun h _ => (RegI.rep_false h).elim, fun h _ => (RegI.rep_false h).elim⟩
  case hs =>
    refine And.intro ?s0 (And.intro ?s1 (And.intro ?s2 (And.intro ?s3 (And.intro ?s4 (And.intro ?s5 (And.intro ?s6 (And.intro ?s7 (And.intro ?s8 (And.intro ?s9 (And.intro ?s10 (And.intro ?s11 (And.intro ?s12 (And.intro ?s13 (And.intro ?s14 (And.intro ?s15 (And.intro ?s16 (And.intro ?s17 (trivial))))))))))))))))))
    case s0 =>
      refine RegI.step_value rfl rfl rfl (by decide) ?_
      rintro L x w1 ⟨hO, f0, f1, f2, f3, f4, f5, f6, f7, f8, f9, f10, f11, f12, f13, f14, f15, f16, f17, d3_6, d3_10, d3_14, d6_10, d6_14, d10_14⟩ hr hu
      have v0 : ((RegI.FX A _ x).tmps[0]?).getD undef = _ := (RegI.fx_outG (D := [5, 6, 7, 8, 9, 10, 11, 12, 13, 14, 15, 16, 17, 18, 19, 20, 21, 3]) (by decide)).trans e0
      refine ⟨(.slice AC n capc), w1, ?_, hO, fun _ => rfl, fun h => f1 (RegI.gd_ne (by decide) h), fun h => f2 (RegI.gd_ne (by decide) h), fun h => f3 (RegI.gd_ne (by decide) h), fun h => f4 (RegI.gd_ne (by decide) h), fun h => f5 (RegI.gd_ne (by decide) h), fun h => f6 (RegI.gd_ne (by decide) h), fun h => f7 (RegI.gd_ne (by decide) h), fun h => f8 (RegI.gd_ne (by decide) h), fun h => f9 (RegI.gd_ne (by decide) h), fun h => f10 (RegI.gd_ne (by decide) h), fun h => f11 (RegI.gd_ne (by decide) h), fun h => f12 (RegI.gd_ne (by decide) h), fun h => f13 (RegI.gd_ne (by decide) h), fun h => f14 (RegI.gd_ne (by decide) h), fun h => f15 (RegI.gd_ne (by decide) h), fun h => f16 (RegI.gd_ne (by decide) h), fun h => f17 (RegI.gd_ne (by decide) h), fun h1 h2 => d3_6 (RegI.gd_ne (by decide) h1) (RegI.gd_ne (by decide) h2), fun h1 h2 => d3_10 (RegI.gd_ne (by decide) h1) (RegI.gd_ne (by decide) h2), fun h1 h2 => d3_14 (RegI.gd_ne (by decide) h1) (RegI.gd_ne (by decide) h2), fun h1 h2 => d6_10 (RegI.gd_ne (by decide) h1) (RegI.gd_ne (by decide) h2), fun h1 h2 => d6_14 (RegI.gd_ne (by decide) h1) (RegI.gd_ne (by decide) h2), fun h1 h2 => d10_14 (RegI.gd_ne (by decide) h1) (RegI.gd_ne (by decide) h2)⟩
      clear f0 f1 f2 f3 f4 f5 f6 f7 f8 f9 f10 f11 f12 f13 f14 f15 f16 f17 d3_6 d3_10 d3_14 d6_10 d6_14 d10_14 hr hu hO
      go_simp
    case s1 =>
      refine RegI.step_value rfl rfl rfl (by decide) ?_
      rintro L x w1 ⟨hO, f0, f1, f2, f3, f4, f5, f6, f7, f8, f9, f10, f11, f12, f13, f14, f15, f16, f17, d3_6, d3_10, d3_14, d6_10, d6_14, d10_14⟩ hr hu
      have v0 : ((RegI.FX A _ x).tmps[0]?).getD undef = _ := (RegI.fx_outG (D := [5, 6, 7, 8, 9, 10, 11, 12, 13, 14, 15, 16, 17, 18, 19, 20, 21, 3]) (by decide)).trans e0
      refine ⟨(.slice AC n capc), w1, ?_, hO, fun h => f0 (RegI.gd_ne (by decide) h), fun _ => rfl, fun h => f2 (RegI.gd_ne (by decide) h), fun h => f3 (RegI.gd_ne (by decide) h), fun h => f4 (RegI.gd_ne (by decide) h), fun h => f5 (RegI.gd_ne (by decide) h), fun h => f6 (RegI.gd_ne (by decide) h), fun h => f7 (RegI.gd_ne (by decide) h), fun h => f8 (RegI.gd_ne (by decide) h), fun h => f9 (RegI.gd_ne (by decide) h), fun h => f10 (RegI.gd_ne (by decide) h), fun h => f11 (RegI.gd_ne (by decide) h), fun h => f12 (RegI.gd_ne (by decide) h), fun h => f13 (RegI.gd_ne (by decide) h), fun h => f14 (RegI.gd_ne (by decide) h), fun h => f15 (RegI.gd_ne (by decide) h), fun h => f16 (RegI.gd_ne (by decide) h), fun h => f17 (RegI.gd_ne (by decide) h), fun h1 h2 => d3_6 (RegI.gd_ne (by decide) h1) (RegI.gd_ne (by decide) h2), fun h1 h2 => d3_10 (RegI.gd_ne (by decide) h1) (RegI.gd_ne (by decide) h2), fun h1 h2 => d3_14 (RegI.gd_ne (by decide) h1) (RegI.gd_ne (by decide) h2), fun h1 h2 => d6_10 (RegI.gd_ne (by decide) h1) (RegI.gd_ne (by decide) h2), fun h1 h2 => d6_14 (RegI.gd_ne (by decide) h1) (RegI.gd_ne (by decide) h2), fun h1 h2 => d10_14 (RegI.gd_ne (by decide) h1) (RegI.gd_ne (by decide) h2)⟩
      clear f0 f1 f2 f3 f4 f5 f6 f7 f8 f9 f10 f11 f12 f13 f14 f15 f16 f17 d3_6 d3_10 d3_14 d6_10 d6_14 d10_14 hr hu hO
      go_simp
    case s2 =>
      refine RegI.step_value rfl rfl rfl (by decide) ?_
      rintro L x w1 ⟨hO, f0, f1, f2, f3, f4, f5, f6, f7, f8, f9, f10, f11, f12, f13, f14, f15, f16, f17, d3_6, d3_10, d3_14, d6_10, d6_14, d10_14⟩ hr hu
      have v6 : ((RegI.FX A _ x).tmps[6]?).getD undef = _ := (RegI.fx_inG (D := [5, 6, 7, 8, 9, 10, 11, 12, 13, 14, 15, 16, 17, 18, 19, 20, 21, 3]) (by decide) (by rw [hsz]; decide)).trans (f1 (hr { on := 1, ground := .data } (by simp) rfl))
      refine ⟨.int .i64 (n : Int), w1, ?_, hO, fun h => f0 (RegI.gd_ne (by decide) h), fun h => f1 (RegI.gd_ne (by decide) h), fun _ => rfl, fun h => f3 (RegI.gd_ne (by decide) h), fun h => f4 (RegI.gd_ne (by decide) h), fun h => f5 (RegI.gd_ne (by decide) h), fun h => f6 (RegI.gd_ne (by decide) h), fun h => f7 (RegI.gd_ne (by decide) h), fun h => f8 (RegI.gd_ne (by decide) h), fun h => f9 (RegI.gd_ne (by decide) h), fun h => f10 (RegI.gd_ne (by decide) h), fun h => f11 (RegI.gd_ne (by decide) h), fun h => f12 (RegI.gd_ne (by decide) h), fun h => f13 (RegI.gd_ne (by decide) h), fun h => f14 (RegI.gd_ne (by decide) h), fun h => f15 (RegI.gd_ne (by decide) h), fun h => f16 (RegI.gd_ne (by decide) h), fun h => f17 (RegI.gd_ne (by decide) h), fun h1 h2 => d3_6 (RegI.gd_ne (by decide) h1) (RegI.gd_ne (by decide) h2), fun h1 h2 => d3_10 (RegI.gd_ne (by decide) h1) (RegI.gd_ne (by decide) h2), fun h1 h2 => d3_14 (RegI.gd_ne (by decide) h1) (RegI.gd_ne (by decide) h2), fun h1 h2 => d6_10 (RegI.gd_ne (by decide) h1) (RegI.gd_ne (by decide) h2), fun h1 h2 => d6_14 (RegI.gd_ne (by decide) h1) (RegI.gd_ne (by decide) h2), fun h1 h2 => d10_14 (RegI.gd_ne (by decide) h1) (RegI.gd_ne (by decide) h2)⟩
      clear f0 f1 f2 f3 f4 f5 f6 f7 f8 f9 f10 f11 f12 f13 f14 f15 f16 f17 d3_6 d3_10 d3_14 d6_10 d6_14 d10_14 hr hu hO
      go_simp
    case s3 =>
      refine RegI.step_value rfl rfl rfl (by decide) ?_
      rintro L x w1 ⟨hO, f0, f1, f2, f3, f4, f5, f6, f7, f8, f9, f10, f11, f12, f13, f14, f15, f16, f17, d3_6, d3_10, d3_14, d6_10, d6_14, d10_14⟩ hr hu
      have v7 : ((RegI.FX A _ x).tmps[7]?).getD undef = _ := (RegI.fx_inG (D := [5, 6, 7, 8, 9, 10, 11, 12, 13, 14, 15, 16, 17, 18, 19, 20, 21, 3]) (by decide) (by rw [hsz]; decide)).trans (f2 (hr { on := 2, ground := .data } (by simp) rfl))
      obtain ⟨w2, hrun, hown, hgr⟩ := mki_run w1 w n HI.out HZ0.out HZ1.out HZ2.out b1 hO.size
      have hg : Own w1 w2 := (Own.refl w1).grown hgr (by simp)
      have hfr : w1.heap.size ≤ w1.heap.size := Nat.le_refl _
      refine ⟨.slice (some ⟨w1.heap.size, 0, none⟩) n n, w2, ?_, hO.trans hg, fun h => f0 (RegI.gd_ne (by decide) h), fun h => f1 (RegI.gd_ne (by decide) h), fun h => f2 (RegI.gd_ne (by decide) h), fun _ => ⟨_, rfl, hown⟩, fun h => f4 (RegI.gd_ne (by decide) h), fun h => f5 (RegI.gd_ne (by decide) h), fun h => (f6 (RegI.gd_ne (by decide) h)).own hg, fun h => (f7 (RegI.gd_ne (by decide) h)).own hg, fun h => f8 (RegI.gd_ne (by decide) h), fun h => f9 (RegI.gd_ne (by decide) h), fun h => (f10 (RegI.gd_ne (by decide) h)).own hg, fun h => (f11 (RegI.gd_ne (by decide) h)).own hg, fun h => f12 (RegI.gd_ne (by decide) h), fun h => f13 (RegI.gd_ne (by decide) h), fun h => (f14 (RegI.gd_ne (by decide) h)).own hg, fun h => (f15 (RegI.gd_ne (by decide) h)).own hg, fun h => (f16 (RegI.gd_ne (by decide) h)).own hg, fun h => (f17 (RegI.gd_ne (by decide) h)).own hg, fun _ h2 e => (f6 (RegI.gd_ne (by decide) h2)).fresh hfr e.symm, fun _ h2 e => (f10 (RegI.gd_ne (by decide) h2)).fresh hfr e.symm, fun _ h2 e => (f14 (RegI.gd_ne (by decide) h2)).fresh hfr e.symm, fun h1 h2 => d6_10 (RegI.gd_ne (by decide) h1) (RegI.gd_ne (by decide) h2), fun h1 h2 => d6_14 (RegI.gd_ne (by decide) h1) (RegI.gd_ne (by decide) h2), fun h1 h2 => d10_14 (RegI.gd_ne (by decide) h1) (RegI.gd_ne (by decide) h2)⟩
      clear f0 f1 f2 f3 f4 f5 f6 f7 f8 f9 f10 f11 f12 f13 f14 f15 f16 f17 d3_6 d3_10 d3_14 d6_10 d6_14 d10_14 hr hu
      simp only [execOp, Act.eval, Array.getD_eq_getD_getElem?]
      rw [v7]
      show Sem.run _ (bind _ _) _ = _
      rw [Sem.run_bind, hrun]
      rfl
    case s4 =>
      refine RegI.step_value rfl rfl rfl (by decide) ?_
      rintro L x w1 ⟨hO, f0, f1, f2, f3, f4, f5, f6, f7, f8, f9, f10, f11, f12, f13, f14, f15, f16, f17, d3_6, d3_10, d3_14, d6_10, d6_14, d10_14⟩ hr hu
      have v0 : ((RegI.FX A _ x).tmps[0]?).getD undef = _ := (RegI.fx_outG (D := [5, 6, 7, 8, 9, 10, 11, 12, 13, 14, 15, 16, 17, 18, 19, 20, 21, 3]) (by decide)).trans e0
      refine ⟨(.slice AC n capc), w1, ?_, hO, fun h => f0 (RegI.gd_ne (by decide) h), fun h => f1 (RegI.gd_ne (by decide) h), fun h => f2 (RegI.gd_ne (by decide) h), fun h => f3 (RegI.gd_ne (by decide) h), fun _ => rfl, fun h => f5 (RegI.gd_ne (by decide) h), fun h => f6 (RegI.gd_ne (by decide) h), fun h => f7 (RegI.gd_ne (by decide) h), fun h => f8 (RegI.gd_ne (by decide) h), fun h => f9 (RegI.gd_ne (by decide) h), fun h => f10 (RegI.gd_ne (by decide) h), fun h => f11 (RegI.gd_ne (by decide) h), fun h => f12 (RegI.gd_ne (by decide) h), fun h => f13 (RegI.gd_ne (by decide) h), fun h => f14 (RegI.gd_ne (by decide) h), fun h => f15 (RegI.gd_ne (by decide) h), fun h => f16 (RegI.gd_ne (by decide) h), fun h => f17 (RegI.gd_ne (by decide) h), fun h1 h2 => d3_6 (RegI.gd_ne (by decide) h1) (RegI.gd_ne (by decide) h2), fun h1 h2 => d3_10 (RegI.gd_ne (by decide) h1) (RegI.gd_ne (by decide) h2), fun h1 h2 => d3_14 (RegI.gd_ne (by decide) h1) (RegI.gd_ne (by decide) h2), fun h1 h2 => d6_10 (RegI.gd_ne (by decide) h1) (RegI.gd_ne (by decide) h2), fun h1 h2 => d6_14 (RegI.gd_ne (by decide) h1) (RegI.gd_ne (by decide) h2), fun h1 h2 => d10_14 (RegI.gd_ne (by decide) h1) (RegI.gd_ne (by decide) h2)⟩
      clear f0 f1 f2 f3 f4 f5 f6 f7 f8 f9 f10 f11 f12 f13 f14 f15 f16 f17 d3_6 d3_10 d3_14 d6_10 d6_14 d10_14 hr hu hO
      go_simp
    case s5 =>
      refine RegI.step_value rfl rfl rfl (by decide) ?_
      rintro L x w1 ⟨hO, f0, f1, f2, f3, f4, f5, f6, f7, f8, f9, f10, f11, f12, f13, f14, f15, f16, f17, d3_6, d3_10, d3_14, d6_10, d6_14, d10_14⟩ hr hu
      have v9 : ((RegI.FX A _ x).tmps[9]?).getD undef = _ := (RegI.fx_inG (D := [5, 6, 7, 8, 9, 10, 11, 12, 13, 14, 15, 16, 17, 18, 19, 20, 21, 3]) (by decide) (by rw [hsz]; decide)).trans (f4 (hr { on := 4, ground := .data } (by simp) rfl))
      refine ⟨.int .i64 (n : Int), w1, ?_, hO, fun h => f0 (RegI.gd_ne (by decide) h), fun h => f1 (RegI.gd_ne (by decide) h), fun h => f2 (RegI.gd_ne (by decide) h), fun h => f3 (RegI.gd_ne (by decide) h), fun h => f4 (RegI.gd_ne (by decide) h), fun _ => rfl, fun h => f6 (RegI.gd_ne (by decide) h), fun h => f7 (RegI.gd_ne (by decide) h), fun h => f8 (RegI.gd_ne (by decide) h), fun h => f9 (RegI.gd_ne (by decide) h), fun h => f10 (RegI.gd_ne (by decide) h), fun h => f11 (RegI.gd_ne (by decide) h), fun h => f12 (RegI.gd_ne (by decide) h), fun h => f13 (RegI.gd_ne (by decide) h), fun h => f14 (RegI.gd_ne (by decide) h), fun h => f15 (RegI.gd_ne (by decide) h), fun h => f16 (RegI.gd_ne (by decide) h), fun h => f17 (RegI.gd_ne (by decide) h), fun h1 h2 => d3_6 (RegI.gd_ne (by decide) h1) (RegI.gd_ne (by decide) h2), fun h1 h2 => d3_10 (RegI.gd_ne (by decide) h1) (RegI.gd_ne (by decide) h2), fun h1 h2 => d3_14 (RegI.gd_ne (by decide) h1) (RegI.gd_ne (by decide) h2), fun h1 h2 => d6_10 (RegI.gd_ne (by decide) h1) (RegI.gd_ne (by decide) h2), fun h1 h2 => d6_14 (RegI.gd_ne (by decide) h1) (RegI.gd_ne (by decide) h2), fun h1 h2 => d10_14 (RegI.gd_ne (by decide) h1) (RegI.gd_ne (by decide) h2)⟩
      clear f0 f1 f2 f3 f4 f5 f6 f7 f8 f9 f10 f11 f12 f13 f14 f15 f16 f17 d3_6 d3_10 d3_14 d6_10 d6_14 d10_14 hr hu hO
      go_simp
    case s6 =>
      refine RegI.step_value rfl rfl rfl (by decide) ?_
      rintro L x w1 ⟨hO, f0, f1, f2, f3, f4, f5, f6, f7, f8, f9, f10, f11, f12, f13, f14, f15, f16, f17, d3_6, d3_10, d3_14, d6_10, d6_14, d10_14⟩ hr hu
      have v10 : ((RegI.FX A _ x).tmps[10]?).getD undef = _ := (RegI.fx_inG (D := [5, 6, 7, 8, 9, 10, 11, 12, 13, 14, 15, 16, 17, 18, 19, 20, 21, 3]) (by decide) (by rw [hsz]; decide)).trans (f5 (hr { on := 5, ground := .data } (by simp) rfl))
      obtain ⟨w2, hrun, hown, hgr⟩ := mki_run w1 w n HI.out HZ0.out HZ1.out HZ2.out b1 hO.size
      have hg : Own w1 w2 := (Own.refl w1).grown hgr (by simp)
      have hfr : w1.heap.size ≤ w1.heap.size := Nat.le_refl _
      refine ⟨.slice (some ⟨w1.heap.size, 0, none⟩) n n, w2, ?_, hO.trans hg, fun h => f0 (RegI.gd_ne (by decide) h), fun h => f1 (RegI.gd_ne (by decide) h), fun h => f2 (RegI.gd_ne (by decide) h), fun h => (f3 (RegI.gd_ne (by decide) h)).own hg, fun h => f4 (RegI.gd_ne (by decide) h), fun h => f5 (RegI.gd_ne (by decide) h), fun _ => ⟨_, rfl, hown⟩, fun h => (f7 (RegI.gd_ne (by decide) h)).own hg, fun h => f8 (RegI.gd_ne (by decide) h), fun h => f9 (RegI.gd_ne (by decide) h), fun h => (f10 (RegI.gd_ne (by decide) h)).own hg, fun h => (f11 (RegI.gd_ne (by decide) h)).own hg, fun h => f12 (RegI.gd_ne (by decide) h), fun h => f13 (RegI.gd_ne (by decide) h), fun h => (f14 (RegI.gd_ne (by decide) h)).own hg, fun h => (f15 (RegI.gd_ne (by decide) h)).own hg, fun h => (f16 (RegI.gd_ne (by decide) h)).own hg, fun h => (f17 (RegI.gd_ne (by decide) h)).own hg, fun h1 _ e => (f3 (RegI.gd_ne (by decide) h1)).fresh hfr e, fun h1 h2 => d3_10 (RegI.gd_ne (by decide) h1) (RegI.gd_ne (by decide) h2), fun h1 h2 => d3_14 (RegI.gd_ne (by decide) h1) (RegI.gd_ne (by decide) h2), fun _ h2 e => (f10 (RegI.gd_ne (by decide) h2)).fresh hfr e.symm, fun _ h2 e => (f14 (RegI.gd_ne (by decide) h2)).fresh hfr e.symm, fun h1 h2 => d10_14 (RegI.gd_ne (by decide) h1) (RegI.gd_ne (by decide) h2)⟩
      clear f0 f1 f2 f3 f4 f5 f6 f7 f8 f9 f10 f11 f12 f13 f14 f15 f16 f17 d3_6 d3_10 d3_14 d6_10 d6_14 d10_14 hr hu
      simp only [execOp, Act.eval, Array.getD_eq_getD_getElem?]
      rw [v10]
      show Sem.run _ (bind _ _) _ = _
      rw [Sem.run_bind, hrun]
      rfl
    case s7 =>
      refine RegI.step_value rfl rfl rfl (by decide) ?_
      rintro L x w1 ⟨hO, f0, f1, f2, f3, f4, f5, f6, f7, f8, f9, f10, f11, f12, f13, f14, f15, f16, f17, d3_6, d3_10, d3_14, d6_10, d6_14, d10_14⟩ hr hu
      have hg : Own w1 (w1.alloc (.cells #[.int .i64 (-1)] 3)) := (Own.refl w1).alloc _
      refine ⟨.slice (some ⟨w1.heap.size, 0, none⟩) 1 1, w1.alloc (.cells #[.int .i64 (-1)] 3), ?_, hO.trans hg, fun h => f0 (RegI.gd_ne (by decide) h), fun h => f1 (RegI.gd_ne (by decide) h), fun h => f2 (RegI.gd_ne (by decide) h), fun h => (f3 (RegI.gd_ne (by decide) h)).own hg, fun h => f4 (RegI.gd_ne (by decide) h), fun h => f5 (RegI.gd_ne (by decide) h), fun h => (f6 (RegI.gd_ne (by decide) h)).own hg, fun _ => ⟨_, rfl, Blk.new w1 _ _⟩, fun h => f8 (RegI.gd_ne (by decide) h), fun h => f9 (RegI.gd_ne (by decide) h), fun h => (f10 (RegI.gd_ne (by decide) h)).own hg, fun h => (f11 (RegI.gd_ne (by decide) h)).own hg, fun h => f12 (RegI.gd_ne (by decide) h), fun h => f13 (RegI.gd_ne (by decide) h), fun h => (f14 (RegI.gd_ne (by decide) h)).own hg, fun h => (f15 (RegI.gd_ne (by decide) h)).own hg, fun h => (f16 (RegI.gd_ne (by decide) h)).own hg, fun h => (f17 (RegI.gd_ne (by decide) h)).own hg, fun h1 h2 => d3_6 (RegI.gd_ne (by decide) h1) (RegI.gd_ne (by decide) h2), fun h1 h2 => d3_10 (RegI.gd_ne (by decide) h1) (RegI.gd_ne (by decide) h2), fun h1 h2 => d3_14 (RegI.gd_ne (by decide) h1) (RegI.gd_ne (by decide) h2), fun h1 h2 => d6_10 (RegI.gd_ne (by decide) h1) (RegI.gd_ne (by decide) h2), fun h1 h2 => d6_14 (RegI.gd_ne (by decide) h1) (RegI.gd_ne (by decide) h2), fun h1 h2 => d10_14 (RegI.gd_ne (by decide) h1) (RegI.gd_ne (by decide) h2)⟩
      clear f0 f1 f2 f3 f4 f5 f6 f7 f8 f9 f10 f11 f12 f13 f14 f15 f16 f17 d3_6 d3_10 d3_14 d6_10 d6_14 d10_14 hr hu hO
      go_simp
    case s8 =>
      refine RegI.step_value rfl rfl rfl (by decide) ?_
      rintro L x w1 ⟨hO, f0, f1, f2, f3, f4, f5, f6, f7, f8, f9, f10, f11, f12, f13, f14, f15, f16, f17, d3_6, d3_10, d3_14, d6_10, d6_14, d10_14⟩ hr hu
      have v0 : ((RegI.FX A _ x).tmps[0]?).getD undef = _ := (RegI.fx_outG (D := [5, 6, 7, 8, 9, 10, 11, 12, 13, 14, 15, 16, 17, 18, 19, 20, 21, 3]) (by decide)).trans e0
      refine ⟨(.slice AC n capc), w1, ?_, hO, fun h => f0 (RegI.gd_ne (by decide) h), fun h => f1 (RegI.gd_ne (by decide) h), fun h => f2 (RegI.gd_ne (by decide) h), fun h => f3 (RegI.gd_ne (by decide) h), fun h => f4 (RegI.gd_ne (by decide) h), fun h => f5 (RegI.gd_ne (by decide) h), fun h => f6 (RegI.gd_ne (by decide) h), fun h => f7 (RegI.gd_ne (by decide) h), fun _ => rfl, fun h => f9 (RegI.gd_ne (by decide) h), fun h => f10 (RegI.gd_ne (by decide) h), fun h => f11 (RegI.gd_ne (by decide) h), fun h => f12 (RegI.gd_ne (by decide) h), fun h => f13 (RegI.gd_ne (by decide) h), fun h => f14 (RegI.gd_ne (by decide) h), fun h => f15 (RegI.gd_ne (by decide) h), fun h => f16 (RegI.gd_ne (by decide) h), fun h => f17 (RegI.gd_ne (by decide) h), fun h1 h2 => d3_6 (RegI.gd_ne (by decide) h1) (RegI.gd_ne (by decide) h2), fun h1 h2 => d3_10 (RegI.gd_ne (by decide) h1) (RegI.gd_ne (by decide) h2), fun h1 h2 => d3_14 (RegI.gd_ne (by decide) h1) (RegI.gd_ne (by decide) h2), fun h1 h2 => d6_10 (RegI.gd_ne (by decide) h1) (RegI.gd_ne (by decide) h2), fun h1 h2 => d6_14 (RegI.gd_ne (by decide) h1) (RegI.gd_ne (by decide) h2), fun h1 h2 => d10_14 (RegI.gd_ne (by decide) h1) (RegI.gd_ne (by decide) h2)⟩
      clear f0 f1 f2 f3 f4 f5 f6 f7 f8 f9 f10 f11 f12 f13 f14 f15 f16 f17 d3_6 d3_10 d3_14 d6_10 d6_14 d10_14 hr hu hO
      go_simp
    case s9 =>
      refine RegI.step_value rfl rfl rfl (by decide) ?_
      rintro L x w1 ⟨hO, f0, f1, f2, f3, f4, f5, f6, f7, f8, f9, f10, f11, f12, f13, f14, f15, f16, f17, d3_6, d3_10, d3_14, d6_10, d6_14, d10_14⟩ hr hu
      have v13 : ((RegI.FX A _ x).tmps[13]?).getD undef = _ := (RegI.fx_inG (D := [5, 6, 7, 8, 9, 10, 11, 12, 13, 14, 15, 16, 17, 18, 19, 20, 21, 3]) (by decide) (by rw [hsz]; decide)).trans (f8 (hr { on := 8, ground := .data } (by simp) rfl))
      refine ⟨.int .i64 (n : Int), w1, ?_, hO, fun h => f0 (RegI.gd_ne (by decide) h), fun h => f1 (RegI.gd_ne (by decide) h), fun h => f2 (RegI.gd_ne (by decide) h), fun h => f3 (RegI.gd_ne (by decide) h), fun h => f4 (RegI.gd_ne (by decide) h), fun h => f5 (RegI.gd_ne (by decide) h), fun h => f6 (RegI.gd_ne (by decide) h), fun h => f7 (RegI.gd_ne (by decide) h), fun h => f8 (RegI.gd_ne (by decide) h), fun _ => rfl, fun h => f10 (RegI.gd_ne (by decide) h), fun h => f11 (RegI.gd_ne (by decide) h), fun h => f12 (RegI.gd_ne (by decide) h), fun h => f13 (RegI.gd_ne (by decide) h), fun h => f14 (RegI.gd_ne (by decide) h), fun h => f15 (RegI.gd_ne (by decide) h), fun h => f16 (RegI.gd_ne (by decide) h), fun h => f17 (RegI.gd_ne (by decide) h), fun h1 h2 => d3_6 (RegI.gd_ne (by decide) h1) (RegI.gd_ne (by decide) h2), fun h1 h2 => d3_10 (RegI.gd_ne (by decide) h1) (RegI.gd_ne (by decide) h2), fun h1 h2 => d3_14 (RegI.gd_ne (by decide) h1) (RegI.gd_ne (by decide) h2), fun h1 h2 => d6_10 (RegI.gd_ne (by decide) h1) (RegI.gd_ne (by decide) h2), fun h1 h2 => d6_14 (RegI.gd_ne (by decide) h1) (RegI.gd_ne (by decide) h2), fun h1 h2 => d10_14 (RegI.gd_ne (by decide) h1) (RegI.gd_ne (by decide) h2)⟩
      clear f0 f1 f2 f3 f4 f5 f6 f7 f8 f9 f10 f11 f12 f13 f14 f15 f16 f17 d3_6 d3_10 d3_14 d6_10 d6_14 d10_14 hr hu hO
      go_simp
    case s10 =>
      refine RegI.step_call rfl rfl rfl (by decide) ?_
      rintro L x w1 ⟨hO, f0, f1, f2, f3, f4, f5, f6, f7, f8, f9, f10, f11, f12, f13, f14, f15, f16, f17, d3_6, d3_10, d3_14, d6_10, d6_14, d10_14⟩ hr hu
      obtain ⟨B, hB, hb⟩ := f7 (hr { on := 7, ground := .data } (by simp) rfl)
      have v12 : ((RegI.FX A _ x).tmps[12]?).getD undef = _ := (RegI.fx_inG (D := [5, 6, 7, 8, 9, 10, 11, 12, 13, 14, 15, 16, 17, 18, 19, 20, 21, 3]) (by decide) (by rw [hsz]; decide)).trans (hB)
      have v14 : ((RegI.FX A _ x).tmps[14]?).getD undef = _ := (RegI.fx_inG (D := [5, 6, 7, 8, 9, 10, 11, 12, 13, 14, 15, 16, 17, 18, 19, 20, 21, 3]) (by decide) (by rw [hsz]; decide)).trans (f9 (hr { on := 9, ground := .data } (by simp) rfl))
      refine ⟨32, #[.slice (some ⟨B, 0, none⟩) 1 1, .int .i64 (n : Int)], ?_, ?_⟩
      · clear f0 f1 f2 f3 f4 f5 f6 f7 f8 f9 f10 f11 f12 f13 f14 f15 f16 f17 d3_6 d3_10 d3_14 d6_10 d6_14 d10_14 hr hu hO
        rw [execOp_call_go]
        simp [Act.eval, v12, v14]
      · refine (prep_at n B w1 (hb.cell 0) (by omega)).mono ?_
        rintro e w2 ⟨gg, rfl, hown, hg⟩
        have hfr : w1.heap.size ≤ gg := (hown.lt gg rfl).1
        exact ⟨_, rfl, hO.trans hg, fun h => f0 (RegI.gd_ne (by decide) h), fun h => f1 (RegI.gd_ne (by decide) h), fun h => f2 (RegI.gd_ne (by decide) h), fun h => (f3 (RegI.gd_ne (by decide) h)).own hg, fun h => f4 (RegI.gd_ne (by decide) h), fun h => f5 (RegI.gd_ne (by decide) h), fun h => (f6 (RegI.gd_ne (by decide) h)).own hg, fun h => (f7 (RegI.gd_ne (by decide) h)).own hg, fun h => f8 (RegI.gd_ne (by decide) h), fun h => f9 (RegI.gd_ne (by decide) h), fun _ => ⟨gg, rfl, row_down hown hO.size⟩, fun h => (f11 (RegI.gd_ne (by decide) h)).own hg, fun h => f12 (RegI.gd_ne (by decide) h), fun h => f13 (RegI.gd_ne (by decide) h), fun h => (f14 (RegI.gd_ne (by decide) h)).own hg, fun h => (f15 (RegI.gd_ne (by decide) h)).own hg, fun h => (f16 (RegI.gd_ne (by decide) h)).own hg, fun h => (f17 (RegI.gd_ne (by decide) h)).own hg, fun h1 h2 => d3_6 (RegI.gd_ne (by decide) h1) (RegI.gd_ne (by decide) h2), fun h1 _ e => (f3 (RegI.gd_ne (by decide) h1)).fresh hfr e, fun h1 h2 => d3_14 (RegI.gd_ne (by decide) h1) (RegI.gd_ne (by decide) h2), fun h1 _ e => (f6 (RegI.gd_ne (by decide) h1)).fresh hfr e, fun h1 h2 => d6_14 (RegI.gd_ne (by decide) h1) (RegI.gd_ne (by decide) h2), fun _ h2 e => (f14 (RegI.gd_ne (by decide) h2)).fresh hfr e.symm⟩
    case s11 =>
      refine RegI.step_value rfl rfl rfl (by decide) ?_
      rintro L x w1 ⟨hO, f0, f1, f2, f3, f4, f5, f6, f7, f8, f9, f10, f11, f12, f13, f14, f15, f16, f17, d3_6, d3_10, d3_14, d6_10, d6_14, d10_14⟩ hr hu
      have hg : Own w1 (w1.alloc (.cells #[.int .i64 (-1)] 3)) := (Own.refl w1).alloc _
      refine ⟨.slice (some ⟨w1.heap.size, 0, none⟩) 1 1, w1.alloc (.cells #[.int .i64 (-1)] 3), ?_, hO.trans hg, fun h => f0 (RegI.gd_ne (by decide) h), fun h => f1 (RegI.gd_ne (by decide) h), fun h => f2 (RegI.gd_ne (by decide) h), fun h => (f3 (RegI.gd_ne (by decide) h)).own hg, fun h => f4 (RegI.gd_ne (by decide) h), fun h => f5 (RegI.gd_ne (by decide) h), fun h => (f6 (RegI.gd_ne (by decide) h)).own hg, fun h => (f7 (RegI.gd_ne (by decide) h)).own hg, fun h => f8 (RegI.gd_ne (by decide) h), fun h => f9 (RegI.gd_ne (by decide) h), fun h => (f10 (RegI.gd_ne (by decide) h)).own hg, fun _ => ⟨_, rfl, Blk.new w1 _ _⟩, fun h => f12 (RegI.gd_ne (by decide) h), fun h => f13 (RegI.gd_ne (by decide) h), fun h => (f14 (RegI.gd_ne (by decide) h)).own hg, fun h => (f15 (RegI.gd_ne (by decide) h)).own hg, fun h => (f16 (RegI.gd_ne (by decide) h)).own hg, fun h => (f17 (RegI.gd_ne (by decide) h)).own hg, fun h1 h2 => d3_6 (RegI.gd_ne (by decide) h1) (RegI.gd_ne (by decide) h2), fun h1 h2 => d3_10 (RegI.gd_ne (by decide) h1) (RegI.gd_ne (by decide) h2), fun h1 h2 => d3_14 (RegI.gd_ne (by decide) h1) (RegI.gd_ne (by decide) h2), fun h1 h2 => d6_10 (RegI.gd_ne (by decide) h1) (RegI.gd_ne (by decide) h2), fun h1 h2 => d6_14 (RegI.gd_ne (by decide) h1) (RegI.gd_ne (by decide) h2), fun h1 h2 => d10_14 (RegI.gd_ne (by decide) h1) (RegI.gd_ne (by decide) h2)⟩
      clear f0 f1 f2 f3 f4 f5 f6 f7 f8 f9 f10 f11 f12 f13 f14 f15 f16 f17 d3_6 d3_10 d3_14 d6_10 d6_14 d10_14 hr hu hO
      go_simp
    case s12 =>
      refine RegI.step_value rfl rfl rfl (by decide) ?_
      rintro L x w1 ⟨hO, f0, f1, f2, f3, f4, f5, f6, f7, f8, f9, f10, f11, f12, f13, f14, f15, f16, f17, d3_6, d3_10, d3_14, d6_10, d6_14, d10_14⟩ hr hu
      have v0 : ((RegI.FX A _ x).tmps[0]?).getD undef = _ := (RegI.fx_outG (D := [5, 6, 7, 8, 9, 10, 11, 12, 13, 14, 15, 16, 17, 18, 19, 20, 21, 3]) (by decide)).trans e0
      refine ⟨(.slice AC n capc), w1, ?_, hO, fun h => f0 (RegI.gd_ne (by decide) h), fun h => f1 (RegI.gd_ne (by decide) h), fun h => f2 (RegI.gd_ne (by decide) h), fun h => f3 (RegI.gd_ne (by decide) h), fun h => f4 (RegI.gd_ne (by decide) h), fun h => f5 (RegI.gd_ne (by decide) h), fun h => f6 (RegI.gd_ne (by decide) h), fun h => f7 (RegI.gd_ne (by decide) h), fun h => f8 (RegI.gd_ne (by decide) h), fun h => f9 (RegI.gd_ne (by decide) h), fun h => f10 (RegI.gd_ne (by decide) h), fun h => f11 (RegI.gd_ne (by decide) h), fun _ => rfl, fun h => f13 (RegI.gd_ne (by decide) h), fun h => f14 (RegI.gd_ne (by decide) h), fun h => f15 (RegI.gd_ne (by decide) h), fun h => f16 (RegI.gd_ne (by decide) h), fun h => f17 (RegI.gd_ne (by decide) h), fun h1 h2 => d3_6 (RegI.gd_ne (by decide) h1) (RegI.gd_ne (by decide) h2), fun h1 h2 => d3_10 (RegI.gd_ne (by decide) h1) (RegI.gd_ne (by decide) h2), fun h1 h2 => d3_14 (RegI.gd_ne (by decide) h1) (RegI.gd_ne (by decide) h2), fun h1 h2 => d6_10 (RegI.gd_ne (by decide) h1) (RegI.gd_ne (by decide) h2), fun h1 h2 => d6_14 (RegI.gd_ne (by decide) h1) (RegI.gd_ne (by decide) h2), fun h1 h2 => d10_14 (RegI.gd_ne (by decide) h1) (RegI.gd_ne (by decide) h2)⟩
      clear f0 f1 f2 f3 f4 f5 f6 f7 f8 f9 f10 f11 f12 f13 f14 f15 f16 f17 d3_6 d3_10 d3_14 d6_10 d6_14 d10_14 hr hu hO
      go_simp
    case s13 =>
      refine RegI.step_value rfl rfl rfl (by decide) ?_
      rintro L x w1 ⟨hO, f0, f1, f2, f3, f4, f5, f6, f7, f8, f9, f10, f11, f12, f13, f14, f15, f16, f17, d3_6, d3_10, d3_14, d6_10, d6_14, d10_14⟩ hr hu
      have v17 : ((RegI.FX A _ x).tmps[17]?).getD undef = _ := (RegI.fx_inG (D := [5, 6, 7, 8, 9, 10, 11, 12, 13, 14, 15, 16, 17, 18, 19, 20, 21, 3]) (by decide) (by rw [hsz]; decide)).trans (f12 (hr { on := 12, ground := .data } (by simp) rfl))
      refine ⟨.int .i64 (n : Int), w1, ?_, hO, fun h => f0 (RegI.gd_ne (by decide) h), fun h => f1 (RegI.gd_ne (by decide) h), fun h => f2 (RegI.gd_ne (by decide) h), fun h => f3 (RegI.gd_ne (by decide) h), fun h => f4 (RegI.gd_ne (by decide) h), fun h => f5 (RegI.gd_ne (by decide) h), fun h => f6 (RegI.gd_ne (by decide) h), fun h => f7 (RegI.gd_ne (by decide) h), fun h => f8 (RegI.gd_ne (by decide) h), fun h => f9 (RegI.gd_ne (by decide) h), fun h => f10 (RegI.gd_ne (by decide) h), fun h => f11 (RegI.gd_ne (by decide) h), fun h => f12 (RegI.gd_ne (by decide) h), fun _ => rfl, fun h => f14 (RegI.gd_ne (by decide) h), fun h => f15 (RegI.gd_ne (by decide) h), fun h => f16 (RegI.gd_ne (by decide) h), fun h => f17 (RegI.gd_ne (by decide) h), fun h1 h2 => d3_6 (RegI.gd_ne (by decide) h1) (RegI.gd_ne (by decide) h2), fun h1 h2 => d3_10 (RegI.gd_ne (by decide) h1) (RegI.gd_ne (by decide) h2), fun h1 h2 => d3_14 (RegI.gd_ne (by decide) h1) (RegI.gd_ne (by decide) h2), fun h1 h2 => d6_10 (RegI.gd_ne (by decide) h1) (RegI.gd_ne (by decide) h2), fun h1 h2 => d6_14 (RegI.gd_ne (by decide) h1) (RegI.gd_ne (by decide) h2), fun h1 h2 => d10_14 (RegI.gd_ne (by decide) h1) (RegI.gd_ne (by decide) h2)⟩
      clear f0 f1 f2 f3 f4 f5 f6 f7 f8 f9 f10 f11 f12 f13 f14 f15 f16 f17 d3_6 d3_10 d3_14 d6_10 d6_14 d10_14 hr hu hO
      go_simp
    case s14 =>
      refine RegI.step_call rfl rfl rfl (by decide) ?_
      rintro L x w1 ⟨hO, f0, f1, f2, f3, f4, f5, f6, f7, f8, f9, f10, f11, f12, f13, f14, f15, f16, f17, d3_6, d3_10, d3_14, d6_10, d6_14, d10_14⟩ hr hu
      obtain ⟨B, hB, hb⟩ := f11 (hr { on := 11, ground := .data } (by simp) rfl)
      have v16 : ((RegI.FX A _ x).tmps[16]?).getD undef = _ := (RegI.fx_inG (D := [5, 6, 7, 8, 9, 10, 11, 12, 13, 14, 15, 16, 17, 18, 19, 20, 21, 3]) (by decide) (by rw [hsz]; decide)).trans (hB)
      have v18 : ((RegI.FX A _ x).tmps[18]?).getD undef = _ := (RegI.fx_inG (D := [5, 6, 7, 8, 9, 10, 11, 12, 13, 14, 15, 16, 17, 18, 19, 20, 21, 3]) (by decide) (by rw [hsz]; decide)).trans (f13 (hr { on := 13, ground := .data } (by simp) rfl))
      refine ⟨32, #[.slice (some ⟨B, 0, none⟩) 1 1, .int .i64 (n : Int)], ?_, ?_⟩
      · clear f0 f1 f2 f3 f4 f5 f6 f7 f8 f9 f10 f11 f12 f13 f14 f15 f16 f17 d3_6 d3_10 d3_14 d6_10 d6_14 d10_14 hr hu hO
        rw [execOp_call_go]
        simp [Act.eval, v16, v18]
      · refine (prep_at n B w1 (hb.cell 0) (by omega)).mono ?_
        rintro e w2 ⟨gg, rfl, hown, hg⟩
        have hfr : w1.heap.size ≤ gg := (hown.lt gg rfl).1
        exact ⟨_, rfl, hO.trans hg, fun h => f0 (RegI.gd_ne (by decide) h), fun h => f1 (RegI.gd_ne (by decide) h), fun h => f2 (RegI.gd_ne (by decide) h), fun h => (f3 (RegI.gd_ne (by decide) h)).own hg, fun h => f4 (RegI.gd_ne (by decide) h), fun h => f5 (RegI.gd_ne (by decide) h), fun h => (f6 (RegI.gd_ne (by decide) h)).own hg, fun h => (f7 (RegI.gd_ne (by decide) h)).own hg, fun h => f8 (RegI.gd_ne (by decide) h), fun h => f9 (RegI.gd_ne (by decide) h), fun h => (f10 (RegI.gd_ne (by decide) h)).own hg, fun h => (f11 (RegI.gd_ne (by decide) h)).own hg, fun h => f12 (RegI.gd_ne (by decide) h), fun h => f13 (RegI.gd_ne (by decide) h), fun _ => ⟨gg, rfl, row_down hown hO.size⟩, fun h => (f15 (RegI.gd_ne (by decide) h)).own hg, fun h => (f16 (RegI.gd_ne (by decide) h)).own hg, fun h => (f17 (RegI.gd_ne (by decide) h)).own hg, fun h1 h2 => d3_6 (RegI.gd_ne (by decide) h1) (RegI.gd_ne (by decide) h2), fun h1 h2 => d3_10 (RegI.gd_ne (by decide) h1) (RegI.gd_ne (by decide) h2), fun h1 _ e => (f3 (RegI.gd_ne (by decide) h1)).fresh hfr e, fun h1 h2 => d6_10 (RegI.gd_ne (by decide) h1) (RegI.gd_ne (by decide) h2), fun h1 _ e => (f6 (RegI.gd_ne (by decide) h1)).fresh hfr e, fun h1 _ e => (f10 (RegI.gd_ne (by decide) h1)).fresh hfr e⟩
    case s15 =>
      refine RegI.step_value rfl rfl rfl (by decide) ?_
      rintro L x w1 ⟨hO, f0, f1, f2, f3, f4, f5, f6, f7, f8, f9, f10, f11, f12, f13, f14, f15, f16, f17, d3_6, d3_10, d3_14, d6_10, d6_14, d10_14⟩ hr hu
      have a0 := f0 (hr { on := 0, ground := .data } (by simp) rfl)
      obtain ⟨gU, hU, rU⟩ := f3 (hr { on := 3, ground := .data } (by simp) rfl)
      obtain ⟨gV, hV, rV⟩ := f6 (hr { on := 6, ground := .data } (by simp) rfl)
      obtain ⟨gL, hL, rL⟩ := f10 (hr { on := 10, ground := .data } (by simp) rfl)
      obtain ⟨gH, hH, rH⟩ := f14 (hr { on := 14, ground := .data } (by simp) rfl)
      have n3_6 := d3_6 (hr { on := 3, ground := .data } (by simp) rfl) (hr { on := 6, ground := .data } (by simp) rfl)
      have n3_10 := d3_10 (hr { on := 3, ground := .data } (by simp) rfl) (hr { on := 10, ground := .data } (by simp) rfl)
      have n3_14 := d3_14 (hr { on := 3, ground := .data } (by simp) rfl) (hr { on := 14, ground := .data } (by simp) rfl)
      have n6_10 := d6_10 (hr { on := 6, ground := .data } (by simp) rfl) (hr { on := 10, ground := .data } (by simp) rfl)
      have n6_14 := d6_14 (hr { on := 6, ground := .data } (by simp) rfl) (hr { on := 14, ground := .data } (by simp) rfl)
      have n10_14 := d10_14 (hr { on := 10, ground := .data } (by simp) rfl) (hr { on := 14, ground := .data } (by simp) rfl)
      rw [hU] at n3_6 n3_10 n3_14
      rw [hV] at n3_6 n6_10 n6_14
      rw [hL] at n3_10 n6_10 n10_14
      rw [hH] at n3_14 n6_14 n10_14
      have v5 : ((RegI.FX A _ x).tmps[5]?).getD undef = _ := (RegI.fx_inG (D := [5, 6, 7, 8, 9, 10, 11, 12, 13, 14, 15, 16, 17, 18, 19, 20, 21, 3]) (by decide) (by rw [hsz]; decide)).trans (a0)
      have v8 : ((RegI.FX A _ x).tmps[8]?).getD undef = _ := (RegI.fx_inG (D := [5, 6, 7, 8, 9, 10, 11, 12, 13, 14, 15, 16, 17, 18, 19, 20, 21, 3]) (by decide) (by rw [hsz]; decide)).trans (hU)
      have v11 : ((RegI.FX A _ x).tmps[11]?).getD undef = _ := (RegI.fx_inG (D := [5, 6, 7, 8, 9, 10, 11, 12, 13, 14, 15, 16, 17, 18, 19, 20, 21, 3]) (by decide) (by rw [hsz]; decide)).trans (hV)
      have v15 : ((RegI.FX A _ x).tmps[15]?).getD undef = _ := (RegI.fx_inG (D := [5, 6, 7, 8, 9, 10, 11, 12, 13, 14, 15, 16, 17, 18, 19, 20, 21, 3]) (by decide) (by rw [hsz]; decide)).trans (hL)
      have v19 : ((RegI.FX A _ x).tmps[19]?).getD undef = _ := (RegI.fx_inG (D := [5, 6, 7, 8, 9, 10, 11, 12, 13, 14, 15, 16, 17, 18, 19, 20, 21, 3]) (by decide) (by rw [hsz]; decide)).trans (hH)
      rw [hU] at rU
      rw [hV] at rV
      rw [hL] at rL
      rw [hH] at rH
      refine ⟨.agg #[(.slice AC n capc), sv gU n, sv gV n, sv gL n, sv gH n], w1, ?_, hO, fun h => f0 (RegI.gd_ne (by decide) h), fun h => f1 (RegI.gd_ne (by decide) h), fun h => f2 (RegI.gd_ne (by decide) h), fun h => f3 (RegI.gd_ne (by decide) h), fun h => f4 (RegI.gd_ne (by decide) h), fun h => f5 (RegI.gd_ne (by decide) h), fun h => f6 (RegI.gd_ne (by decide) h), fun h => f7 (RegI.gd_ne (by decide) h), fun h => f8 (RegI.gd_ne (by decide) h), fun h => f9 (RegI.gd_ne (by decide) h), fun h => f10 (RegI.gd_ne (by decide) h), fun h => f11 (RegI.gd_ne (by decide) h), fun h => f12 (RegI.gd_ne (by decide) h), fun h => f13 (RegI.gd_ne (by decide) h), fun h => f14 (RegI.gd_ne (by decide) h), fun _ => ⟨gU, gV, gL, gH, rfl, ⟨rU, rV, rL, rH, fun e => n3_6 (by rw [e]), fun e => n3_10 (by rw [e]), fun e => n3_14 (by rw [e]), fun e => n6_10 (by rw [e]), fun e => n6_14 (by rw [e]), fun e => n10_14 (by rw [e])⟩⟩, fun h => f16 (RegI.gd_ne (by decide) h), fun h => f17 (RegI.gd_ne (by decide) h), fun h1 h2 => d3_6 (RegI.gd_ne (by decide) h1) (RegI.gd_ne (by decide) h2), fun h1 h2 => d3_10 (RegI.gd_ne (by decide) h1) (RegI.gd_ne (by decide) h2), fun h1 h2 => d3_14 (RegI.gd_ne (by decide) h1) (RegI.gd_ne (by decide) h2), fun h1 h2 => d6_10 (RegI.gd_ne (by decide) h1) (RegI.gd_ne (by decide) h2), fun h1 h2 => d6_14 (RegI.gd_ne (by decide) h1) (RegI.gd_ne (by decide) h2), fun h1 h2 => d10_14 (RegI.gd_ne (by decide) h1) (RegI.gd_ne (by decide) h2)⟩
      clear f0 f1 f2 f3 f4 f5 f6 f7 f8 f9 f10 f11 f12 f13 f14 f15 f16 f17 d3_6 d3_10 d3_14 d6_10 d6_14 d10_14 hr hu hO
      clear n3_6 n3_10 n3_14 n6_10 n6_14 n10_14 rU rV rL rH hU hV hL hH
      go_simp
    case s16 =>
      refine RegI.step_value rfl rfl rfl (by decide) ?_
      rintro L x w1 ⟨hO, f0, f1, f2, f3, f4, f5, f6, f7, f8, f9, f10, f11, f12, f13, f14, f15, f16, f17, d3_6, d3_10, d3_14, d6_10, d6_14, d10_14⟩ hr hu
      obtain ⟨gU, gV, gL, gH, hA, hR⟩ := f15 (hr { on := 15, ground := .data } (by simp) rfl)
      have v20 : ((RegI.FX A _ x).tmps[20]?).getD undef = _ := (RegI.fx_inG (D := [5, 6, 7, 8, 9, 10, 11, 12, 13, 14, 15, 16, 17, 18, 19, 20, 21, 3]) (by decide) (by rw [hsz]; decide)).trans (hA)
      have hg : Own w1 (w1.alloc (.cells #[(.slice AC n capc), sv gU n, sv gV n, sv gL n, sv gH n] 46)) := (Own.refl w1).alloc _
      refine ⟨.pointer (some ⟨w1.heap.size, 0, none⟩), w1.alloc (.cells #[(.slice AC n capc), sv gU n, sv gV n, sv gL n, sv gH n] 46), ?_, hO.trans hg, fun h => f0 (RegI.gd_ne (by decide) h), fun h => f1 (RegI.gd_ne (by decide) h), fun h => f2 (RegI.gd_ne (by decide) h), fun h => (f3 (RegI.gd_ne (by decide) h)).own hg, fun h => f4 (RegI.gd_ne (by decide) h), fun h => f5 (RegI.gd_ne (by decide) h), fun h => (f6 (RegI.gd_ne (by decide) h)).own hg, fun h => (f7 (RegI.gd_ne (by decide) h)).own hg, fun h => f8 (RegI.gd_ne (by decide) h), fun h => f9 (RegI.gd_ne (by decide) h), fun h => (f10 (RegI.gd_ne (by decide) h)).own hg, fun h => (f11 (RegI.gd_ne (by decide) h)).own hg, fun h => f12 (RegI.gd_ne (by decide) h), fun h => f13 (RegI.gd_ne (by decide) h), fun h => (f14 (RegI.gd_ne (by decide) h)).own hg, fun h => (f15 (RegI.gd_ne (by decide) h)).own hg, fun _ => ⟨_, gU, gV, gL, gH, rfl, Blk.new w1 _ _, hR.own hg⟩, fun h => (f17 (RegI.gd_ne (by decide) h)).own hg, fun h1 h2 => d3_6 (RegI.gd_ne (by decide) h1) (RegI.gd_ne (by decide) h2), fun h1 h2 => d3_10 (RegI.gd_ne (by decide) h1) (RegI.gd_ne (by decide) h2), fun h1 h2 => d3_14 (RegI.gd_ne (by decide) h1) (RegI.gd_ne (by decide) h2), fun h1 h2 => d6_10 (RegI.gd_ne (by decide) h1) (RegI.gd_ne (by decide) h2), fun h1 h2 => d6_14 (RegI.gd_ne (by decide) h1) (RegI.gd_ne (by decide) h2), fun h1 h2 => d10_14 (RegI.gd_ne (by decide) h1) (RegI.gd_ne (by decide) h2)⟩
      clear f0 f1 f2 f3 f4 f5 f6 f7 f8 f9 f10 f11 f12 f13 f14 f15 f16 f17 d3_6 d3_10 d3_14 d6_10 d6_14 d10_14 hr hu hO
      clear hR
      go_simp
    case s17 =>
      refine RegI.step_value rfl rfl rfl (by decide) ?_
      rintro L x w1 ⟨hO, f0, f1, f2, f3, f4, f5, f6, f7, f8, f9, f10, f11, f12, f13, f14, f15, f16, f17, d3_6, d3_10, d3_14, d6_10, d6_14, d10_14⟩ hr hu
      obtain ⟨B, gU, gV, gL, gH, hA, hb, hR⟩ := f16 (hr { on := 16, ground := .data } (by simp) rfl)
      have v21 : ((RegI.FX A _ x).tmps[21]?).getD undef = _ := (RegI.fx_inG (D := [5, 6, 7, 8, 9, 10, 11, 12, 13, 14, 15, 16, 17, 18, 19, 20, 21, 3]) (by decide) (by rw [hsz]; decide)).trans (hA)
      refine ⟨.pointer (some ⟨B, 0, none⟩), w1, ?_, hO, fun h => f0 (RegI.gd_ne (by decide) h), fun h => f1 (RegI.gd_ne (by decide) h), fun h => f2 (RegI.gd_ne (by decide) h), fun h => f3 (RegI.gd_ne (by decide) h), fun h => f4 (RegI.gd_ne (by decide) h), fun h => f5 (RegI.gd_ne (by decide) h), fun h => f6 (RegI.gd_ne (by decide) h), fun h => f7 (RegI.gd_ne (by decide) h), fun h => f8 (RegI.gd_ne (by decide) h), fun h => f9 (RegI.gd_ne (by decide) h), fun h => f10 (RegI.gd_ne (by decide) h), fun h => f11 (RegI.gd_ne (by decide) h), fun h => f12 (RegI.gd_ne (by decide) h), fun h => f13 (RegI.gd_ne (by decide) h), fun h => f14 (RegI.gd_ne (by decide) h), fun h => f15 (RegI.gd_ne (by decide) h), fun h => f16 (RegI.gd_ne (by decide) h), fun _ => ⟨B, gU, gV, gL, gH, rfl, hb, hR⟩, fun h1 h2 => d3_6 (RegI.gd_ne (by decide) h1) (RegI.gd_ne (by decide) h2), fun h1 h2 => d3_10 (RegI.gd_ne (by decide) h1) (RegI.gd_ne (by decide) h2), fun h1 h2 => d3_14 (RegI.gd_ne (by decide) h1) (RegI.gd_ne (by decide) h2), fun h1 h2 => d6_10 (RegI.gd_ne (by decide) h1) (RegI.gd_ne (by decide) h2), fun h1 h2 => d6_14 (RegI.gd_ne (by decide) h1) (RegI.gd_ne (by decide) h2), fun h1 h2 => d10_14 (RegI.gd_ne (by decide) h1) (RegI.gd_ne (by decide) h2)⟩
      clear f0 f1 f2 f3 f4 f5 f6 f7 f8 f9 f10 f11 f12 f13 f14 f15 f16 f17 d3_6 d3_10 d3_14 d6_10 d6_14 d10_14 hr hu hO
      clear hR hb
      go_simp
  case he =>
    rintro L x w1 ⟨hO, f0, f1, f2, f3, f4, f5, f6, f7, f8, f9, f10, f11, f12, f13, f14, f15, f16, f17, d3_6, d3_10, d3_14, d6_10, d6_14, d10_14⟩ hall
    obtain ⟨B, gU, gV, gL, gH, hB, hb, hR⟩ := f17 (hall 17 (by decide))
    clear f0 f1 f2 f3 f4 f5 f6 f7 f8 f9 f10 f11 f12 f13 f14 f15 f16 f17 d3_6 d3_10 d3_14 d6_10 d6_14 d10_14 hall hsz e0
    rw [HAct.out]
    clear HAct
    simp only [RegI.FX, List.foldl_cons, List.foldl_nil, hB]
    clear hB
    have HPN := Lib.hid (show Pn w1 w.heap.size B (.slice AC n capc) n gU gV gL gH (List.replicate n 0) (List.replicate n 0) (List.replicate n (-1)) (List.replicate n (-1)) from
      ⟨hb.cell 0, hb.cell 1, hb.cell 2, hb.cell 3, hb.cell 4, hR.rU, hR.rV, hR.rL, hR.rH, hR.dUV, hR.dUL, hR.dUH, hR.dVL, hR.dVH, hR.dLH, hb.ne_row1 hR.rU (by decide), hb.ne_row1 hR.rV (by decide), hb.ne_row1 hR.rL (by decide), hb.ne_row1 hR.rH (by decide)⟩)
    have HPC := Lib.hid (Pc.start (c := c) (okc_of HR.out) n)
    have HO := Lib.hid hO
    clear hO hb hR
    go_simp
    go_wp2
    go_loopw [4, 24] (fun _ v24 wr => ∃ (k : Nat) (U V L H : List Int), v24 = .int .i64 (k : Int) ∧ k ≤ n ∧ Own w wr ∧ Pn wr w.heap.size B (.slice AC n capc) n gU gV gL gH U V L H ∧ Pc c n k U V L H) (fun _ v24 _ => n - (intOf v24).toNat)
    case atStart => exact ⟨0, _, _, _, _, rfl, Nat.zero_le _, HO.out, HPN.out, HPC.out⟩
    case round =>
      clear HPN HPC HO
      obtain ⟨k, U, V, L, H, rfl, hk, ho, hp, hpc⟩ := hrel
      have HO := Lib.hid ho
      have HP := Lib.hid hp
      have HPC := Lib.hid hpc
      clear ho hp hpc
      by_cases hlt : k < n
      · have hkn : (k : Int) < n := by omega
        have hplace := pplace_at c _ w B n gU gV gL gH k U V L H wr HT HO HP HS HR HN b1 HPC hlt
        go_wp2_with (go_at_call 33; refine hplace.mono ?_; rintro e w5 ⟨rfl, U', V', L', H', p5, k5, c5⟩; have P5 := Lib.hid p5; have C5 := Lib.hid c5; have O5 := Lib.hid (HP.out.ok HT.out HO.out k5).1; clear p5 k5 c5)
        go_roundw
        case rel => exact ⟨k + 1, U', V', L', H', by go_num, hlt, O5.out, P5.out, C5.out⟩
        case measure => simp [intOf]; omega
      · obtain rfl : k = n := by omega
        go_wp2
        go_ret
        exact ⟨B, gU, gV, gL, gH, U, V, L, H, rfl, HO.out, HP.out, HPC.out.full⟩
end Go.Proofs.Ytfhdoeajoeaddaa.AsgW
