/-
  Walk of the program's First of package balance: a range over a function, left by a label. Condition: the table of sines, the table of bounds and the numbers of both sides lie in memory.
-/
import Derived.Test.YtighpjhipgobiaaDoorBalancePF
import Derived.Test.YtighpjhipgobiaaDoorRegIn
import Derived.WalkMore
namespace Go.Proofs.YtighpjhipgobiaaDoor.BalW
open Go.ChangeShapes Go.WideShapes Go.ChangeAt Go.RowKit
open PairW AimP AimW BlkW PrtW PstP PstW JntP JntW BalP RanW
attribute [local go_sem] Oper.semAt_some
theorem wpIn_scope_wide {P : Program} {n : Nat} {c : Code} {Q : Exit → Act → World → Prop} {a : Act} {w : World} (h : c.wpIn Fence.wide n P (Exit.noGoto Q) a w) : (Code.scope c).wpIn Fence.wide n P Q a w := wpIn_wide.2 (wp_scope_straight (wpIn_wide.1 h))
theorem keeps_own (B : Nat) {W W' : World} (q : PairW.Own W W') : KeepsFrom B W W' := ⟨q.size, fun k _ _ hk _ => (q.block k (Array.getElem?_eq_some_iff.1 hk).1).trans hk⟩
theorem keeps_set (B : Nat) {W W' : World} (h : KeepsFrom B W W') (p : Addr) (u : Value) : KeepsFrom B W (W'.setCell p u) := h.trans ((KeepsOthers.setCell _ _ _).from _)
theorem kw_own {B0 B : Nat} {W W' : World} (q : PairW.Own W W') : Kw B0 B W W' := ⟨fun k _ _ hk => (q.block k (Array.getElem?_eq_some_iff.1 hk).1).trans hk⟩
theorem kw_set {B0 B : Nat} {W W' : World} (h : Kw B0 B W W') {p : Addr} (h1 : B0 ≤ p.block) (h2 : p.block ≠ B) (u : Value) : Kw B0 B W (W'.setCell p u) := ⟨fun k o hk ho => by rw [set_other _ _ _ (by omega)]; exact h.same k o hk ho⟩
theorem blk_stp {B k : Nat} {cs : Array Value} {T : TypeId} {W W' : World} (h : Blk W k cs T) (q : Stp B W W') : Blk W' k cs T := q.same _ _ h (.inl rfl)
/-- Between two rounds. -/
structure Fi (w : World) (b : Vl) (sv tv : Value) (B Mb F6 F7 : Nat) (t : Int) (W : World) : Prop where
  own : PairW.Own w W
  bb : Blk W B (cz 15 b) 24
  bm : Blk W Mb #[sv, tv] 52
  c6 : Blk W F6 #[.int .i64 t] 3
  c7 : Blk W F7 #[.int .i64 0] 32
/-- A round has left the loop. -/
structure Fx (w : World) (F6 F7 : Nat) (c : Int) (W : World) : Prop where
  own : PairW.Own w W
  c6 : Blk W F6 #[.int .i64 0] 3
  c7 : Blk W F7 #[.int .i64 c] 32
section
variable {w W W' : World} {b : Vl} {sv tv : Value} {B Mb F6 F7 G : Nat} {t c : Int}
theorem Fi.stp (h : Fi w b sv tv B Mb F6 F7 t W) (q : Stp G W W') (hG : w.heap.size ≤ G) : Fi w b sv tv B Mb F6 F7 t W' := ⟨q.own h.own hG, blk_stp h.bb q, blk_stp h.bm q, blk_stp h.c6 q, blk_stp h.c7 q⟩
theorem Fx.stp (h : Fx w F6 F7 c W) (q : Stp G W W') (hG : w.heap.size ≤ G) : Fx w F6 F7 c W' := ⟨q.own h.own hG, blk_stp h.c6 q, blk_stp h.c7 q⟩
theorem Fi.mem (h : Fi w b sv tv B Mb F6 F7 t W) (q : PairW.Own W W') : Fi w b sv tv B Mb F6 F7 t W' := ⟨h.own.trans q, h.bb.own q, h.bm.own q, h.c6.own q, h.c7.own q⟩
/-- The first tick is stored. -/
theorem Fi.tick (h : Fi w b sv tv B Mb F6 F7 t W) (h6 : w.heap.size ≤ F6) (hn : B ≠ F6 ∧ Mb ≠ F6 ∧ F7 ≠ F6) (x : Int) : Fi w b sv tv B Mb F6 F7 x (W.setCell ⟨F6, 0, none⟩ (.int .i64 x)) :=
  ⟨h.own.setCell (p := ⟨F6, 0, none⟩) h6 _, h.bb.far hn.1 _, h.bm.far hn.2.1 _, h.c6.put 0 _, h.c7.far hn.2.2 _⟩
/-- The error is stored. -/
theorem Fi.fail (h : Fi w b sv tv B Mb F6 F7 t W) (h6 : w.heap.size ≤ F6) (h7 : w.heap.size ≤ F7) (hn : F7 ≠ F6) (c : Int) : Fx w F6 F7 c ((W.setCell ⟨F6, 0, none⟩ (.int .i64 0)).setCell ⟨F7, 0, none⟩ (.int .i64 c)) :=
  ⟨(h.own.setCell (p := ⟨F6, 0, none⟩) h6 _).setCell (p := ⟨F7, 0, none⟩) h7 _, (h.c6.put 0 _).far (Ne.symm hn) _, (h.c7.far hn _).put 0 _⟩
end
set_option maxRecDepth 100000 in
set_option maxHeartbeats 4000000 in
theorem bfirst_good (b : Vl) (sv tv : Value) (f : Nat → Vl) (q : Nat → Int) (n m : Nat) (v c : Int) (w : World) (HT : Hid (AngW.Tab w)) (HBT : Hid (BuiW.Tab w)) (HS : Hid (Sds w)) (HM : Hid (Mov sv tv f q n m w)) (hm0 : m ≠ 0) (hnm : n = m + 1) (H : Hid (fiV b f q n m = v ∧ fiE b f q n m = c)) :
    Calls Tryd.prog 18 #[.agg (cz 15 b), .agg #[sv, tv]] w fun r w' => r = .returned (.tuple #[.int .i64 v, .int .i64 c]) ∧ PairW.Own w w' := by
  obtain ⟨hv, hc⟩ := H.out
  rw [(fi_else hm0 hnm).1] at hc
  rw [(fi_else hm0 hnm).2] at hv
  have HV := Lib.hid hv
  have HC := Lib.hid hc
  obtain ⟨⟨A, ca, rfl, hps⟩, ⟨A2, cb, rfl, hss⟩, hnl, hml⟩ := HM.out
  obtain ⟨pb, po, rfl, hpl⟩ := hps (by omega)
  obtain ⟨sb, so, rfl, hsl⟩ := hss (by omega)
  have HNL := Lib.hid hnl
  have HML := Lib.hid hml
  unfold maxLen at hnl hml
  have HPL := Lib.hid hpl
  have HSL := Lib.hid hsl
  have hsb : sb < w.heap.size := block_lt_of_cell (hsl 0 (by omega))
  clear hps hss hpl hsl hv hc H
  have d1 : decide ((m : Int) = 0) = false := decide_eq_false (by omega)
  have d2 : ((m : Int) == 0) = false := beq_eq_false_iff_ne.2 (by omega)
  have i1 : IntKind.i64.wrap ((m : Int) + 1) = (n : Int) := (IntWalk.i64_in _ (by omega)).trans (by omega)
  have hn0 : 0 < n := by omega
  have hm1 : 0 < m := by omega
  clear hnm
  refine (callsIn_wide (n := 6)).1 ?_
  refine callsIn_of_wp_marks Tryd.func18 rfl trivial ?_ rfl
  simp only [Tryd.ntmps18, List.size_toArray, List.length_cons, List.length_nil, Nat.reduceAdd, Nat.reduceSub, Array.replicate_succ, Array.replicate_zero, List.push_toArray, List.append_toArray, List.nil_append, List.cons_append]
  gi_wp2
  refine wpIn_scope_wide ?_
  gi_wp2
  refine wpIn_label ?_
  gi_wp2_with (refine ⟨trivial, ?_⟩; gi_at_call 42; refine (callsIn_wide.2 (bsup_at _ _ _)).mono ?_; rintro e w2 ⟨rfl, rfl⟩)
  obtain ⟨W4, B, Mb, F6, F7, IT, hW, hIT, hF7, hF6, hMb, hB, hb1, hm2, h61, h71, hit, g4, -⟩ := five_new w (cz 15 b) 24 #[.slice (some ⟨pb, po, none⟩) n ca, .slice (some ⟨sb, so, none⟩) m cb] 52 #[.int .i64 (-1)] 3 #[.int .i64 0] 32 #[.slice (some ⟨pb, po, none⟩) n ca, .slice (some ⟨sb, so, none⟩) m cb] 52
  have hne : (B ≠ F6 ∧ Mb ≠ F6 ∧ F7 ≠ F6) ∧ (w.heap.size ≤ F6 ∧ w.heap.size ≤ F7) ∧ F6 ≠ IT ∧ F7 ≠ IT := by omega
  rw [hW, hIT, hF7, hF6, hMb, hB]
  obtain ⟨hne1, ⟨h6w, h7w⟩, hne2, hne3⟩ := hne
  clear hW hIT hF7 hF6 hMb hB d1 d2 i1
  have hF0 : Fi w b (.slice (some ⟨pb, po, none⟩) n ca) (.slice (some ⟨sb, so, none⟩) m cb) B Mb F6 F7 (-1) W4 := ⟨g4, hb1, hm2, h61, h71⟩
  have hWy : Wy IT sb so (.slice (some ⟨pb, po, none⟩) n ca) m cb q W4 := ⟨hit, fun i hi => g4.cell (HSL.out i hi)⟩
  have hitl : IT < W4.heap.size := hit.lt
  obtain ⟨G, hGe⟩ : ∃ G, W4.heap.size = G := ⟨_, rfl⟩
  have HG := Lib.hid hGe
  have hGw : w.heap.size ≤ G := by rw [← hGe]; exact g4.size
  rw [hGe] at hitl
  clear hb1 hm2 h61 h71 hit hGe
  have eg : ∀ args w, (callFunc 73 args).run Tryd.prog w = .ok (.enter 73 args) w := enters_of Tryd.func73 (by kernel_rfl) rfl
  refine wpIn_rangeFunc_D rfl (by omega) (gf := 73) (lb := #[.pointer (some ⟨IT, 0, none⟩)]) rfl trivial eg
    (sup_seq q w.heap.size IT sb so n m cb (some ⟨pb, po, none⟩) ca (6 - 1) W4 hn0 hm1 HNL.out HML.out hsb hWy (by omega)) (fun h k => h.trans k) (fun g => ⟨fun k o hk ho => g.same k o ho (.inr (by rw [HG.out]; omega))⟩) (fun _ => rfl)
    (fun pre W => Fi w b (.slice (some ⟨pb, po, none⟩) n ca) (.slice (some ⟨sb, so, none⟩) m cb) B Mb F6 F7 (tL b f q m (pre.map (·.1))) W ∧ eL b f q m (pre.map (·.1)) = 0) (fun cd pre W => cd = .exit 0 ∧ Fx w F6 F7 (eL b f q m (pre.map (·.1))) W ∧ eL b f q m (pre.map (·.1)) ≠ 0)
    (fun h g => by rw [HG.out] at g; exact ⟨h.1.stp g hGw, h.2⟩) (fun h g => by rw [HG.out] at g; exact ⟨h.1, h.2.1.stp g hGw, h.2.2⟩) ⟨hF0, rfl⟩
    (fun x => { tmps := #[.agg (cz 15 b), .agg #[.slice (some ⟨pb, po, none⟩) n ca, .slice (some ⟨sb, so, none⟩) m cb], .pointer (some ⟨B, 0, none⟩), .pointer (some ⟨Mb, 0, none⟩), .int .i64 0, .int .i64 0, .pointer (some ⟨F6, 0, none⟩), .pointer (some ⟨F7, 0, none⟩), .int .i64 (x.1 : Int), .int .i64 (su q m x.1), undef, undef, .pointer (some ⟨Mb, 1, none⟩), .slice (some ⟨sb, so, none⟩) m cb, .int .i64 (m : Int), .bool false, .bool false, .pointer (some ⟨Mb, 0, none⟩), .slice (some ⟨pb, po, none⟩) n ca, .int .i64 (n : Int), .pointer (some ⟨Mb, 1, none⟩), .slice (some ⟨sb, so, none⟩) m cb, .int .i64 (m : Int), .int .i64 (n : Int), .bool false, .bool false, .agg #[.slice (some ⟨pb, po, none⟩) n ca, .slice (some ⟨sb, so, none⟩) m cb], .func (.func 73) #[] #[.pointer (some ⟨IT, 0, none⟩)], .int .i64 (x.1 : Int), .int .i64 (su q m x.1), undef, undef, undef, undef, undef, undef, undef, undef, undef, undef, undef, undef, undef, undef, undef, undef, undef, undef, undef, undef, undef, undef, undef, undef, undef], defers := [] }) ?assign ?body ?done ?stop
  case assign =>
    intro l' x W K hK
    simp only [encF]
    gi_wp2
    exact hK
  case body =>
    rintro l' pre x W ⟨hfi, hok⟩ hlt
    have hxn := x.2
    obtain ⟨τ, hτ⟩ : ∃ t, tL b f q m (pre.map (·.1)) = t := ⟨_, rfl⟩
    rw [hτ] at hfi
    have HE2 := Lib.hid (show eL b f q m ((pre ++ [x]).map (·.1)) = joE b (f x.1) (su q m x.1) by rw [List.map_append, List.map_cons, List.map_nil, eL_snoc, hok]; rfl)
    have HT2 := Lib.hid (show tL b f q m ((pre ++ [x]).map (·.1)) = if τ < 0 ∧ stV b (f x.1) (su q m x.1) = false then (x.1 : Int) else τ by rw [List.map_append, List.map_cons, List.map_nil, tL_snoc, hτ])
    obtain ⟨ce, hce⟩ : ∃ c, joE b (f x.1) (su q m x.1) = c := ⟨_, rfl⟩
    obtain ⟨st, hst⟩ : ∃ t, stV b (f x.1) (su q m x.1) = t := ⟨_, rfl⟩
    have HST := Lib.hid (show stV b (f x.1) (su q m x.1) = st ∧ joE b (f x.1) (su q m x.1) = ce from ⟨hst, hce⟩)
    rw [hce] at HE2
    rw [hst] at HT2
    generalize hpx : pre ++ [x] = pre2 at *
    have gE := hfi.own
    have HB := Lib.hid hfi.bb
    have HMB := Lib.hid hfi.bm
    have HF := Lib.hid hfi
    have HPX := Lib.hid ((HPL.out x.1 x.2).own gE)
    have hxi : (x.1 : Int) < n := by omega
    clear hpx hτ hce hst hfi hok hlt hF0 hWy
    rw [HG.out]
    gi_wp2
    refine RegD.region_duty_in [31, 32, 33, 34, 35, 36, 37, 38, 30, 39, 40, 10, 11] (RegI.upd (RegI.upd (RegI.upd (RegI.upd (RegI.upd (RegI.upd (RegI.upd (RegI.upd (RegI.upd (RegI.upd (RegI.upd (RegI.upd (RegI.upd (fun _ => undef) 31 (.agg (cz 15 b))) 32 (.pointer (some ⟨Mb, 0, none⟩))) 33 (.slice (some ⟨pb, po, none⟩) n ca)) 34 (.int .i64 (x.1 : Int))) 35 (.pointer (some ⟨pb, po + x.1 * 22, none⟩))) 36 (.agg (cz 22 (f x.1)))) 37 (.int .i64 (su q m x.1))) 38 (.tuple #[.bool st, .int .i64 ce])) 30 (.tuple #[.bool st, .int .i64 ce])) 39 (.bool st)) 40 (.int .i64 ce)) 10 (.bool st)) 11 (.int .i64 ce)) (by kernel_rfl) (by kernel_rfl) (by kernel_rfl) (fun _ _ h => h) (by intro d hd; simp at hd; simp; omega) ?_
    simp only [RegD.FF, RegI.FX, RegI.upd, List.foldl_cons, List.foldl_nil, List.not_mem_nil, if_true, if_false, Nat.reduceEqDiff]
    simp only [List.setIfInBounds_toArray, List.set_cons_succ, List.set_cons_zero]
    refine And.intro ?hs1 ?he1
    case hs1 =>
      refine And.intro ?s1_0 (And.intro ?s1_1 (And.intro ?s1_2 (And.intro ?s1_3 (And.intro ?s1_4 (And.intro ?s1_5 (And.intro ?s1_6 (And.intro ?s1_7 (And.intro ?s1_8 (And.intro ?s1_9 (And.intro ?s1_10 (And.intro ?s1_11 (And.intro ?s1_12 (trivial)))))))))))))
      case s1_0 =>
        intro u w1 hO
        have HB9 := Lib.hid (HB.out.own hO)
        go_wp2_with ((with_reducible show wpList _ _ _ (⟨_, .load 24 (.tmp 2), _, _, _, none⟩ :: _) _ _); refine wpList_load_row rfl 24 (.tmp 2) rfl B rfl 24 _ (0, 0) _ HB9.out.raw Tryd.underlying24 rfl infoB ?_)
        exact ⟨rfl, rfl, rfl, PairW.Own.refl _⟩
      case s1_1 =>
        intro u w1 hO
        go_wp2
        exact ⟨rfl, rfl, rfl, PairW.Own.refl _⟩
      case s1_2 =>
        intro u w1 hO
        have kk := (HMB.out.own hO).cell 0
        go_wp2
        exact ⟨rfl, rfl, rfl, PairW.Own.refl _⟩
      case s1_3 =>
        intro u w1 hO
        go_wp2
        exact ⟨rfl, rfl, rfl, PairW.Own.refl _⟩
      case s1_4 =>
        intro u w1 hO
        go_wp2
        exact ⟨rfl, rfl, rfl, PairW.Own.refl _⟩
      case s1_5 =>
        intro u w1 hO
        have HB9 := Lib.hid (HPX.out.own hO)
        go_wp2_with ((with_reducible show wpList _ _ _ (⟨_, .load 31 (.tmp 35), _, _, _, none⟩ :: _) _ _); refine wpList_load_lie rfl 31 (.tmp 35) rfl pb (po + x.1 * 22) rfl (cz 22 (f x.1)) HB9.out _ Tryd.underlying31 rfl infoP ?_)
        exact ⟨rfl, rfl, rfl, PairW.Own.refl _⟩
      case s1_6 =>
        intro u w1 hO
        go_wp2
        exact ⟨rfl, rfl, rfl, PairW.Own.refl _⟩
      case s1_7 =>
        intro u w1 hO
        go_wp2_with (go_at_call 14; with_reducible refine (bSta_at b (f x.1) (su q m x.1) st ce _ (Lib.hid (tab_own HT.out ((gE.trans hO)))) (Lib.hid (HBT.out.own ((gE.trans hO)))) (Lib.hid (HS.out.own ((gE.trans hO)))) HST).mono ?_; rintro r w2 ⟨rfl, hg⟩)
        exact ⟨rfl, rfl, rfl, hg⟩
      case s1_8 =>
        intro u w1 hO
        go_wp2
        exact ⟨rfl, rfl, rfl, PairW.Own.refl _⟩
      case s1_9 =>
        intro u w1 hO
        go_wp2
        exact ⟨rfl, rfl, rfl, PairW.Own.refl _⟩
      case s1_10 =>
        intro u w1 hO
        go_wp2
        exact ⟨rfl, rfl, rfl, PairW.Own.refl _⟩
      case s1_11 =>
        intro u w1 hO
        go_wp2
        exact ⟨rfl, rfl, rfl, PairW.Own.refl _⟩
      case s1_12 =>
        intro u w1 hO
        go_wp2
        exact ⟨rfl, rfl, rfl, PairW.Own.refl _⟩
    intro u w9 hO
    have HFI := Lib.hid (HF.out.mem hO)
    have k6 := HFI.out.c6.cell 0
    have f6 := HFI.out.c6.frozen 0
    have k7 := HFI.out.c7.cell 0
    have f7 := HFI.out.c7.frozen 0
    have HO := Lib.hid hO
    clear HB HMB HPX hO gE
    by_cases hce : ce = 0
    · subst hce
      cases st with
      | true =>
        gi_wp2
        refine ⟨keeps_own _ HO.out, kw_own HO.out, ?_, HE2.out⟩
        rw [HT2.out, if_neg (fun h => absurd h.2 (by decide))]
        exact HFI.out
      | false =>
        by_cases hτ : τ < 0
        · gi_wp2
          refine ⟨keeps_set _ (keeps_own _ HO.out) _ _, kw_set (kw_own HO.out) h6w hne2 _, ?_, HE2.out⟩
          rw [HT2.out, if_pos (by first | exact ⟨hτ, rfl⟩ | exact ⟨hτ, trivial⟩)]
          exact HFI.out.tick h6w hne1 _
        · have d3 : decide (τ < 0) = false := decide_eq_false hτ
          gi_wp2
          refine ⟨keeps_own _ HO.out, kw_own HO.out, ?_, HE2.out⟩
          rw [HT2.out, if_neg (fun h => by have := h.1; omega)]
          exact HFI.out
    · have kc : (ce != 0) = true := bne_iff_ne.2 hce
      gi_wp2
      refine ⟨keeps_set _ (keeps_set _ (keeps_own _ HO.out) _ _) _ _, rfl, ?_, ?_⟩
      · rw [HE2.out]
        exact HFI.out.fail h6w h7w hne1.2.2 _
      · rw [HE2.out]; exact hce
  case done =>
    rintro D ys W hD rfl ⟨hfi, hok⟩ hK
    rw [wys_val hn0 (Nat.le_refl n)] at hfi hok
    rw [tL_all] at hfi
    rw [eL_all] at hok
    rw [HG.out] at hD
    have e1 : tA b f q m n = v := by rw [← HV.out, if_pos hok]
    have e2 : (0 : Int) = c := by rw [← HC.out, hok]
    have H6 := Lib.hid (show Blk W F6 #[.int .i64 v] 3 by rw [← e1]; exact hfi.c6)
    have H7 := Lib.hid (show Blk W F7 #[.int .i64 c] 32 by rw [← e2]; exact hfi.c7)
    have HO := Lib.hid hfi.own
    have HK := Lib.hid hK
    clear hfi hok hK HV HC hF0 hWy e1 e2
    gi_wp2
    refine wpIn_wide.2 ?_
    refine RegD.region_duty [53, 54, 4, 5] (RegI.upd (RegI.upd (RegI.upd (RegI.upd (fun _ => undef) 53 (.int .i64 v)) 54 (.int .i64 c)) 4 (.int .i64 v)) 5 (.int .i64 c)) (by kernel_rfl) (by kernel_rfl) (by intro d hd; simp at hd; simp; omega) ?_
    simp only [RegD.FF, RegI.FX, RegI.upd, List.foldl_cons, List.foldl_nil, List.not_mem_nil, if_true, if_false, Nat.reduceEqDiff]
    simp only [List.setIfInBounds_toArray, List.set_cons_succ, List.set_cons_zero]
    refine And.intro ?hs2 ?he2
    case hs2 =>
      refine And.intro ?s2_0 (And.intro ?s2_1 (And.intro ?s2_2 (And.intro ?s2_3 (trivial))))
      case s2_0 =>
        intro u w1 hO
        have kk := (H6.out.own hO).cell 0
        go_wp2
        exact ⟨rfl, rfl, rfl, PairW.Own.refl _⟩
      case s2_1 =>
        intro u w1 hO
        have kk := (H7.out.own hO).cell 0
        go_wp2
        exact ⟨rfl, rfl, rfl, PairW.Own.refl _⟩
      case s2_2 =>
        intro u w1 hO
        go_wp2
        exact ⟨rfl, rfl, rfl, PairW.Own.refl _⟩
      case s2_3 =>
        intro u w1 hO
        go_wp2
        exact ⟨rfl, rfl, rfl, PairW.Own.refl _⟩
    intro u w9 hO
    clear H6 H7
    gi_wp2
    rw [Exit.noGoto_ret]
    refine ⟨by simp, .inl ⟨_, _, rfl, run_takeDeferred ((hO.block D (Array.getElem?_eq_some_iff.1 HK.out).1).trans HK.out), ?_⟩⟩
    have hst := Stp.put (B := G) (.deferred none) hD ((hO.block D (Array.getElem?_eq_some_iff.1 HK.out).1).trans HK.out) rfl
    exact ⟨_, results_tmp2 rfl _ _ _, rfl, hst.own (HO.out.trans hO) hGw⟩
  case stop =>
    rintro D cd pre W hD ⟨k, hk, rfl⟩ ⟨rfl, hfx, hne⟩ hK
    rw [wys_val hn0 hk, eL_all] at hfx hne
    rw [HG.out] at hD
    have he := fA_end hne hk
    have e1 : fA b f q m k = c := by rw [← HC.out, he]
    have e2 : (0 : Int) = v := by rw [← HV.out, he, if_neg hne]
    have H6 := Lib.hid (show Blk W F6 #[.int .i64 v] 3 by rw [← e2]; exact hfx.c6)
    have H7 := Lib.hid (show Blk W F7 #[.int .i64 c] 32 by rw [← e1]; exact hfx.c7)
    have HO := Lib.hid hfx.own
    have HK := Lib.hid hK
    clear hfx hne he hK HV HC hF0 hWy e1 e2
    gi_wp2
    refine wpIn_wide.2 ?_
    refine RegD.region_duty [53, 54, 4, 5] (RegI.upd (RegI.upd (RegI.upd (RegI.upd (fun _ => undef) 53 (.int .i64 v)) 54 (.int .i64 c)) 4 (.int .i64 v)) 5 (.int .i64 c)) (by kernel_rfl) (by kernel_rfl) (by intro d hd; simp at hd; simp; omega) ?_
    simp only [RegD.FF, RegI.FX, RegI.upd, List.foldl_cons, List.foldl_nil, List.not_mem_nil, if_true, if_false, Nat.reduceEqDiff]
    simp only [List.setIfInBounds_toArray, List.set_cons_succ, List.set_cons_zero]
    refine And.intro ?hs3 ?he3
    case hs3 =>
      refine And.intro ?s3_0 (And.intro ?s3_1 (And.intro ?s3_2 (And.intro ?s3_3 (trivial))))
      case s3_0 =>
        intro u w1 hO
        have kk := (H6.out.own hO).cell 0
        go_wp2
        exact ⟨rfl, rfl, rfl, PairW.Own.refl _⟩
      case s3_1 =>
        intro u w1 hO
        have kk := (H7.out.own hO).cell 0
        go_wp2
        exact ⟨rfl, rfl, rfl, PairW.Own.refl _⟩
      case s3_2 =>
        intro u w1 hO
        go_wp2
        exact ⟨rfl, rfl, rfl, PairW.Own.refl _⟩
      case s3_3 =>
        intro u w1 hO
        go_wp2
        exact ⟨rfl, rfl, rfl, PairW.Own.refl _⟩
    intro u w9 hO
    clear H6 H7
    gi_wp2
    rw [Exit.noGoto_ret]
    refine ⟨by simp, .inl ⟨_, _, rfl, run_takeDeferred ((hO.block D (Array.getElem?_eq_some_iff.1 HK.out).1).trans HK.out), ?_⟩⟩
    have hst := Stp.put (B := G) (.deferred none) hD ((hO.block D (Array.getElem?_eq_some_iff.1 HK.out).1).trans HK.out) rfl
    exact ⟨_, results_tmp2 rfl _ _ _, rfl, hst.own (HO.out.trans hO) hGw⟩
end Go.Proofs.YtighpjhipgobiaaDoor.BalW
