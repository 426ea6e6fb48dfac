/-
  Walks of the program of package joints: isSupport, isPlace, sum, square, hip, along, aside. Condition: the table of sines lies in memory (Tab).
-/
import Derived.Test.YtighpjhipgobiaaDoorJointsPlain
import Derived.Test.YtighpjhipgobiaaDoorJointsPA
import Derived.Test.YtighpjhipgobiaaDoorRegMore
namespace Go.Proofs.YtighpjhipgobiaaDoor.JntW
open Go.ChangeShapes Go.WideShapes Go.ChangeAt Go.RowKit
open PairW AimP AimW BlkW PrtW PstP PstW JntP RegD
theorem infoB : (Tryd.prog.info? 24).map (·.size) = some 15 := by kernel_rfl
theorem infoJ : (Tryd.prog.info? 59).map (·.size) = some 33 := by kernel_rfl
theorem cz3_lit (f : Vl) : cz 3 f = #[.int .i64 (f 0), .int .i64 (f 1), .int .i64 (f 2)] := rfl
def spB (d : Int) : Bool := decide (0 ≤ d) && decide (d ≤ 3)
theorem sp_iff (d : Int) : spB d = true ↔ 0 ≤ d ∧ d ≤ 3 := by unfold spB; rw [Bool.and_eq_true, decide_eq_true_eq, decide_eq_true_eq]
theorem sp_no (d : Int) : spB d = false ↔ d < 0 ∨ 3 < d := by rw [← Bool.not_eq_true, sp_iff]; omega
theorem jsu_at (d : Int) (t : Bool) (w : World) (H : Hid (spB d = t)) :
    Calls Tryd.prog 43 #[.int .i64 d] w fun r w' => r = .returned (.bool t) ∧ w = w' := by
  have hi := sp_iff d
  rw [H.out] at hi
  clear H
  by_cases h1 : 0 ≤ d
  · by_cases h2 : d ≤ 3
    · obtain rfl : t = true := hi.2 (by omega)
      clear hi
      go_enter Tryd.func43, Tryd.ntmps43
      go_wp2
      go_ret
      exact ⟨ret_bool (by simp), rfl⟩
    · obtain rfl : t = false := by cases t <;> simp at hi ⊢; omega
      clear hi
      go_enter Tryd.func43, Tryd.ntmps43
      go_wp2
      go_ret
      exact ⟨ret_bool (by simp), rfl⟩
  · obtain rfl : t = false := by cases t <;> simp at hi ⊢; omega
    clear hi
    go_enter Tryd.func43, Tryd.ntmps43
    go_wp2
    go_ret
    exact ⟨ret_bool (by simp), rfl⟩
def nr3 (x y z : Int) : Bool := (nearB x && nearB y) && nearB z
theorem nr3_iff (x y z : Int) : nr3 x y z = true ↔ nearV3 x y z := by
  unfold nr3 nearV3; rw [Bool.and_eq_true, Bool.and_eq_true, nearB_iff, nearB_iff, nearB_iff, and_assoc]
theorem nr3_no {x y z : Int} (h : ¬ nearV3 x y z) : nr3 x y z = false := by
  rw [← Bool.not_eq_true, nr3_iff]; exact h
set_option maxRecDepth 100000 in
set_option maxHeartbeats 2000000 in
theorem jsum_at (a b c d e f x y z : Int) (w : World) (ha : -1000000 ≤ a ∧ a ≤ 1000000) (hb : -1000000 ≤ b ∧ b ≤ 1000000) (hc : -1000000 ≤ c ∧ c ≤ 1000000) (hd : -1000000 ≤ d ∧ d ≤ 1000000) (he : -1000000 ≤ e ∧ e ≤ 1000000) (hf : -1000000 ≤ f ∧ f ≤ 1000000) (H : Hid (a + d = x ∧ b + e = y ∧ c + f = z)) :
    Calls Tryd.prog 45 #[.agg #[.int .i64 a, .int .i64 b, .int .i64 c], .agg #[.int .i64 d, .int .i64 e, .int .i64 f]] w fun r w' => r = .returned (.agg #[.int .i64 x, .int .i64 y, .int .i64 z]) ∧ Own w w' := by
  obtain ⟨rfl, rfl, rfl⟩ := H.out
  clear H
  go_enter Tryd.func45, Tryd.ntmps45
  go_upto_region 1 with (fail)
  obtain ⟨W0, B, C, R, hW, hR, hC, hB, hb1, hc1, hr, g0, -, -, hR0, -⟩ := three_new w (#[.int .i64 a, .int .i64 b, .int .i64 c]) 56 (#[.int .i64 d, .int .i64 e, .int .i64 f]) 56 (#[.int .i64 0, .int .i64 0, .int .i64 0]) 56
  rw [hW, hR, hC, hB]
  obtain ⟨b0, b1, b2⟩ := hb1.three
  obtain ⟨c0, c1, c2⟩ := hc1.three
  have HR := Lib.hid hr
  clear hW hR hC hB hb1 hc1 hr
  go_wp2_with ((with_reducible show wpList _ _ _ (⟨_, .store 56 (.tmp 4) (.tmp 20), _, _, _, none⟩ :: _) _ _); refine wpList_store_row rfl 56 (.tmp 4) (.tmp 20) rfl R #[.int .i64 (a + d), .int .i64 (b + e), .int .i64 (c + f)] rfl rfl 56 _ HR.out.raw infoV rfl (by simp [Value.oneCell']) ?_)
  have hp := HR.out.row #[.int .i64 (a + d), .int .i64 (b + e), .int .i64 (c + f)]
  exact bodyPost_ret (blk_result rfl rfl hp Tryd.underlying56 rfl infoV) rfl ⟨rfl, own_setRow g0 hR0 _⟩
set_option maxRecDepth 100000 in
set_option maxHeartbeats 2000000 in
theorem jhip_at (b p : Vl) (z : Int) (w : World) (hb : BuiP.chk b = 0) (hp : vaE p = 0) (H : Hid (hpZ b p = z)) :
    Calls Tryd.prog 44 #[.agg (cz 15 b), .agg (cz 22 p)] w fun r w' => r = .returned (.agg #[.int .i64 (p 0), .int .i64 (p 1), .int .i64 z]) ∧ Own w w' := by
  obtain ⟨hl1, hl2⟩ := lf_bd hb hp
  have h0 : 400 ≤ b 0 ∧ b 0 ≤ 1500 := (BuiP.ok_of hb).1 0 (by omega)
  obtain ⟨l, hl⟩ : ∃ l, lf b p = l := ⟨_, rfl⟩
  have hz := H.out
  unfold hpZ at hz
  rw [hl] at hz hl2
  subst hz
  have hr := hl
  unfold lf at hr
  clear hb hp H hl
  by_cases c : p 3 < 0
  · have d0 : decide (p 3 < 0) = true := decide_eq_true c
    rw [if_pos c] at hl1 hr
    have i1 : IntKind.i64.wrap (b 7 * p 3) = b 7 * p 3 := IntWalk.i64_in _ (by omega)
    have HRD := Lib.hid (show NumP.roundV (b 7 * p 3) 8 = l ∧ NumP.roundE (b 7 * p 3) 8 = 0 by have := near_rd (s := b 7 * p 3) (d := 8) (by omega) (by omega); exact ⟨this.1.trans hr, this.2⟩)
    have i2 : -9223372036854775808 ≤ b 7 * p 3 := by omega
    have i3 : b 7 * p 3 ≤ 9223372036854775807 := by omega
    clear hr hl1 c
    go_enter Tryd.func44, Tryd.ntmps44
    go_upto_region 1 with (fail)
    obtain ⟨W0, B, C, R, hW, hR, hC, hB, hb1, hc1, hr1, g0, -, -, hR0, -⟩ := three_new w (cz 15 b) 24 (cz 22 p) 31 (#[.int .i64 0, .int .i64 0, .int .i64 0]) 56
    rw [hW, hR, hC, hB]
    have b0 := blk_num hb1 (i := 0) (by omega)
    have b7 := blk_num hb1 (i := 7) (by omega)
    have b8 := blk_num hb1 (i := 8) (by omega)
    have p0 := blk_num hc1 (i := 0) (by omega)
    have p1 := blk_num hc1 (i := 1) (by omega)
    have p3 := blk_num hc1 (i := 3) (by omega)
    have HR := Lib.hid hr1
    clear hW hR hC hB hb1 hc1 hr1
    go_wp2_with (first | (go_at_call 51; with_reducible refine (NumW.round_at (b 7 * p 3) 8 l 0 _ HRD i2 i3 (by omega) (by omega)).mono ?_; rintro r w1 ⟨rfl, hd⟩; have hg := own_dr hd; replace g0 : Own w w1 := g0.trans hg; replace b0 := hg.cell b0; replace p0 := hg.cell p0; replace p1 := hg.cell p1; replace HR := Lib.hid (HR.out.own hg); clear b7 b8 p3 hd hg) | ((with_reducible show wpList _ _ _ (⟨_, .store 56 (.tmp 4) (.tmp 33), _, _, _, none⟩ :: _) _ _); refine wpList_store_row rfl 56 (.tmp 4) (.tmp 33) rfl R #[.int .i64 (p 0), .int .i64 (p 1), .int .i64 (b 0 + l)] rfl rfl 56 _ HR.out.raw infoV rfl (by simp [Value.oneCell']) ?_))
    have hp := HR.out.row #[.int .i64 (p 0), .int .i64 (p 1), .int .i64 (b 0 + l)]
    exact bodyPost_ret (blk_result rfl rfl hp Tryd.underlying56 rfl infoV) rfl ⟨rfl, own_setRow g0 hR0 _⟩
  · have d0 : decide (p 3 < 0) = false := decide_eq_false c
    rw [if_neg c] at hl1 hr
    have i1 : IntKind.i64.wrap (b 8 * p 3) = b 8 * p 3 := IntWalk.i64_in _ (by omega)
    have HRD := Lib.hid (show NumP.roundV (b 8 * p 3) 8 = l ∧ NumP.roundE (b 8 * p 3) 8 = 0 by have := near_rd (s := b 8 * p 3) (d := 8) (by omega) (by omega); exact ⟨this.1.trans hr, this.2⟩)
    have i2 : -9223372036854775808 ≤ b 8 * p 3 := by omega
    have i3 : b 8 * p 3 ≤ 9223372036854775807 := by omega
    clear hr hl1 c
    go_enter Tryd.func44, Tryd.ntmps44
    go_upto_region 1 with (fail)
    obtain ⟨W0, B, C, R, hW, hR, hC, hB, hb1, hc1, hr1, g0, -, -, hR0, -⟩ := three_new w (cz 15 b) 24 (cz 22 p) 31 (#[.int .i64 0, .int .i64 0, .int .i64 0]) 56
    rw [hW, hR, hC, hB]
    have b0 := blk_num hb1 (i := 0) (by omega)
    have b7 := blk_num hb1 (i := 7) (by omega)
    have b8 := blk_num hb1 (i := 8) (by omega)
    have p0 := blk_num hc1 (i := 0) (by omega)
    have p1 := blk_num hc1 (i := 1) (by omega)
    have p3 := blk_num hc1 (i := 3) (by omega)
    have HR := Lib.hid hr1
    clear hW hR hC hB hb1 hc1 hr1
    go_wp2_with (first | (go_at_call 51; with_reducible refine (NumW.round_at (b 8 * p 3) 8 l 0 _ HRD i2 i3 (by omega) (by omega)).mono ?_; rintro r w1 ⟨rfl, hd⟩; have hg := own_dr hd; replace g0 : Own w w1 := g0.trans hg; replace b0 := hg.cell b0; replace p0 := hg.cell p0; replace p1 := hg.cell p1; replace HR := Lib.hid (HR.out.own hg); clear b7 b8 p3 hd hg) | ((with_reducible show wpList _ _ _ (⟨_, .store 56 (.tmp 4) (.tmp 33), _, _, _, none⟩ :: _) _ _); refine wpList_store_row rfl 56 (.tmp 4) (.tmp 33) rfl R #[.int .i64 (p 0), .int .i64 (p 1), .int .i64 (b 0 + l)] rfl rfl 56 _ HR.out.raw infoV rfl (by simp [Value.oneCell']) ?_))
    have hp := HR.out.row #[.int .i64 (p 0), .int .i64 (p 1), .int .i64 (b 0 + l)]
    exact bodyPost_ret (blk_result rfl rfl hp Tryd.underlying56 rfl infoV) rfl ⟨rfl, own_setRow g0 hR0 _⟩
set_option maxRecDepth 100000 in
set_option maxHeartbeats 2000000 in
theorem jlam_at (n z e b v x : Int) (D E : Nat) (w : World) (hn : 0 ≤ n ∧ n ≤ 1500) (hb : 0 ≤ b ∧ b ≤ 6) (hv : -16384 ≤ v ∧ v ≤ 16384) (H : Hid (wy n b v = x)) (hd : Blk w D #[.int .i64 n] 3) (he : Blk w E #[.int .i64 z, .int .i64 e, .int .i64 b] 28) :
    Calls Tryd.prog 75 #[.int .i64 v, .pointer (some ⟨D, 0, none⟩), .pointer (some ⟨E, 0, none⟩)] w fun r w' => r = .returned (.int .i64 x) ∧ Own w w' := by
  obtain ⟨h1, h2, -⟩ := wy_bd hn hb hv
  have i1 : IntKind.i64.wrap (n * (8 - b)) = n * (8 - b) := IntWalk.i64_in _ (by omega)
  have i2 : IntKind.i64.wrap (n * (8 - b) * v) = n * (8 - b) * v := IntWalk.i64_in _ (by omega)
  have HRD := Lib.hid (show NumP.roundV (n * (8 - b) * v) 131072 = x ∧ NumP.roundE (n * (8 - b) * v) 131072 = 0 by have := near_rd (s := n * (8 - b) * v) (d := 131072) (by omega) (by omega); exact ⟨this.1.trans H.out, this.2⟩)
  have j1 : -9223372036854775808 ≤ n * (8 - b) * v := by omega
  have j2 : n * (8 - b) * v ≤ 9223372036854775807 := by omega
  have k0 := hd.one
  have k2 := he.three.2.2
  clear h1 h2 hn hv H hd he
  go_enter Tryd.func75, Tryd.ntmps75
  go_wp2_with (go_at_call 51; with_reducible refine (NumW.round_at (n * (8 - b) * v) 131072 x 0 _ HRD j1 j2 (by omega) (by omega)).mono ?_; rintro r w1 ⟨rfl, hd⟩; have hg := own_dr hd; clear hd)
  go_ret
  exact ⟨rfl, hg⟩
set_option maxRecDepth 100000 in
set_option maxHeartbeats 2000000 in
theorem jalong_at (n z e b f x y v : Int) (w : World) (HT : Hid (AngW.Tab w)) (hn : 0 ≤ n ∧ n ≤ 1500) (hc : chk 0 z e b = 0) (H : Hid (wy n b (vX z e f) = x ∧ wy n b (vY z e f) = y ∧ wy n b (AngP.sinV e) = v)) :
    Calls Tryd.prog 46 #[.int .i64 n, .agg #[.int .i64 z, .int .i64 e, .int .i64 b], .int .i64 f] w fun r w' => r = .returned (.agg #[.int .i64 x, .int .i64 y, .int .i64 v]) ∧ Own w w' := by
  obtain ⟨h1, h2, h3⟩ := H.out
  obtain ⟨-, -, -, hb, -⟩ := chk_yes hc
  obtain ⟨e1, e2, e3⟩ := vc_yes f hc
  obtain ⟨hvx, hvy⟩ := v_bd z e f
  have hvz := AngP.sin_bd e
  obtain ⟨vx, q1⟩ : ∃ q, vX z e f = q := ⟨_, rfl⟩
  obtain ⟨vy, q2⟩ : ∃ q, vY z e f = q := ⟨_, rfl⟩
  obtain ⟨vz, q3⟩ : ∃ q, AngP.sinV e = q := ⟨_, rfl⟩
  rw [q1] at h1 e1 hvx
  rw [q2] at h2 e2 hvy
  rw [q3] at h3 e3 hvz
  have HVC := Lib.hid (show vcX z e b f = vx ∧ vcY z e b f = vy ∧ vcZ z e b = vz ∧ chk 0 z e b = 0 from ⟨e1, e2, e3, hc⟩)
  have HX := Lib.hid h1
  have HY := Lib.hid h2
  have HV3 := Lib.hid h3
  clear h1 h2 h3 e1 e2 e3 q1 q2 q3 hc H
  go_enter Tryd.func46, Tryd.ntmps46
  go_upto_region 1 with (fail)
  obtain ⟨W0, D, E, R, hW, hR, hE, hD, hd1, he1, hr1, g0, -, -, hR0, hne⟩ := three_new w (#[.int .i64 n]) 3 (#[.int .i64 z, .int .i64 e, .int .i64 b]) 28 (#[.int .i64 0, .int .i64 0, .int .i64 0]) 56
  rw [hW, hR, hE, hD]
  have HD := Lib.hid hd1
  have HE := Lib.hid he1
  have HR := Lib.hid (show Blk W0 R (cz 3 nul) 56 from hr1)
  have HDE := Lib.hid hne.2
  clear hW hR hE hD hd1 he1 hr1 hne
  go_upto_region 2 with (first | ((with_reducible show wpList _ _ _ (⟨_, .load 28 (.tmp 4), _, _, _, none⟩ :: _) _ _); refine wpList_load_row rfl 28 (.tmp 4) rfl E rfl 28 _ (0, 0) _ HE.out.raw Tryd.underlying28 rfl infoA ?_) | (go_at_call 74; with_reducible refine (pvec_at z e b f vx vy vz 0 _ (Lib.hid (tab_own HT.out g0)) HVC).mono ?_; rintro r w1 ⟨rfl, hg⟩; replace g0 := g0.trans hg; replace HD := Lib.hid (HD.out.own hg); replace HE := Lib.hid (HE.out.own hg); replace HR := Lib.hid (HR.out.own hg); clear hg) | ((with_reducible show wpList _ _ _ (⟨_, .store 56 (.tmp 7) (.tmp 14), _, _, _, none⟩ :: _) _ _); refine wpList_store_row rfl 56 (.tmp 7) (.tmp 14) rfl _ #[.int .i64 vx, .int .i64 vy, .int .i64 vz] rfl rfl 56 _ (heap_new _ _) infoV rfl (by simp [Value.oneCell']) ?_; rw [World.setRow_alloc_new]))
  obtain ⟨w2, V, hW, hBq, hb, hg, Vg⟩ := blk_new w1 (#[.int .i64 vx, .int .i64 vy, .int .i64 vz]) 56
  have hRV := Nat.ne_of_gt (Nat.lt_of_lt_of_le HR.out.lt Vg)
  rw [hW, hBq]
  have HV := Lib.hid hb
  replace g0 := g0.trans hg
  replace HD := Lib.hid (HD.out.own hg)
  replace HE := Lib.hid (HE.out.own hg)
  replace HR := Lib.hid (HR.out.own hg)
  clear hW hBq hb hg
  have HNE := Lib.hid (show D ≠ R ∧ E ≠ R ∧ V ≠ R from ⟨HDE.out.1, HDE.out.2, hRV⟩)
  clear Vg hRV HDE
  go_upto_region 3 with (fail)
  refine RegD.region_dutyJ [17, 18, 19, 20, 21, 22, 23, 24, 25, 26, 27, 28, 29] 13 3 (0) 3 (nul) (l3 x y v) (RegI.upd (RegI.upd (RegI.upd (RegI.upd (RegI.upd (RegI.upd (RegI.upd (RegI.upd (RegI.upd (RegI.upd (RegI.upd (RegI.upd (RegI.upd (fun _ => undef) 17 (.func (.func 75) #[] #[.pointer (some ⟨D, 0, none⟩), .pointer (some ⟨E, 0, none⟩)])) 18 (.pointer (some ⟨V, 0, none⟩))) 19 (.int .i64 vx)) 20 (.int .i64 x)) 21 (.func (.func 75) #[] #[.pointer (some ⟨D, 0, none⟩), .pointer (some ⟨E, 0, none⟩)])) 22 (.pointer (some ⟨V, 1, none⟩))) 23 (.int .i64 vy)) 24 (.int .i64 y)) 25 (.func (.func 75) #[] #[.pointer (some ⟨D, 0, none⟩), .pointer (some ⟨E, 0, none⟩)])) 26 (.pointer (some ⟨V, 2, none⟩))) 27 (.int .i64 vz)) 28 (.int .i64 v)) 29 (.agg #[.int .i64 x, .int .i64 y, .int .i64 v])) R 56 (by kernel_rfl) (by kernel_rfl) (by decide) (by intro d hd; simp at hd; simp; omega) HR.out ?_
  simp only [RegD.FF, RegI.FX, RegI.upd, List.foldl_cons, List.foldl_nil, List.not_mem_nil, if_true, if_false, Nat.reduceEqDiff]
  simp only [List.setIfInBounds_toArray, List.set_cons_succ, List.set_cons_zero]
  refine And.intro ?hs1 ?he1
  case hs1 =>
    refine And.intro ?s1_0 (And.intro ?s1_1 (And.intro ?s1_2 (And.intro ?s1_3 (And.intro ?s1_4 (And.intro ?s1_5 (And.intro ?s1_6 (And.intro ?s1_7 (And.intro ?s1_8 (And.intro ?s1_9 (And.intro ?s1_10 (And.intro ?s1_11 (And.intro ?s1_12 (And.intro ?s1_13 (trivial))))))))))))))
    case s1_0 =>
      refine RegD.stepJ_det (by decide) (fun u w1 h hO hJ hA => ?_)
      go_wp2
      exact ⟨rfl, rfl, rfl, Own.refl _⟩
    case s1_1 =>
      refine RegD.stepJ_det (by decide) (fun u w1 h hO hJ hA => ?_)
      go_wp2
      exact ⟨rfl, rfl, rfl, Own.refl _⟩
    case s1_2 =>
      refine RegD.stepJ_det (by decide) (fun u w1 h hO hJ hA => ?_)
      have kk := (HV.out.ownx hO HNE.out.2.2).cell 0
      go_wp2
      exact ⟨rfl, rfl, rfl, Own.refl _⟩
    case s1_3 =>
      refine RegD.stepJ_det (by decide) (fun u w1 h hO hJ hA => ?_)
      go_wp2_with (go_at_call 75; with_reducible refine (jlam_at n z e b vx x D E _ hn hb hvx HX (HD.out.ownx hO HNE.out.1) (HE.out.ownx hO HNE.out.2.1)).mono ?_; rintro r w2 ⟨rfl, hg⟩)
      exact ⟨rfl, rfl, rfl, hg⟩
    case s1_4 =>
      refine RegD.stepJ_det (by decide) (fun u w1 h hO hJ hA => ?_)
      go_wp2
      exact ⟨rfl, rfl, rfl, Own.refl _⟩
    case s1_5 =>
      refine RegD.stepJ_det (by decide) (fun u w1 h hO hJ hA => ?_)
      go_wp2
      exact ⟨rfl, rfl, rfl, Own.refl _⟩
    case s1_6 =>
      refine RegD.stepJ_det (by decide) (fun u w1 h hO hJ hA => ?_)
      have kk := (HV.out.ownx hO HNE.out.2.2).cell 1
      go_wp2
      exact ⟨rfl, rfl, rfl, Own.refl _⟩
    case s1_7 =>
      refine RegD.stepJ_det (by decide) (fun u w1 h hO hJ hA => ?_)
      go_wp2_with (go_at_call 75; with_reducible refine (jlam_at n z e b vy y D E _ hn hb hvy HY (HD.out.ownx hO HNE.out.1) (HE.out.ownx hO HNE.out.2.1)).mono ?_; rintro r w2 ⟨rfl, hg⟩)
      exact ⟨rfl, rfl, rfl, hg⟩
    case s1_8 =>
      refine RegD.stepJ_det (by decide) (fun u w1 h hO hJ hA => ?_)
      go_wp2
      exact ⟨rfl, rfl, rfl, Own.refl _⟩
    case s1_9 =>
      refine RegD.stepJ_det (by decide) (fun u w1 h hO hJ hA => ?_)
      go_wp2
      exact ⟨rfl, rfl, rfl, Own.refl _⟩
    case s1_10 =>
      refine RegD.stepJ_det (by decide) (fun u w1 h hO hJ hA => ?_)
      have kk := (HV.out.ownx hO HNE.out.2.2).cell 2
      go_wp2
      exact ⟨rfl, rfl, rfl, Own.refl _⟩
    case s1_11 =>
      refine RegD.stepJ_det (by decide) (fun u w1 h hO hJ hA => ?_)
      go_wp2_with (go_at_call 75; with_reducible refine (jlam_at n z e b vz v D E _ hn hb hvz HV3 (HD.out.ownx hO HNE.out.1) (HE.out.ownx hO HNE.out.2.1)).mono ?_; rintro r w2 ⟨rfl, hg⟩)
      exact ⟨rfl, rfl, rfl, hg⟩
    case s1_12 =>
      refine RegD.stepJ_det (by decide) (fun u w1 h hO hJ hA => ?_)
      go_wp2
      exact ⟨rfl, rfl, rfl, Own.refl _⟩
    case s1_13 =>
      refine RegD.stepJ_store rfl (fun u w1 h hO hJ => ?_)
      have HN := Lib.hid hJ
      clear hJ
      go_wp2_with ((with_reducible show wpList _ _ _ (⟨_, .store 56 (.tmp 6) (.tmp 29), _, _, _, none⟩ :: _) _ _); refine wpList_store_part rfl 56 (.tmp 6) (.tmp 29) rfl R (0) 3 (l3 x y v) rfl (#[.int .i64 x, .int .i64 y, .int .i64 v]) rfl rfl HN.out (by omega) infoV ?_)
      exact ⟨rfl, rfl, rfl⟩
  · intro u w3 hO hj
    replace g0 := own_x g0 hR0 hO
    rw [put_whole] at hj
    have HR := Lib.hid (show Blk w3 R #[.int .i64 x, .int .i64 y, .int .i64 v] 56 from hj)
    clear hO hj HD HE HV
    go_wp2
    exact bodyPost_ret (blk_result rfl rfl HR.out Tryd.underlying56 rfl infoV) rfl ⟨rfl, g0⟩
set_option maxRecDepth 100000 in
set_option maxHeartbeats 2000000 in
theorem jaside_at (d f x y : Int) (w : World) (HT : Hid (AngW.Tab w)) (hd : -1500 ≤ d ∧ d ≤ 1500) (H : Hid (AngP.turX d 0 f = x ∧ AngP.turY d 0 f = y)) :
    Calls Tryd.prog 47 #[.int .i64 d, .int .i64 f] w fun r w' => r = .returned (.agg #[.int .i64 x, .int .i64 y, .int .i64 0]) ∧ Own w w' := by
  have HQ := Lib.hid (show AngW.turU d 0 f = x ∧ AngW.turV d 0 f = y ∧ AngW.turE d 0 = 0 by
    have h := sd_in hd
    unfold AngW.turU AngW.turV AngW.turE
    rw [if_pos h, if_pos h, if_pos h]
    exact ⟨H.out.1, H.out.2, rfl⟩)
  clear hd H
  go_enter Tryd.func47, Tryd.ntmps47
  go_upto_region 1 with (fail)
  obtain ⟨W0, R, hW, hRq, hr1, g0, hR0⟩ := blk_new w (#[.int .i64 0, .int .i64 0, .int .i64 0]) 56
  rw [hW, hRq]
  have HR := Lib.hid hr1
  clear hW hRq hr1
  go_upto_region 2 with (first | (go_at_call 62; with_reducible refine (AngW.tur_at d 0 f x y 0 _ HQ (tab_own HT.out g0)).mono ?_; rintro r w1 ⟨rfl, hg⟩; replace hg := own_gr hg; replace g0 : Own w w1 := g0.trans hg; replace HR := Lib.hid (HR.out.own hg); clear hg) | ((with_reducible show wpList _ _ _ (⟨_, .store 26 (.tmp 5) (.tmp 12), _, _, _, none⟩ :: _) _ _); refine wpList_store_row rfl 26 (.tmp 5) (.tmp 12) rfl _ #[.int .i64 x, .int .i64 y] rfl rfl 26 _ (heap_new _ _) infoPt rfl (by simp [Value.oneCell']) ?_; rw [World.setRow_alloc_new]))
  obtain ⟨w2, V, hW, hBq, hb, hg, Vg⟩ := blk_new w1 (#[.int .i64 x, .int .i64 y]) 26
  rw [hW, hBq]
  have HV := Lib.hid hb
  replace g0 := g0.trans hg
  replace HR := Lib.hid (HR.out.own hg)
  clear hW hBq hb hg
  have k0 := HV.out.cell 0
  have k1 := HV.out.cell 1
  clear Vg HV
  go_wp2_with ((with_reducible show wpList _ _ _ (⟨_, .store 56 (.tmp 4) (.tmp 18), _, _, _, none⟩ :: _) _ _); refine wpList_store_row rfl 56 (.tmp 4) (.tmp 18) rfl R #[.int .i64 x, .int .i64 y, .int .i64 0] rfl rfl 56 _ HR.out.raw infoV rfl (by simp [Value.oneCell']) ?_)
  have hp := HR.out.row #[.int .i64 x, .int .i64 y, .int .i64 0]
  exact bodyPost_ret (blk_result rfl rfl hp Tryd.underlying56 rfl infoV) rfl ⟨rfl, own_setRow g0 hR0 _⟩
end Go.Proofs.YtighpjhipgobiaaDoor.JntW
