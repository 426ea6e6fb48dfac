/-
  Walks of the laws of package limits: awake. Condition: none.
-/
import Derived.Test.YtmjokgddhainlaaLimitsT
import Derived.Test.YtmjokgddhainlaaLimitsPF
import Derived.Test.YtmjokgddhainlaaLimitsPG
import Derived.Test.YtmjokgddhainlaaLimitsPJ
namespace Go.Proofs.Ytmjokgddhainlaa.LimL
open Go.ChangeShapes Go.WideShapes Go.ChangeAt Go.RowKit
open LimW MovW PairW AimP AimW BlkW PrtW PstP PstW RegD LimP
/-- The limits and movements of the chapter's examples. -/
def exL : Vl := put wid 18 6 (l6 (-32) 64 200 100 6 128)
def exS : Vl := PrtW.ups wid 23 20
def exA : Vl := PrtW.ups wid 38 0
def exM : Vl := mrS exL
def exN : Vl := nwS wid exL
def exF : Nat → Vl := fun k => if k = 0 then exP 0 0 0 else exP 40 0 0
def exQ : Nat → Int := fun _ => 0
theorem c_ck : chE exL = 0 := by decide +kernel
theorem c_a0 : alV exL 3 0 (-33) 0 = false ∧ alE exL 3 0 (-33) 0 = 0 := by decide +kernel
theorem c_a1 : alV exL 3 0 (-32) 0 = true ∧ alE exL 3 0 (-32) 0 = 0 := by decide +kernel
theorem c_a2 : alV exL 3 44 0 0 = true ∧ alE exL 3 44 0 0 = 0 := by decide +kernel
theorem c_a3 : alV exL 3 45 0 0 = false ∧ alE exL 3 45 0 0 = 0 := by decide +kernel
theorem c_nw : nwE wid exL = 0 := by decide +kernel
theorem c_m : exM 26 = 212 ∧ exM 27 = 100 := by decide +kernel
theorem c_n : exN 20 = 0 ∧ exN 21 = 44 ∧ exN 18 = -32 := by decide +kernel
theorem c_s : fvE exS exF exQ 2 1 = 26 ∧ fvT exS exF exQ 2 1 = 1 ∧ fvP exS exF exQ 2 1 = 3 ∧ fsE exS exF 2 1 = 0 := by decide +kernel
theorem c_r : fvE exA exF exQ 2 1 = 28 ∧ fvT exA exF exQ 2 1 = 1 ∧ fvP exA exF exQ 2 1 = 6 ∧ fsE exA exF 2 1 = 0 := by decide +kernel
theorem c_w : fvE wid exF exQ 2 1 = 0 ∧ fvT wid exF exQ 2 1 = 0 ∧ fvP wid exF exQ 2 1 = 0 ∧ fsE wid exF 2 1 = 0 := by decide +kernel
theorem e_m : lz (mrV exL) = lz exM ∧ chE exL = 0 := ⟨congrArg lz (mr_yes c_ck), c_ck⟩
theorem e_n : lz (nwV wid exL) = lz exN ∧ nwE wid exL = 0 := ⟨congrArg lz (nw_yes c_nw).2.2.2, c_nw⟩
def gEl : List Int := [0, 0, 0, 0, 0, -64, 0, 0, -64, 0, 0, 64, 0, 0, 0, 0, 0, -64, 0, 0, 64, 0, 0, 0, 0, 0, 0, -64, 0, 0, -64, 0, 0, 64, 0, 40, 0, 0, 0, -64, 0, 0, 64, 0]
def gE : Vl := fun i => gEl.getD i 0
theorem gE_is : ∀ i, i < 2 → ∀ j, j < 22 → gE (0 + i * 22 + j) = exF i j := by decide +kernel
theorem cz_p0 : cz 22 (exP 0 0 0) = #[.int .i64 0, .int .i64 0, .int .i64 0, .int .i64 0, .int .i64 0, .int .i64 (-64), .int .i64 0, .int .i64 0, .int .i64 (-64), .int .i64 0, .int .i64 0, .int .i64 64, .int .i64 0, .int .i64 0, .int .i64 0, .int .i64 0, .int .i64 0, .int .i64 (-64), .int .i64 0, .int .i64 0, .int .i64 64, .int .i64 0] := by kernel_rfl
theorem cz_p1 : cz 22 (exP 40 0 0) = #[.int .i64 0, .int .i64 0, .int .i64 0, .int .i64 0, .int .i64 0, .int .i64 (-64), .int .i64 0, .int .i64 0, .int .i64 (-64), .int .i64 0, .int .i64 0, .int .i64 64, .int .i64 0, .int .i64 40, .int .i64 0, .int .i64 0, .int .i64 0, .int .i64 (-64), .int .i64 0, .int .i64 0, .int .i64 64, .int .i64 0] := by kernel_rfl
theorem cz_two : (#[.int .i64 0, .int .i64 0, .int .i64 0, .int .i64 0, .int .i64 0, .int .i64 (-64), .int .i64 0, .int .i64 0, .int .i64 (-64), .int .i64 0, .int .i64 0, .int .i64 64, .int .i64 0, .int .i64 0, .int .i64 0, .int .i64 0, .int .i64 0, .int .i64 (-64), .int .i64 0, .int .i64 0, .int .i64 64, .int .i64 0, .int .i64 0, .int .i64 0, .int .i64 0, .int .i64 0, .int .i64 0, .int .i64 (-64), .int .i64 0, .int .i64 0, .int .i64 (-64), .int .i64 0, .int .i64 0, .int .i64 64, .int .i64 0, .int .i64 40, .int .i64 0, .int .i64 0, .int .i64 0, .int .i64 (-64), .int .i64 0, .int .i64 0, .int .i64 64, .int .i64 0] : Array Value) = cz 44 gE := by kernel_rfl
theorem mov_ex {w : World} {E H : Nat} {T T' : TypeId} (h : Blk w E #[.int .i64 0, .int .i64 0, .int .i64 0, .int .i64 0, .int .i64 0, .int .i64 (-64), .int .i64 0, .int .i64 0, .int .i64 (-64), .int .i64 0, .int .i64 0, .int .i64 64, .int .i64 0, .int .i64 0, .int .i64 0, .int .i64 0, .int .i64 0, .int .i64 (-64), .int .i64 0, .int .i64 0, .int .i64 64, .int .i64 0, .int .i64 0, .int .i64 0, .int .i64 0, .int .i64 0, .int .i64 0, .int .i64 (-64), .int .i64 0, .int .i64 0, .int .i64 (-64), .int .i64 0, .int .i64 0, .int .i64 64, .int .i64 0, .int .i64 40, .int .i64 0, .int .i64 0, .int .i64 0, .int .i64 (-64), .int .i64 0, .int .i64 0, .int .i64 64, .int .i64 0] T) (k : Blk w H #[.int .i64 0] T') : Mov (.slice (some ⟨E, 0, none⟩) 2 2) (.slice (some ⟨H, 0, none⟩) 1 1) exF exQ 2 1 w := by
  rw [cz_two] at h
  refine ⟨⟨_, _, rfl, fun _ => ⟨E, 0, rfl, fun i hi => ?_⟩⟩, ⟨_, _, rfl, fun _ => ⟨H, 0, rfl, fun i hi => ?_⟩⟩, by unfold maxLen; omega, by unfold maxLen; omega⟩
  · exact lie_cz fun j hj => by rw [← gE_is i hi j hj]; exact blk_num h (i := 0 + i * 22 + j) (by omega)
  · obtain rfl : i = 0 := by omega
    exact k.cell 0
theorem pose0_at (w : World) : Calls Try.prog 35 #[.agg #[.int .i64 0, .int .i64 0, .int .i64 0]] w fun r w' => r = .returned (.agg #[.int .i64 0, .int .i64 0, .int .i64 0, .int .i64 0, .int .i64 0, .int .i64 (-64), .int .i64 0, .int .i64 0, .int .i64 (-64), .int .i64 0, .int .i64 0, .int .i64 64, .int .i64 0, .int .i64 0, .int .i64 0, .int .i64 0, .int .i64 0, .int .i64 (-64), .int .i64 0, .int .i64 0, .int .i64 64, .int .i64 0]) ∧ Own w w' := by
  rw [← cz_p0]
  exact pose_at 0 0 0 w
theorem pose1_at (w : World) : Calls Try.prog 35 #[.agg #[.int .i64 40, .int .i64 0, .int .i64 0]] w fun r w' => r = .returned (.agg #[.int .i64 0, .int .i64 0, .int .i64 0, .int .i64 0, .int .i64 0, .int .i64 (-64), .int .i64 0, .int .i64 0, .int .i64 (-64), .int .i64 0, .int .i64 0, .int .i64 64, .int .i64 0, .int .i64 40, .int .i64 0, .int .i64 0, .int .i64 0, .int .i64 (-64), .int .i64 0, .int .i64 0, .int .i64 64, .int .i64 0]) ∧ Own w w' := by
  rw [← cz_p1]
  exact pose_at 40 0 0 w
theorem infoMv : (Try.prog.info? 52).map (·.size) = some 2 := by kernel_rfl
set_option maxRecDepth 100000 in
set_option maxHeartbeats 40000000 in
theorem awake_at (w : World) :
    Calls Try.prog 16 #[] w fun r w' => r = .returned (.bool true) ∧ Own w w' := by
  have CK := Lib.hid c_ck
  have A0 := Lib.hid c_a0
  have A1 := Lib.hid c_a1
  have A2 := Lib.hid c_a2
  have A3 := Lib.hid c_a3
  have EM := Lib.hid e_m
  have EN := Lib.hid e_n
  have CM := Lib.hid c_m
  have CN := Lib.hid c_n
  have CS := Lib.hid c_s
  have CR := Lib.hid c_r
  have CW := Lib.hid c_w
  have HEL := Lib.hid (show put wid 18 6 (l6 (-32) 64 200 100 6 128) = exL from rfl)
  have HES := Lib.hid (show PrtW.ups wid 23 20 = exS from rfl)
  have HEA := Lib.hid (show PrtW.ups wid 38 0 = exA from rfl)
  have g0 : Own w w := Own.refl w
  go_enter Try.func16, Try.ntmps16
  go_upto_region 2 with (first | (go_at_call 24; with_reducible refine (wide_at _).mono ?_; rintro r w1 ⟨rfl, hg⟩; replace g0 := g0.trans hg; clear hg) | ((with_reducible show wpList _ _ _ (⟨_, .store 26 (.tmp 1) (.tmp 13), _, _, _, none⟩ :: _) _ _); obtain ⟨W9, B1, B2, B3, hW, h3, h2, h1, hb1, hb2, hb3, hg, hz1, hz2, hz3, n12, n13, n23⟩ := three_new w1 (lz nul) 26 (lz nul) 26 (lz nul) 26; rw [← lz_nul] at hW; rw [hW, h3, h2, h1]; have H1 := Lib.hid hb1; have H2 := Lib.hid hb2; have H3 := Lib.hid hb3; replace hz1 := Nat.le_trans g0.size hz1; replace hz2 := Nat.le_trans g0.size hz2; replace hz3 := Nat.le_trans g0.size hz3; replace g0 := g0.trans hg; clear hW h3 h2 h1 hb1 hb2 hb3 hg; refine wpList_store_row rfl 26 (.tmp 1) (.tmp 13) rfl B1 (lz wid) rfl rfl 26 _ H1.out.raw infoLs rfl (lz_one _) ?_; have r1 := H1.out.row (lz wid); have r2 := H2.out.rowfar (Ne.symm n12) (lz wid); have r3 := H3.out.rowfar (Ne.symm n13) (lz wid); replace g0 := own_setRow g0 hz1 (lz wid); clear H1 H2 H3; generalize W9.setRow B1 (lz wid) = W10 at *; have H1 := Lib.hid r1; have H2 := Lib.hid r2; have H3 := Lib.hid r3; clear r1 r2 r3) | ((with_reducible show wpList _ _ _ (⟨_, .store 26 (.tmp 2) (.tmp 14), _, _, _, none⟩ :: _) _ _); refine wpList_store_row rfl 26 (.tmp 2) (.tmp 14) rfl B2 (lz wid) rfl rfl 26 _ H2.out.raw infoLs rfl (lz_one _) ?_; have r1 := H1.out.rowfar n12 (lz wid); have r2 := H2.out.row (lz wid); have r3 := H3.out.rowfar (Ne.symm n23) (lz wid); replace g0 := own_setRow g0 hz2 (lz wid); clear H1 H2 H3; generalize W10.setRow B2 (lz wid) = W11 at *; have H1 := Lib.hid r1; have H2 := Lib.hid r2; have H3 := Lib.hid r3; clear r1 r2 r3) | ((with_reducible show wpList _ _ _ (⟨_, .store 26 (.tmp 3) (.tmp 15), _, _, _, none⟩ :: _) _ _); refine wpList_store_row rfl 26 (.tmp 3) (.tmp 15) rfl B3 (lz wid) rfl rfl 26 _ H3.out.raw infoLs rfl (lz_one _) ?_; have r1 := H1.out.rowfar n13 (lz wid); have r2 := H2.out.rowfar n23 (lz wid); have r3 := H3.out.row (lz wid); replace g0 := own_setRow g0 hz3 (lz wid); clear H1 H2 H3; generalize W11.setRow B3 (lz wid) = W12 at *; have H1 := Lib.hid r1; have H2 := Lib.hid r2; have H3 := Lib.hid r3; clear r1 r2 r3))
  go_upto_region 3 with ((with_reducible show wpList _ _ _ (⟨_, .store 23 (.tmp 18) (.tmp 16), _, _, _, none⟩ :: _) _ _); refine wpList_store_fam fam_lz rfl 23 (.tmp 18) (.tmp 16) rfl B1 (18) 6 (l6 (-32) 64 200 100 6 128) rfl (#[.int .i64 (-32), .int .i64 64, .int .i64 200, .int .i64 100, .int .i64 6, .int .i64 128]) rfl rfl H1.out (by omega) infoL ?_)
  have r1 := H1.out.row (lz (put wid 18 6 (l6 (-32) 64 200 100 6 128)))
  have r2 := H2.out.rowfar (Ne.symm n12) (lz (put wid 18 6 (l6 (-32) 64 200 100 6 128)))
  have r3 := H3.out.rowfar (Ne.symm n13) (lz (put wid 18 6 (l6 (-32) 64 200 100 6 128)))
  replace g0 := own_setRow g0 hz1 (lz (put wid 18 6 (l6 (-32) 64 200 100 6 128)))
  clear H1 H2 H3
  generalize W12.setRow B1 (lz (put wid 18 6 (l6 (-32) 64 200 100 6 128))) = W13 at *
  rw [HEL.out] at r1
  have H1 := Lib.hid r1
  have H2 := Lib.hid r2
  have H3 := Lib.hid r3
  clear r1 r2 r3
  have c23 := lb_num H2.out (i := 23) (by omega) (by omega)
  have f23 := H2.out.frozen 23
  go_upto_region 4 with (fail)
  have r1 := H1.out.far (p := ⟨B2, 23, none⟩) n12 (.int .i64 20)
  have r2 := lb_set H2.out (k := 23) (by omega) (by omega) 20
  have r3 := H3.out.far (p := ⟨B2, 23, none⟩) (Ne.symm n23) (.int .i64 20)
  replace g0 := g0.setCell (p := ⟨B2, 23, none⟩) hz2 (.int .i64 20)
  clear H1 H2 H3 c23 f23
  generalize W13.setCell ⟨B2, 23, none⟩ (.int .i64 20) = W14 at *
  rw [HES.out] at r2
  have H1 := Lib.hid r1
  have H2 := Lib.hid r2
  have H3 := Lib.hid r3
  clear r1 r2 r3
  have c38 := lb_num H3.out (i := 38) (by omega) (by omega)
  have f38 := H3.out.frozen 38
  go_upto_region 5 with (fail)
  have r1 := H1.out.far (p := ⟨B3, 38, none⟩) n13 (.int .i64 0)
  have r2 := H2.out.far (p := ⟨B3, 38, none⟩) n23 (.int .i64 0)
  have r3 := lb_set H3.out (k := 38) (by omega) (by omega) 0
  replace g0 := g0.setCell (p := ⟨B3, 38, none⟩) hz3 (.int .i64 0)
  clear H1 H2 H3 c38 f38
  generalize W14.setCell ⟨B3, 38, none⟩ (.int .i64 0) = W15 at *
  rw [HEA.out] at r3
  have H1 := Lib.hid r1
  have H2 := Lib.hid r2
  have H3 := Lib.hid r3
  clear r1 r2 r3 HEL HES HEA hz1 hz2 hz3 n12 n13 n23
  go_upto_region 7 with (first | ((with_reducible show wpList _ _ _ (⟨_, .load 26 (.tmp 1), _, _, _, none⟩ :: _) _ _); refine wpList_load_row rfl 26 (.tmp 1) rfl B1 rfl 26 _ (0, 0) _ H1.out.raw Try.underlying26 rfl infoLs ?_) | ((with_reducible show wpList _ _ _ (⟨_, .load 26 (.tmp 1), _, _, _, some _⟩ :: _) _ _); refine wpList_load_row_g rfl 26 (.tmp 1) rfl B1 rfl 26 _ (0, 0) _ H1.out.raw Try.underlying26 rfl infoLs ?_) | (go_at_call 14; with_reducible refine (lck_at exL 0 _ CK).mono ?_; rintro r v1 ⟨rfl, hg⟩; replace g0 := g0.trans hg; replace H1 := Lib.hid (H1.out.own hg); replace H2 := Lib.hid (H2.out.own hg); replace H3 := Lib.hid (H3.out.own hg); clear hg) | (go_at_call 34; with_reducible refine (lawal_at exL 0 (-33) 0 false _ A0).mono ?_; rintro r v1 ⟨rfl, hg⟩; replace g0 := g0.trans hg; replace H1 := Lib.hid (H1.out.own hg); replace H2 := Lib.hid (H2.out.own hg); replace H3 := Lib.hid (H3.out.own hg); clear hg) | (go_at_call 34; with_reducible refine (lawal_at exL 0 (-32) 0 true _ A1).mono ?_; rintro r v1 ⟨rfl, hg⟩; replace g0 := g0.trans hg; replace H1 := Lib.hid (H1.out.own hg); replace H2 := Lib.hid (H2.out.own hg); replace H3 := Lib.hid (H3.out.own hg); clear hg) | (go_at_call 34; with_reducible refine (lawal_at exL 44 0 0 true _ A2).mono ?_; rintro r v1 ⟨rfl, hg⟩; replace g0 := g0.trans hg; replace H1 := Lib.hid (H1.out.own hg); replace H2 := Lib.hid (H2.out.own hg); replace H3 := Lib.hid (H3.out.own hg); clear hg) | (go_at_call 34; with_reducible refine (lawal_at exL 45 0 0 false _ A3).mono ?_; rintro r v1 ⟨rfl, hg⟩; replace g0 := g0.trans hg; replace H1 := Lib.hid (H1.out.own hg); replace H2 := Lib.hid (H2.out.own hg); replace H3 := Lib.hid (H3.out.own hg); clear hg))
  clear CK A0 A1 A2 A3
  go_upto_region 8 with (first | ((with_reducible show wpList _ _ _ (⟨_, .load 26 (.tmp 1), _, _, _, none⟩ :: _) _ _); refine wpList_load_row rfl 26 (.tmp 1) rfl B1 rfl 26 _ (0, 0) _ H1.out.raw Try.underlying26 rfl infoLs ?_) | (go_at_call 12; with_reducible refine (lmi_at exL exM 0 _ EM).mono ?_; rintro r v2 ⟨rfl, hg⟩; replace g0 := g0.trans hg; replace H1 := Lib.hid (H1.out.own hg); replace H2 := Lib.hid (H2.out.own hg); replace H3 := Lib.hid (H3.out.own hg); clear hg) | ((with_reducible show wpList _ _ _ (⟨_, .store 26 (.tmp 4) (.tmp 51), _, _, _, none⟩ :: _) _ _); refine wpList_store_row rfl 26 (.tmp 4) (.tmp 51) rfl _ (lz (exM)) rfl rfl 26 _ (heap_new _ _) infoLs rfl (lz_one _) ?_; rw [World.setRow_alloc_new]))
  obtain ⟨w20, M, hW, hBq, hb, hg, Mg⟩ := blk_new v2 (lz exM) 26
  rw [hW, hBq]
  have HM := Lib.hid hb
  replace g0 := g0.trans hg
  replace H1 := Lib.hid (H1.out.own hg)
  replace H2 := Lib.hid (H2.out.own hg)
  replace H3 := Lib.hid (H3.out.own hg)
  clear hW hBq hb hg
  clear Mg EM
  (try go_frame)
  refine RegD.region_dutyN [54, 55, 56, 53, 57, 58, 6, 7] 6 6 7 (RegI.upd (RegI.upd (RegI.upd (RegI.upd (RegI.upd (RegI.upd (RegI.upd (fun _ => undef) 54 (.agg (lz wid))) 55 (.agg (lz exL))) 56 (.tuple #[.agg (lz exN), .int .i64 0])) 53 (.tuple #[.agg (lz exN), .int .i64 0])) 57 (.agg (lz exN))) 58 (.int .i64 0)) 7 (.int .i64 0)) (#[.int .i64 0, .int .i64 0, .int .i64 0, .int .i64 0, .int .i64 0, .int .i64 0, .int .i64 0, .int .i64 0, .int .i64 0, .int .i64 0, .int .i64 0, .int .i64 0, .int .i64 0, .int .i64 0, .int .i64 0, .int .i64 0, .int .i64 0, .int .i64 0, .int .i64 0, .int .i64 0, .int .i64 0, .int .i64 0, .int .i64 0, .int .i64 0, .int .i64 0, .int .i64 0, .int .i64 0, .int .i64 0, .int .i64 0, .int .i64 0, .int .i64 0, .int .i64 0, .int .i64 0, .int .i64 0, .int .i64 0, .int .i64 0, .bool false, .bool false, .int .i64 0, .int .i64 0]) (lz exN) 26 (by kernel_rfl) (by kernel_rfl) (by decide) (by intro d hd; simp at hd; simp; omega) ?_
  simp only [RegD.FF, RegI.FX, RegI.upd, List.foldl_cons, List.foldl_nil, List.mem_cons, List.not_mem_nil, if_true, if_false, Nat.reduceEqDiff, or_false]
  simp only [List.setIfInBounds_toArray, List.set_cons_succ, List.set_cons_zero]
  refine And.intro ?hs1 ?he1
  case hs1 =>
    refine And.intro ?s1_0 (And.intro ?s1_1 (And.intro ?s1_2 (And.intro ?s1_3 (And.intro ?s1_4 (And.intro ?s1_5 (And.intro ?s1_6 (And.intro ?s1_7 (And.intro ?s1_8 (trivial)))))))))
    case s1_0 =>
      refine RegD.stepN_det (by decide) (by decide) (by simp) (fun u w1 hO => ?_)
      go_wp2_with (go_at_call 24; with_reducible refine (wide_at _).mono ?_; rintro r w2 ⟨rfl, hg⟩)
      exact ⟨rfl, rfl, rfl, hg⟩
    case s1_1 =>
      refine RegD.stepN_det (by decide) (by decide) (by simp) (fun u w1 hO => ?_)
      have HB9 := Lib.hid (H1.out.own hO)
      go_wp2_with ((with_reducible show wpList _ _ _ (⟨_, .load 26 (.tmp 1), _, _, _, none⟩ :: _) _ _); refine wpList_load_row rfl 26 (.tmp 1) rfl B1 rfl 26 _ (0, 0) _ HB9.out.raw Try.underlying26 rfl infoLs ?_)
      exact ⟨rfl, rfl, rfl, Own.refl _⟩
    case s1_2 =>
      refine RegD.stepN_det (by decide) (by decide) (by simp) (fun u w1 hO => ?_)
      go_wp2_with (go_at_call 19; with_reducible refine (lnw_at wid exL exN 0 _ EN).mono ?_; rintro r w2 ⟨rfl, hg⟩)
      exact ⟨rfl, rfl, rfl, hg⟩
    case s1_3 =>
      refine RegD.stepN_det (by decide) (by decide) (by simp) (fun u w1 hO => ?_)
      go_wp2
      exact ⟨rfl, rfl, rfl, Own.refl _⟩
    case s1_4 =>
      refine RegD.stepN_det (by decide) (by decide) (by simp) (fun u w1 hO => ?_)
      go_wp2
      exact ⟨rfl, rfl, rfl, Own.refl _⟩
    case s1_5 =>
      refine RegD.stepN_det (by decide) (by decide) (by simp) (fun u w1 hO => ?_)
      go_wp2
      exact ⟨rfl, rfl, rfl, Own.refl _⟩
    case s1_6 =>
      refine RegD.stepN_alloc rfl (fun u w1 hO => ?_)
      go_wp2
      exact ⟨rfl, rfl, rfl, rfl⟩
    case s1_7 =>
      refine RegD.stepN_store (by decide) rfl (by kernel_rfl) (fun u w1 N hO hu hN => ?_)
      have HN := Lib.hid hN
      simp only [hu]
      clear hN
      go_wp2_with ((with_reducible show wpList _ _ _ (⟨_, .store 26 (.tmp 6) (.tmp 57), _, _, _, none⟩ :: _) _ _); refine wpList_store_row rfl 26 (.tmp 6) (.tmp 57) rfl N (lz (exN)) rfl rfl 26 _ HN.out.raw infoLs rfl (lz_one _) ?_)
      exact ⟨rfl, rfl, rfl⟩
    case s1_8 =>
      refine RegD.stepN_det (by decide) (by decide) (by simp) (fun u w1 hO => ?_)
      go_wp2
      exact ⟨rfl, rfl, rfl, Own.refl _⟩
  intro u w21 N hO hu hN0 hN
  simp only [hu]
  replace g0 := g0.trans hO
  replace H1 := Lib.hid (H1.out.own hO)
  replace H2 := Lib.hid (H2.out.own hO)
  replace H3 := Lib.hid (H3.out.own hO)
  replace HM := Lib.hid (HM.out.own hO)
  have m26 : w21.cell? ⟨M, 26, none⟩ = some (.int .i64 212) := by rw [lb_num HM.out (i := 26) (by omega) (by omega), CM.out.1]
  have m27 : w21.cell? ⟨M, 27, none⟩ = some (.int .i64 100) := by rw [lb_num HM.out (i := 27) (by omega) (by omega), CM.out.2]
  have e20 : w21.cell? ⟨N, 20, none⟩ = some (.int .i64 0) := by rw [lb_num hN (i := 20) (by omega) (by omega), CN.out.1]
  have e21 : w21.cell? ⟨N, 21, none⟩ = some (.int .i64 44) := by rw [lb_num hN (i := 21) (by omega) (by omega), CN.out.2.1]
  have e18 : w21.cell? ⟨N, 18, none⟩ = some (.int .i64 (-32)) := by rw [lb_num hN (i := 18) (by omega) (by omega), CN.out.2.2]
  clear hO hu hN0 hN EN HM H1
  go_upto_region 11 with (fail)
  clear m26 m27 e20 e21 e18 CM CN
  go_upto_region 12 with (first | (go_at_call 35; with_reducible refine (pose0_at _).mono ?_; rintro r v3 ⟨rfl, hg⟩; replace g0 := g0.trans hg; replace H2 := Lib.hid (H2.out.own hg); replace H3 := Lib.hid (H3.out.own hg); clear hg) | (go_at_call 35; with_reducible refine (pose1_at _).mono ?_; rintro r v3 ⟨rfl, hg⟩; replace g0 := g0.trans hg; replace H2 := Lib.hid (H2.out.own hg); replace H3 := Lib.hid (H3.out.own hg); clear hg))
  obtain ⟨w22, E, H, X, hW, hX, hH, hE, he, hh, hx, hg, -, -, -, -⟩ := three_new v3 #[.int .i64 0, .int .i64 0, .int .i64 0, .int .i64 0, .int .i64 0, .int .i64 (-64), .int .i64 0, .int .i64 0, .int .i64 (-64), .int .i64 0, .int .i64 0, .int .i64 64, .int .i64 0, .int .i64 0, .int .i64 0, .int .i64 0, .int .i64 0, .int .i64 (-64), .int .i64 0, .int .i64 0, .int .i64 64, .int .i64 0, .int .i64 0, .int .i64 0, .int .i64 0, .int .i64 0, .int .i64 0, .int .i64 (-64), .int .i64 0, .int .i64 0, .int .i64 (-64), .int .i64 0, .int .i64 0, .int .i64 64, .int .i64 0, .int .i64 40, .int .i64 0, .int .i64 0, .int .i64 0, .int .i64 (-64), .int .i64 0, .int .i64 0, .int .i64 64, .int .i64 0] 63 #[.int .i64 0] 3 #[.slice (some ⟨v3.heap.size, 0, none⟩) 2 2, .slice (some ⟨v3.heap.size + 1, 0, none⟩) 1 1] 52
  rw [hH, hE] at hx
  rw [hW, hX, hH, hE]
  have HX := Lib.hid hx
  have HMV := Lib.hid (mov_ex he hh)
  replace g0 := g0.trans hg
  replace H2 := Lib.hid (H2.out.own hg)
  replace H3 := Lib.hid (H3.out.own hg)
  clear hW hX hH hE he hh hx hg
  go_upto_region 13 with (first | ((with_reducible show wpList _ _ _ (⟨_, .load 26 (.tmp 2), _, _, _, none⟩ :: _) _ _); refine wpList_load_row rfl 26 (.tmp 2) rfl B2 rfl 26 _ (0, 0) _ H2.out.raw Try.underlying26 rfl infoLs ?_) | ((with_reducible show wpList _ _ _ (⟨_, .load 52 (.tmp 8), _, _, _, none⟩ :: _) _ _); refine wpList_load_row rfl 52 (.tmp 8) rfl X rfl 52 _ (0, 0) _ HX.out.raw Try.underlying52 rfl infoMv ?_) | (go_at_call 26; with_reducible refine (lfi_at exS (.slice (some ⟨E, 0, none⟩) 2 2) (.slice (some ⟨H, 0, none⟩) 1 1) exF exQ 2 1 26 1 3 0 _ HMV CS).mono ?_; rintro r v4 ⟨rfl, hg⟩; replace g0 := g0.trans hg; replace H3 := Lib.hid (H3.out.own hg); replace HX := Lib.hid (HX.out.own hg); replace HMV := Lib.hid (HMV.out.own hg); clear hg) | ((with_reducible show wpList _ _ _ (⟨_, .store 55 (.tmp 9) (.tmp 111), _, _, _, none⟩ :: _) _ _); refine wpList_store_row rfl 55 (.tmp 9) (.tmp 111) rfl _ #[.int .i64 26, .int .i64 1, .int .i64 3] rfl rfl 55 _ (heap_new _ _) infoF rfl (by simp [Value.oneCell']) ?_; rw [World.setRow_alloc_new]))
  obtain ⟨w23, Q1, hW, hBq, hb, hg, Q1g⟩ := blk_new v4 (#[.int .i64 26, .int .i64 1, .int .i64 3]) 55
  rw [hW, hBq]
  have HQ1 := Lib.hid hb
  replace g0 := g0.trans hg
  replace H3 := Lib.hid (H3.out.own hg)
  replace HX := Lib.hid (HX.out.own hg)
  replace HMV := Lib.hid (HMV.out.own hg)
  clear hW hBq hb hg
  clear Q1g H2 CS
  go_upto_region 14 with (first | ((with_reducible show wpList _ _ _ (⟨_, .load 26 (.tmp 3), _, _, _, none⟩ :: _) _ _); refine wpList_load_row rfl 26 (.tmp 3) rfl B3 rfl 26 _ (0, 0) _ H3.out.raw Try.underlying26 rfl infoLs ?_) | ((with_reducible show wpList _ _ _ (⟨_, .load 52 (.tmp 8), _, _, _, none⟩ :: _) _ _); refine wpList_load_row rfl 52 (.tmp 8) rfl X rfl 52 _ (0, 0) _ HX.out.raw Try.underlying52 rfl infoMv ?_) | (go_at_call 26; with_reducible refine (lfi_at exA (.slice (some ⟨E, 0, none⟩) 2 2) (.slice (some ⟨H, 0, none⟩) 1 1) exF exQ 2 1 28 1 6 0 _ HMV CR).mono ?_; rintro r v5 ⟨rfl, hg⟩; replace g0 := g0.trans hg; replace HX := Lib.hid (HX.out.own hg); replace HQ1 := Lib.hid (HQ1.out.own hg); replace HMV := Lib.hid (HMV.out.own hg); clear hg) | ((with_reducible show wpList _ _ _ (⟨_, .store 55 (.tmp 10) (.tmp 117), _, _, _, none⟩ :: _) _ _); refine wpList_store_row rfl 55 (.tmp 10) (.tmp 117) rfl _ #[.int .i64 28, .int .i64 1, .int .i64 6] rfl rfl 55 _ (heap_new _ _) infoF rfl (by simp [Value.oneCell']) ?_; rw [World.setRow_alloc_new]))
  obtain ⟨w24, Q2, hW, hBq, hb, hg, Q2g⟩ := blk_new v5 (#[.int .i64 28, .int .i64 1, .int .i64 6]) 55
  rw [hW, hBq]
  have HQ2 := Lib.hid hb
  replace g0 := g0.trans hg
  replace HX := Lib.hid (HX.out.own hg)
  replace HMV := Lib.hid (HMV.out.own hg)
  replace HQ1 := Lib.hid (HQ1.out.own hg)
  clear hW hBq hb hg
  clear Q2g H3 CR
  (try go_frame)
  refine RegD.region_dutyN [120, 121, 122, 119, 123, 124, 11, 12] 11 6 7 (RegI.upd (RegI.upd (RegI.upd (RegI.upd (RegI.upd (RegI.upd (RegI.upd (fun _ => undef) 120 (.agg (lz wid))) 121 (.agg #[.slice (some ⟨E, 0, none⟩) 2 2, .slice (some ⟨H, 0, none⟩) 1 1])) 122 (.tuple #[.agg #[.int .i64 0, .int .i64 0, .int .i64 0], .int .i64 0])) 119 (.tuple #[.agg #[.int .i64 0, .int .i64 0, .int .i64 0], .int .i64 0])) 123 (.agg #[.int .i64 0, .int .i64 0, .int .i64 0])) 124 (.int .i64 0)) 12 (.int .i64 0)) (#[.int .i64 0, .int .i64 0, .int .i64 0]) (#[.int .i64 0, .int .i64 0, .int .i64 0]) 55 (by kernel_rfl) (by kernel_rfl) (by decide) (by intro d hd; simp at hd; simp; omega) ?_
  simp only [RegD.FF, RegI.FX, RegI.upd, List.foldl_cons, List.foldl_nil, List.mem_cons, List.not_mem_nil, if_true, if_false, Nat.reduceEqDiff, or_false]
  simp only [List.setIfInBounds_toArray, List.set_cons_succ, List.set_cons_zero]
  refine And.intro ?hs2 ?he2
  case hs2 =>
    refine And.intro ?s2_0 (And.intro ?s2_1 (And.intro ?s2_2 (And.intro ?s2_3 (And.intro ?s2_4 (And.intro ?s2_5 (And.intro ?s2_6 (And.intro ?s2_7 (And.intro ?s2_8 (trivial)))))))))
    case s2_0 =>
      refine RegD.stepN_det (by decide) (by decide) (by simp) (fun u w1 hO => ?_)
      go_wp2_with (go_at_call 24; with_reducible refine (wide_at _).mono ?_; rintro r w2 ⟨rfl, hg⟩)
      exact ⟨rfl, rfl, rfl, hg⟩
    case s2_1 =>
      refine RegD.stepN_det (by decide) (by decide) (by simp) (fun u w1 hO => ?_)
      have HB9 := Lib.hid (HX.out.own hO)
      go_wp2_with ((with_reducible show wpList _ _ _ (⟨_, .load 52 (.tmp 8), _, _, _, none⟩ :: _) _ _); refine wpList_load_row rfl 52 (.tmp 8) rfl X rfl 52 _ (0, 0) _ HB9.out.raw Try.underlying52 rfl infoMv ?_)
      exact ⟨rfl, rfl, rfl, Own.refl _⟩
    case s2_2 =>
      refine RegD.stepN_det (by decide) (by decide) (by simp) (fun u w1 hO => ?_)
      go_wp2_with (go_at_call 26; with_reducible refine (lfi_at wid (.slice (some ⟨E, 0, none⟩) 2 2) (.slice (some ⟨H, 0, none⟩) 1 1) exF exQ 2 1 0 0 0 0 _ (Lib.hid (HMV.out.own hO)) CW).mono ?_; rintro r w2 ⟨rfl, hg⟩)
      exact ⟨rfl, rfl, rfl, hg⟩
    case s2_3 =>
      refine RegD.stepN_det (by decide) (by decide) (by simp) (fun u w1 hO => ?_)
      go_wp2
      exact ⟨rfl, rfl, rfl, Own.refl _⟩
    case s2_4 =>
      refine RegD.stepN_det (by decide) (by decide) (by simp) (fun u w1 hO => ?_)
      go_wp2
      exact ⟨rfl, rfl, rfl, Own.refl _⟩
    case s2_5 =>
      refine RegD.stepN_det (by decide) (by decide) (by simp) (fun u w1 hO => ?_)
      go_wp2
      exact ⟨rfl, rfl, rfl, Own.refl _⟩
    case s2_6 =>
      refine RegD.stepN_alloc rfl (fun u w1 hO => ?_)
      go_wp2
      exact ⟨rfl, rfl, rfl, rfl⟩
    case s2_7 =>
      refine RegD.stepN_store (by decide) rfl (by kernel_rfl) (fun u w1 N hO hu hN => ?_)
      have HN := Lib.hid hN
      simp only [hu]
      clear hN
      go_wp2_with ((with_reducible show wpList _ _ _ (⟨_, .store 55 (.tmp 11) (.tmp 123), _, _, _, none⟩ :: _) _ _); refine wpList_store_row rfl 55 (.tmp 11) (.tmp 123) rfl N #[.int .i64 0, .int .i64 0, .int .i64 0] rfl rfl 55 _ HN.out.raw infoF rfl (by simp [Value.oneCell']) ?_)
      exact ⟨rfl, rfl, rfl⟩
    case s2_8 =>
      refine RegD.stepN_det (by decide) (by decide) (by simp) (fun u w1 hO => ?_)
      go_wp2
      exact ⟨rfl, rfl, rfl, Own.refl _⟩
  intro u2 w25 Q3 hO hu hN0 hN
  simp only [hu]
  replace g0 := g0.trans hO
  replace HQ1 := Lib.hid (HQ1.out.own hO)
  replace HQ2 := Lib.hid (HQ2.out.own hO)
  have HQ3 := Lib.hid hN
  have hfa : fa3 0 0 0 = true := rfl
  clear hO hu hN0 hN HX HMV CW
  go_wp2_with (first | ((with_reducible show wpList _ _ _ (⟨_, .load 55 (.tmp 9), _, _, _, some _⟩ :: _) _ _); refine wpList_load_row_g rfl 55 (.tmp 9) rfl Q1 rfl 55 _ (0, 0) _ HQ1.out.raw Try.underlying55 rfl infoF ?_) | ((with_reducible show wpList _ _ _ (⟨_, .load 55 (.tmp 10), _, _, _, some _⟩ :: _) _ _); refine wpList_load_row_g rfl 55 (.tmp 10) rfl Q2 rfl 55 _ (0, 0) _ HQ2.out.raw Try.underlying55 rfl infoF ?_) | ((with_reducible show wpList _ _ _ (⟨_, .load 55 (.tmp 11), _, _, _, some _⟩ :: _) _ _); refine wpList_load_row_g rfl 55 (.tmp 11) rfl Q3 rfl 55 _ (0, 0) _ HQ3.out.raw Try.underlying55 rfl infoF ?_))
  go_ret
  exact ⟨rfl, g0⟩
end Go.Proofs.Ytmjokgddhainlaa.LimL
