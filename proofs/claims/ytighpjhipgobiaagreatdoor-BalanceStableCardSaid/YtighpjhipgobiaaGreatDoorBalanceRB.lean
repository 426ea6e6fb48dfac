/-
  Walks of the specification of package balance: above, Stable, Margin. Condition: none.
-/
import Derived.Test.YtighpjhipgobiaaGreatDoorBalanceRA
namespace Go.Proofs.YtighpjhipgobiaaGreatDoor.BalW
open Go.ChangeShapes Go.WideShapes Go.ChangeAt Go.RowKit
open PairW AimP AimW BlkW PrtW PstP PstW JntP JntW RegD BalP
theorem rnear3_at (x y u v m n r : Int) (t : Bool) (c : Int) (w : World) (H : Hid (GeoP.nrV (x, y) (u, v) (m, n) r = t ∧ GeoP.nrE (x, y) (u, v) (m, n) r = c)) :
    Calls Tryz.prog 41 #[.agg #[.int .i64 x, .int .i64 y], .agg #[.int .i64 u, .int .i64 v], .agg #[.int .i64 m, .int .i64 n], .int .i64 r] w fun e w' => e = .returned (.tuple #[.bool t, .int .i64 c]) ∧ Own w w' :=
  (GeoW.rnear_at (x, y) (u, v) (m, n) r t c w H).mono fun _ _ h => ⟨h.1, own_geo h.2⟩
/-- Both ends of the base, as the specification finds them. -/
theorem bas_pts (j : Vl) (s : Int) : (s = 1 → (baL j s 0 = j 27 ∧ baL j s 1 = j 28) ∧ baR j s 0 = j 27 ∧ baR j s 1 = j 28) ∧ (s = 2 → (baL j s 0 = j 30 ∧ baL j s 1 = j 31) ∧ baR j s 0 = j 30 ∧ baR j s 1 = j 31) ∧ (s ≠ 1 → s ≠ 2 → (baL j s 0 = j 27 ∧ baL j s 1 = j 28) ∧ baR j s 0 = j 30 ∧ baR j s 1 = j 31) := by
  unfold baL baR
  refine ⟨fun h => ?_, fun h => ?_, fun h1 h2 => ?_⟩
  · subst h; exact ⟨⟨rfl, rfl⟩, rfl, rfl⟩
  · subst h; exact ⟨⟨rfl, rfl⟩, rfl, rfl⟩
  · rw [if_neg h2, if_neg h1, if_neg h2, if_neg h1]; exact ⟨⟨rfl, rfl⟩, rfl, rfl⟩
set_option maxRecDepth 100000 in
set_option maxHeartbeats 2000000 in
theorem rabo_at (b p : Vl) (s r : Int) (t : Bool) (w : World) (hc0 : joE b p s = 0) (hr : 0 ≤ r ∧ r ≤ 32768) (H : Hid (abo b (joV b p s) s r = t)) :
    Calls Tryz.prog 15 #[.agg (cz 15 b), .agg (cz 22 p), .int .i64 s, .int .i64 r] w fun e w' => e = .returned (.bool t) ∧ Own w w' := by
  have hsp := abo_spec hc0 hr t H.out
  have hbd := jo_bd hc0
  have hce := ce_rel hc0
  obtain ⟨hpp0, hpp1, -, -⟩ := (va_yes (jo_yes hc0).2.1).1
  obtain ⟨bp1, bp2, bp3⟩ := bas_pts (joV b p s) s
  obtain ⟨x, hx⟩ : ∃ x, ceV b p s 0 = x := ⟨_, rfl⟩
  obtain ⟨y, hy⟩ : ∃ x, ceV b p s 1 = x := ⟨_, rfl⟩
  have HCE := Lib.hid (show ceV b p s 0 = x ∧ ceV b p s 1 = y ∧ joE b p s = 0 from ⟨hx, hy, hc0⟩)
  rw [ceV_yes hc0] at hx hy
  rw [hx, hy] at hsp hce
  obtain ⟨j, hj⟩ : ∃ f, joV b p s = f := ⟨_, rfl⟩
  have HJO := Lib.hid (show cz 33 (joV b p s) = cz 33 j ∧ joE b p s = 0 from ⟨by rw [hj], hc0⟩)
  rw [hj] at hsp hbd bp1 bp2 bp3
  have h27 := hbd 27 (by omega)
  have h28 := hbd 28 (by omega)
  have h30 := hbd 30 (by omega)
  have h31 := hbd 31 (by omega)
  obtain ⟨l0, hl0⟩ : ∃ x, j 27 - p 0 = x := ⟨_, rfl⟩
  obtain ⟨l1, hl1⟩ : ∃ x, j 28 - p 1 = x := ⟨_, rfl⟩
  obtain ⟨r0, hr0⟩ : ∃ x, j 30 - p 0 = x := ⟨_, rfl⟩
  obtain ⟨r1, hr1⟩ : ∃ x, j 31 - p 1 = x := ⟨_, rfl⟩
  obtain ⟨cx, hcx⟩ : ∃ x', x - p 0 = x' := ⟨_, rfl⟩
  obtain ⟨cy, hcy⟩ : ∃ x', y - p 1 = x' := ⟨_, rfl⟩
  have i1 : IntKind.i64.wrap (j 27 - p 0) = l0 := (IntWalk.i64_in _ (by omega)).trans hl0
  have i2 : IntKind.i64.wrap (j 28 - p 1) = l1 := (IntWalk.i64_in _ (by omega)).trans hl1
  have i3 : IntKind.i64.wrap (j 30 - p 0) = r0 := (IntWalk.i64_in _ (by omega)).trans hr0
  have i4 : IntKind.i64.wrap (j 31 - p 1) = r1 := (IntWalk.i64_in _ (by omega)).trans hr1
  have i5 : IntKind.i64.wrap (x - p 0) = cx := (IntWalk.i64_in _ (by omega)).trans hcx
  have i6 : IntKind.i64.wrap (y - p 1) = cy := (IntWalk.i64_in _ (by omega)).trans hcy
  clear hbd hce hpp0 hpp1 hx hy hj h27 h28 h30 h31 hr H hc0
  by_cases h1 : s = 1
  · obtain ⟨⟨e1, e2⟩, e3, e4⟩ := bp1 h1
    rw [e1, e2, e3, e4, hl0, hl1, hcx, hcy] at hsp
    have HNR := Lib.hid hsp
    subst h1
    clear hsp bp1 bp2 bp3 e1 e2 e3 e4 hl0 hl1 hr0 hr1 hcx hcy
    go_enter Tryz.func15, Tryz.ntmps15
    go_upto_region 1 with (fail)
    obtain ⟨W0, B, P, hW, hP, hB, hb1, hp1, g0, -, -, -⟩ := two_new w (cz 15 b) 24 (cz 22 p) 31
    rw [hW, hP, hB]
    have HB := Lib.hid hb1
    have HP := Lib.hid hp1
    clear hW hP hB hb1 hp1
    go_upto_region 2 with (first | ((with_reducible show wpList _ _ _ (⟨_, .load 24 (.tmp 4), _, _, _, none⟩ :: _) _ _); refine wpList_load_row rfl 24 (.tmp 4) rfl B rfl 24 _ (0, 0) _ HB.out.raw Tryz.underlying24 rfl infoB ?_) | ((with_reducible show wpList _ _ _ (⟨_, .load 31 (.tmp 5), _, _, _, none⟩ :: _) _ _); refine wpList_load_row rfl 31 (.tmp 5) rfl P rfl 31 _ (0, 0) _ HP.out.raw Tryz.underlying31 rfl infoP ?_) | (go_at_call 14; with_reducible refine (rof_at b p j 1 0 _ HJO).mono ?_; rintro r w1 ⟨rfl, hg⟩; replace g0 := g0.trans hg; replace HB := Lib.hid (HB.out.own hg); replace HP := Lib.hid (HP.out.own hg); clear hg) | ((with_reducible show wpList _ _ _ (⟨_, .store 49 (.tmp 9) (.tmp 22), _, _, _, none⟩ :: _) _ _); refine wpList_store_row rfl 49 (.tmp 9) (.tmp 22) rfl _ (cz 33 (j)) rfl rfl 49 _ (heap_new _ _) infoJ rfl (cz_one _ _) ?_; rw [World.setRow_alloc_new]))
    obtain ⟨w2, A, hW, hBq, hb, hg, Ag⟩ := blk_new w1 (cz 33 j) 49
    rw [hW, hBq]
    have HA := Lib.hid hb
    replace g0 := g0.trans hg
    replace HB := Lib.hid (HB.out.own hg)
    replace HP := Lib.hid (HP.out.own hg)
    clear hW hBq hb hg
    clear Ag
    (first | go_frame | skip)
    go_upto_region 3 with (first | ((with_reducible show wpList _ _ _ (⟨_, .load 24 (.tmp 4), _, _, _, none⟩ :: _) _ _); refine wpList_load_row rfl 24 (.tmp 4) rfl B rfl 24 _ (0, 0) _ HB.out.raw Tryz.underlying24 rfl infoB ?_) | ((with_reducible show wpList _ _ _ (⟨_, .load 31 (.tmp 5), _, _, _, none⟩ :: _) _ _); refine wpList_load_row rfl 31 (.tmp 5) rfl P rfl 31 _ (0, 0) _ HP.out.raw Tryz.underlying31 rfl infoP ?_) | (go_at_call 40; with_reducible refine (rCen_at b p 1 x y 0 _ HCE).mono ?_; rintro r w3 ⟨rfl, hg⟩; replace g0 := g0.trans hg; replace HA := Lib.hid (HA.out.own hg); replace HP := Lib.hid (HP.out.own hg); clear HB; clear hg) | ((with_reducible show wpList _ _ _ (⟨_, .store 26 (.tmp 11) (.tmp 29), _, _, _, none⟩ :: _) _ _); refine wpList_store_row rfl 26 (.tmp 11) (.tmp 29) rfl _ #[.int .i64 x, .int .i64 y] rfl rfl 26 _ (heap_new _ _) infoPt rfl (by simp [Value.oneCell']) ?_; rw [World.setRow_alloc_new]))
    obtain ⟨w4, C, hW, hBq, hb, hg, Cg⟩ := blk_new w3 (#[.int .i64 x, .int .i64 y]) 26
    rw [hW, hBq]
    have HC := Lib.hid hb
    replace g0 := g0.trans hg
    replace HA := Lib.hid (HA.out.own hg)
    replace HP := Lib.hid (HP.out.own hg)
    clear hW hBq hb hg
    clear Cg
    (first | go_frame | skip)
    have p0 := blk_num HP.out (i := 0) (by omega)
    have p1 := blk_num HP.out (i := 1) (by omega)
    have a0 := blk_num HA.out (i := 27) (by omega)
    have a1 := blk_num HA.out (i := 28) (by omega)
    go_upto_region 4 with ((with_reducible show wpList _ _ _ (⟨_, .store 26 (.tmp 13) (.tmp 47), _, _, _, none⟩ :: _) _ _); refine wpList_store_row rfl 26 (.tmp 13) (.tmp 47) rfl _ #[.int .i64 l0, .int .i64 l1] rfl rfl 26 _ (heap_new _ _) infoPt rfl (by simp [Value.oneCell']) ?_; rw [World.setRow_alloc_new])
    clear p0 p1 a0 a1
    obtain ⟨w5, E, hW, hBq, hb, hg, Eg⟩ := blk_new w4 (#[.int .i64 l0, .int .i64 l1]) 26
    have hE0 : w.heap.size ≤ E := Nat.le_trans g0.size Eg
    have hPE := Nat.ne_of_lt (Nat.lt_of_lt_of_le HP.out.lt Eg)
    have hCE := Nat.ne_of_lt (Nat.lt_of_lt_of_le HC.out.lt Eg)
    rw [hW, hBq]
    have HE := Lib.hid hb
    replace g0 := g0.trans hg
    replace HA := Lib.hid (HA.out.own hg)
    replace HP := Lib.hid (HP.out.own hg)
    replace HC := Lib.hid (HC.out.own hg)
    clear hW hBq hb hg
    (first | go_frame | skip)
    have p0 := blk_num HP.out (i := 0) (by omega)
    have p1 := blk_num HP.out (i := 1) (by omega)
    have a2 := blk_num HA.out (i := 30) (by omega)
    have a3 := blk_num HA.out (i := 31) (by omega)
    go_upto_region 5 with ((with_reducible show wpList _ _ _ (⟨_, .store 26 (.tmp 14) (.tmp 64), _, _, _, none⟩ :: _) _ _); refine wpList_store_row rfl 26 (.tmp 14) (.tmp 64) rfl _ #[.int .i64 r0, .int .i64 r1] rfl rfl 26 _ (heap_new _ _) infoPt rfl (by simp [Value.oneCell']) ?_; rw [World.setRow_alloc_new])
    clear p0 p1 a2 a3
    obtain ⟨w6, F, hW, hBq, hb, hg, Fg⟩ := blk_new w5 (#[.int .i64 r0, .int .i64 r1]) 26
    have hEF := Nat.ne_of_lt (Nat.lt_of_lt_of_le HE.out.lt Fg)
    have hPF := Nat.ne_of_lt (Nat.lt_of_lt_of_le HP.out.lt Fg)
    have hCF := Nat.ne_of_lt (Nat.lt_of_lt_of_le HC.out.lt Fg)
    have hF0 : w.heap.size ≤ F := Nat.le_trans g0.size Fg
    rw [hW, hBq]
    have HF := Lib.hid hb
    replace g0 := g0.trans hg
    replace HP := Lib.hid (HP.out.own hg)
    replace HC := Lib.hid (HC.out.own hg)
    replace HE := Lib.hid (HE.out.own hg)
    clear hW hBq hb hg
    clear HA
    (first | go_frame | skip)
    go_upto_region 7 with (first | ((with_reducible show wpList _ _ _ (⟨_, .load 26 (.tmp 13), _, _, _, none⟩ :: _) _ _); refine wpList_load_row rfl 26 (.tmp 13) rfl E rfl 26 _ (0, 0) _ HE.out.raw Tryz.underlying26 rfl infoPt ?_) | ((with_reducible show wpList _ _ _ (⟨_, .store 26 (.tmp 14) (.tmp 67), _, _, _, none⟩ :: _) _ _); refine wpList_store_row rfl 26 (.tmp 14) (.tmp 67) rfl F #[.int .i64 l0, .int .i64 l1] rfl rfl 26 _ HF.out.raw infoPt rfl (by simp [Value.oneCell']) ?_))
    have hb9 := HF.out.row (#[.int .i64 l0, .int .i64 l1])
    have h9HE := HE.out.rowfar hEF (#[.int .i64 l0, .int .i64 l1])
    have h9HP := HP.out.rowfar hPF (#[.int .i64 l0, .int .i64 l1])
    have h9HC := HC.out.rowfar hCF (#[.int .i64 l0, .int .i64 l1])
    replace g0 := own_setRow g0 hF0 (#[.int .i64 l0, .int .i64 l1])
    clear HF HE HP HC
    generalize w6.setRow F (#[.int .i64 l0, .int .i64 l1]) = w7 at *
    have HF := Lib.hid hb9
    have HE := Lib.hid h9HE
    have HP := Lib.hid h9HP
    have HC := Lib.hid h9HC
    clear hb9 h9HE h9HP h9HC
    (first | go_frame | skip)
    have p0 := blk_num HP.out (i := 0) (by omega)
    have p1 := blk_num HP.out (i := 1) (by omega)
    have c0 := HC.out.cell 0
    have c1 := HC.out.cell 1
    go_wp2_with (first | ((with_reducible show wpList _ _ _ (⟨_, .load 26 (.tmp 13), _, _, _, none⟩ :: _) _ _); refine wpList_load_row rfl 26 (.tmp 13) rfl E rfl 26 _ (0, 0) _ HE.out.raw Tryz.underlying26 rfl infoPt ?_) | ((with_reducible show wpList _ _ _ (⟨_, .load 26 (.tmp 14), _, _, _, none⟩ :: _) _ _); refine wpList_load_row rfl 26 (.tmp 14) rfl F rfl 26 _ (0, 0) _ HF.out.raw Tryz.underlying26 rfl infoPt ?_) | (go_at_call 41; with_reducible refine (rnear3_at cx cy l0 l1 l0 l1 r t 0 _ HNR).mono ?_; rintro r1 w9 ⟨rfl, hg⟩; replace g0 := g0.trans hg; clear hg))
    go_ret
    exact ⟨rfl, g0⟩
  · by_cases h2 : s = 2
    · obtain ⟨⟨e1, e2⟩, e3, e4⟩ := bp2 h2
      rw [e1, e2, e3, e4, hr0, hr1, hcx, hcy] at hsp
      have HNR := Lib.hid hsp
      subst h2
      clear hsp bp1 bp2 bp3 e1 e2 e3 e4 hl0 hl1 hr0 hr1 hcx hcy h1
      go_enter Tryz.func15, Tryz.ntmps15
      go_upto_region 1 with (fail)
      obtain ⟨W0, B, P, hW, hP, hB, hb1, hp1, g0, -, -, -⟩ := two_new w (cz 15 b) 24 (cz 22 p) 31
      rw [hW, hP, hB]
      have HB := Lib.hid hb1
      have HP := Lib.hid hp1
      clear hW hP hB hb1 hp1
      go_upto_region 2 with (first | ((with_reducible show wpList _ _ _ (⟨_, .load 24 (.tmp 4), _, _, _, none⟩ :: _) _ _); refine wpList_load_row rfl 24 (.tmp 4) rfl B rfl 24 _ (0, 0) _ HB.out.raw Tryz.underlying24 rfl infoB ?_) | ((with_reducible show wpList _ _ _ (⟨_, .load 31 (.tmp 5), _, _, _, none⟩ :: _) _ _); refine wpList_load_row rfl 31 (.tmp 5) rfl P rfl 31 _ (0, 0) _ HP.out.raw Tryz.underlying31 rfl infoP ?_) | (go_at_call 14; with_reducible refine (rof_at b p j 2 0 _ HJO).mono ?_; rintro r w1 ⟨rfl, hg⟩; replace g0 := g0.trans hg; replace HB := Lib.hid (HB.out.own hg); replace HP := Lib.hid (HP.out.own hg); clear hg) | ((with_reducible show wpList _ _ _ (⟨_, .store 49 (.tmp 9) (.tmp 22), _, _, _, none⟩ :: _) _ _); refine wpList_store_row rfl 49 (.tmp 9) (.tmp 22) rfl _ (cz 33 (j)) rfl rfl 49 _ (heap_new _ _) infoJ rfl (cz_one _ _) ?_; rw [World.setRow_alloc_new]))
      obtain ⟨w2, A, hW, hBq, hb, hg, Ag⟩ := blk_new w1 (cz 33 j) 49
      rw [hW, hBq]
      have HA := Lib.hid hb
      replace g0 := g0.trans hg
      replace HB := Lib.hid (HB.out.own hg)
      replace HP := Lib.hid (HP.out.own hg)
      clear hW hBq hb hg
      clear Ag
      (first | go_frame | skip)
      go_upto_region 3 with (first | ((with_reducible show wpList _ _ _ (⟨_, .load 24 (.tmp 4), _, _, _, none⟩ :: _) _ _); refine wpList_load_row rfl 24 (.tmp 4) rfl B rfl 24 _ (0, 0) _ HB.out.raw Tryz.underlying24 rfl infoB ?_) | ((with_reducible show wpList _ _ _ (⟨_, .load 31 (.tmp 5), _, _, _, none⟩ :: _) _ _); refine wpList_load_row rfl 31 (.tmp 5) rfl P rfl 31 _ (0, 0) _ HP.out.raw Tryz.underlying31 rfl infoP ?_) | (go_at_call 40; with_reducible refine (rCen_at b p 2 x y 0 _ HCE).mono ?_; rintro r w3 ⟨rfl, hg⟩; replace g0 := g0.trans hg; replace HA := Lib.hid (HA.out.own hg); replace HP := Lib.hid (HP.out.own hg); clear HB; clear hg) | ((with_reducible show wpList _ _ _ (⟨_, .store 26 (.tmp 11) (.tmp 29), _, _, _, none⟩ :: _) _ _); refine wpList_store_row rfl 26 (.tmp 11) (.tmp 29) rfl _ #[.int .i64 x, .int .i64 y] rfl rfl 26 _ (heap_new _ _) infoPt rfl (by simp [Value.oneCell']) ?_; rw [World.setRow_alloc_new]))
      obtain ⟨w4, C, hW, hBq, hb, hg, Cg⟩ := blk_new w3 (#[.int .i64 x, .int .i64 y]) 26
      rw [hW, hBq]
      have HC := Lib.hid hb
      replace g0 := g0.trans hg
      replace HA := Lib.hid (HA.out.own hg)
      replace HP := Lib.hid (HP.out.own hg)
      clear hW hBq hb hg
      clear Cg
      (first | go_frame | skip)
      have p0 := blk_num HP.out (i := 0) (by omega)
      have p1 := blk_num HP.out (i := 1) (by omega)
      have a0 := blk_num HA.out (i := 27) (by omega)
      have a1 := blk_num HA.out (i := 28) (by omega)
      go_upto_region 4 with ((with_reducible show wpList _ _ _ (⟨_, .store 26 (.tmp 13) (.tmp 47), _, _, _, none⟩ :: _) _ _); refine wpList_store_row rfl 26 (.tmp 13) (.tmp 47) rfl _ #[.int .i64 l0, .int .i64 l1] rfl rfl 26 _ (heap_new _ _) infoPt rfl (by simp [Value.oneCell']) ?_; rw [World.setRow_alloc_new])
      clear p0 p1 a0 a1
      obtain ⟨w5, E, hW, hBq, hb, hg, Eg⟩ := blk_new w4 (#[.int .i64 l0, .int .i64 l1]) 26
      have hE0 : w.heap.size ≤ E := Nat.le_trans g0.size Eg
      have hPE := Nat.ne_of_lt (Nat.lt_of_lt_of_le HP.out.lt Eg)
      have hCE := Nat.ne_of_lt (Nat.lt_of_lt_of_le HC.out.lt Eg)
      rw [hW, hBq]
      have HE := Lib.hid hb
      replace g0 := g0.trans hg
      replace HA := Lib.hid (HA.out.own hg)
      replace HP := Lib.hid (HP.out.own hg)
      replace HC := Lib.hid (HC.out.own hg)
      clear hW hBq hb hg
      (first | go_frame | skip)
      have p0 := blk_num HP.out (i := 0) (by omega)
      have p1 := blk_num HP.out (i := 1) (by omega)
      have a2 := blk_num HA.out (i := 30) (by omega)
      have a3 := blk_num HA.out (i := 31) (by omega)
      go_upto_region 5 with ((with_reducible show wpList _ _ _ (⟨_, .store 26 (.tmp 14) (.tmp 64), _, _, _, none⟩ :: _) _ _); refine wpList_store_row rfl 26 (.tmp 14) (.tmp 64) rfl _ #[.int .i64 r0, .int .i64 r1] rfl rfl 26 _ (heap_new _ _) infoPt rfl (by simp [Value.oneCell']) ?_; rw [World.setRow_alloc_new])
      clear p0 p1 a2 a3
      obtain ⟨w6, F, hW, hBq, hb, hg, Fg⟩ := blk_new w5 (#[.int .i64 r0, .int .i64 r1]) 26
      have hEF := Nat.ne_of_lt (Nat.lt_of_lt_of_le HE.out.lt Fg)
      have hPF := Nat.ne_of_lt (Nat.lt_of_lt_of_le HP.out.lt Fg)
      have hCF := Nat.ne_of_lt (Nat.lt_of_lt_of_le HC.out.lt Fg)
      have hF0 : w.heap.size ≤ F := Nat.le_trans g0.size Fg
      rw [hW, hBq]
      have HF := Lib.hid hb
      replace g0 := g0.trans hg
      replace HP := Lib.hid (HP.out.own hg)
      replace HC := Lib.hid (HC.out.own hg)
      replace HE := Lib.hid (HE.out.own hg)
      clear hW hBq hb hg
      clear HA
      (first | go_frame | skip)
      go_upto_region 9 with (first | ((with_reducible show wpList _ _ _ (⟨_, .load 26 (.tmp 14), _, _, _, none⟩ :: _) _ _); refine wpList_load_row rfl 26 (.tmp 14) rfl F rfl 26 _ (0, 0) _ HF.out.raw Tryz.underlying26 rfl infoPt ?_) | ((with_reducible show wpList _ _ _ (⟨_, .store 26 (.tmp 13) (.tmp 70), _, _, _, none⟩ :: _) _ _); refine wpList_store_row rfl 26 (.tmp 13) (.tmp 70) rfl E #[.int .i64 r0, .int .i64 r1] rfl rfl 26 _ HE.out.raw infoPt rfl (by simp [Value.oneCell']) ?_))
      have hb9 := HE.out.row (#[.int .i64 r0, .int .i64 r1])
      have h9HF := HF.out.rowfar (Ne.symm hEF) (#[.int .i64 r0, .int .i64 r1])
      have h9HP := HP.out.rowfar hPE (#[.int .i64 r0, .int .i64 r1])
      have h9HC := HC.out.rowfar hCE (#[.int .i64 r0, .int .i64 r1])
      replace g0 := own_setRow g0 hE0 (#[.int .i64 r0, .int .i64 r1])
      clear HE HF HP HC
      generalize w6.setRow E (#[.int .i64 r0, .int .i64 r1]) = w7 at *
      have HE := Lib.hid hb9
      have HF := Lib.hid h9HF
      have HP := Lib.hid h9HP
      have HC := Lib.hid h9HC
      clear hb9 h9HF h9HP h9HC
      (first | go_frame | skip)
      have p0 := blk_num HP.out (i := 0) (by omega)
      have p1 := blk_num HP.out (i := 1) (by omega)
      have c0 := HC.out.cell 0
      have c1 := HC.out.cell 1
      go_wp2_with (first | ((with_reducible show wpList _ _ _ (⟨_, .load 26 (.tmp 13), _, _, _, none⟩ :: _) _ _); refine wpList_load_row rfl 26 (.tmp 13) rfl E rfl 26 _ (0, 0) _ HE.out.raw Tryz.underlying26 rfl infoPt ?_) | ((with_reducible show wpList _ _ _ (⟨_, .load 26 (.tmp 14), _, _, _, none⟩ :: _) _ _); refine wpList_load_row rfl 26 (.tmp 14) rfl F rfl 26 _ (0, 0) _ HF.out.raw Tryz.underlying26 rfl infoPt ?_) | (go_at_call 41; with_reducible refine (rnear3_at cx cy r0 r1 r0 r1 r t 0 _ HNR).mono ?_; rintro r1 w9 ⟨rfl, hg⟩; replace g0 := g0.trans hg; clear hg))
      go_ret
      exact ⟨rfl, g0⟩
    · obtain ⟨⟨e1, e2⟩, e3, e4⟩ := bp3 h1 h2
      rw [e1, e2, e3, e4, hl0, hl1, hr0, hr1, hcx, hcy] at hsp
      have HNR := Lib.hid hsp
      have d1 : decide (s = 1) = false := decide_eq_false h1
      have d2 : decide (s = 2) = false := decide_eq_false h2
      have d3 : (s == 1) = false := beq_eq_false_iff_ne.2 h1
      have d4 : (s == 2) = false := beq_eq_false_iff_ne.2 h2
      clear hsp bp1 bp2 bp3 e1 e2 e3 e4 hl0 hl1 hr0 hr1 hcx hcy h1 h2
      go_enter Tryz.func15, Tryz.ntmps15
      go_upto_region 1 with (fail)
      obtain ⟨W0, B, P, hW, hP, hB, hb1, hp1, g0, -, -, -⟩ := two_new w (cz 15 b) 24 (cz 22 p) 31
      rw [hW, hP, hB]
      have HB := Lib.hid hb1
      have HP := Lib.hid hp1
      clear hW hP hB hb1 hp1
      go_upto_region 2 with (first | ((with_reducible show wpList _ _ _ (⟨_, .load 24 (.tmp 4), _, _, _, none⟩ :: _) _ _); refine wpList_load_row rfl 24 (.tmp 4) rfl B rfl 24 _ (0, 0) _ HB.out.raw Tryz.underlying24 rfl infoB ?_) | ((with_reducible show wpList _ _ _ (⟨_, .load 31 (.tmp 5), _, _, _, none⟩ :: _) _ _); refine wpList_load_row rfl 31 (.tmp 5) rfl P rfl 31 _ (0, 0) _ HP.out.raw Tryz.underlying31 rfl infoP ?_) | (go_at_call 14; with_reducible refine (rof_at b p j s 0 _ HJO).mono ?_; rintro r w1 ⟨rfl, hg⟩; replace g0 := g0.trans hg; replace HB := Lib.hid (HB.out.own hg); replace HP := Lib.hid (HP.out.own hg); clear hg) | ((with_reducible show wpList _ _ _ (⟨_, .store 49 (.tmp 9) (.tmp 22), _, _, _, none⟩ :: _) _ _); refine wpList_store_row rfl 49 (.tmp 9) (.tmp 22) rfl _ (cz 33 (j)) rfl rfl 49 _ (heap_new _ _) infoJ rfl (cz_one _ _) ?_; rw [World.setRow_alloc_new]))
      obtain ⟨w2, A, hW, hBq, hb, hg, Ag⟩ := blk_new w1 (cz 33 j) 49
      rw [hW, hBq]
      have HA := Lib.hid hb
      replace g0 := g0.trans hg
      replace HB := Lib.hid (HB.out.own hg)
      replace HP := Lib.hid (HP.out.own hg)
      clear hW hBq hb hg
      clear Ag
      (first | go_frame | skip)
      go_upto_region 3 with (first | ((with_reducible show wpList _ _ _ (⟨_, .load 24 (.tmp 4), _, _, _, none⟩ :: _) _ _); refine wpList_load_row rfl 24 (.tmp 4) rfl B rfl 24 _ (0, 0) _ HB.out.raw Tryz.underlying24 rfl infoB ?_) | ((with_reducible show wpList _ _ _ (⟨_, .load 31 (.tmp 5), _, _, _, none⟩ :: _) _ _); refine wpList_load_row rfl 31 (.tmp 5) rfl P rfl 31 _ (0, 0) _ HP.out.raw Tryz.underlying31 rfl infoP ?_) | (go_at_call 40; with_reducible refine (rCen_at b p s x y 0 _ HCE).mono ?_; rintro r w3 ⟨rfl, hg⟩; replace g0 := g0.trans hg; replace HA := Lib.hid (HA.out.own hg); replace HP := Lib.hid (HP.out.own hg); clear HB; clear hg) | ((with_reducible show wpList _ _ _ (⟨_, .store 26 (.tmp 11) (.tmp 29), _, _, _, none⟩ :: _) _ _); refine wpList_store_row rfl 26 (.tmp 11) (.tmp 29) rfl _ #[.int .i64 x, .int .i64 y] rfl rfl 26 _ (heap_new _ _) infoPt rfl (by simp [Value.oneCell']) ?_; rw [World.setRow_alloc_new]))
      obtain ⟨w4, C, hW, hBq, hb, hg, Cg⟩ := blk_new w3 (#[.int .i64 x, .int .i64 y]) 26
      rw [hW, hBq]
      have HC := Lib.hid hb
      replace g0 := g0.trans hg
      replace HA := Lib.hid (HA.out.own hg)
      replace HP := Lib.hid (HP.out.own hg)
      clear hW hBq hb hg
      clear Cg
      (first | go_frame | skip)
      have p0 := blk_num HP.out (i := 0) (by omega)
      have p1 := blk_num HP.out (i := 1) (by omega)
      have a0 := blk_num HA.out (i := 27) (by omega)
      have a1 := blk_num HA.out (i := 28) (by omega)
      go_upto_region 4 with ((with_reducible show wpList _ _ _ (⟨_, .store 26 (.tmp 13) (.tmp 47), _, _, _, none⟩ :: _) _ _); refine wpList_store_row rfl 26 (.tmp 13) (.tmp 47) rfl _ #[.int .i64 l0, .int .i64 l1] rfl rfl 26 _ (heap_new _ _) infoPt rfl (by simp [Value.oneCell']) ?_; rw [World.setRow_alloc_new])
      clear p0 p1 a0 a1
      obtain ⟨w5, E, hW, hBq, hb, hg, Eg⟩ := blk_new w4 (#[.int .i64 l0, .int .i64 l1]) 26
      have hE0 : w.heap.size ≤ E := Nat.le_trans g0.size Eg
      have hPE := Nat.ne_of_lt (Nat.lt_of_lt_of_le HP.out.lt Eg)
      have hCE := Nat.ne_of_lt (Nat.lt_of_lt_of_le HC.out.lt Eg)
      rw [hW, hBq]
      have HE := Lib.hid hb
      replace g0 := g0.trans hg
      replace HA := Lib.hid (HA.out.own hg)
      replace HP := Lib.hid (HP.out.own hg)
      replace HC := Lib.hid (HC.out.own hg)
      clear hW hBq hb hg
      (first | go_frame | skip)
      have p0 := blk_num HP.out (i := 0) (by omega)
      have p1 := blk_num HP.out (i := 1) (by omega)
      have a2 := blk_num HA.out (i := 30) (by omega)
      have a3 := blk_num HA.out (i := 31) (by omega)
      go_upto_region 5 with ((with_reducible show wpList _ _ _ (⟨_, .store 26 (.tmp 14) (.tmp 64), _, _, _, none⟩ :: _) _ _); refine wpList_store_row rfl 26 (.tmp 14) (.tmp 64) rfl _ #[.int .i64 r0, .int .i64 r1] rfl rfl 26 _ (heap_new _ _) infoPt rfl (by simp [Value.oneCell']) ?_; rw [World.setRow_alloc_new])
      clear p0 p1 a2 a3
      obtain ⟨w6, F, hW, hBq, hb, hg, Fg⟩ := blk_new w5 (#[.int .i64 r0, .int .i64 r1]) 26
      have hEF := Nat.ne_of_lt (Nat.lt_of_lt_of_le HE.out.lt Fg)
      have hPF := Nat.ne_of_lt (Nat.lt_of_lt_of_le HP.out.lt Fg)
      have hCF := Nat.ne_of_lt (Nat.lt_of_lt_of_le HC.out.lt Fg)
      have hF0 : w.heap.size ≤ F := Nat.le_trans g0.size Fg
      rw [hW, hBq]
      have HF := Lib.hid hb
      replace g0 := g0.trans hg
      replace HP := Lib.hid (HP.out.own hg)
      replace HC := Lib.hid (HC.out.own hg)
      replace HE := Lib.hid (HE.out.own hg)
      clear hW hBq hb hg
      clear HA
      (first | go_frame | skip)
      have p0 := blk_num HP.out (i := 0) (by omega)
      have p1 := blk_num HP.out (i := 1) (by omega)
      have c0 := HC.out.cell 0
      have c1 := HC.out.cell 1
      go_wp2_with (first | ((with_reducible show wpList _ _ _ (⟨_, .load 26 (.tmp 13), _, _, _, none⟩ :: _) _ _); refine wpList_load_row rfl 26 (.tmp 13) rfl E rfl 26 _ (0, 0) _ HE.out.raw Tryz.underlying26 rfl infoPt ?_) | ((with_reducible show wpList _ _ _ (⟨_, .load 26 (.tmp 14), _, _, _, none⟩ :: _) _ _); refine wpList_load_row rfl 26 (.tmp 14) rfl F rfl 26 _ (0, 0) _ HF.out.raw Tryz.underlying26 rfl infoPt ?_) | (go_at_call 41; with_reducible refine (rnear3_at cx cy l0 l1 r0 r1 r t 0 _ HNR).mono ?_; rintro r1 w9 ⟨rfl, hg⟩; replace g0 := g0.trans hg; clear hg))
      go_ret
      exact ⟨rfl, g0⟩
set_option maxRecDepth 100000 in
set_option maxHeartbeats 2000000 in
theorem rSta_at (b p : Vl) (s : Int) (t : Bool) (c : Int) (w : World) (H : Hid (stV b p s = t ∧ joE b p s = c)) :
    Calls Tryz.prog 6 #[.agg (cz 15 b), .agg (cz 22 p), .int .i64 s] w fun r w' => r = .returned (.tuple #[.bool t, .int .i64 c]) ∧ Own w w' := by
  obtain ⟨ht, hc⟩ := H.out
  clear H
  obtain ⟨j, hj⟩ : ∃ f, joV b p s = f := ⟨_, rfl⟩
  obtain ⟨c0, hc0⟩ : ∃ c, joE b p s = c := ⟨_, rfl⟩
  have HJO := Lib.hid (show cz 33 (joV b p s) = cz 33 j ∧ joE b p s = c0 from ⟨by rw [hj], hc0⟩)
  rw [hc0] at hc
  subst hc
  by_cases h : c0 = 0
  · subst h
    by_cases hs : s = 0
    · rw [stV_air hc0 hs] at ht
      subst ht
      subst hs
      clear hc0 hj
      go_enter Tryz.func6, Tryz.ntmps6
      go_upto_region 1 with (fail)
      obtain ⟨W0, B, P, hW, hP, hB, hb1, hp1, g0, -, -, -⟩ := two_new w (cz 15 b) 24 (cz 22 p) 31
      rw [hW, hP, hB]
      have HB := Lib.hid hb1
      have HP := Lib.hid hp1
      clear hW hP hB hb1 hp1
      go_upto_region 2 with (first | ((with_reducible show wpList _ _ _ (⟨_, .load 24 (.tmp 3), _, _, _, none⟩ :: _) _ _); refine wpList_load_row rfl 24 (.tmp 3) rfl B rfl 24 _ (0, 0) _ HB.out.raw Tryz.underlying24 rfl infoB ?_) | ((with_reducible show wpList _ _ _ (⟨_, .load 31 (.tmp 4), _, _, _, none⟩ :: _) _ _); refine wpList_load_row rfl 31 (.tmp 4) rfl P rfl 31 _ (0, 0) _ HP.out.raw Tryz.underlying31 rfl infoP ?_) | (go_at_call 14; with_reducible refine (rof_at b p j 0 0 _ HJO).mono ?_; rintro r w1 ⟨rfl, hg⟩; replace g0 := g0.trans hg; replace HB := Lib.hid (HB.out.own hg); replace HP := Lib.hid (HP.out.own hg); clear hg) | ((with_reducible show wpList _ _ _ (⟨_, .store 49 (.tmp 8) (.tmp 15), _, _, _, none⟩ :: _) _ _); refine wpList_store_row rfl 49 (.tmp 8) (.tmp 15) rfl _ (cz 33 (j)) rfl rfl 49 _ (heap_new _ _) infoJ rfl (cz_one _ _) ?_; rw [World.setRow_alloc_new]))
      obtain ⟨w2, A, hW, hBq, hb, hg, Ag⟩ := blk_new w1 (cz 33 j) 49
      rw [hW, hBq]
      have HA := Lib.hid hb
      replace g0 := g0.trans hg
      replace HB := Lib.hid (HB.out.own hg)
      replace HP := Lib.hid (HP.out.own hg)
      clear hW hBq hb hg
      clear Ag HA
      (first | go_frame | skip)
      clear HP HB
      go_wp2
      go_ret2
      exact ⟨rfl, g0⟩
    · rw [stV_yes hc0 hs] at ht
      have hft := foot_bd (jo_yes hc0).1
      replace hft : 0 ≤ b 9 ∧ b 9 ≤ 32768 := by omega
      have HAB := Lib.hid ht
      have d1 : decide (s = 0) = false := decide_eq_false hs
      have d2 : (s == 0) = false := beq_eq_false_iff_ne.2 hs
      clear hj ht hs
      go_enter Tryz.func6, Tryz.ntmps6
      go_upto_region 1 with (fail)
      obtain ⟨W0, B, P, hW, hP, hB, hb1, hp1, g0, -, -, -⟩ := two_new w (cz 15 b) 24 (cz 22 p) 31
      rw [hW, hP, hB]
      have HB := Lib.hid hb1
      have HP := Lib.hid hp1
      clear hW hP hB hb1 hp1
      go_upto_region 2 with (first | ((with_reducible show wpList _ _ _ (⟨_, .load 24 (.tmp 3), _, _, _, none⟩ :: _) _ _); refine wpList_load_row rfl 24 (.tmp 3) rfl B rfl 24 _ (0, 0) _ HB.out.raw Tryz.underlying24 rfl infoB ?_) | ((with_reducible show wpList _ _ _ (⟨_, .load 31 (.tmp 4), _, _, _, none⟩ :: _) _ _); refine wpList_load_row rfl 31 (.tmp 4) rfl P rfl 31 _ (0, 0) _ HP.out.raw Tryz.underlying31 rfl infoP ?_) | (go_at_call 14; with_reducible refine (rof_at b p j s 0 _ HJO).mono ?_; rintro r w1 ⟨rfl, hg⟩; replace g0 := g0.trans hg; replace HB := Lib.hid (HB.out.own hg); replace HP := Lib.hid (HP.out.own hg); clear hg) | ((with_reducible show wpList _ _ _ (⟨_, .store 49 (.tmp 8) (.tmp 15), _, _, _, none⟩ :: _) _ _); refine wpList_store_row rfl 49 (.tmp 8) (.tmp 15) rfl _ (cz 33 (j)) rfl rfl 49 _ (heap_new _ _) infoJ rfl (cz_one _ _) ?_; rw [World.setRow_alloc_new]))
      obtain ⟨w2, A, hW, hBq, hb, hg, Ag⟩ := blk_new w1 (cz 33 j) 49
      rw [hW, hBq]
      have HA := Lib.hid hb
      replace g0 := g0.trans hg
      replace HB := Lib.hid (HB.out.own hg)
      replace HP := Lib.hid (HP.out.own hg)
      clear hW hBq hb hg
      clear Ag HA
      (first | go_frame | skip)
      have b9 := blk_num HB.out (i := 9) (by omega)
      go_wp2_with (first | ((with_reducible show wpList _ _ _ (⟨_, .load 24 (.tmp 3), _, _, _, some _⟩ :: _) _ _); refine wpList_load_row_g rfl 24 (.tmp 3) rfl B rfl 24 _ (0, 0) _ HB.out.raw Tryz.underlying24 rfl infoB ?_) | ((with_reducible show wpList _ _ _ (⟨_, .load 31 (.tmp 4), _, _, _, some _⟩ :: _) _ _); refine wpList_load_row_g rfl 31 (.tmp 4) rfl P rfl 31 _ (0, 0) _ HP.out.raw Tryz.underlying31 rfl infoP ?_) | (go_at_call 15; with_reducible refine (rabo_at b p s (b 9) t _ hc0 hft HAB).mono ?_; rintro r1 w9 ⟨rfl, hg⟩; replace g0 := g0.trans hg; clear hg))
      go_ret2
      exact ⟨rfl, g0⟩
  · have hn : joE b p s ≠ 0 := by rw [hc0]; exact h
    rw [stV_no hn] at ht
    subst ht
    have kc : (c0 != 0) = true := bne_iff_ne.2 h
    clear hc0 hj hn h
    go_enter Tryz.func6, Tryz.ntmps6
    go_upto_region 1 with (fail)
    obtain ⟨W0, B, P, hW, hP, hB, hb1, hp1, g0, -, -, -⟩ := two_new w (cz 15 b) 24 (cz 22 p) 31
    rw [hW, hP, hB]
    have HB := Lib.hid hb1
    have HP := Lib.hid hp1
    clear hW hP hB hb1 hp1
    go_upto_region 2 with (first | ((with_reducible show wpList _ _ _ (⟨_, .load 24 (.tmp 3), _, _, _, none⟩ :: _) _ _); refine wpList_load_row rfl 24 (.tmp 3) rfl B rfl 24 _ (0, 0) _ HB.out.raw Tryz.underlying24 rfl infoB ?_) | ((with_reducible show wpList _ _ _ (⟨_, .load 31 (.tmp 4), _, _, _, none⟩ :: _) _ _); refine wpList_load_row rfl 31 (.tmp 4) rfl P rfl 31 _ (0, 0) _ HP.out.raw Tryz.underlying31 rfl infoP ?_) | (go_at_call 14; with_reducible refine (rof_at b p j s c0 _ HJO).mono ?_; rintro r w1 ⟨rfl, hg⟩; replace g0 := g0.trans hg; replace HB := Lib.hid (HB.out.own hg); replace HP := Lib.hid (HP.out.own hg); clear hg) | ((with_reducible show wpList _ _ _ (⟨_, .store 49 (.tmp 8) (.tmp 15), _, _, _, none⟩ :: _) _ _); refine wpList_store_row rfl 49 (.tmp 8) (.tmp 15) rfl _ (cz 33 (j)) rfl rfl 49 _ (heap_new _ _) infoJ rfl (cz_one _ _) ?_; rw [World.setRow_alloc_new]))
    obtain ⟨w2, A, hW, hBq, hb, hg, Ag⟩ := blk_new w1 (cz 33 j) 49
    rw [hW, hBq]
    have HA := Lib.hid hb
    replace g0 := g0.trans hg
    replace HB := Lib.hid (HB.out.own hg)
    replace HP := Lib.hid (HP.out.own hg)
    clear hW hBq hb hg
    clear Ag HA
    (first | go_frame | skip)
    clear HP HB
    go_wp2
    go_ret2
    exact ⟨rfl, g0⟩
set_option maxRecDepth 100000 in
set_option maxHeartbeats 2000000 in
theorem rMar_at (b p : Vl) (s n c : Int) (w : World) (H : Hid (mgV b p s = n ∧ mgE b p s = c)) :
    Calls Tryz.prog 8 #[.agg (cz 15 b), .agg (cz 22 p), .int .i64 s] w fun r w' => r = .returned (.tuple #[.int .i64 n, .int .i64 c]) ∧ Own w w' := by
  obtain ⟨hn, hc⟩ := H.out
  clear H
  obtain ⟨c0, hc0⟩ : ∃ c, joE b p s = c := ⟨_, rfl⟩
  by_cases h : c0 = 0
  · subst h
    by_cases hs : s = 0
    · rw [(mg_air hc0 hs).1] at hc
      rw [(mg_air hc0 hs).2] at hn
      subst hc
      subst hn
      have HST := Lib.hid (show stV b p s = true ∧ joE b p s = 0 from ⟨stV_air hc0 hs, hc0⟩)
      subst hs
      clear hc0
      go_enter Tryz.func8, Tryz.ntmps8
      go_upto_region 1 with (fail)
      obtain ⟨W0, B, P, hW, hP, hB, hb1, hp1, g0, -, -, -⟩ := two_new w (cz 15 b) 24 (cz 22 p) 31
      rw [hW, hP, hB]
      have HB := Lib.hid hb1
      have HP := Lib.hid hp1
      clear hW hP hB hb1 hp1
      go_upto_region 2 with (first | ((with_reducible show wpList _ _ _ (⟨_, .load 24 (.tmp 3), _, _, _, none⟩ :: _) _ _); refine wpList_load_row rfl 24 (.tmp 3) rfl B rfl 24 _ (0, 0) _ HB.out.raw Tryz.underlying24 rfl infoB ?_) | ((with_reducible show wpList _ _ _ (⟨_, .load 31 (.tmp 4), _, _, _, none⟩ :: _) _ _); refine wpList_load_row rfl 31 (.tmp 4) rfl P rfl 31 _ (0, 0) _ HP.out.raw Tryz.underlying31 rfl infoP ?_) | (go_at_call 6; with_reducible refine (rSta_at b p 0 true 0 _ HST).mono ?_; rintro r w1 ⟨rfl, hg⟩; replace g0 := g0.trans hg; replace HB := Lib.hid (HB.out.own hg); replace HP := Lib.hid (HP.out.own hg); clear hg))
      (first | go_frame | skip)
      clear HB HP
      go_wp2
      go_ret2
      exact ⟨rfl, g0⟩
    · have d1 : decide (s = 0) = false := decide_eq_false hs
      have d2 : (s == 0) = false := beq_eq_false_iff_ne.2 hs
      cases hab : abo b (joV b p s) s (b 9) with
      | true =>
        rw [(mg_yes hc0 hs hab).1] at hc
        rw [(mg_yes hc0 hs hab).2] at hn
        subst hc
        have HST := Lib.hid (show stV b p s = true ∧ joE b p s = 0 from ⟨(stV_yes hc0 hs).trans hab, hc0⟩)
        have hft := foot_bd (jo_yes hc0).1
        obtain ⟨l1, l2, l3⟩ := lst_yes (jo_yes hc0).1 hab
        obtain ⟨le, hle⟩ : ∃ k, lst b (joV b p s) s = k := ⟨_, rfl⟩
        rw [hle] at hn l1 l2 l3
        have HNV := Lib.hid hn
        have HYES := Lib.hid l2
        have HNO := Lib.hid l3
        clear hle hn l2 l3 hab hs
        go_enter Tryz.func8, Tryz.ntmps8
        go_upto_region 1 with (fail)
        obtain ⟨W0, B, P, hW, hP, hB, hb1, hp1, g0, -, -, -⟩ := two_new w (cz 15 b) 24 (cz 22 p) 31
        rw [hW, hP, hB]
        have HB := Lib.hid hb1
        have HP := Lib.hid hp1
        clear hW hP hB hb1 hp1
        go_upto_region 2 with (first | ((with_reducible show wpList _ _ _ (⟨_, .load 24 (.tmp 3), _, _, _, none⟩ :: _) _ _); refine wpList_load_row rfl 24 (.tmp 3) rfl B rfl 24 _ (0, 0) _ HB.out.raw Tryz.underlying24 rfl infoB ?_) | ((with_reducible show wpList _ _ _ (⟨_, .load 31 (.tmp 4), _, _, _, none⟩ :: _) _ _); refine wpList_load_row rfl 31 (.tmp 4) rfl P rfl 31 _ (0, 0) _ HP.out.raw Tryz.underlying31 rfl infoP ?_) | (go_at_call 6; with_reducible refine (rSta_at b p s true 0 _ HST).mono ?_; rintro r w1 ⟨rfl, hg⟩; replace g0 := g0.trans hg; replace HB := Lib.hid (HB.out.own hg); replace HP := Lib.hid (HP.out.own hg); clear hg))
        (first | go_frame | skip)
        have b9 := blk_num HB.out (i := 9) (by omega)
        go_wp2
        go_loopw [10] (fun rv wr => ∃ k : Nat, rv = .int .i64 (b 9 - (k : Int)) ∧ k ≤ le ∧ Own w wr ∧ Blk wr B (cz 15 b) 24 ∧ Blk wr P (cz 22 p) 31) (fun rv _ => (intOf rv).toNat)
        case atStart => exact ⟨0, by simp, by omega, g0, HB.out, HP.out⟩
        case round =>
          clear g0 HB HP b9
          obtain ⟨k, rfl, hk, g0, hb1, hp1⟩ := hrel
          have HB := Lib.hid hb1
          have HP := Lib.hid hp1
          have b9 := blk_num hb1 (i := 9) (by omega)
          clear hb1 hp1
          have i1 : IntKind.i64.wrap (b 9 - (b 9 - (k : Int))) = (k : Int) := (IntWalk.i64_in _ (by omega)).trans (by omega)
          have hkr : 0 ≤ (k : Int) ∧ (k : Int) ≤ 32768 := by omega
          by_cases hlt : k < le
          · have HAB := Lib.hid (show abo b (joV b p s) s (k : Int) = false from HNO.out (k : Int) (by omega) (by omega))
            have i2 : IntKind.i64.wrap (b 9 - (k : Int) - 1) = b 9 - ((k + 1 : Nat) : Int) := (IntWalk.i64_in _ (by omega)).trans (by omega)
            go_wp2_with (first | ((with_reducible show wpList _ _ _ (⟨_, .load 24 (.tmp 3), _, _, _, none⟩ :: _) _ _); refine wpList_load_row rfl 24 (.tmp 3) rfl B rfl 24 _ (0, 0) _ HB.out.raw Tryz.underlying24 rfl infoB ?_) | ((with_reducible show wpList _ _ _ (⟨_, .load 31 (.tmp 4), _, _, _, none⟩ :: _) _ _); refine wpList_load_row rfl 31 (.tmp 4) rfl P rfl 31 _ (0, 0) _ HP.out.raw Tryz.underlying31 rfl infoP ?_) | (go_at_call 15; with_reducible refine (rabo_at b p s (k : Int) false _ hc0 hkr HAB).mono ?_; rintro r1 w9 ⟨rfl, hg⟩; replace g0 := g0.trans hg; replace HB := Lib.hid (HB.out.own hg); replace HP := Lib.hid (HP.out.own hg); clear hg b9))
            go_roundw
            case rel => exact ⟨k + 1, rfl, hlt, g0, HB.out, HP.out⟩
            case measure => simp [intOf]; omega
          · obtain rfl : k = le := by omega
            go_wp2_with (first | ((with_reducible show wpList _ _ _ (⟨_, .load 24 (.tmp 3), _, _, _, none⟩ :: _) _ _); refine wpList_load_row rfl 24 (.tmp 3) rfl B rfl 24 _ (0, 0) _ HB.out.raw Tryz.underlying24 rfl infoB ?_) | ((with_reducible show wpList _ _ _ (⟨_, .load 31 (.tmp 4), _, _, _, none⟩ :: _) _ _); refine wpList_load_row rfl 31 (.tmp 4) rfl P rfl 31 _ (0, 0) _ HP.out.raw Tryz.underlying31 rfl infoP ?_) | (go_at_call 15; with_reducible refine (rabo_at b p s (k : Int) true _ hc0 hkr HYES).mono ?_; rintro r1 w9 ⟨rfl, hg⟩; replace g0 := g0.trans hg; clear hg b9 HB HP))
            rw [HNV.out]
            go_ret2
            exact ⟨rfl, g0⟩
      | false =>
        rw [(mg_fall hc0 hs hab).1] at hc
        rw [(mg_fall hc0 hs hab).2] at hn
        subst hc
        subst hn
        have HST := Lib.hid (show stV b p s = false ∧ joE b p s = 0 from ⟨(stV_yes hc0 hs).trans hab, hc0⟩)
        clear hc0 hs hab
        go_enter Tryz.func8, Tryz.ntmps8
        go_upto_region 1 with (fail)
        obtain ⟨W0, B, P, hW, hP, hB, hb1, hp1, g0, -, -, -⟩ := two_new w (cz 15 b) 24 (cz 22 p) 31
        rw [hW, hP, hB]
        have HB := Lib.hid hb1
        have HP := Lib.hid hp1
        clear hW hP hB hb1 hp1
        go_upto_region 2 with (first | ((with_reducible show wpList _ _ _ (⟨_, .load 24 (.tmp 3), _, _, _, none⟩ :: _) _ _); refine wpList_load_row rfl 24 (.tmp 3) rfl B rfl 24 _ (0, 0) _ HB.out.raw Tryz.underlying24 rfl infoB ?_) | ((with_reducible show wpList _ _ _ (⟨_, .load 31 (.tmp 4), _, _, _, none⟩ :: _) _ _); refine wpList_load_row rfl 31 (.tmp 4) rfl P rfl 31 _ (0, 0) _ HP.out.raw Tryz.underlying31 rfl infoP ?_) | (go_at_call 6; with_reducible refine (rSta_at b p s false 0 _ HST).mono ?_; rintro r w1 ⟨rfl, hg⟩; replace g0 := g0.trans hg; replace HB := Lib.hid (HB.out.own hg); replace HP := Lib.hid (HP.out.own hg); clear hg))
        (first | go_frame | skip)
        clear HB HP
        go_wp2
        go_ret2
        exact ⟨rfl, g0⟩
  · have hne : joE b p s ≠ 0 := by rw [hc0]; exact h
    rw [(mg_no hne).1, hc0] at hc
    rw [(mg_no hne).2] at hn
    subst hc
    subst hn
    have HST := Lib.hid (show stV b p s = false ∧ joE b p s = c0 from ⟨stV_no hne, hc0⟩)
    have kc : (c0 != 0) = true := bne_iff_ne.2 h
    clear hc0 hne h
    go_enter Tryz.func8, Tryz.ntmps8
    go_upto_region 1 with (fail)
    obtain ⟨W0, B, P, hW, hP, hB, hb1, hp1, g0, -, -, -⟩ := two_new w (cz 15 b) 24 (cz 22 p) 31
    rw [hW, hP, hB]
    have HB := Lib.hid hb1
    have HP := Lib.hid hp1
    clear hW hP hB hb1 hp1
    go_upto_region 2 with (first | ((with_reducible show wpList _ _ _ (⟨_, .load 24 (.tmp 3), _, _, _, none⟩ :: _) _ _); refine wpList_load_row rfl 24 (.tmp 3) rfl B rfl 24 _ (0, 0) _ HB.out.raw Tryz.underlying24 rfl infoB ?_) | ((with_reducible show wpList _ _ _ (⟨_, .load 31 (.tmp 4), _, _, _, none⟩ :: _) _ _); refine wpList_load_row rfl 31 (.tmp 4) rfl P rfl 31 _ (0, 0) _ HP.out.raw Tryz.underlying31 rfl infoP ?_) | (go_at_call 6; with_reducible refine (rSta_at b p s false c0 _ HST).mono ?_; rintro r w1 ⟨rfl, hg⟩; replace g0 := g0.trans hg; replace HB := Lib.hid (HB.out.own hg); replace HP := Lib.hid (HP.out.own hg); clear hg))
    (first | go_frame | skip)
    clear HB HP
    go_wp2
    go_ret2
    exact ⟨rfl, g0⟩
end Go.Proofs.YtighpjhipgobiaaGreatDoor.BalW
