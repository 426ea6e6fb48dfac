/-
  Walks of the program of package posture: aims. Condition: none.
-/
import Derived.Test.YtneobaininejaaaDoorPosturePlain
import Derived.Test.YtneobaininejaaaDoorPart
import Derived.Test.YtneobaininejaaaDoorAimPC
import Derived.Deep.DeepCutAuto
namespace Go.Proofs.YtneobaininejaaaDoor.PstW
open Go.ChangeShapes Go.WideShapes Go.ChangeAt Go.RowKit
open PairW AimP AimW BlkW PrtW PstP
theorem infoS : (Tryd.prog.info? 28).map (·.size) = some 23 := by kernel_rfl
theorem infoP : (Tryd.prog.info? 33).map (·.size) = some 22 := by kernel_rfl
theorem infoPt : (Tryd.prog.info? 23).map (·.size) = some 2 := by kernel_rfl
theorem infoT6 : (Tryd.prog.info? 26).map (·.size) = some 18 := by kernel_rfl
theorem infoA6 : (Tryd.prog.info? 31).map (·.size) = some 18 := by kernel_rfl
/-- The values of the aims of the targets, or nothing. -/
def amV (s : Vl) : Vl := if fe (tE s) = 0 then aims s else nul
theorem cz18_nul : (#[.int .i64 0, .int .i64 0, .int .i64 0, .int .i64 0, .int .i64 0, .int .i64 0, .int .i64 0, .int .i64 0, .int .i64 0, .int .i64 0, .int .i64 0, .int .i64 0, .int .i64 0, .int .i64 0, .int .i64 0, .int .i64 0, .int .i64 0, .int .i64 0] : Array Value) = cz 18 nul := rfl
theorem cz22_nul : (#[.int .i64 0, .int .i64 0, .int .i64 0, .int .i64 0, .int .i64 0, .int .i64 0, .int .i64 0, .int .i64 0, .int .i64 0, .int .i64 0, .int .i64 0, .int .i64 0, .int .i64 0, .int .i64 0, .int .i64 0, .int .i64 0, .int .i64 0, .int .i64 0, .int .i64 0, .int .i64 0, .int .i64 0, .int .i64 0] : Array Value) = cz 22 nul := rfl
theorem cz23_nul : (#[.int .i64 0, .int .i64 0, .int .i64 0, .int .i64 0, .int .i64 0, .int .i64 0, .int .i64 0, .int .i64 0, .int .i64 0, .int .i64 0, .int .i64 0, .int .i64 0, .int .i64 0, .int .i64 0, .int .i64 0, .int .i64 0, .int .i64 0, .int .i64 0, .int .i64 0, .int .i64 0, .int .i64 0, .int .i64 0, .int .i64 0] : Array Value) = cz 23 nul := rfl
theorem idxT (s : Vl) {k : Nat} (hk : k < 6) (w : World) : (Instr.index 26 (.agg (cz 18 (fun j => s (5 + j)))) (.int .i64 (k : Int))).run Tryd.prog w = .ok (.agg #[.int .i64 (s (5 + k * 3)), .int .i64 (s (5 + k * 3 + 1)), .int .i64 (s (5 + k * 3 + 2))]) w :=
  index_num (n := 6) (m := 3) Tryd.underlying26 (fun w => by go_simp) (fun w => by go_simp) hk _ w
theorem idxA (s : Vl) {k : Nat} (hk : k < 6) (w : World) : (Instr.index 31 (.agg (cz 18 (fun j => s (4 + j)))) (.int .i64 (k : Int))).run Tryd.prog w = .ok (.agg #[.int .i64 (s (4 + k * 3)), .int .i64 (s (4 + k * 3 + 1)), .int .i64 (s (4 + k * 3 + 2))]) w :=
  index_num (n := 6) (m := 3) Tryd.underlying31 (fun w => by go_simp) (fun w => by go_simp) hk _ w
set_option maxRecDepth 100000 in
set_option maxHeartbeats 2000000 in
theorem paims_any (s : Vl) (w : World) :
    Calls Tryd.prog 28 #[.agg (cz 18 (fun j => s (5 + j)))] w fun r w' => r = .returned (.tuple #[.agg (cz 18 (amV s)), .int .i64 (fe (tE s))]) ∧ Own w w' := by
  have HX := Lib.hid (fun (k : Nat) (h : k < 6) => idxT s h)
  have hsz := cz_size 18 (fun j => s (5 + j))
  generalize cz 18 (fun j => s (5 + j)) = TT at *
  have HS := Lib.hid (show (Tryd.prog.info? 26).map (·.size) = some TT.size by rw [hsz]; exact infoT6)
  clear hsz
  go_enter Tryd.func28, Tryd.ntmps28
  go_upto_region 2 with (fail)
  obtain ⟨W0, B, C, D, hW, hD, hC, hB, hb, hc, hd, g0, -, hC0, hD0, -, -, hne⟩ := three_new w TT 26 (cz 18 nul) 31 (cz 18 nul) 31
  rw [← cz18_nul] at hW
  rw [hW, hD, hC, hB]
  have HB := Lib.hid hb
  have HC := Lib.hid hc
  have HD := Lib.hid hd
  have HNE := Lib.hid hne
  clear hW hD hC hB hb hc hd hne
  go_wp2_with ((with_reducible show wpList _ _ _ (⟨_, .load 26 (.tmp 1), _, _, _, none⟩ :: _) _ _); refine wpList_load_row rfl 26 (.tmp 1) rfl B rfl 26 _ (0, 0) _ HB.out.raw Tryd.underlying26 rfl HS.out ?_)
  clear HB HS
  go_loopw [5, 6, 7, 8, 10] (fun _ _ _ _ vi wr => ∃ k : Nat, vi = .int .i64 (k : Int) ∧ k ≤ 6 ∧ (∀ i, i < k → tE s i = 0) ∧ Own w wr ∧ Blk wr C (cz 18 nul) 31 ∧ ∃ f, Blk wr D (cz 18 f) 31 ∧ ∀ j, j < k * 3 → f j = aims s j) (fun _ _ _ _ vi _ => 6 - (intOf vi).toNat)
  case atStart => exact ⟨0, rfl, by omega, fun i hi => absurd hi (by omega), g0, HC.out, nul, HD.out, fun j hj => absurd hj (by omega)⟩
  case round =>
    clear HC HD g0
    obtain ⟨k, rfl, hk, hz, g0, hc, f, hd, hf⟩ := hrel
    have HC := Lib.hid hc
    have HD := Lib.hid hd
    have HF := Lib.hid hf
    have HZ := Lib.hid hz
    clear hc hd hf hz
    by_cases hlt : k < 6
    · have ix := HX.out k hlt
      obtain ⟨x, hx⟩ : ∃ x, aZ s k = x := ⟨_, rfl⟩
      obtain ⟨y, hy⟩ : ∃ x, aL s k = x := ⟨_, rfl⟩
      obtain ⟨u, hu⟩ : ∃ x, aB s k = x := ⟨_, rfl⟩
      obtain ⟨c, hc⟩ : ∃ x, tE s k = x := ⟨_, rfl⟩
      have HO := Lib.hid (And.intro hx (And.intro hy (And.intro hu hc)))
      have HOF := Lib.hid (show ofZ k (s (5 + k * 3)) (s (5 + k * 3 + 1)) (s (5 + k * 3 + 2)) = x ∧ ofL k (s (5 + k * 3)) (s (5 + k * 3 + 1)) (s (5 + k * 3 + 2)) = y ∧ ofB k (s (5 + k * 3)) (s (5 + k * 3 + 1)) (s (5 + k * 3 + 2)) = u ∧ ofE k (s (5 + k * 3)) (s (5 + k * 3 + 1)) (s (5 + k * 3 + 2)) = c from HO.out)
      clear hx hy hu hc
      have hkn : (k : Int) < 6 := by omega
      generalize s (5 + k * 3) = d0 at ix HOF
      generalize s (5 + k * 3 + 1) = v0 at ix HOF
      generalize s (5 + k * 3 + 2) = b0 at ix HOF
      go_upto_region 5 with (fail)
      obtain ⟨w1, E, hW, hBq, hb, hg, Eg⟩ := blk_new wr (#[.int .i64 d0, .int .i64 v0, .int .i64 b0]) 25
      rw [hW, hBq]
      have HE := Lib.hid hb
      replace g0 := g0.trans hg
      replace HC := Lib.hid (HC.out.own hg)
      replace HD := Lib.hid (HD.out.own hg)
      clear hW hBq hb hg
      go_upto_region 6 with (first | ((with_reducible show wpList _ _ _ (⟨_, .load 25 (.tmp 6), _, _, _, none⟩ :: _) _ _); refine wpList_load_row rfl 25 (.tmp 6) rfl E rfl 25 _ (0, 0) _ HE.out.raw Tryd.underlying25 rfl infoT ?_) | (go_at_call 62; with_reducible refine (pof_at k d0 v0 b0 x y u c _ HOF).mono ?_; rintro r w2 ⟨rfl, hg⟩; replace g0 := g0.trans hg; replace HC := Lib.hid (HC.out.own hg); replace HD := Lib.hid (HD.out.own hg); clear hg) | ((with_reducible show wpList _ _ _ (⟨_, .store 30 (.tmp 7) (.tmp 18), _, _, _, none⟩ :: _) _ _); refine wpList_store_row rfl 30 (.tmp 7) (.tmp 18) rfl _ #[.int .i64 x, .int .i64 y, .int .i64 u] rfl rfl 30 _ (heap_new _ _) infoA rfl (by simp [Value.oneCell']) ?_; rw [World.setRow_alloc_new]))
      clear HE HOF ix Eg
      obtain ⟨w3, G, hW, hBq, hb, hg, Gg⟩ := blk_new w2 (#[.int .i64 x, .int .i64 y, .int .i64 u]) 30
      rw [hW, hBq]
      have HG := Lib.hid hb
      replace g0 := g0.trans hg
      replace HC := Lib.hid (HC.out.own hg)
      replace HD := Lib.hid (HD.out.own hg)
      clear hW hBq hb hg
      by_cases c0 : c = 0
      · subst c0
        go_upto_region 9 with (first | ((with_reducible show wpList _ _ _ (⟨_, .load 30 (.tmp 7), _, _, _, none⟩ :: _) _ _); refine wpList_load_row rfl 30 (.tmp 7) rfl G rfl 30 _ (0, 0) _ HG.out.raw Tryd.underlying30 rfl infoA ?_) | ((with_reducible show wpList _ _ _ (⟨_, .store 30 (.tmp 26) (.tmp 25), _, _, _, none⟩ :: _) _ _); refine wpList_store_part rfl 30 (.tmp 26) (.tmp 25) rfl D (k * 3) 3 (l3 x y u) rfl (#[.int .i64 x, .int .i64 y, .int .i64 u]) rfl rfl HD.out (by omega) infoA ?_))
        have hd := HD.out.row (cz 18 (put f (k * 3) 3 (l3 x y u)))
        have hc := HC.out.rowfar HNE.out (cz 18 (put f (k * 3) 3 (l3 x y u)))
        replace g0 := own_setRow g0 hD0 (cz 18 (put f (k * 3) 3 (l3 x y u)))
        clear HC HD HG Gg
        generalize w3.setRow D (cz 18 (put f (k * 3) 3 (l3 x y u))) = w4 at *
        have HR := Lib.hid (And.intro hc hd)
        clear hc hd
        go_wp2
        go_roundw
        case rel =>
          refine ⟨k + 1, by go_num, hlt, fun i hi => ?_, g0, HR.out.1, _, HR.out.2, fun j hj => ?_⟩
          · by_cases e : i = k
            · rw [e]; exact HO.out.2.2.2
            · exact HZ.out i (by omega)
          · obtain ⟨o1, o2, o3, _⟩ := HO.out
            exact put_next (g := aims s) HF.out ((tri_0 _ _ _ k).trans o1) ((tri_1 _ _ _ k).trans o2) ((tri_2 _ _ _ k).trans o3) j (by omega)
        case measure => simp [intOf]; omega
      · have kc : (c != 0) = true := bne_iff_ne.2 c0
        have HV := Lib.hid (show cz 18 nul = cz 18 (amV s) ∧ c = fe (tE s) by
          have h1 : fe (tE s) = c := by rw [fe_at HZ.out (by rw [HO.out.2.2.2]; exact c0) hlt]; exact HO.out.2.2.2
          refine ⟨?_, h1.symm⟩
          unfold amV
          rw [if_neg (by rw [h1]; exact c0)])
        clear HO HF HZ HX c0 HD HG Gg
        go_wp2_with ((with_reducible show wpList _ _ _ (⟨_, .store 31 (.tmp 2) (.tmp 22), _, _, _, none⟩ :: _) _ _); refine wpList_store_row rfl 31 (.tmp 2) (.tmp 22) rfl C (cz 18 (nul)) rfl rfl 31 _ HC.out.raw infoA6 rfl (cz_one _ _) ?_)
        have hp := HC.out.row (cz 18 nul)
        rw [← HV.out.1, ← HV.out.2]
        exact bodyPost_ret (blk_results rfl rfl rfl hp Tryd.underlying31 rfl infoA6) rfl ⟨rfl, own_setRow g0 hC0 _⟩
    · obtain rfl : k = 6 := by omega
      have HV := Lib.hid (show cz 18 f = cz 18 (amV s) ∧ 0 = fe (tE s) by
        have h1 : fe (tE s) = 0 := fe_ok HZ.out
        refine ⟨cz_congr fun j hj => ?_, h1.symm⟩
        unfold amV
        rw [if_pos h1]
        exact HF.out j (by omega))
      clear HF HZ HX
      go_wp2_with (first | ((with_reducible show wpList _ _ _ (⟨_, .load 31 (.tmp 4), _, _, _, none⟩ :: _) _ _); refine wpList_load_row rfl 31 (.tmp 4) rfl D rfl 31 _ (0, 0) _ HD.out.raw Tryd.underlying31 rfl infoA6 ?_) | ((with_reducible show wpList _ _ _ (⟨_, .store 31 (.tmp 2) (.tmp 28), _, _, _, none⟩ :: _) _ _); refine wpList_store_row rfl 31 (.tmp 2) (.tmp 28) rfl C (cz 18 (f)) rfl rfl 31 _ HC.out.raw infoA6 rfl (cz_one _ _) ?_))
      have hp := HC.out.row (cz 18 f)
      rw [← HV.out.1, ← HV.out.2]
      exact bodyPost_ret (blk_results rfl rfl rfl hp Tryd.underlying31 rfl infoA6) rfl ⟨rfl, own_setRow g0 hC0 _⟩
theorem paims_at (s : Vl) (c : Int) (w : World) (H : Hid (fe (tE s) = c)) :
    Calls Tryd.prog 28 #[.agg (cz 18 (fun j => s (5 + j)))] w fun r w' => r = .returned (.tuple #[.agg (cz 18 (amV s)), .int .i64 c]) ∧ Own w w' := by
  rw [← H.out]
  exact paims_any s w
end Go.Proofs.YtneobaininejaaaDoor.PstW
