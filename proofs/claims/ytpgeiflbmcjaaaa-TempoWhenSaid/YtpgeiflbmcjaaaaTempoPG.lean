/-
  Walks of the program of package tempo: the closure of Norm; of slices.CompactFunc with it. Condition: none.
-/
import Derived.Test.YtpgeiflbmcjaaaaTempoMemB
import Derived.Deep.RegionWith
namespace Go.Proofs.Ytpgeiflbmcjaaaa.TemW
open Go.ChangeShapes Go.WideShapes Go.ChangeAt Go.RowKit
open PairW TemP
set_option maxRecDepth 100000 in
theorem pnclose_at (a b c d : Int) (v : Bool) (w : World) (H : Hid ((b == d) = v)) :
    Calls Try.prog 34 #[.agg #[.int .i64 a, .int .i64 b], .agg #[.int .i64 c, .int .i64 d]] w fun e w' => e = .returned (.bool v) ∧ Own w w' := by
  obtain ⟨k0, k1, -, -⟩ := pt_new w a b 38
  have g0 : Own w (w.alloc (.cells #[.int .i64 a, .int .i64 b] 38)) := (Own.refl w).alloc _
  have q : Own (w.alloc (.cells #[.int .i64 a, .int .i64 b] 38)) ((w.alloc (.cells #[.int .i64 a, .int .i64 b] 38)).alloc (.cells #[.int .i64 c, .int .i64 d] 38)) := (Own.refl _).alloc _
  obtain ⟨m0, m1, -, -⟩ := pt_new (w.alloc (.cells #[.int .i64 a, .int .i64 b] 38)) c d 38
  have hsz : (w.alloc (.cells #[.int .i64 a, .int .i64 b] 38)).heap.size = w.heap.size + 1 := by simp
  rw [hsz] at m0 m1
  replace k0 := q.cell k0
  replace k1 := q.cell k1
  replace g0 := g0.trans q
  have hv := H.out
  clear H q hsz
  go_enter Try.func34, Try.ntmps34
  go_upto_region 1 with (fail)
  generalize (w.alloc (.cells #[.int .i64 a, .int .i64 b] 38)).alloc (.cells #[.int .i64 c, .int .i64 d] 38) = W0 at *
  go_wp2
  go_ret
  exact ⟨by first | rfl | (rw [hv]), g0⟩
theorem zero_tempo (w : World) : (zeroValue 38).run Try.prog w = .ok (.agg #[.int .i64 0, .int .i64 0]) w := by
  obtain ⟨i0, hi, hz0, _, _⟩ := info_parts (show (Try.prog.info? 38).map (fun i => (i.zero, i.size, i.bytes)) = some (some (.agg #[.int .i64 0, .int .i64 0]), 2, 16) by kernel_rfl)
  simp [zeroValue, typeInfo, hi, hz0]
set_option maxRecDepth 100000 in
set_option maxHeartbeats 1000000 in
theorem pcompact_at (l : List Pt) (base g n cap : Nat) (w : World) (HR : Hid (w.ownsRow base 38 2 (.slice (some ⟨g, 0, none⟩) n cap) n (cellsP l))) (HN : Hid (l.length = n)) (hn : n ≤ 1000000) :
    Calls Try.prog 35 #[.slice (some ⟨g, 0, none⟩) n cap, .func (.func 34) #[] #[]] w fun e w' => e = .returned (.slice (some ⟨g, 0, none⟩) (nrm l n).length cap) ∧ w'.ownsRow base 38 2 (.slice (some ⟨g, 0, none⟩) (nrm l n).length cap) (nrm l n).length (cellsP (nrm l n)) ∧ Off g w w' := by
  by_cases h2 : n < 2
  · have hall : nrm l n = l := by
      have := nrm_all (l := l) (k := n) (by rw [HN.out]; exact Nat.le_refl _) (fun i h0 h1 => by omega)
      rw [this, ← HN.out, List.take_length]
    have hn2 : (n : Int) < 2 := by omega
    rw [hall]
    clear hall
    go_enter Try.func35, Try.ntmps35
    go_wp2
    go_ret
    rw [HN.out]
    exact ⟨rfl, HR.out, Off.refl _ _⟩
  obtain ⟨f, hf, hfl⟩ := Fk.of_pairs HR.out HN.out
  have HFL := Lib.hid (fun i (hi : i < l.length) => hfl i (by rw [← HN.out]; exact hi))
  have HF := Lib.hid hf
  have hcap : n ≤ cap := by
    rcases HR.out.2 with ⟨h1, _⟩ | ⟨g', cap', cur, h1, _, _, h4, _⟩
    · cases h1
    · injection h1 with _ _ e3
      omega
  have hcm : cap ≤ 2 ^ 63 - 1 := by
    rcases HR.out.2 with ⟨h1, _⟩ | ⟨g', cap', cur, h1, _, _, _, h5, _⟩
    · cases h1
    · injection h1 with _ _ e3
      rw [e3]
      exact h5
  have hn2 : ¬ (n : Int) < 2 := by omega
  clear hf hfl
  go_enter Try.func35, Try.ntmps35
  go_wp2
  go_loopw [5] (fun vi wr => ∃ k : Nat, vi = .int .i64 (k : Int) ∧ 1 ≤ k ∧ k ≤ n ∧ Own w wr ∧ ∀ i, 0 < i → i < k → (at' l i).2 ≠ (at' l (i - 1)).2) (fun vi _ => n - (intOf vi).toNat)
  case atStart => exact ⟨1, rfl, Nat.le_refl _, by omega, Own.refl w, fun i h0 h1 => by omega⟩
  case round =>
    obtain ⟨k, rfl, hk1, hk, g0, hno⟩ := hrel
    have HNO := Lib.hid hno
    clear hno
    by_cases hlt : k < n
    · obtain ⟨j, hj⟩ : ∃ j, k = j + 1 := ⟨k - 1, by omega⟩
      obtain ⟨⟨x, y⟩, hp⟩ : ∃ v, at' l k = v := ⟨_, rfl⟩
      obtain ⟨⟨p, q⟩, hq⟩ : ∃ v, at' l j = v := ⟨_, rfl⟩
      have r0 := (HF.out.own g0).cell (j := k * 2) (by omega)
      have r1 := (HF.out.own g0).cell (j := k * 2 + 1) (by omega)
      have r2 := (HF.out.own g0).cell (j := j * 2) (by omega)
      have r3 := (HF.out.own g0).cell (j := j * 2 + 1) (by omega)
      rw [(HFL.out k (by rw [HN.out]; exact hlt)).1, hp] at r0
      rw [(HFL.out k (by rw [HN.out]; exact hlt)).2, hp] at r1
      rw [(HFL.out j (by rw [HN.out]; omega)).1, hq] at r2
      rw [(HFL.out j (by rw [HN.out]; omega)).2, hq] at r3
      simp only at r0 r1 r2 r3
      have HP := Lib.hid hp
      have HQ := Lib.hid hq
      have HJ := Lib.hid hj
      obtain ⟨v, hv⟩ : ∃ v, (y == q) = v := ⟨_, rfl⟩
      have HV := Lib.hid hv
      have hkn : (k : Int) < n := by omega
      have i1 : IntKind.i64.wrap ((k : Int) - 1) = (j : Int) := (IntWalk.i64_in _ (by omega)).trans (by omega)
      have d5 : (0 : Int) ≤ (j : Int) := by omega
      have d6 : (j : Int) < n := by omega
      clear hp hq hv hj
      cases v with
      | false =>
        go_upto_region 6 with (fail)
        have f0 := Own.refl wr
        go_region_held3 (fun w' => w'.cell? ⟨g, k * 2, none⟩ = some (.int .i64 x) ∧ w'.cell? ⟨g, k * 2 + 1, none⟩ = some (.int .i64 y) ∧ w'.cell? ⟨g, j * 2, none⟩ = some (.int .i64 p) ∧ w'.cell? ⟨g, j * 2 + 1, none⟩ = some (.int .i64 q) ∧ Own wr w') ((refine s4 ?_ r0 r1 r2 r3; repeat (first | (with_reducible assumption) | (exact Own.refl _) | (apply Own.alloc) | (apply Own.drew))))
          ((go_at_call 34; refine (pnclose_at x y p q false _ HV).mono ?_; rintro e w5 ⟨rfl, hg⟩; replace hg : Own wr w5 := Own.trans (by repeat (first | (with_reducible assumption) | (exact Own.refl _) | (apply Own.alloc) | (apply Own.drew))) hg))
        go_wp2
        go_roundw
        case rel => exact ⟨k + 1, by go_num, by omega, hlt, g0.trans hg, fun i h0 h1 => by
          by_cases e : i = k
          · rw [e, HP.out, show k - 1 = j by have := HJ.out; omega, HQ.out]
            exact bne_iff_ne.1 (by simp [bne, HV.out])
          · exact HNO.out i h0 (by omega)⟩
        case measure => simp [intOf]; omega
      | true =>
        have HST := Lib.hid (cmp_start (l := l) (k := k) (f := f) (by omega) (by rw [HN.out]; exact hlt) HNO.out (by rw [HP.out, show k - 1 = j by have := HJ.out; omega, HQ.out]; exact eq_of_beq HV.out) HFL.out)
        go_upto_region 6 with (fail)
        have f0 := Own.refl wr
        go_region_held3 (fun w' => w'.cell? ⟨g, k * 2, none⟩ = some (.int .i64 x) ∧ w'.cell? ⟨g, k * 2 + 1, none⟩ = some (.int .i64 y) ∧ w'.cell? ⟨g, j * 2, none⟩ = some (.int .i64 p) ∧ w'.cell? ⟨g, j * 2 + 1, none⟩ = some (.int .i64 q) ∧ Own wr w') ((refine s4 ?_ r0 r1 r2 r3; repeat (first | (with_reducible assumption) | (exact Own.refl _) | (apply Own.alloc) | (apply Own.drew))))
          ((go_at_call 34; refine (pnclose_at x y p q true _ HV).mono ?_; rintro e w5 ⟨rfl, hg⟩; replace hg : Own wr w5 := Own.trans (by repeat (first | (with_reducible assumption) | (exact Own.refl _) | (apply Own.alloc) | (apply Own.drew))) hg))
        obtain ⟨N2, hN2⟩ : ∃ N2, n - k = N2 := ⟨_, rfl⟩
        obtain ⟨C2, hC2⟩ : ∃ C2, cap - k = C2 := ⟨_, rfl⟩
        have hck : (k : Int) ≤ cap := by omega
        have hck2 : ¬ cap = k := by omega
        replace g0 := g0.trans hg
        have HF1 := Lib.hid (HF.out.own g0)
        clear r0 r1 r2 r3 i1 d5 d6 f0 hg HP HQ HJ HV
        go_wp2
        have HW5 := Lib.hid ((Off.refl g w).own g0)
        go_loopw [5, 7] (fun v5 v7 wr => ∃ kk k2 : Nat, ∃ F, v5 = .int .i64 (kk : Int) ∧ v7 = .int .i64 (k2 : Int) ∧ 1 ≤ k2 ∧ k + k2 ≤ n ∧ Fk wr base g n cap 38 2 F ∧ Cmp l (k + k2) kk F ∧ Off g w wr) (fun _ v7 _ => n - (intOf v7).toNat)
        case atStart => exact ⟨k, 1, f, rfl, rfl, Nat.le_refl _, hlt, HF1.out, HST.out, HW5.out⟩
        case round =>
          obtain ⟨kk, k2, F, rfl, rfl, h21, h2n, hF, hC, hO⟩ := hrel
          have HFF := Lib.hid hF
          have HCM := Lib.hid hC
          have hkk := hC.lt
          have HO := Lib.hid hO
          clear hF hC hO HST HF1 HW5
          by_cases hlt2 : k + k2 < n
          · obtain ⟨j2, hj2⟩ : ∃ j, k2 = j + 1 := ⟨k2 - 1, by omega⟩
            obtain ⟨⟨x2, y2⟩, hp⟩ : ∃ v, at' l (k + k2) = v := ⟨_, rfl⟩
            obtain ⟨⟨p2, q2⟩, hq⟩ : ∃ v, at' l (k + k2 - 1) = v := ⟨_, rfl⟩
            have a1 := HCM.out.hi (k + k2) (by omega) (by rw [HN.out]; exact hlt2)
            have a2 := HCM.out.hi (k + k2 - 1) (by omega) (by rw [HN.out]; omega)
            have r0 := HFF.out.cell (j := (k + k2) * 2) (by omega)
            have r1 := HFF.out.cell (j := (k + k2) * 2 + 1) (by omega)
            have r2 := HFF.out.cell (j := (k + k2 - 1) * 2) (by omega)
            have r3 := HFF.out.cell (j := (k + k2 - 1) * 2 + 1) (by omega)
            rw [a1.1, hp, show (k + k2) * 2 = k * 2 + k2 * 2 by omega] at r0
            rw [a1.2, hp, show (k + k2) * 2 = k * 2 + k2 * 2 by omega] at r1
            rw [a2.1, hq, show (k + k2 - 1) * 2 = k * 2 + j2 * 2 by omega] at r2
            rw [a2.2, hq, show (k + k2 - 1) * 2 = k * 2 + j2 * 2 by omega] at r3
            simp only at r0 r1 r2 r3
            have HP := Lib.hid hp
            have HQ := Lib.hid hq
            obtain ⟨v, hv⟩ : ∃ v, (y2 == q2) = v := ⟨_, rfl⟩
            have HV2 := Lib.hid hv
            have hkn2 : (k2 : Int) < N2 := by omega
            have i1 : IntKind.i64.wrap ((k2 : Int) - 1) = (j2 : Int) := (IntWalk.i64_in _ (by omega)).trans (by omega)
            have d5 : (0 : Int) ≤ (j2 : Int) := by omega
            have d6 : (j2 : Int) < N2 := by omega
            clear hp hq hv hj2 a1 a2
            cases v with
            | true =>
              have HST2 := Lib.hid (HCM.out.skip (by rw [HP.out, HQ.out]; exact eq_of_beq HV2.out))
              go_upto_region 11 with (fail)
              have f0 := Own.refl wr
              go_region_held3 (fun w' => w'.cell? ⟨g, k * 2 + k2 * 2, none⟩ = some (.int .i64 x2) ∧ w'.cell? ⟨g, k * 2 + k2 * 2 + 1, none⟩ = some (.int .i64 y2) ∧ w'.cell? ⟨g, k * 2 + j2 * 2, none⟩ = some (.int .i64 p2) ∧ w'.cell? ⟨g, k * 2 + j2 * 2 + 1, none⟩ = some (.int .i64 q2) ∧ Own wr w') ((refine s4 ?_ r0 r1 r2 r3; repeat (first | (with_reducible assumption) | (exact Own.refl _) | (apply Own.alloc) | (apply Own.drew))))
                ((go_at_call 34; refine (pnclose_at x2 y2 p2 q2 true _ HV2).mono ?_; rintro e w5 ⟨rfl, hg⟩; replace hg : Own wr w5 := Own.trans (by repeat (first | (with_reducible assumption) | (exact Own.refl _) | (apply Own.alloc) | (apply Own.drew))) hg))
              go_wp2
              go_roundw
              case rel => exact ⟨kk, k2 + 1, F, rfl, by go_num, by omega, by omega, HFF.out.own hg, HST2.out, HO.out.own hg⟩
              case measure => simp [intOf]; omega
            | false =>
              have HST2 := Lib.hid (HCM.out.keep (p := (x2, y2)) (by rw [HP.out, HQ.out]; exact bne_iff_ne.1 (by simp [bne, HV2.out])) HP.out)
              go_upto_region 11 with (fail)
              have f0 := Own.refl wr
              go_region_held3 (fun w' => w'.cell? ⟨g, k * 2 + k2 * 2, none⟩ = some (.int .i64 x2) ∧ w'.cell? ⟨g, k * 2 + k2 * 2 + 1, none⟩ = some (.int .i64 y2) ∧ w'.cell? ⟨g, k * 2 + j2 * 2, none⟩ = some (.int .i64 p2) ∧ w'.cell? ⟨g, k * 2 + j2 * 2 + 1, none⟩ = some (.int .i64 q2) ∧ Own wr w') ((refine s4 ?_ r0 r1 r2 r3; repeat (first | (with_reducible assumption) | (exact Own.refl _) | (apply Own.alloc) | (apply Own.drew))))
                ((go_at_call 34; refine (pnclose_at x2 y2 p2 q2 false _ HV2).mono ?_; rintro e w5 ⟨rfl, hg⟩; replace hg : Own wr w5 := Own.trans (by repeat (first | (with_reducible assumption) | (exact Own.refl _) | (apply Own.alloc) | (apply Own.drew))) hg))
              have HFG := Lib.hid (HFF.out.own hg)
              have m0 := HFG.out.cell (j := kk * 2) (by omega)
              have m1 := HFG.out.cell (j := kk * 2 + 1) (by omega)
              have z0 := HFG.out.frozen (kk * 2)
              have z1 := HFG.out.frozen (kk * 2 + 1)
              replace r0 := hg.cell r0
              replace r1 := hg.cell r1
              have HFH := Lib.hid ((HFG.out.put (kk * 2) (.int .i64 x2)).put (kk * 2 + 1) (.int .i64 y2))
              have HOH := Lib.hid (((HO.out.own hg).set (kk * 2) (.int .i64 x2)).set (kk * 2 + 1) (.int .i64 y2))
              have hkkn : (kk : Int) < n := by omega
              clear r2 r3 i1 d5 d6
              go_wp2
              go_roundw
              case rel => exact ⟨kk + 1, k2 + 1, _, by go_num, by go_num, by omega, by omega, HFH.out, HST2.out, HOH.out⟩
              case measure => simp [intOf]; omega
          · have hend : k + k2 = n := by omega
            have hkkn : kk < n := by omega
            obtain ⟨N3, hN3⟩ : ∃ m, n - kk = m := ⟨_, rfl⟩
            obtain ⟨C3, hC3⟩ : ∃ m, cap - kk = m := ⟨_, rfl⟩
            have hcl : ∀ ty, (Builtin.clear_ #[22] ty #[.slice (some ⟨g, kk * 2, none⟩) N3 C3]).run Try.prog wr = .ok (.tuple #[]) (wr.setCells g (kk * 2) (List.replicate (N3 * 2) (.int .i64 0))) :=
              fun ty => run_clear_pairs wr _ _ ty Try.underlying22 zero_tempo g (kk * 2) N3 C3 (by omega) (fun i hi => by rw [HFF.out.cell (j := kk * 2 + i) (by omega)]; rfl) (fun i _ => HFF.out.frozen _)
            obtain ⟨F', hF', hFF'⟩ := Fk.puts (List.replicate (N3 * 2) (.int .i64 0)) (kk * 2) HFF.out
            have hrow := (hF'.take (m := kk) (by omega)).pairs (M := nrm l n) (by rw [← hend]; exact HCM.out.len) (fun i hi => by
              have := HCM.out.lo i hi
              rw [hend] at this
              exact ⟨by rw [hFF' _ (by omega)]; exact this.1, by rw [hFF' _ (by omega)]; exact this.2⟩)
            have HROW := Lib.hid hrow
            have HLEN := Lib.hid (show (nrm l n).length = kk by rw [← hend]; exact HCM.out.len)
            have HOX := Lib.hid (HO.out.sets (List.replicate (N3 * 2) (.int .i64 0)) (kk * 2))
            have hkc : (kk : Int) ≤ n := by omega
            have hkc2 : (kk : Int) ≤ cap := by omega
            have hkc3 : ¬ cap = kk := by omega
            have hk2n : ¬ (k2 : Int) < N2 := by omega
            clear hF' hFF' hrow
            go_wp2
            go_ret
            rw [HLEN.out]
            exact ⟨rfl, HROW.out, HOX.out⟩
    · obtain rfl : k = n := by omega
      have hall := nrm_all (l := l) (k := k) (by rw [HN.out]; exact Nat.le_refl _) HNO.out
      rw [show l.take k = l by rw [← HN.out, List.take_length]] at hall
      have HALL := Lib.hid hall
      clear hall
      go_wp2
      go_ret
      rw [HALL.out]
      rw [HN.out]
      exact ⟨rfl, row_own HR.out g0, (Off.refl _ _).own g0⟩
end Go.Proofs.Ytpgeiflbmcjaaaa.TemW
