/-
  Walks of the program of package assign: Solve, Prices; what the laws ask of it. Condition: none.
-/
import Derived.Test.YtfhdoeajoeaddaaAssignPH
import Derived.Test.YtfhdoeajoeaddaaAssignV
namespace Go.Proofs.Ytfhdoeajoeaddaa.AsgW
open Go.ChangeShapes Go.WideShapes Go.ChangeAt Go.RowKit
open PairW CelW TabW MchW AsgP
set_option maxRecDepth 100000 in
set_option maxHeartbeats 4000000 in
theorem psolve_at (c : Tb) (v : Value) (f : Int) (w : World) (HT : Hid (Cels w v (cellsG c))) (HF : Hid (chA c = f)) :
    Calls Try.prog 14 #[v] w fun e w' => ∃ (x : Value) (M : List Int) (m : Int), e = .returned (.tuple #[x, .int .i64 m, .int .i64 f]) ∧ Cel w' x (cellsI M) ∧ Own w w' ∧ (f = 0 → Bst c M m) ∧ (f ≠ 0 → M = [] ∧ m = 0) := by
  have hcheck := pacheck_at c v f w HT HF
  by_cases h0 : f = 0
  · subst h0
    obtain ⟨b1, b2, b3⟩ := chA_ok HF.out
    obtain ⟨n, hn⟩ : ∃ n, c.length = n := ⟨_, rfl⟩
    rw [hn] at b1
    have HN := Lib.hid hn
    have HS := Lib.hid b2
    have HR := Lib.hid b3
    clear hn b2 b3
    have hcheap := pcheap_at c v n w HT HS HR HN b1
    obtain ⟨AC, capc, rfl, t1, t2, _⟩ := gt_open HT.out
    rw [HN.out] at t1 HT hcheck hcheap ⊢
    unfold maxLen at t2
    go_enter Try.func14, Try.ntmps14
    go_wp2_with (first
      | (go_at_call 12; refine hcheck.mono ?_; rintro e w1 ⟨rfl, rfl⟩)
      | (go_at_call 23; refine hcheap.mono ?_; rintro e w2 ⟨P, gU, gV, gL, gH, U, V, L, H, rfl, q2, p2, f2⟩; have HQ2 := Lib.hid q2; have HP2 := Lib.hid p2; have HF2 := Lib.hid f2; clear q2 p2 f2))
    clear hcheck hcheap
    go_loopw [7, 17] (fun _ v17 wr => ∃ (k : Nat) (L H : List Int), v17 = .int .i64 (k : Int) ∧ k ≤ n ∧ Own w wr ∧ Pn wr w.heap.size P (.slice AC n capc) n gU gV gL gH U V L H ∧ Pf c n U V L H ∧ ∀ i, i < k → ∀ j : Nat, (j : Int) < L.getD i 0 → AsgP.Nx c U V n L i j) (fun _ v17 _ => n - (intOf v17).toNat)
    case atStart => exact ⟨0, L, H, rfl, Nat.zero_le _, HQ2.out, HP2.out, HF2.out, fun i h => absurd h (Nat.not_lt_zero _)⟩
    case round =>
      clear HQ2 HP2 HF2
      obtain ⟨k, L, H, rfl, hk, ho, hp, hpf, hno⟩ := hrel
      have HO := Lib.hid ho
      have HP := Lib.hid hp
      have HPF := Lib.hid hpf
      have HNO := Lib.hid hno
      clear ho hp hpf hno
      by_cases hlt : k < n
      · have hkn : (k : Int) < n := by omega
        have hlow := plower_at c _ w P n gU gV gL gH k U V L H wr HT HO HP HS HR HN b1 HPF hlt
        go_wp2_with (go_at_call 24; refine hlow.mono ?_; rintro e w5 ⟨rfl, L', H', p5, k5, f5, s5, n5⟩; have P5 := Lib.hid p5; have F5 := Lib.hid f5; have S5 := Lib.hid s5; have N5 := Lib.hid n5; have O5 := Lib.hid (HP.out.ok HT.out HO.out k5).1; clear p5 k5 f5 s5 n5)
        go_roundw
        case rel => exact ⟨k + 1, L', H', by go_num, hlt, O5.out, P5.out, F5.out, fun i hi j hj => by
          by_cases e : i = k
          · subst e; exact N5.out j hj
          · have hik : i < k := by omega
            rw [S5.out i hik] at hj
            exact nx_of (fun r hr => S5.out r (by omega)) (HNO.out i hik j hj)⟩
        case measure => simp [intOf]; omega
      · obtain rfl : k = n := by omega
        obtain ⟨hbst, _⟩ := HPF.out.best HN.out HNO.out
        obtain ⟨z, hz⟩ : ∃ z, cost c L = z := ⟨_, rfl⟩
        rw [hz] at hbst
        have HBST := Lib.hid hbst
        have HZ := Lib.hid hz
        have k3 : ∀ x : After wr, x.w.cell? ⟨P, 3, none⟩ = some (.slice (some ⟨gL, 0, none⟩) k k) := fun x => x.o.cell HP.out.c3
        have HLI := Lib.hid (cel_of_row HP.out.rL)
        have HA := Lib.hid HPF.out.asg
        clear hbst hz
        go_upto_region 10 with (fail)
        refine region_after wr (by kernel_rfl) (by kernel_rfl) ?_
        repeat (first
          | go_big_quiet_step ((go_at_call 25; refine (psum_at c L _ _ k z _ (Lib.hid (HT.out.own (HO.out.trans (After.o _)))) (Lib.hid (HLI.out.own (After.o _))) HS HR HN b1 HA HZ).mono ?_; rintro e w2 ⟨rfl, rfl⟩; exact ⟨rfl, ⟨_, rfl⟩⟩))
          | quiet_step ((go_at_call 25; refine (psum_at c L _ _ k z _ (Lib.hid (HT.out.own (HO.out.trans (After.o _)))) (Lib.hid (HLI.out.own (After.o _))) HS HR HN b1 HA HZ).mono ?_; rintro e w2 ⟨rfl, rfl⟩; exact ⟨rfl, ⟨_, rfl⟩⟩)))
        refine wpQuiet_nil ?_
        rintro _ ⟨x, rfl⟩
        go_wp2
        go_ret3
        exact ⟨_, L, z, rfl, HLI.out.own x.o, HO.out.trans x.o, fun _ => HBST.out, fun e => absurd rfl e⟩
  · have d2 : (f != 0) = true := bne_iff_ne.2 h0
    go_enter Try.func14, Try.ntmps14
    go_wp2_with (go_at_call 12; refine hcheck.mono ?_; rintro e w1 ⟨rfl, rfl⟩)
    go_ret3
    exact ⟨_, [], 0, rfl, cel_nil _, Own.refl _, fun e => absurd e h0, fun _ => ⟨rfl, rfl⟩⟩
set_option maxRecDepth 100000 in
set_option maxHeartbeats 4000000 in
theorem pprices_at (c : Tb) (v : Value) (f : Int) (w : World) (HT : Hid (Cels w v (cellsG c))) (HF : Hid (chA c = f)) :
    Calls Try.prog 15 #[v] w fun e w' => ∃ (x y : Value) (U V : List Int), e = .returned (.tuple #[x, y, .int .i64 f]) ∧ Cel w' x (cellsI U) ∧ Cel w' y (cellsI V) ∧ Own w w' ∧ (f = 0 → Prc c U V) ∧ (f ≠ 0 → U = [] ∧ V = []) := by
  have hcheck := pacheck_at c v f w HT HF
  by_cases h0 : f = 0
  · subst h0
    obtain ⟨b1, b2, b3⟩ := chA_ok HF.out
    obtain ⟨n, hn⟩ : ∃ n, c.length = n := ⟨_, rfl⟩
    rw [hn] at b1
    have HN := Lib.hid hn
    have HS := Lib.hid b2
    have HR := Lib.hid b3
    clear hn b2 b3
    have hcheap := pcheap_at c v n w HT HS HR HN b1
    obtain ⟨AC, capc, rfl, t1, t2, _⟩ := gt_open HT.out
    rw [HN.out] at t1 HT hcheck hcheap ⊢
    unfold maxLen at t2
    go_enter Try.func15, Try.ntmps15
    go_upto_region 5 with (first
      | (go_at_call 12; refine hcheck.mono ?_; rintro e w1 ⟨rfl, rfl⟩)
      | (go_at_call 23; refine hcheap.mono ?_; rintro e w2 ⟨P, gU, gV, gL, gH, U, V, L, H, rfl, q2, p2, f2⟩; have HQ2 := Lib.hid q2; have HP2 := Lib.hid p2; have HF2 := Lib.hid f2; have k1 := p2.c1; have k2 := p2.c2; clear q2 p2 f2))
    go_quiet (fail)
    go_wp2
    go_ret3
    refine ⟨_, _, U, V, rfl, (cel_of_row HP2.out.rU).own ((Own.refl w2).drewN _), (cel_of_row HP2.out.rV).own ((Own.refl w2).drewN _), HQ2.out.drewN _, fun _ => ?_, fun e => absurd rfl e⟩
    have fe := HF2.out.fe
    refine ⟨⟨by rw [HN.out]; exact fe.lu, by rw [HN.out]; exact fe.lv, fun i hi j hj => ?_⟩, fun x hx => ?_, fun x hx => ?_, fun M m h => by rw [HN.out]; exact HF2.out.sum HN.out h⟩
    · rw [HN.out] at hi hj
      have := fe.ge i hi j hj
      unfold sl at this
      omega
    · obtain ⟨i, hi, e⟩ := List.mem_iff_getElem.1 hx
      have := fe.bu i (by rw [← fe.lu]; exact hi)
      rw [List.getD_eq_getElem?_getD, List.getElem?_eq_getElem hi, e] at this
      simp at this
      omega
    · obtain ⟨i, hi, e⟩ := List.mem_iff_getElem.1 hx
      have := fe.bv i (by rw [← fe.lv]; exact hi)
      rw [List.getD_eq_getElem?_getD, List.getElem?_eq_getElem hi, e] at this
      simp at this
      omega
  · have d2 : (f != 0) = true := bne_iff_ne.2 h0
    go_enter Try.func15, Try.ntmps15
    go_wp2_with (go_at_call 12; refine hcheck.mono ?_; rintro e w1 ⟨rfl, rfl⟩)
    go_ret3
    exact ⟨_, _, [], [], rfl, cel_nil _, cel_nil _, Own.refl _, fun e => absurd e h0, fun _ => ⟨rfl, rfl⟩⟩
theorem asgC : AsgC := ⟨fun c v f w h1 h2 => (pacheck_at c v f w h1 h2).mono (by rintro e w' ⟨rfl, rfl⟩; exact ⟨rfl, Own.refl _⟩), psolve_at, pprices_at, pacost_at⟩
end Go.Proofs.Ytfhdoeajoeaddaa.AsgW
