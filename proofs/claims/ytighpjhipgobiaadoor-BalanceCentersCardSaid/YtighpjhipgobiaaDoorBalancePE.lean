/-
  Walks of the program of package balance: sort.Search with the function that nearness returns, Margin. Condition: the table of sines, the table of bounds and the numbers of both sides lie in memory.
-/
import Derived.Test.YtighpjhipgobiaaDoorBalancePD
import Derived.Deep.LoopGhost
namespace Go.Proofs.YtighpjhipgobiaaDoor.BalW
open Go.ChangeShapes Go.WideShapes Go.ChangeAt Go.RowKit
open PairW AimP AimW BlkW PrtW PstP PstW JntP JntW RegD BalP
set_option maxRecDepth 100000 in
set_option maxHeartbeats 2000000 in
/-- sort.Search with the function that nearness returned: the least number at which it says true. -/
theorem bsearch_at (S F T : Nat) (n : Nat) (q : Nat → Bool) (w : World) (hsz : n < 4611686018427387904)
    (hf : ∀ W, Own w W → ∀ i : Nat, i < n → Calls Tryd.prog 65 #[.int .i64 (i : Int), .pointer (some ⟨S, 0, none⟩), .pointer (some ⟨F, 0, none⟩), .pointer (some ⟨T, 0, none⟩)] W fun e W' => e = .returned (.bool (q i)) ∧ Own W W')
    (hmono : ∀ a b, a ≤ b → b < n → q a = true → q b = true) :
    Calls Tryd.prog 36 #[.int .i64 (n : Int), .func (.func 65) #[] #[.pointer (some ⟨S, 0, none⟩), .pointer (some ⟨F, 0, none⟩), .pointer (some ⟨T, 0, none⟩)]] w fun e w' => e = .returned (.int .i64 (least q n 0 : Nat)) ∧ Own w w' := by
  have HF := Lib.hid hf
  have M := Lib.hid hmono
  clear hf hmono
  go_enter Tryd.func36, Tryd.ntmps36
  go_wp2
  go_loopg [5, 6] n (fun kx s5 s6 wr => ∃ (lo hi : Nat), s5 = .int .i64 lo ∧ s6 = .int .i64 hi ∧ lo ≤ hi ∧ hi ≤ n ∧ hi - lo ≤ kx ∧ Own w wr ∧
    Hid ((∀ t, t < lo → q t = false) ∧ (∀ t, hi ≤ t → t < n → q t = true)))
  case atStart => exact ⟨0, n, rfl, rfl, Nat.zero_le _, Nat.le_refl _, by omega, Own.refl w, Lib.hid ⟨fun t ht => absurd ht (Nat.not_lt_zero _), fun t h1 h2 => by omega⟩⟩
  case round =>
    obtain ⟨lo, hi, rfl, rfl, hlh, hin, hg, g0, I⟩ := hrel
    by_cases hlt : lo < hi
    · have hc := HF.out wr g0 ((lo + hi) / 2) (by omega)
      rw [show (((lo + hi) / 2 : Nat) : Int) = ((lo : Int) + (hi : Int)) / 2 by omega] at hc
      cases hp : q ((lo + hi) / 2) <;> rw [hp] at hc
      · have HP := Lib.hid hp
        clear hp
        go_wp2_with (go_at_call 65; refine hc.mono ?_; rintro e w1 ⟨rfl, hg1⟩; replace g0 := g0.trans hg1; clear hg1)
        go_roundg (hi - ((lo + hi) / 2 + 1))
        case measure => omega
        case rel =>
          have I2 := Lib.hid (show (∀ t, t < (lo + hi) / 2 + 1 → q t = false) ∧ (∀ t, hi ≤ t → t < n → q t = true) from ⟨fun t ht => (by
            cases h : q t with
            | false => rfl
            | true => have := M.out t ((lo + hi) / 2) (by omega) (by omega) h; rw [HP.out] at this; cases this), I.out.2⟩)
          exact ⟨(lo + hi) / 2 + 1, hi, by rw [show ((lo : Int) + (hi : Int)) / 2 + 1 = (((lo + hi) / 2 + 1 : Nat) : Int) by omega], rfl, by omega, hin, Nat.le_refl _, g0, I2⟩
      · have HP := Lib.hid hp
        clear hp
        go_wp2_with (go_at_call 65; refine hc.mono ?_; rintro e w1 ⟨rfl, hg1⟩; replace g0 := g0.trans hg1; clear hg1)
        go_roundg ((lo + hi) / 2 - lo)
        case measure => omega
        case rel =>
          have I2 := Lib.hid (show (∀ t, t < lo → q t = false) ∧ (∀ t, (lo + hi) / 2 ≤ t → t < n → q t = true) from ⟨I.out.1, fun t ht htn => M.out ((lo + hi) / 2) t ht htn HP.out⟩)
          exact ⟨lo, (lo + hi) / 2, rfl, by rw [show ((lo : Int) + (hi : Int)) / 2 = (((lo + hi) / 2 : Nat) : Int) by omega], by omega, by omega, Nat.le_refl _, g0, I2⟩
    · obtain rfl : hi = lo := by omega
      have HE := Lib.hid (show least q n 0 = hi from least_is n 0 hi (Nat.zero_le _) (by omega) (fun i _ h => I.out.1 i h) (by
        by_cases e : hi = n
        · exact .inl (by omega)
        · exact .inr (I.out.2 hi (Nat.le_refl _) (by omega))))
      go_wp2
      go_ret
      exact ⟨by rw [HE.out]; rfl, g0⟩
set_option maxRecDepth 100000 in
set_option maxHeartbeats 2000000 in
theorem bMar_at (b p : Vl) (s n c : Int) (w : World) (HT : Hid (AngW.Tab w)) (HBT : Hid (BuiW.Tab w)) (HS : Hid (Sds w)) (H : Hid (mgV b p s = n ∧ mgE b p s = c)) :
    Calls Tryd.prog 15 #[.agg (cz 15 b), .agg (cz 22 p), .int .i64 s] w fun r w' => r = .returned (.tuple #[.int .i64 n, .int .i64 c]) ∧ Own w w' := by
  obtain ⟨hn, hc⟩ := H.out
  clear H
  obtain ⟨j, hj⟩ : ∃ f, joV b p s = f := ⟨_, rfl⟩
  obtain ⟨c0, hc0⟩ : ∃ c, joE b p s = c := ⟨_, rfl⟩
  have HJO := Lib.hid (show cz 33 (joV b p s) = cz 33 j ∧ joE b p s = c0 from ⟨by rw [hj], hc0⟩)
  by_cases h : c0 = 0
  · subst h
    by_cases hs : s = 0
    · rw [(mg_air hc0 hs).1] at hc
      rw [(mg_air hc0 hs).2] at hn
      subst hc
      subst hn
      subst hs
      clear hc0 hj
      go_enter Tryd.func15, Tryd.ntmps15
      go_upto_region 1 with (fail)
      obtain ⟨W0, B, P, hW, hP, hB, hb1, hp1, g0, -, -, -⟩ := two_new w (cz 15 b) 24 (cz 22 p) 31
      rw [hW, hP, hB]
      have HB := Lib.hid hb1
      have HP := Lib.hid hp1
      clear hW hP hB hb1 hp1
      go_upto_region 2 with (first | ((with_reducible show wpList _ _ _ (⟨_, .load 24 (.tmp 3), _, _, _, none⟩ :: _) _ _); refine wpList_load_row rfl 24 (.tmp 3) rfl B rfl 24 _ (0, 0) _ HB.out.raw Tryd.underlying24 rfl infoB ?_) | ((with_reducible show wpList _ _ _ (⟨_, .load 31 (.tmp 4), _, _, _, none⟩ :: _) _ _); refine wpList_load_row rfl 31 (.tmp 4) rfl P rfl 31 _ (0, 0) _ HP.out.raw Tryd.underlying31 rfl infoP ?_) | (go_at_call 19; with_reducible refine (jof_at b p j 0 0 _ (Lib.hid (tab_own HT.out g0)) (Lib.hid (HBT.out.own g0)) (Lib.hid (HS.out.own g0)) HJO).mono ?_; rintro r w1 ⟨rfl, hg⟩; replace g0 := g0.trans hg; replace HB := Lib.hid (HB.out.own hg); clear HP; clear hg) | ((with_reducible show wpList _ _ _ (⟨_, .store 59 (.tmp 8) (.tmp 17), _, _, _, none⟩ :: _) _ _); refine wpList_store_row rfl 59 (.tmp 8) (.tmp 17) rfl _ (cz 33 (j)) rfl rfl 59 _ (heap_new _ _) infoJ rfl (cz_one _ _) ?_; rw [World.setRow_alloc_new]))
      obtain ⟨w2, A, hW, hBq, hb, hg, Ag⟩ := blk_new w1 (cz 33 j) 59
      rw [hW, hBq]
      have HA := Lib.hid hb
      replace g0 := g0.trans hg
      replace HB := Lib.hid (HB.out.own hg)
      clear hW hBq hb hg
      clear Ag
      (first | go_frame | skip)
      clear HA HB
      go_wp2
      go_ret2
      exact ⟨rfl, g0⟩
    · have hl1 := @lst_yes b (joV b p s) s (jo_yes hc0).1
      have hl2 := @lst_no b (joV b p s) s (jo_yes hc0).1
      have hm1 := @mg_yes b p s hc0 hs
      have hm2 := @mg_fall b p s hc0 hs
      rw [hj] at hl1 hl2 hm1 hm2
      have HC := Lib.hid (cen_ok hc0)
      have HBA := Lib.hid (bas_ok (joV b p s) s)
      have hbd := jo_bd hc0
      have hce := ce_rel hc0
      obtain ⟨hr1, hr2⟩ := ba_rel hc0
      obtain ⟨hp0, hp1, -, -⟩ := (va_yes (jo_yes hc0).2.1).1
      have hft := foot_bd (jo_yes hc0).1
      have HAB := Lib.hid (fun (r : Int) (hr : 0 ≤ r ∧ r ≤ 32768) => abo_prog hc0 hr _ rfl)
      rw [hj] at HC HBA hce hr1 hr2 HAB
      have hcb : (-40000 ≤ ce b j 0 ∧ ce b j 0 ≤ 40000) ∧ -40000 ≤ ce b j 1 ∧ ce b j 1 ≤ 40000 := by omega
      have hlb : ((-40000 ≤ baL j s 0 ∧ baL j s 0 ≤ 40000) ∧ -40000 ≤ baL j s 1 ∧ baL j s 1 ≤ 40000) ∧ (-40000 ≤ baR j s 0 ∧ baR j s 0 ≤ 40000) ∧ -40000 ≤ baR j s 1 ∧ baR j s 1 ≤ 40000 := by omega
      obtain ⟨x, hx⟩ : ∃ x, ce b j 0 = x := ⟨_, rfl⟩
      obtain ⟨y, hy⟩ : ∃ x, ce b j 1 = x := ⟨_, rfl⟩
      obtain ⟨lx, hlx⟩ : ∃ x, baL j s 0 = x := ⟨_, rfl⟩
      obtain ⟨ly, hly⟩ : ∃ x, baL j s 1 = x := ⟨_, rfl⟩
      obtain ⟨lz, hlz⟩ : ∃ x, baL j s 2 = x := ⟨_, rfl⟩
      obtain ⟨rx, hrx⟩ : ∃ x, baR j s 0 = x := ⟨_, rfl⟩
      obtain ⟨ry, hry⟩ : ∃ x, baR j s 1 = x := ⟨_, rfl⟩
      obtain ⟨rz, hrz⟩ : ∃ x, baR j s 2 = x := ⟨_, rfl⟩
      obtain ⟨m, hm⟩ : ∃ x, BuiP.masV b = x := ⟨_, rfl⟩
      rw [hx, hy] at hcb HC HAB
      rw [hlx, hly, hrx, hry] at hlb HAB
      rw [hlx, hly, hlz, hrx, hry, hrz] at HBA
      rw [hm] at HC
      obtain ⟨a1, ha1⟩ : ∃ a, lx - x = a := ⟨_, rfl⟩
      obtain ⟨b1, hb1⟩ : ∃ a, ly - y = a := ⟨_, rfl⟩
      obtain ⟨a2, ha2⟩ : ∃ a, rx - x = a := ⟨_, rfl⟩
      obtain ⟨b2, hb2⟩ : ∃ a, ry - y = a := ⟨_, rfl⟩
      rw [ha1, hb1, ha2, hb2] at HAB
      have HD1 := Lib.hid (show Dif lx ly x y a1 b1 from ⟨hlb.1.1, hlb.1.2, hcb.1, hcb.2, ha1, hb1⟩)
      have HD2 := Lib.hid (show Dif rx ry x y a2 b2 from ⟨hlb.2.1, hlb.2.2, hcb.1, hcb.2, ha2, hb2⟩)
      clear hcb hlb ha1 hb1 ha2 hb2 hx hy hlx hly hlz hrx hry hrz hm hce hr1 hr2 hp0 hp1 hbd
      have d1 : decide (s = 0) = false := decide_eq_false hs
      have d2 : (s == 0) = false := beq_eq_false_iff_ne.2 hs
      obtain ⟨f9, hf9⟩ : ∃ k : Nat, b 9 = (k : Int) := ⟨(b 9).toNat, by omega⟩
      have i0 : IntKind.i64.wrap (b 9 + 1) = ((f9 + 1 : Nat) : Int) := (IntWalk.i64_in _ (by omega)).trans (by omega)
      have HAB9 := Lib.hid (fun (i : Nat) (hi : i < f9 + 1) => Lib.hid (show GeoP.nrV (0, 0) (a1, b1) (a2, b2) (i : Int) = ab b j s i ∧ GeoP.nrE (0, 0) (a1, b1) (a2, b2) (i : Int) = 0 from HAB.out (i : Int) (by omega)))
      have hll : lst b j s = least (ab b j s) (f9 + 1) 0 := by unfold lst; rw [hf9, Int.toNat_natCast]
      obtain ⟨le, hle⟩ : ∃ k, lst b j s = k := ⟨_, rfl⟩
      have HLE := Lib.hid (show least (ab b j s) (f9 + 1) 0 = le from hll.symm.trans hle)
      rw [hle] at hl1 hl2 hm1
      cases hab : abo b j s (b 9) with
      | true =>
        rw [(hm1 hab).1] at hc
        rw [(hm1 hab).2] at hn
        obtain ⟨l1, -, -⟩ := hl1 hab
        subst hc
        have i1 : IntKind.i64.wrap (b 9 - (le : Int)) = n := (IntWalk.i64_in _ (by omega)).trans hn
        have hne : (le : Int) ≠ ((f9 + 1 : Nat) : Int) := by omega
        have d3 : decide ((le : Int) = ((f9 + 1 : Nat) : Int)) = false := decide_eq_false hne
        have d4 : ((le : Int) == ((f9 + 1 : Nat) : Int)) = false := beq_eq_false_iff_ne.2 hne
        have hf : (f9 : Int) ≤ 300 := by omega
        clear hc0 hj hs hn HAB hll hle hl1 hl2 hm1 hm2 hab l1 hne hf9 hft
        go_enter Tryd.func15, Tryd.ntmps15
        go_upto_region 1 with (fail)
        obtain ⟨W0, B, P, hW, hP, hB, hb1, hp1, g0, -, -, -⟩ := two_new w (cz 15 b) 24 (cz 22 p) 31
        rw [hW, hP, hB]
        have HB := Lib.hid hb1
        have HP := Lib.hid hp1
        clear hW hP hB hb1 hp1
        go_upto_region 2 with (first | ((with_reducible show wpList _ _ _ (⟨_, .load 24 (.tmp 3), _, _, _, none⟩ :: _) _ _); refine wpList_load_row rfl 24 (.tmp 3) rfl B rfl 24 _ (0, 0) _ HB.out.raw Tryd.underlying24 rfl infoB ?_) | ((with_reducible show wpList _ _ _ (⟨_, .load 31 (.tmp 4), _, _, _, none⟩ :: _) _ _); refine wpList_load_row rfl 31 (.tmp 4) rfl P rfl 31 _ (0, 0) _ HP.out.raw Tryd.underlying31 rfl infoP ?_) | (go_at_call 19; with_reducible refine (jof_at b p j s 0 _ (Lib.hid (tab_own HT.out g0)) (Lib.hid (HBT.out.own g0)) (Lib.hid (HS.out.own g0)) HJO).mono ?_; rintro r w1 ⟨rfl, hg⟩; replace g0 := g0.trans hg; replace HB := Lib.hid (HB.out.own hg); clear HP; clear hg) | ((with_reducible show wpList _ _ _ (⟨_, .store 59 (.tmp 8) (.tmp 17), _, _, _, none⟩ :: _) _ _); refine wpList_store_row rfl 59 (.tmp 8) (.tmp 17) rfl _ (cz 33 (j)) rfl rfl 59 _ (heap_new _ _) infoJ rfl (cz_one _ _) ?_; rw [World.setRow_alloc_new]))
        obtain ⟨w2, A, hW, hBq, hb, hg, Ag⟩ := blk_new w1 (cz 33 j) 59
        rw [hW, hBq]
        have HA := Lib.hid hb
        replace g0 := g0.trans hg
        replace HB := Lib.hid (HB.out.own hg)
        clear hW hBq hb hg
        clear Ag
        (first | go_frame | skip)
        have hb9 := blk_num HB.out (i := 9) (by omega)
        go_upto_region 7 with (fail)
        clear hb9
        go_upto_region 8 with (first | ((with_reducible show wpList _ _ _ (⟨_, .load 24 (.tmp 3), _, _, _, none⟩ :: _) _ _); refine wpList_load_row rfl 24 (.tmp 3) rfl B rfl 24 _ (0, 0) _ HB.out.raw Tryd.underlying24 rfl infoB ?_) | ((with_reducible show wpList _ _ _ (⟨_, .load 59 (.tmp 8), _, _, _, none⟩ :: _) _ _); refine wpList_load_row rfl 59 (.tmp 8) rfl A rfl 59 _ (0, 0) _ HA.out.raw Tryd.underlying59 rfl infoJ ?_) | (go_at_call 35; refine (bnear1_at b j s m x y lx ly lz rx ry rz _ (Lib.hid (HBT.out.own g0)) HC HBA).mono ?_; rintro r w3 ⟨S, F, T, M, rfl, hn, hg⟩; replace g0 := g0.trans hg; replace HB := Lib.hid (HB.out.own hg); have HN := Lib.hid hn; clear hn hg HA) | (go_at_call 36; refine (bsearch_at S F T (f9 + 1) (ab b j s) _ (by omega) (fun W hW i hi => (bnear2_at (i : Int) x y lx ly lz rx ry rz a1 b1 a2 b2 (ab b j s i) S F T M W (Lib.hid (HN.out.own hW)) HD1 HD2 (HAB9.out i hi))) (fun a1 a2 h1 _h2 h3 => abo_mono (by omega) (by omega) h3)).mono ?_; rintro r w4 ⟨rfl, hg⟩; replace g0 := g0.trans hg; replace HB := Lib.hid (HB.out.own hg); have hb9 := blk_num HB.out (i := 9) (by omega); clear hg HN; rw [HLE.out]))
        go_wp2
        go_ret2
        exact ⟨rfl, g0⟩
      | false =>
        rw [(hm2 hab).1] at hc
        rw [(hm2 hab).2] at hn
        have l1 := hl2 hab
        subst hc
        subst hn
        have hne : (le : Int) = ((f9 + 1 : Nat) : Int) := by omega
        have d3 : decide ((le : Int) = ((f9 + 1 : Nat) : Int)) = true := decide_eq_true hne
        have d4 : ((le : Int) == ((f9 + 1 : Nat) : Int)) = true := beq_iff_eq.2 hne
        have hf : (f9 : Int) ≤ 300 := by omega
        clear hc0 hj hs HAB hll hle hl1 hl2 hm1 hm2 hab l1 hne hf9 hft
        go_enter Tryd.func15, Tryd.ntmps15
        go_upto_region 1 with (fail)
        obtain ⟨W0, B, P, hW, hP, hB, hb1, hp1, g0, -, -, -⟩ := two_new w (cz 15 b) 24 (cz 22 p) 31
        rw [hW, hP, hB]
        have HB := Lib.hid hb1
        have HP := Lib.hid hp1
        clear hW hP hB hb1 hp1
        go_upto_region 2 with (first | ((with_reducible show wpList _ _ _ (⟨_, .load 24 (.tmp 3), _, _, _, none⟩ :: _) _ _); refine wpList_load_row rfl 24 (.tmp 3) rfl B rfl 24 _ (0, 0) _ HB.out.raw Tryd.underlying24 rfl infoB ?_) | ((with_reducible show wpList _ _ _ (⟨_, .load 31 (.tmp 4), _, _, _, none⟩ :: _) _ _); refine wpList_load_row rfl 31 (.tmp 4) rfl P rfl 31 _ (0, 0) _ HP.out.raw Tryd.underlying31 rfl infoP ?_) | (go_at_call 19; with_reducible refine (jof_at b p j s 0 _ (Lib.hid (tab_own HT.out g0)) (Lib.hid (HBT.out.own g0)) (Lib.hid (HS.out.own g0)) HJO).mono ?_; rintro r w1 ⟨rfl, hg⟩; replace g0 := g0.trans hg; replace HB := Lib.hid (HB.out.own hg); clear HP; clear hg) | ((with_reducible show wpList _ _ _ (⟨_, .store 59 (.tmp 8) (.tmp 17), _, _, _, none⟩ :: _) _ _); refine wpList_store_row rfl 59 (.tmp 8) (.tmp 17) rfl _ (cz 33 (j)) rfl rfl 59 _ (heap_new _ _) infoJ rfl (cz_one _ _) ?_; rw [World.setRow_alloc_new]))
        obtain ⟨w2, A, hW, hBq, hb, hg, Ag⟩ := blk_new w1 (cz 33 j) 59
        rw [hW, hBq]
        have HA := Lib.hid hb
        replace g0 := g0.trans hg
        replace HB := Lib.hid (HB.out.own hg)
        clear hW hBq hb hg
        clear Ag
        (first | go_frame | skip)
        have hb9 := blk_num HB.out (i := 9) (by omega)
        go_upto_region 7 with (fail)
        clear hb9
        go_upto_region 8 with (first | ((with_reducible show wpList _ _ _ (⟨_, .load 24 (.tmp 3), _, _, _, none⟩ :: _) _ _); refine wpList_load_row rfl 24 (.tmp 3) rfl B rfl 24 _ (0, 0) _ HB.out.raw Tryd.underlying24 rfl infoB ?_) | ((with_reducible show wpList _ _ _ (⟨_, .load 59 (.tmp 8), _, _, _, none⟩ :: _) _ _); refine wpList_load_row rfl 59 (.tmp 8) rfl A rfl 59 _ (0, 0) _ HA.out.raw Tryd.underlying59 rfl infoJ ?_) | (go_at_call 35; refine (bnear1_at b j s m x y lx ly lz rx ry rz _ (Lib.hid (HBT.out.own g0)) HC HBA).mono ?_; rintro r w3 ⟨S, F, T, M, rfl, hn, hg⟩; replace g0 := g0.trans hg; replace HB := Lib.hid (HB.out.own hg); have HN := Lib.hid hn; clear hn hg HA) | (go_at_call 36; refine (bsearch_at S F T (f9 + 1) (ab b j s) _ (by omega) (fun W hW i hi => (bnear2_at (i : Int) x y lx ly lz rx ry rz a1 b1 a2 b2 (ab b j s i) S F T M W (Lib.hid (HN.out.own hW)) HD1 HD2 (HAB9.out i hi))) (fun a1 a2 h1 _h2 h3 => abo_mono (by omega) (by omega) h3)).mono ?_; rintro r w4 ⟨rfl, hg⟩; replace g0 := g0.trans hg; replace HB := Lib.hid (HB.out.own hg); have hb9 := blk_num HB.out (i := 9) (by omega); clear hg HN; rw [HLE.out]))
        go_wp2
        go_ret2
        exact ⟨rfl, g0⟩
  · have hne : joE b p s ≠ 0 := by rw [hc0]; exact h
    rw [(mg_no hne).1, hc0] at hc
    rw [(mg_no hne).2] at hn
    subst hc
    subst hn
    have kc : (c0 != 0) = true := bne_iff_ne.2 h
    clear hc0 hj hne h
    go_enter Tryd.func15, Tryd.ntmps15
    go_upto_region 1 with (fail)
    obtain ⟨W0, B, P, hW, hP, hB, hb1, hp1, g0, -, -, -⟩ := two_new w (cz 15 b) 24 (cz 22 p) 31
    rw [hW, hP, hB]
    have HB := Lib.hid hb1
    have HP := Lib.hid hp1
    clear hW hP hB hb1 hp1
    go_upto_region 2 with (first | ((with_reducible show wpList _ _ _ (⟨_, .load 24 (.tmp 3), _, _, _, none⟩ :: _) _ _); refine wpList_load_row rfl 24 (.tmp 3) rfl B rfl 24 _ (0, 0) _ HB.out.raw Tryd.underlying24 rfl infoB ?_) | ((with_reducible show wpList _ _ _ (⟨_, .load 31 (.tmp 4), _, _, _, none⟩ :: _) _ _); refine wpList_load_row rfl 31 (.tmp 4) rfl P rfl 31 _ (0, 0) _ HP.out.raw Tryd.underlying31 rfl infoP ?_) | (go_at_call 19; with_reducible refine (jof_at b p j s c0 _ (Lib.hid (tab_own HT.out g0)) (Lib.hid (HBT.out.own g0)) (Lib.hid (HS.out.own g0)) HJO).mono ?_; rintro r w1 ⟨rfl, hg⟩; replace g0 := g0.trans hg; replace HB := Lib.hid (HB.out.own hg); clear HP; clear hg) | ((with_reducible show wpList _ _ _ (⟨_, .store 59 (.tmp 8) (.tmp 17), _, _, _, none⟩ :: _) _ _); refine wpList_store_row rfl 59 (.tmp 8) (.tmp 17) rfl _ (cz 33 (j)) rfl rfl 59 _ (heap_new _ _) infoJ rfl (cz_one _ _) ?_; rw [World.setRow_alloc_new]))
    obtain ⟨w2, A, hW, hBq, hb, hg, Ag⟩ := blk_new w1 (cz 33 j) 59
    rw [hW, hBq]
    have HA := Lib.hid hb
    replace g0 := g0.trans hg
    replace HB := Lib.hid (HB.out.own hg)
    clear hW hBq hb hg
    clear Ag
    (first | go_frame | skip)
    clear HA HB
    go_wp2
    go_ret2
    exact ⟨rfl, g0⟩
end Go.Proofs.YtighpjhipgobiaaDoor.BalW
