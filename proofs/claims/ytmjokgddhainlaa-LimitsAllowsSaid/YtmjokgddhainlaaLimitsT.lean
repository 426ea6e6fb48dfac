/-
  Walks of the laws of package limits: wide, pose, allows, inside, runs, great. Condition: none.
-/
import Derived.Test.YtmjokgddhainlaaLimitsPC
import Derived.Test.YtmjokgddhainlaaMovMem
namespace Go.Proofs.Ytmjokgddhainlaa.LimL
open Go.ChangeShapes Go.WideShapes Go.ChangeAt Go.RowKit
open LimW MovW PairW AimP AimW BlkW PrtW PstP PstW RegD LimP
theorem rn_le_self (p : Nat → Bool) : ∀ k : Nat, rn p k ≤ k
  | 0 => Nat.le_refl _
  | k + 1 => by
    have := rn_le_self p k
    show rn p k + (if p k = true ∧ (k = 0 ∨ p (k - 1) = false) then 1 else 0) ≤ k + 1
    by_cases c : p k = true ∧ (k = 0 ∨ p (k - 1) = false)
    · rw [if_pos c]; omega
    · rw [if_neg c]; omega
theorem lit_wid : (#[.int .i64 (-64), .int .i64 64, .int .i64 0, .int .i64 255, .int .i64 6, .int .i64 128, .int .i64 (-64), .int .i64 64, .int .i64 0, .int .i64 255, .int .i64 6, .int .i64 128, .int .i64 (-64), .int .i64 64, .int .i64 0, .int .i64 255, .int .i64 6, .int .i64 128, .int .i64 (-64), .int .i64 64, .int .i64 0, .int .i64 255, .int .i64 6, .int .i64 128, .int .i64 (-64), .int .i64 64, .int .i64 0, .int .i64 255, .int .i64 6, .int .i64 128, .int .i64 (-64), .int .i64 64, .int .i64 0, .int .i64 255, .int .i64 6, .int .i64 128, .bool true, .bool true, .int .i64 8192, .int .i64 128] : Array Value) = lz wid := by kernel_rfl
set_option maxRecDepth 100000 in
set_option maxHeartbeats 2000000 in
theorem wide_at (w : World) :
    Calls Try.prog 24 #[] w fun r w' => r = .returned (.agg (lz wid)) ∧ Own w w' := by
  have HLW := Lib.hid lit_wid
  go_enter Try.func24, Try.ntmps24
  go_upto_region 1 with (fail)
  obtain ⟨W0, R, hW, hR, hr, g0, hR0⟩ := blk_new w (lz nul) 26
  rw [← lz_nul] at hW
  rw [hW, hR]
  have HR := Lib.hid hr
  clear hW hR hr
  go_upto_region 2 with ((with_reducible show wpList _ _ _ (⟨_, .store 23 (.tmp 1) (.tmp 2), _, _, _, none⟩ :: _) _ _); refine wpList_store_row rfl 23 (.tmp 1) (.tmp 2) rfl _ #[.int .i64 (-64), .int .i64 64, .int .i64 0, .int .i64 255, .int .i64 6, .int .i64 128] rfl rfl 23 _ (heap_new _ _) infoL rfl (by simp [Value.oneCell']) ?_; rw [World.setRow_alloc_new])
  obtain ⟨w1, E, hW, hBq, hb, hg, Eg⟩ := blk_new W0 (#[.int .i64 (-64), .int .i64 64, .int .i64 0, .int .i64 255, .int .i64 6, .int .i64 128]) 23
  rw [hW, hBq]
  have HE := Lib.hid hb
  replace g0 := g0.trans hg
  replace HR := Lib.hid (HR.out.own hg)
  clear hW hBq hb hg
  clear Eg
  go_wp2_with (first | ((with_reducible show wpList _ _ _ (⟨_, .load 23 (.tmp 1), _, _, _, none⟩ :: _) _ _); refine wpList_load_row rfl 23 (.tmp 1) rfl E rfl 23 _ (0, 0) _ HE.out.raw Try.underlying23 rfl infoL ?_) | ((with_reducible show wpList _ _ _ (⟨_, .store 26 (.tmp 0) (.tmp 10), _, _, _, none⟩ :: _) _ _); refine wpList_store_row rfl 26 (.tmp 0) (.tmp 10) rfl R (lz (wid)) rfl (congrArg Value.agg HLW.out) 26 _ HR.out.raw infoLs rfl (lz_one _) ?_))
  have hp := HR.out.row (lz wid)
  exact bodyPost_ret (blk_result rfl rfl hp Try.underlying26 rfl infoLs) rfl ⟨rfl, own_setRow g0 hR0 _⟩
/-- The aims of the chapter's examples, another one for the left arm. -/
def pz (z e b : Int) : Vl := fun j => if j = 9 then z else if j = 10 then e else if j = 11 then b else if j = 1 ∨ j = 4 ∨ j = 13 then -64 else if j = 7 ∨ j = 16 then 64 else 0
def exP (z e b : Int) : Vl := ps4 0 0 0 0 (pz z e b)
theorem lit_pose (z e b : Int) : (#[.int .i64 0, .int .i64 0, .int .i64 0, .int .i64 0, .int .i64 0, .int .i64 (-64), .int .i64 0, .int .i64 0, .int .i64 (-64), .int .i64 0, .int .i64 0, .int .i64 64, .int .i64 0, .int .i64 z, .int .i64 e, .int .i64 b, .int .i64 0, .int .i64 (-64), .int .i64 0, .int .i64 0, .int .i64 64, .int .i64 0] : Array Value) = cz 22 (exP z e b) := by kernel_rfl
theorem cz22_nul : (#[.int .i64 0, .int .i64 0, .int .i64 0, .int .i64 0, .int .i64 0, .int .i64 0, .int .i64 0, .int .i64 0, .int .i64 0, .int .i64 0, .int .i64 0, .int .i64 0, .int .i64 0, .int .i64 0, .int .i64 0, .int .i64 0, .int .i64 0, .int .i64 0, .int .i64 0, .int .i64 0, .int .i64 0, .int .i64 0] : Array Value) = cz 22 nul := by kernel_rfl
theorem heap_a2_old (w : World) (z : Array Value) (T : TypeId) (o : Obj) : ((w.alloc (.cells z T)).alloc o).heap[w.heap.size]? = some (.cells z T (0, 0)) := ((Blk.new w z T).own ((Own.refl _).alloc o)).raw
theorem heap_a2_new (w : World) (z : Array Value) (T : TypeId) (o : Obj) : ((w.alloc o).alloc (.cells z T)).heap[w.heap.size + 1]? = some (.cells z T (0, 0)) := by
  have := heap_new (w.alloc o) (.cells z T)
  rw [size_alloc] at this
  exact this
set_option maxRecDepth 100000 in
set_option maxHeartbeats 2000000 in
theorem pose_at (z e b : Int) (w : World) :
    Calls Try.prog 35 #[.agg #[.int .i64 z, .int .i64 e, .int .i64 b]] w fun r w' => r = .returned (.agg (cz 22 (exP z e b))) ∧ Own w w' := by
  have HLP := Lib.hid (lit_pose z e b)
  go_enter Try.func35, Try.ntmps35
  go_upto_region 1 with (fail)
  obtain ⟨W0, X, R, hW, hR, hX, hx, hr, g0, -, hR0, -⟩ := two_new w (#[.int .i64 z, .int .i64 e, .int .i64 b]) 34 (cz 22 nul) 63
  rw [← cz22_nul] at hW
  rw [hW, hR, hX]
  have HX := Lib.hid hx
  have HR := Lib.hid hr
  clear hW hR hX hx hr
  go_upto_region 2 with (first | (refine wpList_store_row rfl 34 (.tmp 3) (.tmp 5) rfl _ (#[.int .i64 0, .int .i64 (-64), .int .i64 0]) rfl rfl 34 _ (heap_a2_old _ _ _ _) infoA rfl (by simp [Value.oneCell']) ?_; rw [setRow_alloc2]) | (refine wpList_store_row rfl 34 (.tmp 4) (.tmp 6) rfl _ (#[.int .i64 0, .int .i64 64, .int .i64 0]) rfl rfl 34 _ (heap_a2_new _ _ _ _) infoA rfl (by simp [Value.oneCell']) ?_; rw [setRow_alloc2n]))
  obtain ⟨W1, B, C, hW, hC, hB, hb, hc, hg, -, -, -⟩ := two_new W0 (#[.int .i64 0, .int .i64 (-64), .int .i64 0]) 34 (#[.int .i64 0, .int .i64 64, .int .i64 0]) 34
  rw [hW, hC, hB]
  have HB := Lib.hid hb
  have HC := Lib.hid hc
  replace HX := Lib.hid (HX.out.own hg)
  replace HR := Lib.hid (HR.out.own hg)
  replace g0 := g0.trans hg
  clear hW hC hB hb hc hg
  go_wp2_with (first | ((with_reducible show wpList _ _ _ (⟨_, .load 34 (.tmp 1), _, _, _, none⟩ :: _) _ _); refine wpList_load_row rfl 34 (.tmp 1) rfl X rfl 34 _ (0, 0) _ HX.out.raw Try.underlying34 rfl infoA ?_) | ((with_reducible show wpList _ _ _ (⟨_, .load 34 (.tmp 3), _, _, _, none⟩ :: _) _ _); refine wpList_load_row rfl 34 (.tmp 3) rfl B rfl 34 _ (0, 0) _ HB.out.raw Try.underlying34 rfl infoA ?_) | ((with_reducible show wpList _ _ _ (⟨_, .load 34 (.tmp 4), _, _, _, none⟩ :: _) _ _); refine wpList_load_row rfl 34 (.tmp 4) rfl C rfl 34 _ (0, 0) _ HC.out.raw Try.underlying34 rfl infoA ?_) | ((with_reducible show wpList _ _ _ (⟨_, .store 63 (.tmp 2) (.tmp 14), _, _, _, none⟩ :: _) _ _); refine wpList_store_row rfl 63 (.tmp 2) (.tmp 14) rfl R (cz 22 (exP z e b)) rfl (congrArg Value.agg HLP.out) 63 _ HR.out.raw infoP rfl (cz_one _ _) ?_))
  have hp := HR.out.row (cz 22 (exP z e b))
  exact bodyPost_ret (blk_result rfl rfl hp Try.underlying63 rfl infoP) rfl ⟨rfl, own_setRow g0 hR0 _⟩
set_option maxRecDepth 100000 in
set_option maxHeartbeats 2000000 in
theorem lawal_at (l : Vl) (z e b : Int) (t : Bool) (w : World) (H : Hid (alV l 3 z e b = t ∧ alE l 3 z e b = 0)) :
    Calls Try.prog 34 #[.agg (lz l), .agg #[.int .i64 z, .int .i64 e, .int .i64 b]] w fun r w' => r = .returned (.bool t) ∧ Own w w' := by
  cases t with
  | true =>
    go_enter Try.func34, Try.ntmps34
    go_upto_region 1 with (fail)
    obtain ⟨W0, B, C, hW, hC, hB, hb, hc, g0, hB0B, hB0C, hneBC⟩ := two_new w (lz l) 26 (#[.int .i64 z, .int .i64 e, .int .i64 b]) 34
    rw [hW, hC, hB]
    have HB := Lib.hid hb
    have HC := Lib.hid hc
    clear hW hC hB hb hc
    go_wp2_with (first | ((with_reducible show wpList _ _ _ (⟨_, .load 26 (.tmp 2), _, _, _, none⟩ :: _) _ _); refine wpList_load_row rfl 26 (.tmp 2) rfl B rfl 26 _ (0, 0) _ HB.out.raw Try.underlying26 rfl infoLs ?_) | ((with_reducible show wpList _ _ _ (⟨_, .load 34 (.tmp 3), _, _, _, none⟩ :: _) _ _); refine wpList_load_row rfl 34 (.tmp 3) rfl C rfl 34 _ (0, 0) _ HC.out.raw Try.underlying34 rfl infoA ?_) | (go_at_call 17; with_reducible refine (lal2_at l 3 z e b true 0 _ H).mono ?_; rintro r w9 ⟨rfl, hg⟩; replace g0 := g0.trans hg; clear hg))
    go_ret
    exact ⟨rfl, g0⟩
  | false =>
    go_enter Try.func34, Try.ntmps34
    go_upto_region 1 with (fail)
    obtain ⟨W0, B, C, hW, hC, hB, hb, hc, g0, hB0B, hB0C, hneBC⟩ := two_new w (lz l) 26 (#[.int .i64 z, .int .i64 e, .int .i64 b]) 34
    rw [hW, hC, hB]
    have HB := Lib.hid hb
    have HC := Lib.hid hc
    clear hW hC hB hb hc
    go_wp2_with (first | ((with_reducible show wpList _ _ _ (⟨_, .load 26 (.tmp 2), _, _, _, none⟩ :: _) _ _); refine wpList_load_row rfl 26 (.tmp 2) rfl B rfl 26 _ (0, 0) _ HB.out.raw Try.underlying26 rfl infoLs ?_) | ((with_reducible show wpList _ _ _ (⟨_, .load 34 (.tmp 3), _, _, _, none⟩ :: _) _ _); refine wpList_load_row rfl 34 (.tmp 3) rfl C rfl 34 _ (0, 0) _ HC.out.raw Try.underlying34 rfl infoA ?_) | (go_at_call 17; with_reducible refine (lal2_at l 3 z e b false 0 _ H).mono ?_; rintro r w9 ⟨rfl, hg⟩; replace g0 := g0.trans hg; clear hg))
    go_ret
    exact ⟨rfl, g0⟩
set_option maxRecDepth 100000 in
set_option maxHeartbeats 2000000 in
theorem lin_at (x : Vl) (a k : Int) (t : Bool) (w : World) (hx : 0 ≤ x 2 ∧ x 2 ≤ 255) (ha : 0 ≤ a + k ∧ a + k ≤ 511) (H : Hid (inS x (a + k) = t)) :
    Calls Try.prog 42 #[.agg (cz 6 x), .int .i64 a, .int .i64 k] w fun r w' => r = .returned (.bool t) ∧ Own w w' := by
  obtain ⟨s, hs⟩ : ∃ s, a + k = s := ⟨_, rfl⟩
  have i1 : IntKind.i64.wrap (a + k) = s := (IntWalk.i64_in _ (by omega)).trans hs
  obtain ⟨d, hd⟩ : ∃ d, s - x 2 = d := ⟨_, rfl⟩
  have i2 : IntKind.i64.wrap (s - x 2) = d := (IntWalk.i64_in _ (by omega)).trans hd
  obtain ⟨r, hr⟩ : ∃ r, d.tmod 256 = r := ⟨_, rfl⟩
  have hrb : -256 < r ∧ r < 256 := by rw [← hr]; exact AngW.tmod256_bd d
  have i3 : IntKind.i64.wrap (d.tmod 256) = r := (IntWalk.i64_in _ (by omega)).trans hr
  obtain ⟨r2, hr2⟩ : ∃ r2, r + 256 = r2 := ⟨_, rfl⟩
  have i4 : IntKind.i64.wrap (r + 256) = r2 := (IntWalk.i64_in _ (by omega)).trans hr2
  obtain ⟨n, hn⟩ : ∃ n, (s - x 2) % 256 = n := ⟨_, rfl⟩
  have hq : r2.tmod 256 = n := by
    have h1 := Int.mul_tdiv_add_tmod d 256
    rw [Int.tmod_eq_emod_of_nonneg (by omega)]
    omega
  have i5 : IntKind.i64.wrap (r2.tmod 256) = n := (IntWalk.i64_in _ (by omega)).trans hq
  have HD := Lib.hid (show decide (n ≤ x 3) = t by rw [← hn, ← hs]; exact H.out)
  clear hs hd hrb hr2 hn hx ha H
  go_enter Try.func42, Try.ntmps42
  go_upto_region 1 with (fail)
  obtain ⟨W0, B, hW, hBq, hb, g0, hB0B⟩ := blk_new w (cz 6 x) 23
  rw [hW, hBq]
  have HB := Lib.hid hb
  have k2 := blk_num hb (i := 2) (by omega)
  have k3 := blk_num hb (i := 3) (by omega)
  clear hW hBq hb
  clear HB
  go_wp2
  go_ret
  exact ⟨ret_bool HD.out, g0⟩
set_option maxRecDepth 100000 in
set_option maxHeartbeats 8000000 in
theorem lrn_at (x y : Vl) (c : Int) (w : World) (hx : okX x) (hy : okX y) (H : Hid ((rn (com x y) ((x 3).toNat + 1) : Int) = c)) :
    Calls Try.prog 21 #[.agg (cz 6 x), .agg (cz 6 y)] w fun r w' => r = .returned (.int .i64 c) ∧ Own w w' := by
  obtain ⟨-, hx2, hx3, -⟩ := hx
  have hy2 := hy.2.1
  clear hy
  go_enter Try.func21, Try.ntmps21
  go_upto_region 1 with (fail)
  obtain ⟨W0, B, C, hW, hC, hB, hb, hc, g0, hB0B, hB0C, hneBC⟩ := two_new w (cz 6 x) 23 (cz 6 y) 23
  rw [hW, hC, hB]
  have HB := Lib.hid hb
  have HC := Lib.hid hc
  clear hW hC hB hb hc
  go_wp2
  go_loopw [5, 6] (fun vn v wr => ∃ (k : Nat) (d : Int), v = .int .i64 (k : Int) ∧ vn = .int .i64 d ∧ k ≤ (x 3).toNat + 1 ∧ d = (rn (com x y) k : Int) ∧ Own w wr ∧ Blk wr B (cz 6 x) 23 ∧ Blk wr C (cz 6 y) 23) (fun _ v _ => (x 3).toNat + 1 - (intOf v).toNat)
  case atStart => exact ⟨0, 0, rfl, rfl, by omega, rfl, g0, HB.out, HC.out⟩
  case round =>
    clear g0 HB HC
    obtain ⟨k, d, rfl, rfl, hk, hd, g0, hb, hc⟩ := hrel
    have HDD := Lib.hid hd
    have HB := Lib.hid hb
    have HC := Lib.hid hc
    have hdk : d ≤ k := by
      rw [hd]
      exact Int.ofNat_le.2 (rn_le_self (com x y) k)
    have hd0 : 0 ≤ d := by omega
    clear hb hc hd
    have k2 := blk_num HB.out (i := 2) (by omega)
    have k3 := blk_num HB.out (i := 3) (by omega)
    by_cases hlt : (k : Int) ≤ x 3
    · have hz : 0 ≤ x 2 + (k : Int) ∧ x 2 + (k : Int) ≤ 511 := by omega
      have i2 : IntKind.i64.wrap (d + 1) = d + 1 := IntWalk.i64_in _ (by omega)
      by_cases hc : com x y k = true
      · have HS := Lib.hid (show inS y (x 2 + (k : Int)) = true from hc)
        by_cases hk0 : k = 0
        · have HN := Lib.hid (show d + 1 = (rn (com x y) (k + 1) : Int) by
            rw [show rn (com x y) (k + 1) = rn (com x y) k + 1 from congrArg (rn (com x y) k + ·) (if_pos ⟨hc, .inl hk0⟩), HDD.out]
            rfl)
          have dk : ((k : Int) == 0) = true := beq_iff_eq.2 (by omega)
          have dk2 : decide ((k : Int) = 0) = true := decide_eq_true (by omega)
          clear hc hk0
          go_wp2_with (first | ((with_reducible show wpList _ _ _ (⟨_, .load 23 (.tmp 3), _, _, _, none⟩ :: _) _ _); refine wpList_load_row rfl 23 (.tmp 3) rfl C rfl 23 _ (0, 0) _ HC.out.raw Try.underlying23 rfl infoL ?_) | ((with_reducible show wpList _ _ _ (⟨_, .load 23 (.tmp 3), _, _, _, some _⟩ :: _) _ _); refine wpList_load_row_g rfl 23 (.tmp 3) rfl C rfl 23 _ (0, 0) _ HC.out.raw Try.underlying23 rfl infoL ?_) | (go_at_call 42; with_reducible refine (lin_at y (x 2) ((k : Int)) true _ hy2 hz HS).mono ?_; rintro r w9 ⟨rfl, hg⟩; replace g0 := g0.trans hg; replace HB := Lib.hid (HB.out.own hg); replace HC := Lib.hid (HC.out.own hg); replace k2 := hg.cell k2; replace k3 := hg.cell k3; clear hg))
          go_roundw
          case rel => exact ⟨k + 1, _, by go_num, rfl, by omega, HN.out, g0, HB.out, HC.out⟩
          case measure => simp [intOf]; omega
        · have dk : ((k : Int) == 0) = false := beq_eq_false_iff_ne.2 (by omega)
          have dk2 : decide ((k : Int) = 0) = false := decide_eq_false (by omega)
          have i3 : IntKind.i64.wrap ((k : Int) - 1) = (k : Int) - 1 := IntWalk.i64_in _ (by omega)
          have hzp : 0 ≤ x 2 + ((k : Int) - 1) ∧ x 2 + ((k : Int) - 1) ≤ 511 := by omega
          by_cases hp : com x y (k - 1) = true
          · have HSP := Lib.hid (show inS y (x 2 + ((k : Int) - 1)) = true by rw [show (k : Int) - 1 = ((k - 1 : Nat) : Int) by omega]; exact hp)
            have HN := Lib.hid (show d = (rn (com x y) (k + 1) : Int) by
              rw [show rn (com x y) (k + 1) = rn (com x y) k + 0 from congrArg (rn (com x y) k + ·) (if_neg (fun h => by rcases h.2 with e | e; exact hk0 e; rw [hp] at e; exact absurd e.symm Bool.false_ne_true)), HDD.out]
              rfl)
            clear hc hp hk0
            go_wp2_with (first | ((with_reducible show wpList _ _ _ (⟨_, .load 23 (.tmp 3), _, _, _, none⟩ :: _) _ _); refine wpList_load_row rfl 23 (.tmp 3) rfl C rfl 23 _ (0, 0) _ HC.out.raw Try.underlying23 rfl infoL ?_) | ((with_reducible show wpList _ _ _ (⟨_, .load 23 (.tmp 3), _, _, _, some _⟩ :: _) _ _); refine wpList_load_row_g rfl 23 (.tmp 3) rfl C rfl 23 _ (0, 0) _ HC.out.raw Try.underlying23 rfl infoL ?_) | (go_at_call 42; with_reducible refine (lin_at y (x 2) ((k : Int)) true _ hy2 hz HS).mono ?_; rintro r w9 ⟨rfl, hg⟩; replace g0 := g0.trans hg; replace HB := Lib.hid (HB.out.own hg); replace HC := Lib.hid (HC.out.own hg); replace k2 := hg.cell k2; replace k3 := hg.cell k3; clear hg) | (go_at_call 42; with_reducible refine (lin_at y (x 2) ((k : Int) - 1) true _ hy2 hzp HSP).mono ?_; rintro r w9 ⟨rfl, hg⟩; replace g0 := g0.trans hg; replace HB := Lib.hid (HB.out.own hg); replace HC := Lib.hid (HC.out.own hg); replace k2 := hg.cell k2; replace k3 := hg.cell k3; clear hg))
            go_roundw
            case rel => exact ⟨k + 1, _, by go_num, rfl, by omega, HN.out, g0, HB.out, HC.out⟩
            case measure => simp [intOf]; omega
          · have HSP := Lib.hid (show inS y (x 2 + ((k : Int) - 1)) = false by rw [show (k : Int) - 1 = ((k - 1 : Nat) : Int) by omega]; exact Bool.eq_false_iff.2 hp)
            have HN := Lib.hid (show d + 1 = (rn (com x y) (k + 1) : Int) by
              rw [show rn (com x y) (k + 1) = rn (com x y) k + 1 from congrArg (rn (com x y) k + ·) (if_pos ⟨hc, .inr (Bool.eq_false_iff.2 hp)⟩), HDD.out]
              rfl)
            clear hc hp hk0
            go_wp2_with (first | ((with_reducible show wpList _ _ _ (⟨_, .load 23 (.tmp 3), _, _, _, none⟩ :: _) _ _); refine wpList_load_row rfl 23 (.tmp 3) rfl C rfl 23 _ (0, 0) _ HC.out.raw Try.underlying23 rfl infoL ?_) | ((with_reducible show wpList _ _ _ (⟨_, .load 23 (.tmp 3), _, _, _, some _⟩ :: _) _ _); refine wpList_load_row_g rfl 23 (.tmp 3) rfl C rfl 23 _ (0, 0) _ HC.out.raw Try.underlying23 rfl infoL ?_) | (go_at_call 42; with_reducible refine (lin_at y (x 2) ((k : Int)) true _ hy2 hz HS).mono ?_; rintro r w9 ⟨rfl, hg⟩; replace g0 := g0.trans hg; replace HB := Lib.hid (HB.out.own hg); replace HC := Lib.hid (HC.out.own hg); replace k2 := hg.cell k2; replace k3 := hg.cell k3; clear hg) | (go_at_call 42; with_reducible refine (lin_at y (x 2) ((k : Int) - 1) false _ hy2 hzp HSP).mono ?_; rintro r w9 ⟨rfl, hg⟩; replace g0 := g0.trans hg; replace HB := Lib.hid (HB.out.own hg); replace HC := Lib.hid (HC.out.own hg); replace k2 := hg.cell k2; replace k3 := hg.cell k3; clear hg))
            go_roundw
            case rel => exact ⟨k + 1, _, by go_num, rfl, by omega, HN.out, g0, HB.out, HC.out⟩
            case measure => simp [intOf]; omega
      · have HS := Lib.hid (show inS y (x 2 + (k : Int)) = false from Bool.eq_false_iff.2 hc)
        have HN := Lib.hid (show d = (rn (com x y) (k + 1) : Int) by
          rw [show rn (com x y) (k + 1) = rn (com x y) k + 0 from congrArg (rn (com x y) k + ·) (if_neg (fun h => hc h.1)), HDD.out]
          rfl)
        clear hc
        go_wp2_with (first | ((with_reducible show wpList _ _ _ (⟨_, .load 23 (.tmp 3), _, _, _, none⟩ :: _) _ _); refine wpList_load_row rfl 23 (.tmp 3) rfl C rfl 23 _ (0, 0) _ HC.out.raw Try.underlying23 rfl infoL ?_) | ((with_reducible show wpList _ _ _ (⟨_, .load 23 (.tmp 3), _, _, _, some _⟩ :: _) _ _); refine wpList_load_row_g rfl 23 (.tmp 3) rfl C rfl 23 _ (0, 0) _ HC.out.raw Try.underlying23 rfl infoL ?_) | (go_at_call 42; with_reducible refine (lin_at y (x 2) ((k : Int)) false _ hy2 hz HS).mono ?_; rintro r w9 ⟨rfl, hg⟩; replace g0 := g0.trans hg; replace HB := Lib.hid (HB.out.own hg); replace HC := Lib.hid (HC.out.own hg); replace k2 := hg.cell k2; replace k3 := hg.cell k3; clear hg))
        go_roundw
        case rel => exact ⟨k + 1, _, by go_num, rfl, by omega, HN.out, g0, HB.out, HC.out⟩
        case measure => simp [intOf]; omega
    · obtain rfl : k = (x 3).toNat + 1 := by omega
      obtain rfl : d = c := HDD.out.trans H.out
      clear HDD H
      go_wp2
      go_ret
      exact ⟨rfl, g0⟩
set_option maxRecDepth 100000 in
set_option maxHeartbeats 2000000 in
theorem lgr_at (sv tv : Value) (f : Nat → Vl) (q : Nat → Int) (n m : Nat) (t : Bool) (w : World) (HM : Hid (Mov sv tv f q n m w)) (H : Hid ((decide (100 < n) || decide (100 < m)) = t)) :
    Calls Try.prog 25 #[.agg #[sv, tv]] w fun r w' => r = .returned (.bool t) ∧ Own w w' := by
  obtain ⟨⟨A, ca, rfl, -⟩, ⟨A2, cb, rfl, -⟩, -, -⟩ := HM.out
  clear HM
  by_cases h1 : 100 < n
  · obtain rfl : true = t := by rw [← H.out, decide_eq_true h1]; rfl
    have d1 : decide ((100 : Int) < (n : Int)) = true := decide_eq_true (by omega)
    clear H
    go_enter Try.func25, Try.ntmps25
    go_upto_region 1 with (fail)
    obtain ⟨W0, B, hW, hBq, hb, g0, -⟩ := blk_new w #[.slice A n ca, .slice A2 m cb] 52
    rw [hW, hBq]
    have k0 := hb.cell 0
    have k1 := hb.cell 1
    clear hW hBq hb
    go_wp2
    go_ret
    exact ⟨rfl, g0⟩
  · have d1 : decide ((100 : Int) < (n : Int)) = false := decide_eq_false (by omega)
    by_cases h2 : 100 < m
    · obtain rfl : true = t := by rw [← H.out, decide_eq_true h2, Bool.or_true]
      have d2 : decide ((100 : Int) < (m : Int)) = true := decide_eq_true (by omega)
      clear H
      go_enter Try.func25, Try.ntmps25
      go_upto_region 1 with (fail)
      obtain ⟨W0, B, hW, hBq, hb, g0, -⟩ := blk_new w #[.slice A n ca, .slice A2 m cb] 52
      rw [hW, hBq]
      have k0 := hb.cell 0
      have k1 := hb.cell 1
      clear hW hBq hb
      go_wp2
      go_ret
      exact ⟨rfl, g0⟩
    · obtain rfl : false = t := by rw [← H.out, decide_eq_false h1, decide_eq_false h2]; rfl
      have d2 : decide ((100 : Int) < (m : Int)) = false := decide_eq_false (by omega)
      clear H
      go_enter Try.func25, Try.ntmps25
      go_upto_region 1 with (fail)
      obtain ⟨W0, B, hW, hBq, hb, g0, -⟩ := blk_new w #[.slice A n ca, .slice A2 m cb] 52
      rw [hW, hBq]
      have k0 := hb.cell 0
      have k1 := hb.cell 1
      clear hW hBq hb
      go_wp2
      go_ret
      exact ⟨rfl, g0⟩
end Go.Proofs.Ytmjokgddhainlaa.LimL
