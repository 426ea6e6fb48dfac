/-
  Walks of the program of package build: firstStep, Step. Condition: the table of bounds lies in memory (Tab).
-/
import Derived.Test.YtbmcompnhjbdkaaDoorBuildPB
import Derived.Test.YtbmcompnhjbdkaaDoorNumD
import Derived.Laws.ResultCell
namespace Go.Proofs.YtbmcompnhjbdkaaDoor.BuiW
open Go.ChangeShapes Go.WideShapes Go.ChangeAt Go.RowKit
open PairW BuiP
open NumP (nearV roundV roundE)
theorem own_num {w w' : World} (h : NumW.Drew w w') : Own w w' := by
  obtain ⟨n, rfl⟩ := h
  exact (Own.refl w).drewN n
theorem results_cell1 {fn : Func} {p : Tmp} {ty : TypeId} (h : fn.results = #[.cell p ty]) (tmps : Array Value) (P : Program) (w : World) :
    (results fn tmps).run P w = ((asAddr (tmps.getD p undef)).run P w).andThen fun a w₁ => ((loadVar ty a).run P w₁).andThen fun v w₂ => .ok v w₂ := by
  simp only [results, h]
  simp [Sem.run_bind]
  cases (Sem.run P (asAddr (tmps[p]?.getD undef)) w) with
  | ok a w1 =>
    simp only [Result.andThen]
    cases Sem.run P (loadVar ty a) w1 <;> rfl
  | halt h w => rfl
/-- A point that lies in memory, as the one result. -/
theorem pt_result {fn : Func} {p : Tmp} (h : fn.results = #[.cell p 29]) {tmps : Array Value} {w : World} {B : Nat} {x y : Value} {T : TypeId} (hp : tmps.getD p undef = .pointer (some ⟨B, 0, none⟩)) (hb : Blk w B #[x, y] T) :
    (results fn tmps).run Tryd.prog w = .ok (.agg #[x, y]) w := by
  have h0 : w.cell? ⟨B, 0, none⟩ = some x := hb.cell 0
  have h1 : w.cell? ⟨B, 1, none⟩ = some y := hb.cell 1
  rw [results_cell1 h, hp]
  go_simp
/-- A point that lies in memory, as the first result of two. -/
theorem pt_results {fn : Func} {p u : Tmp} (h : fn.results = #[.cell p 29, .tmp u]) {tmps : Array Value} {w : World} {B : Nat} {x y z : Value} {T : TypeId} (hp : tmps.getD p undef = .pointer (some ⟨B, 0, none⟩)) (hu : tmps.getD u undef = z) (hb : Blk w B #[x, y] T) :
    (results fn tmps).run Tryd.prog w = .ok (.tuple #[.agg #[x, y], z]) w := by
  have h0 : w.cell? ⟨B, 0, none⟩ = some x := hb.cell 0
  have h1 : w.cell? ⟨B, 1, none⟩ = some y := hb.cell 1
  rw [results_cell_tmp h, hp, hu]
  go_simp
/-- A body's box and a point made behind it. -/
theorem box_pt (w : World) (b : Bl) : ∃ W0, (w.alloc (.cells #[.int .i64 (b 0), .int .i64 (b 1), .int .i64 (b 2), .int .i64 (b 3), .int .i64 (b 4), .int .i64 (b 5), .int .i64 (b 6), .int .i64 (b 7), .int .i64 (b 8), .int .i64 (b 9), .int .i64 (b 10), .int .i64 (b 11), .int .i64 (b 12), .int .i64 (b 13), .int .i64 (b 14)] 24)).alloc (.cells #[.int .i64 0, .int .i64 0] 29) = W0 ∧ Bx W0 w.heap.size b ∧ Blk W0 (w.heap.size + 1) #[.int .i64 0, .int .i64 0] 29 ∧ Own w W0 := by
  refine ⟨_, rfl, (Bx.new w b).own ((Own.refl _).alloc _), ?_, ((Own.refl w).alloc _).alloc _⟩
  have := Blk.new (w.alloc (.cells #[.int .i64 (b 0), .int .i64 (b 1), .int .i64 (b 2), .int .i64 (b 3), .int .i64 (b 4), .int .i64 (b 5), .int .i64 (b 6), .int .i64 (b 7), .int .i64 (b 8), .int .i64 (b 9), .int .i64 (b 10), .int .i64 (b 11), .int .i64 (b 12), .int .i64 (b 13), .int .i64 (b 14)] 24)) #[.int .i64 0, .int .i64 0] 29
  simpa using this
/-- A point written into its block. -/
theorem Blk.pt {w : World} {B : Nat} {u0 v0 : Value} {T : TypeId} (h : Blk w B #[u0, v0] T) (x y : Value) : Blk ((w.setCell ⟨B, 0, none⟩ x).setCell ⟨B, 1, none⟩ y) B #[x, y] T := (h.put 0 x).put 1 y
theorem own_pt {a w : World} (h : Own a w) {B : Nat} (hB : a.heap.size ≤ B) (x y : Value) : Own a ((w.setCell ⟨B, 0, none⟩ x).setCell ⟨B, 1, none⟩ y) := (h.setCell hB x).setCell hB y
set_option maxRecDepth 100000 in
theorem pfirst_at (b : Bl) (o : Bool) (x y : Int) (w : World) (HO : Hid (Okb b)) (H : Hid (stX (b 6) (hf (b 6)) o.toNat = x ∧ stY (b 6) (hf (b 6)) o.toNat = y)) :
    Calls Tryd.prog 23 #[.agg #[.int .i64 (b 0), .int .i64 (b 1), .int .i64 (b 2), .int .i64 (b 3), .int .i64 (b 4), .int .i64 (b 5), .int .i64 (b 6), .int .i64 (b 7), .int .i64 (b 8), .int .i64 (b 9), .int .i64 (b 10), .int .i64 (b 11), .int .i64 (b 12), .int .i64 (b 13), .int .i64 (b 14)], .bool o] w fun e w' => e = .returned (.agg #[.int .i64 x, .int .i64 y]) ∧ Own w w' := by
  obtain ⟨W0, hW, hb, hp, g0⟩ := box_pt w b
  have hs := step_bd HO.out
  obtain ⟨-, -, -, -, -, -, k6, -⟩ := hb.cells
  have p0 := hp.cell 0
  have p1 := hp.cell 1
  have f0 := hp.frozen 0
  have f1 := hp.frozen 1
  simp only [List.getElem?_toArray, List.getElem?_cons_zero, List.getElem?_cons_succ] at p0 p1
  have hB : w.heap.size ≤ w.heap.size + 1 := by omega
  obtain ⟨C, hC⟩ : ∃ C, w.heap.size + 1 = C := ⟨_, rfl⟩
  cases o
  · obtain ⟨rfl, hy⟩ : 0 = x ∧ b 6 = y := H.out
    clear hb H HO
    generalize b 6 = s at *
    subst hy
    go_enter Tryd.func23, Tryd.ntmps23
    go_upto_region 1 with (fail)
    rw [hC] at hp p0 p1 f0 f1 hB
    have HP := Lib.hid hp
    clear hp hW hC
    go_wp2
    have hp := HP.out.pt (.int .i64 0) (.int .i64 s)
    have q := own_pt g0 hB (.int .i64 0) (.int .i64 s)
    refine bodyPost_ret (pt_result rfl rfl hp) rfl ⟨rfl, q⟩
  · obtain ⟨hx, hy⟩ : hf (b 6) = x ∧ hf (b 6) = y := H.out
    obtain rfl := hx.symm.trans hy
    have HR := Lib.hid (round_hf hs)
    rw [hx] at HR
    have i1 : IntKind.i64.wrap (b 6 * 11585) = b 6 * 11585 := IntWalk.i64_in _ (by omega)
    clear hb H HO hx hy
    generalize b 6 = s at *
    go_enter Tryd.func23, Tryd.ntmps23
    go_upto_region 1 with (fail)
    rw [hC] at hp p0 p1 f0 f1 hB
    have HP := Lib.hid hp
    clear hp hW hC
    go_wp2_with (go_at_call 24; refine (NumW.round_at _ _ x 0 _ HR (by omega) (by omega) (by omega) (by omega)).mono ?_; rintro e w1 ⟨rfl, hd⟩; have hg := own_num hd; replace g0 : Own w w1 := g0.trans hg; replace HP := Lib.hid (HP.out.own hg); replace p0 := HP.out.cell 0; replace p1 := HP.out.cell 1; replace f0 := HP.out.frozen 0; replace f1 := HP.out.frozen 1; simp only [List.getElem?_toArray, List.getElem?_cons_zero, List.getElem?_cons_succ] at p0 p1; clear hd hg)
    have hp := HP.out.pt (.int .i64 x) (.int .i64 x)
    have q := own_pt g0 hB (.int .i64 x) (.int .i64 x)
    refine bodyPost_ret (pt_result rfl rfl hp) rfl ⟨rfl, q⟩
/-- A point made and written. -/
theorem made_pt (w : World) (x y : Value) (T : TypeId) : ∃ W, ((w.alloc (.cells #[.int .i64 0, .int .i64 0] T)).setCell ⟨w.heap.size, 0, none⟩ x).setCell ⟨w.heap.size, 1, none⟩ y = W ∧ Blk W w.heap.size #[x, y] T ∧ Own w W :=
  ⟨_, rfl, (Blk.new w #[.int .i64 0, .int .i64 0] T).pt x y, own_pt ((Own.refl w).alloc _) (Nat.le_refl _) x y⟩
theorem st_next (s h : Int) : ∀ k, k < 6 → stX s h (k + 2) = stY s h k ∧ stY s h (k + 2) = -stX s h k := by
  intro k hk
  have := st_two s h k (by omega)
  rw [show (k + 2) % 8 = k + 2 by omega] at this
  exact this
theorem st_bd {s h : Int} (hs : 100 ≤ s ∧ s ≤ 1200) (hh : 0 < h ∧ h ≤ 1200) : ∀ k, (-1200 ≤ stX s h k ∧ stX s h k ≤ 1200) ∧ -1200 ≤ stY s h k ∧ stY s h k ≤ 1200 := by
  intro k
  match k with
  | 0 => simp only [stX, stY]; omega
  | 1 => simp only [stX, stY]; omega
  | 2 => simp only [stX, stY]; omega
  | 3 => simp only [stX, stY]; omega
  | 4 => simp only [stX, stY]; omega
  | 5 => simp only [stX, stY]; omega
  | 6 => simp only [stX, stY]; omega
  | n + 7 => simp only [stX, stY]; omega
theorem odd_of (n : Nat) (o : Bool) : (((2 * n + o.toNat : Nat) : Int) % 2 != 0) = o ∧ ((2 * n + o.toNat : Nat) : Int) / 2 = (n : Int) := by
  cases o
  · simp only [Bool.toNat_false, Nat.add_zero] at *
    have : ((2 * n : Nat) : Int) % 2 = 0 := by omega
    exact ⟨by rw [this]; rfl, by omega⟩
  · simp only [Bool.toNat_true] at *
    have : ((2 * n + 1 : Nat) : Int) % 2 = 1 := by omega
    exact ⟨by rw [this]; rfl, by omega⟩
set_option maxRecDepth 100000 in
set_option maxHeartbeats 2000000 in
theorem pstep_at (b : Bl) (k x y c : Int) (w : World) (HT : Hid (Tab w)) (H : Hid (stpX b k = x ∧ stpY b k = y ∧ stpE b k = c)) :
    Calls Tryd.prog 13 #[.agg #[.int .i64 (b 0), .int .i64 (b 1), .int .i64 (b 2), .int .i64 (b 3), .int .i64 (b 4), .int .i64 (b 5), .int .i64 (b 6), .int .i64 (b 7), .int .i64 (b 8), .int .i64 (b 9), .int .i64 (b 10), .int .i64 (b 11), .int .i64 (b 12), .int .i64 (b 13), .int .i64 (b 14)], .int .i64 k] w fun e w' => e = .returned (.tuple #[.agg #[.int .i64 x, .int .i64 y], .int .i64 c]) ∧ Own w w' := by
  obtain ⟨W0, hW, hb, hp, g0⟩ := box_pt w b
  obtain ⟨hx, hy, hc⟩ := H.out
  clear H
  have hB : w.heap.size ≤ w.heap.size + 1 := by omega
  obtain ⟨C, hC⟩ : ∃ C, w.heap.size + 1 = C := ⟨_, rfl⟩
  by_cases ho : Okb b
  · have HO := Lib.hid ho
    have HC := Lib.hid (chk_yes ho)
    by_cases hk : 0 ≤ k ∧ k ≤ 7
    · obtain ⟨n, o, rfl⟩ : ∃ (n : Nat) (o : Bool), k = ((2 * n + o.toNat : Nat) : Int) := ⟨k.toNat / 2, decide (k.toNat % 2 = 1), by
        by_cases h : k.toNat % 2 = 1
        · rw [decide_eq_true h, Bool.toNat_true]; omega
        · rw [decide_eq_false h, Bool.toNat_false]; omega⟩
      have hlt : 2 * n + o.toNat < 8 := by omega
      obtain ⟨e1, e2, e3⟩ := stp_ok ho hlt
      obtain rfl := e1.symm.trans hc
      have hn := hf_nice (step_bd ho)
      have hbd := st_bd (step_bd ho) ⟨hn.2.2.1, hn.2.2.2⟩
      have hnx := st_next (b 6) (hf (b 6))
      obtain ⟨fX, hfX⟩ : ∃ f : Nat → Int, f = fun j => stX (b 6) (hf (b 6)) (2 * j + o.toNat) := ⟨_, rfl⟩
      obtain ⟨fY, hfY⟩ : ∃ f : Nat → Int, f = fun j => stY (b 6) (hf (b 6)) (2 * j + o.toNat) := ⟨_, rfl⟩
      have HN := Lib.hid (show ∀ j, j < n → fX (j + 1) = fY j ∧ fY (j + 1) = -fX j from fun j hj => by
        have := hnx (2 * j + o.toNat) (by omega)
        rw [hfX, hfY]
        rw [show 2 * j + o.toNat + 2 = 2 * (j + 1) + o.toNat by omega] at this
        exact this)
      have HBD := Lib.hid (show ∀ j, (-1200 ≤ fX j ∧ fX j ≤ 1200) ∧ -1200 ≤ fY j ∧ fY j ≤ 1200 from fun j => by rw [hfX, hfY]; exact hbd _)
      have HX := Lib.hid (show fX n = x by rw [hfX, ← hx, e2])
      have HY := Lib.hid (show fY n = y by rw [hfY, ← hy, e3])
      have HF := Lib.hid (show stX (b 6) (hf (b 6)) o.toNat = fX 0 ∧ stY (b 6) (hf (b 6)) o.toNat = fY 0 by rw [hfX, hfY]; simp)
      obtain ⟨r1, r2⟩ := odd_of n o
      clear ho hx hy hc e1 e2 e3 hn hbd hnx hfX hfY
      generalize ((2 * n + o.toNat : Nat) : Int) = kk at *
      obtain ⟨hk0, hk7⟩ := hk
      have x1 : decide (kk < 0) = false := decide_eq_false (by omega)
      have x2 : decide (7 < kk) = false := decide_eq_false (by omega)
      go_enter Tryd.func13, Tryd.ntmps13
      go_upto_region 1 with (fail)
      rw [hC] at hp hB
      have HP := Lib.hid hp
      have HB := Lib.hid hb
      obtain ⟨k0, k1, k2, k3, k4, k5, k6, k7, k8, k9, k10, k11, k12, k13, k14⟩ := HB.out.cells
      clear hp hb hW hC
      go_upto_region 7 with (first | (go_at_call 11; with_reducible refine (pcheck_at b 0 _ (Lib.hid (HT.out.own g0)) HC).mono ?_; rintro e w1 ⟨rfl, hg⟩; replace g0 : Own w w1 := g0.trans hg; replace HB := Lib.hid (HB.out.own hg); replace HP := Lib.hid (HP.out.own hg); clear hg k0 k1 k2 k3 k4 k5 k6 k7 k8 k9 k10 k11 k12 k13 k14; obtain ⟨k0, k1, k2, k3, k4, k5, k6, k7, k8, k9, k10, k11, k12, k13, k14⟩ := HB.out.cells) | (go_at_call 23; with_reducible refine (pfirst_at b o (fX 0) (fY 0) _ HO HF).mono ?_; rintro e w2 ⟨rfl, hg⟩; replace g0 : Own w w2 := g0.trans hg; replace HB := Lib.hid (HB.out.own hg); replace HP := Lib.hid (HP.out.own hg); clear hg k0 k1 k2 k3 k4 k5 k6 k7 k8 k9 k10 k11 k12 k13 k14))
      generalize hW2 : w2.alloc (.cells #[.int .i64 (fX 0), .int .i64 (fY 0)] 29) = W2 at *
      obtain ⟨D, hD⟩ : ∃ D, w2.heap.size = D := ⟨_, rfl⟩
      have hD0 : w.heap.size ≤ D := hD ▸ g0.size
      have HCD := Lib.hid (show C ≠ D from fun e => by have := HP.out.lt; omega)
      have q2 : Own w W2 := hW2 ▸ g0.alloc _
      have HP2 := Lib.hid (show Blk W2 C #[.int .i64 0, .int .i64 0] 29 from hW2 ▸ HP.out.own ((Own.refl _).alloc _))
      have HD := Lib.hid (show Blk W2 D #[.int .i64 (fX 0), .int .i64 (fY 0)] 29 from hD ▸ hW2 ▸ Blk.new w2 _ _)
      rw [hD]
      clear hD hW2 HP HB g0 HT HO HC HF
      go_wp2
      go_loopw [28] (fun vk wr => ∃ j : Nat, vk = .int .i64 (j : Int) ∧ j ≤ n ∧ Own w wr ∧ Blk wr C #[.int .i64 0, .int .i64 0] 29 ∧ Blk wr D #[.int .i64 (fX j), .int .i64 (fY j)] 29) (fun vk _ => n - (intOf vk).toNat)
      case atStart => exact ⟨0, rfl, by omega, q2, HP2.out, HD.out⟩
      case round =>
        obtain ⟨j, rfl, hj, q, hp, hd⟩ := hrel
        clear q2 HP2 HD
        have d0 := hd.cell 0
        have d1 := hd.cell 1
        have c0 := hd.frozen 0
        have c1 := hd.frozen 1
        simp only [List.getElem?_toArray, List.getElem?_cons_zero, List.getElem?_cons_succ] at d0 d1
        have H1 := Lib.hid hp
        have H2 := Lib.hid hd
        clear hp hd
        by_cases hlt : j < n
        · have hjn : (j : Int) < n := by omega
          have hb1 := HBD.out j
          have h3 := HN.out j hlt
          have H3 := Lib.hid h3
          have h4 := HBD.out (j + 1)
          have i1 : wrap64 (-fX j) = -fX j := by unfold wrap64; omega
          clear h3 h4 hk0 hk7
          generalize fX j = u at *
          generalize fY j = v at *
          go_wp2
          have hp := (H1.out.far (p := ⟨D, 0, none⟩) HCD.out (.int .i64 v)).far (p := ⟨D, 1, none⟩) HCD.out (.int .i64 (-u))
          have hd := H2.out.pt (.int .i64 v) (.int .i64 (-u))
          have q3 := own_pt q hD0 (.int .i64 v) (.int .i64 (-u))
          go_roundw
          case rel => exact ⟨j + 1, by go_num, hlt, q3, hp, by rw [H3.out.1, H3.out.2]; exact hd⟩
          case measure => simp [intOf]; omega
        · obtain rfl : j = n := by omega
          have hx := HX.out
          have hy := HY.out
          rw [hx] at d0
          rw [hy] at d1
          have e0 := H1.out.cell 0
          have e1 := H1.out.cell 1
          have e2 := H1.out.frozen 0
          have e3 := H1.out.frozen 1
          simp only [List.getElem?_toArray, List.getElem?_cons_zero, List.getElem?_cons_succ] at e0 e1
          clear hx hy hlt hj hk0 hk7
          go_wp2
          have hp := H1.out.pt (.int .i64 x) (.int .i64 y)
          have q3 := own_pt q hB (.int .i64 x) (.int .i64 y)
          exact bodyPost_ret (pt_results rfl rfl rfl hp) rfl ⟨rfl, q3⟩
    · obtain ⟨e1, e2, e3⟩ := stp_range ho hk
      obtain rfl := e1.symm.trans hc
      obtain rfl := e2.symm.trans hx
      obtain rfl := e3.symm.trans hy
      clear hx hy hc e1 e2 e3
      by_cases c1 : k < 0
      · clear hk
        go_enter Tryd.func13, Tryd.ntmps13
        go_upto_region 1 with (fail)
        rw [hC] at hp hB
        have HP := Lib.hid hp
        have HB := Lib.hid hb
        obtain ⟨k0, k1, k2, k3, k4, k5, k6, k7, k8, k9, k10, k11, k12, k13, k14⟩ := HB.out.cells
        clear hp hb hW hC
        go_wp2_with (go_at_call 11; with_reducible refine (pcheck_at b 0 _ (Lib.hid (HT.out.own g0)) HC).mono ?_; rintro e w1 ⟨rfl, hg⟩; replace g0 : Own w w1 := g0.trans hg; replace HP := Lib.hid (HP.out.own hg); clear hg k0 k1 k2 k3 k4 k5 k6 k7 k8 k9 k10 k11 k12 k13 k14; have p0 := HP.out.cell 0; have p1 := HP.out.cell 1; have f0 := HP.out.frozen 0; have f1 := HP.out.frozen 1; simp only [List.getElem?_toArray, List.getElem?_cons_zero, List.getElem?_cons_succ] at p0 p1)
        have hp := HP.out.pt (.int .i64 0) (.int .i64 0)
        have q := own_pt g0 hB (.int .i64 0) (.int .i64 0)
        exact bodyPost_ret (pt_results rfl rfl rfl hp) rfl ⟨rfl, q⟩
      · have c2 : 7 < k := by omega
        have d1 : decide (k < 0) = false := decide_eq_false c1
        clear hk
        go_enter Tryd.func13, Tryd.ntmps13
        go_upto_region 1 with (fail)
        rw [hC] at hp hB
        have HP := Lib.hid hp
        have HB := Lib.hid hb
        obtain ⟨k0, k1, k2, k3, k4, k5, k6, k7, k8, k9, k10, k11, k12, k13, k14⟩ := HB.out.cells
        clear hp hb hW hC
        go_wp2_with (go_at_call 11; with_reducible refine (pcheck_at b 0 _ (Lib.hid (HT.out.own g0)) HC).mono ?_; rintro e w1 ⟨rfl, hg⟩; replace g0 : Own w w1 := g0.trans hg; replace HP := Lib.hid (HP.out.own hg); clear hg k0 k1 k2 k3 k4 k5 k6 k7 k8 k9 k10 k11 k12 k13 k14; have p0 := HP.out.cell 0; have p1 := HP.out.cell 1; have f0 := HP.out.frozen 0; have f1 := HP.out.frozen 1; simp only [List.getElem?_toArray, List.getElem?_cons_zero, List.getElem?_cons_succ] at p0 p1)
        have hp := HP.out.pt (.int .i64 0) (.int .i64 0)
        have q := own_pt g0 hB (.int .i64 0) (.int .i64 0)
        exact bodyPost_ret (pt_results rfl rfl rfl hp) rfl ⟨rfl, q⟩
  · have HC := Lib.hid (chk_no ho)
    obtain ⟨e1, e2, e3⟩ := stp_bad (k := k) ho
    rw [chk_no ho] at e1
    obtain rfl := e1.symm.trans hc
    obtain rfl := e2.symm.trans hx
    obtain rfl := e3.symm.trans hy
    clear hx hy hc e1 e2 e3
    go_enter Tryd.func13, Tryd.ntmps13
    go_upto_region 1 with (fail)
    rw [hC] at hp hB
    have HP := Lib.hid hp
    have HB := Lib.hid hb
    obtain ⟨k0, k1, k2, k3, k4, k5, k6, k7, k8, k9, k10, k11, k12, k13, k14⟩ := HB.out.cells
    clear hp hb hW hC
    go_wp2_with (go_at_call 11; with_reducible refine (pcheck_at b 23 _ (Lib.hid (HT.out.own g0)) HC).mono ?_; rintro e w1 ⟨rfl, hg⟩; replace g0 : Own w w1 := g0.trans hg; replace HP := Lib.hid (HP.out.own hg); clear hg k0 k1 k2 k3 k4 k5 k6 k7 k8 k9 k10 k11 k12 k13 k14; have p0 := HP.out.cell 0; have p1 := HP.out.cell 1; have f0 := HP.out.frozen 0; have f1 := HP.out.frozen 1; simp only [List.getElem?_toArray, List.getElem?_cons_zero, List.getElem?_cons_succ] at p0 p1)
    have hp := HP.out.pt (.int .i64 0) (.int .i64 0)
    have q := own_pt g0 hB (.int .i64 0) (.int .i64 0)
    exact bodyPost_ret (pt_results rfl rfl rfl hp) rfl ⟨rfl, q⟩
end Go.Proofs.YtbmcompnhjbdkaaDoor.BuiW
