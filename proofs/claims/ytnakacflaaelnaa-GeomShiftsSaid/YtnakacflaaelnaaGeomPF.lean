/-
  Walks of slices.Grow, Concat and Equal at points, and of the program's Hull and Inside: what a call returns for every input. Condition: none.
-/
import Derived.Test.YtnakacflaaelnaaGeomPE
import Derived.OwnWalk
namespace Go.Proofs.Ytnakacflaaelnaa.GeoW
open Go.ChangeShapes Go.WideShapes Go.ChangeAt Go.RowKit
open NumP NumW GeoP
section
variable {P : Program}
theorem run_append_zeros_geo (w : World) (t ti ty e : TypeId) (k : IntKind) (i : TypeInfo) (z : Value) (ht : P.underlying t = some (.slice e)) (hti : P.underlying ti = some (.int k)) (hi : P.info? e = some i) (hz : i.zero = some z) (hs : 0 < i.size)
    (n : Nat) (h0 : 0 < n) (h63 : (n : Int) ≤ 9223372036854775807) (h48 : n * i.bytes ≤ 281474976710656) :
    (Builtin.append_ #[t, ti] ty #[.slice none 0 0, .int .i64 n]).run P w =
      .ok (.slice (some ⟨w.heap.size, 0, none⟩) n (grownCap w n 0 e)) (w.drew.alloc (.cells (Builtin.zeroCells z.cells n ++ Builtin.zeroCells z.cells (grownCap w n 0 e - n)) e)) := by
  have hn : n ≠ 0 := by omega
  have h63' : ¬ (9223372036854775807 < (n : Int)) := by omega
  have h48' : ¬ (281474976710656 < Builtin.nextslicecap n 0 * i.bytes) := by rw [nextslicecap_zero h0]; omega
  have h48i : ¬ ((281474976710656 : Int) < (n : Int) * (i.bytes : Int)) := by
    have : ((n * i.bytes : Nat) : Int) ≤ 281474976710656 := Int.ofNat_le.2 h48
    rw [Int.natCast_mul] at this
    omega
  have hw : IntKind.i64.wrap (n : Int) = n := IntWalk.i64_in _ (by omega)
  have hnn : ¬ ((n : Int) < 0) := by omega
  have hsz : ¬ (n * i.size = 0) := by intro x; rcases Nat.mul_eq_zero.1 x with x | x <;> omega
  have has : ∀ w, (asIntOf (.int .i64 (n : Int))).run P w = .ok (.i64, (n : Int)) w := fun _ => rfl
  simp [Builtin.append_, run_underlying ht, run_underlying hti, sizeOf, typeInfo, zeroValue, hi, hz, asInt, has, hw, hnn, h48i, hsz, hn, h63', h48', Question.forced, run_firstCells_none, newRow, grownCap]
/-- 'append(nil, make([]T, n)...)': a new row of n zero elements, and some more. -/
theorem wpList_append_made {ops : Array Oper} {rest : List Oper} {o : Oper} {a : Act} {Q : Exit → Act → World → Prop} (w : World) (hgd : o.guard = none) (s x : Operand) (t ti : TypeId)
    (ho : o.op = .call { callee := .builtin .append, args := #[s, x], argTypes := #[t, ti] })
    (e : TypeId) (k : IntKind) (i : TypeInfo) (z : Value) (size bytes : Nat) (ht : P.underlying t = some (.slice e)) (hti : P.underlying ti = some (.int k)) (hi : P.info? e = some i) (hz : i.zero = some z)
    (hsize : i.size = size) (hby : i.bytes = bytes) (hzs : z.cells.size = size) (hsz : 0 < size)
    (n : Nat) (hs : a.eval s = .slice none 0 0) (hx : a.eval x = .int .i64 n) (h0 : 0 < n) (h63 : n ≤ maxLen) (hbytes : n * bytes ≤ 281474976710656)
    (h : ∀ cap w', n ≤ cap → cap ≤ maxLen → w'.ownsRow w.heap.size e size (.slice (some ⟨w.heap.size, 0, none⟩) 0 cap) 0 [] → w.grownBy w' none → wpList P ops Q rest (a.put o.dst (.slice (some ⟨w.heap.size, 0, none⟩) n cap)) w') :
    wpList P ops Q (o :: rest) a w := by
  refine wpList_plain hgd fun K hK => ?_
  subst hsize
  subst hby
  have hr := run_append_zeros_geo (P := P) w t ti o.type e k i z ht hti hi hz hsz n h0 (by simp only [maxLen] at h63; omega) hbytes
  have hge := grownCap_ge w n 0 e
  have hcm : grownCap w n 0 e ≤ maxLen := grownCap_le_maxLen w n 0 e h63
  unfold Oper.wp execOp
  simp only [ho, resolve, invoke, builtin, Sem.run_bind, Sem.run_pure, Result.andThen_ok, List.map_toArray, List.map_cons, List.map_nil, hs, hx, hr]
  refine hK _ _ (h _ _ hge hcm (World.ownsRow_made w.drew _ _ (Nat.le_refl _) hcm ?_) ⟨rfl, rfl, rfl, by simp, fun j hj _ => heap_alloc_old w.drew _ hj⟩)
  simp only [Array.size_append, size_zeroCells, hzs, ← Nat.add_mul]
  congr 1
  omega
/-- An empty slice appended to a row: nothing turns. -/
theorem run_append_empty_geo (w : World) (t ty e : TypeId) (i : TypeInfo) (ht : P.underlying t = some (.slice e)) (hi : P.info? e = some i) (g k cap : Nat) (A : Option Addr) (c : Nat) (hk : k ≤ cap) :
    (Builtin.append_ #[t, t] ty #[.slice (some ⟨g, 0, none⟩) k cap, .slice A 0 c]).run P w = .ok (.slice (some ⟨g, 0, none⟩) k cap) w := by
  cases A <;> simp [Builtin.append_, run_underlying ht, sizeOf, typeInfo, hi, Builtin.lenOf, Builtin.firstCells, loadCells, loadCellsFrom, storeCells, hk]
theorem wpList_append_empty {ops : Array Oper} {rest : List Oper} {o : Oper} {a : Act} {Q : Exit → Act → World → Prop} (w : World) (hgd : o.guard = none) (s x : Operand) (t : TypeId)
    (ho : o.op = .call { callee := .builtin .append, args := #[s, x], argTypes := #[t, t] }) (e : TypeId) (i : TypeInfo) (ht : P.underlying t = some (.slice e)) (hi : P.info? e = some i) (g k cap : Nat) (A : Option Addr) (c : Nat) (hk : k ≤ cap)
    (hs : a.eval s = .slice (some ⟨g, 0, none⟩) k cap) (hx : a.eval x = .slice A 0 c) (h : wpList P ops Q rest (a.put o.dst (.slice (some ⟨g, 0, none⟩) k cap)) w) : wpList P ops Q (o :: rest) a w := by
  refine wpList_plain hgd fun K hK => ?_
  have hr := run_append_empty_geo (P := P) w t o.type e i ht hi g k cap A c hk
  unfold Oper.wp execOp
  simp only [ho, resolve, invoke, builtin, Sem.run_bind, Sem.run_pure, Result.andThen_ok, List.map_toArray, List.map_cons, List.map_nil, hs, hx, hr]
  exact hK _ _ h
end
set_option maxRecDepth 100000 in
set_option maxHeartbeats 2000000 in
theorem pequal_at (la lb : List Pt) (sa sb : Value) (t : Bool) (w : World) (HA : Hid (Pts w sa la)) (HB : Hid (Pts w sb lb)) (H : Hid (decide (la = lb) = t)) :
    Calls Try.prog 47 #[sa, sb] w fun e w' => e = .returned (.bool t) ∧ Own w w' := by
  obtain ⟨A, ca, rfl, ha1, ha2, ha⟩ := HA.out.open
  obtain ⟨B, cb, rfl, hb1, hb2, hb⟩ := HB.out.open
  clear HA HB
  unfold maxLen at ha2 hb2
  have HA := Lib.hid ha
  have HB := Lib.hid hb
  clear ha hb
  obtain ⟨n, hn⟩ : ∃ n, la.length = n := ⟨_, rfl⟩
  obtain ⟨m, hm⟩ : ∃ m, lb.length = m := ⟨_, rfl⟩
  rw [hn] at HA ha1 ⊢
  rw [hm] at HB hb1 ⊢
  by_cases hl : n = m
  · subst hl
    have HN := Lib.hid hn
    have HM := Lib.hid hm
    clear hn hm
    go_enter Try.func47, Try.ntmps47
    go_wp2
    go_loopw [13] (fun i wr => ∃ k : Nat, i = .int .i64 k ∧ k ≤ n ∧ Own w wr ∧ ∀ j, j < k → at' la j = at' lb j) (fun i _ => n - (intOf i).toNat)
    case atStart => exact ⟨0, rfl, Nat.zero_le _, Own.refl w, fun j hj => absurd hj (Nat.not_lt_zero _)⟩
    case round =>
      obtain ⟨k, rfl, hk, g0, heq⟩ := hrel
      have HE := Lib.hid heq
      clear heq
      by_cases hlt : k < n
      · obtain ⟨b, off, rfl, hc⟩ := HA.out (by omega)
        obtain ⟨b', off', rfl, hc'⟩ := HB.out (by omega)
        have e0 := g0.cell (hc k hlt).1
        have e1 := g0.cell (hc k hlt).2
        have e2 := g0.cell (hc' k hlt).1
        have e3 := g0.cell (hc' k hlt).2
        clear hc hc'
        by_cases hs : at' la k = at' lb k
        · have HS := Lib.hid hs
          rw [hs] at e0 e1
          obtain ⟨⟨x, y⟩, hp⟩ : ∃ p, at' lb k = p := ⟨_, rfl⟩
          rw [hp] at e0 e1 e2 e3
          simp only at e0 e1 e2 e3
          clear hs hp
          have hb1 : ptB x y x y = true := ptB_yes rfl
          go_upto_region 6 with (fail)
          go_quiet (fail)
          go_wp2
          go_roundw
          case rel => exact ⟨k + 1, by go_num, hlt, g0.drewN _, fun j hj => by
              by_cases e : j = k
              · rw [e]; exact HS.out
              · exact HE.out j (by omega)⟩
          case measure => simp [intOf]; omega
        · have ht := not_same hs H.out
          subst ht
          obtain ⟨⟨x, y⟩, hp⟩ : ∃ p, at' la k = p := ⟨_, rfl⟩
          obtain ⟨⟨x2, y2⟩, hp2⟩ : ∃ p, at' lb k = p := ⟨_, rfl⟩
          rw [hp] at e0 e1 hs
          rw [hp2] at e2 e3 hs
          simp only at e0 e1 e2 e3
          have hb1 := ptB_no hs
          clear hs hp hp2
          go_upto_region 6 with (fail)
          go_quiet (fail)
          go_wp2
          go_ret
          exact ⟨rfl, g0.drewN _⟩
      · obtain rfl : k = n := by omega
        have ht : t = true := by rw [← H.out]; exact decide_eq_true (lists_eq (HN.out.trans HM.out.symm) (by rw [HN.out]; exact HE.out))
        subst ht
        go_wp2
        go_ret
        exact ⟨rfl, g0⟩
  · have ht : t = false := by rw [← H.out]; exact decide_eq_false (fun e => hl (by rw [← hn, ← hm, e]))
    subst ht
    have hne : ((n : Int) != (m : Int)) = true := bne_iff_ne.2 (by omega)
    clear hn hm hl
    go_enter Try.func47, Try.ntmps47
    go_wp2
    go_ret
    exact ⟨rfl, Own.refl w⟩
set_option maxRecDepth 100000 in
theorem grow_at (n : Nat) (N : Int) (w : World) (hN : N = n) (h0 : 0 < n) (hn : n ≤ 1000) :
    Calls Try.prog 58 #[.slice none 0 0, .int .i64 N] w fun e w' => ∃ g cap : Nat, e = .returned (.slice (some ⟨g, 0, none⟩) 0 cap) ∧ n ≤ cap ∧ w.heap.size ≤ g ∧ w'.ownsRow w.heap.size 23 2 (.slice (some ⟨g, 0, none⟩) 0 cap) 0 [] ∧ Own w w' := by
  obtain ⟨i0, hi, hz0, hz1, hz2⟩ := info_parts (show (Try.prog.info? 23).map (fun i => (i.zero, i.size, i.bytes)) = some (some (.agg #[.int .i64 0, .int .i64 0]), 2, 16) by kernel_rfl)
  have HI := Lib.hid hi
  have HZ0 := Lib.hid hz0
  have HZ1 := Lib.hid hz1
  have HZ2 := Lib.hid hz2
  clear hi hz0 hz1 hz2
  subst hN
  have hnp : (0 : Int) < n := by omega
  go_enter Try.func58, Try.ntmps58
  go_upto_region 5 with (fail)
  go_wp2_with (at_builtin; refine wpList_append_made _ rfl _ _ 41 3 rfl 23 _ i0 (.agg #[.int .i64 0, .int .i64 0]) 2 16 Try.underlying41 Try.underlying3 HI.out HZ0.out HZ1.out HZ2.out rfl (by decide) n rfl rfl h0 (by unfold maxLen; omega) (by omega) ?_)
  intro cap w1 hge hcm hown hgr
  have g0 : Own w w1 := (Own.refl w).grown hgr (by simp)
  unfold maxLen at hcm
  have hc0 : ¬ (cap = 0) := by omega
  go_wp2
  go_ret
  exact ⟨w.heap.size, cap, rfl, hge, Nat.le_refl _, hown, g0⟩
theorem pts_row_cells {w : World} {A : Option Addr} {cap : Nat} {l : List Pt} (h : 0 < l.length → ∃ b off : Nat, A = some ⟨b, off, none⟩ ∧ ∀ i, i < l.length → w.cell? ⟨b, off + i * 2, none⟩ = some (.int .i64 (at' l i).1) ∧ w.cell? ⟨b, off + i * 2 + 1, none⟩ = some (.int .i64 (at' l i).2)) (_ : l.length ≤ cap) :
    ∀ ad, A = some ad → ∀ j u, (cellsP l)[j]? = some u → w.cell? (ad.add j) = some u := by
  intro ad hA j u hu
  have hj : j < l.length * 2 := by
    have := (List.getElem?_eq_some_iff.1 hu).1
    rw [cellsP_len] at this
    exact this
  obtain ⟨b, off, rfl, hc⟩ := h (by omega)
  injection hA with hA
  subst hA
  have hi : j / 2 < l.length := by omega
  obtain ⟨c1, c2⟩ := hc (j / 2) hi
  obtain ⟨d1, d2⟩ := cellsP_at l (j / 2) hi
  rcases Nat.mod_two_eq_zero_or_one j with h2 | h2
  · have e : j = j / 2 * 2 := by omega
    rw [e] at hu
    rw [d1] at hu
    injection hu with hu
    rw [← hu, ← c1]
    have ea : (⟨b, off, none⟩ : Addr).add j = ⟨b, off + j, none⟩ := by by_cases h0 : j = 0 <;> simp [Addr.add, h0]
    rw [ea, show off + j = off + j / 2 * 2 by omega]
  · have e : j = j / 2 * 2 + 1 := by omega
    rw [e] at hu
    rw [d2] at hu
    injection hu with hu
    rw [← hu, ← c2]
    have ea : (⟨b, off, none⟩ : Addr).add j = ⟨b, off + j, none⟩ := by by_cases h0 : j = 0 <;> simp [Addr.add, h0]
    rw [ea, show off + j = off + j / 2 * 2 + 1 by omega]
theorem cellsP_one (l : List Pt) : ∀ u ∈ cellsP l, u.oneCell' = true := by
  intro u hu
  unfold cellsP at hu
  rw [List.mem_flatMap] at hu
  obtain ⟨p, _, hp⟩ := hu
  simp at hp
  rcases hp with rfl | rfl <;> rfl
set_option maxRecDepth 100000 in
set_option maxHeartbeats 4000000 in
theorem concat_at (l : List Pt) (px py : Int) (sv : Value) (Q Pb : Nat) (w : World) (HP : Hid (Pts w sv l)) (hp0 : w.cell? ⟨Pb, 0, none⟩ = some (.int .i64 px)) (hp1 : w.cell? ⟨Pb, 1, none⟩ = some (.int .i64 py))
    (q0 : w.cell? ⟨Q, 0, none⟩ = some sv) (q1 : w.cell? ⟨Q, 1, none⟩ = some (.slice (some ⟨Pb, 0, none⟩) 1 1)) (hn : l.length ≤ 16) :
    Calls Try.prog 46 #[.slice (some ⟨Q, 0, none⟩) 2 2] w fun e w' => ∃ s', e = .returned s' ∧ Pts w' s' (l ++ [(px, py)]) ∧ Own w w' := by
  obtain ⟨i0, hi, hz0, hz1, hz2⟩ := info_parts (show (Try.prog.info? 23).map (fun i => (i.zero, i.size, i.bytes)) = some (some (.agg #[.int .i64 0, .int .i64 0]), 2, 16) by kernel_rfl)
  have HI := Lib.hid hi
  have HZ1 := Lib.hid hz1
  clear hi hz0 hz1 hz2
  obtain ⟨A, cap, rfl, h1, h2, h3⟩ := HP.out
  have HA := Lib.hid h3
  have HL := Lib.hid (cellsP_len l)
  have HO := Lib.hid (cellsP_one l)
  have HX := Lib.hid (cellsP_snoc l (px, py))
  clear h3 HP
  unfold maxLen at h2
  obtain ⟨n, hln⟩ : ∃ n, l.length = n := ⟨_, rfl⟩
  rw [hln] at HL h1 hn q0
  have HLN := Lib.hid hln
  clear hln
  have i1 : IntKind.i64.wrap ((n : Int) + 1) = (n : Int) + 1 := IntWalk.i64_in _ (by omega)
  have hQs : Q < w.heap.size := block_lt_of_cell q0
  have hPs : Pb < w.heap.size := block_lt_of_cell hp0
  go_enter Try.func46, Try.ntmps46
  go_wp2
  refine wp_loop_rounds 4 ?_
  rw [rounds_succ]
  go_wp2
  rw [rounds_succ]
  go_wp2
  rw [rounds_succ]
  go_wp2_with (go_at_call 58; refine (grow_at (n + 1) _ _ (by simp) (by omega) (by omega)).mono ?_; rintro e w1 ⟨g, gc, rfl, hgc, hgw, hown, g0⟩)
  refine wp_loop_rounds 4 ?_
  rw [rounds_succ]
  replace q0 := g0.cell q0
  replace q1 := g0.cell q1
  replace hp0 := g0.cell hp0
  replace hp1 := g0.cell hp1
  have R0 := Lib.hid hown
  clear hown
  go_upto_region 13 with (fail)
  by_cases hz : n = 0
  · subst hz
    have R1 : Hid (w1.ownsRow w.heap.size 23 2 (.slice (some ⟨g, 0, none⟩) 0 gc) 0 (cellsP l)) := by
      rw [List.eq_nil_of_length_eq_zero HLN.out]
      exact R0
    have g1 := g0
    go_wp2_with (at_builtin; refine wpList_append_empty _ rfl _ _ 41 rfl 23 i0 Try.underlying41 HI.out g 0 gc A cap (Nat.zero_le _) rfl rfl ?_)
    rw [rounds_succ]
    go_upto_region 13 with (fail)
    go_wp2_with (at_builtin; refine wpList_append_fits_any _ rfl _ _ 41 rfl w.heap.size 23 i0 2 Try.underlying41 HI.out HZ1.out g 0 gc (cellsP l) rfl R1.out (some ⟨Pb, 0, none⟩) 1 1 (cellsP [(px, py)]) rfl rfl (fun e => by cases e) (fun ad e => by injection e with e; subst e; intro j u hu; match j, hu with | 0, hu => (injection hu with hu; subst hu; exact hp0) | 1, hu => (injection hu with hu; subst hu; exact hp1)) (cellsP_one _) (by omega) ?_)
    intro w3 hown hgr
    have g2 : Own w w3 := g1.grown hgr (by intro i hi; injection hi with hi; omega)
    have R2 := Lib.hid hown
    clear hown hgr
    go_wp2
    rw [rounds_succ]
    go_wp2
    go_ret
    refine ⟨_, rfl, pts_of_row (base := w.heap.size) (e := 23) ?_, g2⟩
    rw [HX.out, List.length_append, HLN.out]
    exact R2.out
  · have HA1 : 0 < l.length → ∃ b off : Nat, A = some ⟨b, off, none⟩ ∧ ∀ i, i < l.length → w1.cell? ⟨b, off + i * 2, none⟩ = some (.int .i64 (at' l i).1) ∧ w1.cell? ⟨b, off + i * 2 + 1, none⟩ = some (.int .i64 (at' l i).2) := fun h => by
      obtain ⟨b, off, e, hc⟩ := HA.out h
      exact ⟨b, off, e, fun i hi => ⟨g0.cell (hc i hi).1, g0.cell (hc i hi).2⟩⟩
    have HAN : A ≠ none := fun e => by
      obtain ⟨b, off, e2, _⟩ := HA.out (by rw [HLN.out]; omega)
      rw [e] at e2
      cases e2
    have HCL := Lib.hid (pts_row_cells HA1 (by rw [HLN.out]; exact h1))
    clear HA1
    go_wp2_with (at_builtin; refine wpList_append_fits_any _ rfl _ _ 41 rfl w.heap.size 23 i0 2 Try.underlying41 HI.out HZ1.out g 0 gc [] rfl R0.out A n cap (cellsP l) rfl HL.out (fun e => absurd e HAN) HCL.out HO.out (by omega) ?_)
    intro w2 hown hgr
    have R1 := Lib.hid hown
    have hgr2 := hgr
    have g1 : Own w w2 := g0.grown hgr (by intro i hi; injection hi with hi; omega)
    replace q1 := hgr.cell q1 (by simp; omega)
    replace hp0 := hgr.cell hp0 (by simp; omega)
    replace hp1 := hgr.cell hp1 (by simp; omega)
    clear hown hgr hgr2 R0 HCL
    go_wp2
    rw [rounds_succ]
    go_upto_region 13 with (fail)
    go_wp2_with (at_builtin; refine wpList_append_fits_any _ rfl _ _ 41 rfl w.heap.size 23 i0 2 Try.underlying41 HI.out HZ1.out g n gc (cellsP l) rfl R1.out (some ⟨Pb, 0, none⟩) 1 1 (cellsP [(px, py)]) rfl rfl (fun e => by cases e) (fun ad e => by injection e with e; subst e; intro j u hu; match j, hu with | 0, hu => (injection hu with hu; subst hu; exact hp0) | 1, hu => (injection hu with hu; subst hu; exact hp1)) (cellsP_one _) (by omega) ?_)
    intro w3 hown hgr
    have g2 : Own w w3 := g1.grown hgr (by intro i hi; injection hi with hi; omega)
    have R2 := Lib.hid hown
    clear hown hgr
    go_wp2
    rw [rounds_succ]
    go_wp2
    go_ret
    refine ⟨_, rfl, pts_of_row (base := w.heap.size) (e := 23) ?_, g2⟩
    rw [HX.out, List.length_append, HLN.out]
    exact R2.out
end Go.Proofs.Ytnakacflaaelnaa.GeoW
