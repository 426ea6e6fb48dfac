/-
  Walks of the program of package field: the closure that adds a field, cut, Split. Condition: none.
-/
import Derived.Test.YtedkpkdfopffiaaDoorFieldPB
import Derived.Test.YtedkpkdfopffiaaDoorFieldE
import Derived.Deep.DeepCutAuto
import Derived.Deep.RegionLaw
namespace Go.Proofs.YtedkpkdfopffiaaDoor.NamW
open Go.ChangeShapes Go.WideShapes Go.ChangeAt Go.RowKit
open PairW NamP StrW FldP CelW
theorem cells_app (L : Ss) (x : ByteArray) : cellsS (L ++ [x]) = cellsS L ++ [.string x] := by unfold cellsS; rw [List.map_append]; rfl
/-- The variable at block B holds a slice of the call's own with the texts of L. -/
def Acc (w0 : World) (B : Nat) (L : Ss) (w : World) : Prop :=
  ∃ v, w0.heap.size ≤ B ∧ B < w.heap.size ∧ w.cell? ⟨B, 0, none⟩ = some v ∧ w.frozen? ⟨B, 0, none⟩ = false ∧ w.ownsRow w0.heap.size 9 1 v L.length (cellsS L) ∧ v.ownBlock ≠ some B ∧ Own w0 w
theorem acc_add {w0 w4 : World} {B g gcap : Nat} {L : Ss} {x : ByteArray} {v : Value} (h0 : w0.heap.size ≤ B) (h1 : B < w4.heap.size) (hg : g ≠ B) (k4 : w4.cell? ⟨B, 0, none⟩ = some v) (f4 : w4.frozen? ⟨B, 0, none⟩ = false)
    (hown : w4.ownsRow w0.heap.size 9 1 (.slice (some ⟨g, 0, none⟩) (L.length + 1) gcap) (L.length + 1) (cellsS L ++ [.string x])) (q : Own w0 w4) : Acc w0 B (L ++ [x]) (w4.setCell ⟨B, 0, none⟩ (.slice (some ⟨g, 0, none⟩) (L.length + 1) gcap)) := by
  have hl : (L ++ [x]).length = L.length + 1 := by rw [List.length_append]; rfl
  refine ⟨_, h0, by rw [World.size_setCell]; exact h1, World.cell?_setCell_same' w4 ⟨B, 0, none⟩ _ (by rw [k4]; rfl), by rw [World.frozen?_setCell]; exact f4, ?_, fun e => ?_, q.setCell h0 _⟩
  · rw [hl, cells_app]
    exact row_set hown (p := ⟨B, 0, none⟩) (fun e => hg e.symm) _
  · exact hg (by injection e)
set_option maxRecDepth 100000 in
set_option maxHeartbeats 2000000 in
theorem padd_at (s : ByteArray) (B : Nat) (L : Ss) (w0 w : World) (HA : Hid (Acc w0 B L w)) (M : Hid (Mx w0)) (hs : s.size ≤ 2000) (hL : L.length ≤ 5000) :
    Calls Tryd.prog 39 #[.string s, .pointer (some ⟨B, 0, none⟩)] w fun e w' => e = .returned (.tuple #[]) ∧ ∃ x, bs x = readB (bs s) ∧ Acc w0 B (L ++ [x]) w' := by
  obtain ⟨i0, hi, hz0, hz1, hz2⟩ := info_parts (show (Tryd.prog.info? 9).map (fun i => (i.zero, i.size, i.bytes)) = some (some (.string ⟨#[]⟩), 1, 16) by kernel_rfl)
  have HI := Lib.hid hi
  have HZ0 := Lib.hid hz0
  have HZ1 := Lib.hid hz1
  have HZ2 := Lib.hid hz2
  clear hi hz0 hz1 hz2
  obtain ⟨v, hB0, hB, hc, hf, hrow, hne, q⟩ := HA.out
  have HS := Lib.hid (show s.size ≤ 100000 by omega)
  have HROW := Lib.hid hrow
  have HM := mxo M q
  have HNE := Lib.hid (fun e : some B = v.ownBlock => hne e.symm)
  clear hrow HA hs hne
  have q' := (Own.refl w).drew
  have HMD := mxo HM q'
  go_enter Tryd.func39, Tryd.ntmps39
  go_region_law (first
    | (go_simp; go_at_call 40; with_reducible refine (pread_at s _ HMD HS.out).mono ?_; rintro e w1 ⟨x, rfl, hx, hg⟩; have hq := q'.trans hg; have k1 := hq.cell hc; have f1 := (hq.frozen hB).trans hf; have hB1 := Nat.lt_of_lt_of_le hB hq.size; have HROW1 := Lib.hid ((row_own HROW.out hq).alloc (.cells #[.string x] 9)); have hqa := hq.alloc (.cells #[.string x] 9); have k2 := hqa.cell hc; have f2 := (hqa.frozen hB).trans hf; have HB2 := Lib.hid (Nat.lt_of_lt_of_le hB hqa.size); have HQ2 := Lib.hid (q.trans hqa); have HBS := Lib.hid (q.trans hqa).size; have HX := Lib.hid hx; clear hx hg hq hqa)
    | (refine step_append_lies _ (by rfl) _ _ _ (by rfl) w0.heap.size 9 i0 (.string ⟨#[]⟩) 1 16 Tryd.underlying22 HI.out HZ0.out HZ1.out HZ2.out rfl (by omega) _ _ _ (by rfl) HROW1.out ⟨w1.heap.size, 0, none⟩ 1 1 [.string x] (by rfl) (by rfl) (World.news_of_block (cs := #[.string x]) (t := 9) (fr := (0, 0)) (heap_alloc_new w1 _)) (by simp [Value.oneCell']) (by omega) (by unfold maxLen; omega) (by omega) HBS.out _ rfl ?_; intro g gcap w4 hown hgr hat hlt4; have k4 := (hgr.cell_far ⟨B, 0, none⟩ HB2.out HNE.out).trans k2; have f4 := (hgr.frozen_far ⟨B, 0, none⟩ HB2.out HNE.out).trans f2; have q4 := HQ2.out.grown hgr (fun j hj => (HROW1.out.lt j hj).1); have HOWN := Lib.hid hown; have HAT := Lib.hid hat; have HS4 := Lib.hid (Nat.lt_of_lt_of_le HB2.out hgr.size); clear hown hat hlt4 hgr))
  all_goals
    go_end0
    exact ⟨rfl, x, HX.out, acc_add hB0 HS4.out (HAT.out.elim (fun h => fun e => HNE.out (by rw [h, e])) (fun h => fun e => by have := HB2.out; omega)) k4 f4 HOWN.out q4⟩
theorem acc_new (w : World) : Acc w w.heap.size [] (w.alloc (.cells #[.slice none 0 0] 22)) :=
  ⟨.slice none 0 0, Nat.le_refl _, by simp, by go_simp, by go_simp, World.ownsRow_nil _ _ _ _, by simp [Value.ownBlock], (Own.refl w).alloc _⟩
theorem acc_own {w0 w : World} {B : Nat} {L : Ss} (h : Acc w0 B L w) : Own w0 w := by
  obtain ⟨_, _, _, _, _, _, _, q⟩ := h
  exact q
theorem acc_cell {w0 w : World} {B : Nat} {L : Ss} (h : Acc w0 B L w) : ∃ v, w.cell? ⟨B, 0, none⟩ = some v ∧ w.ownsRow w0.heap.size 9 1 v L.length (cellsS L) := by
  obtain ⟨v, _, _, hc, _, hr, _, _⟩ := h
  exact ⟨v, hc, hr⟩
theorem row_slices {w : World} {base : Nat} {e : TypeId} {sv : Value} {l : Ss} (h : w.ownsRow base e 1 sv l.length (cellsS l)) : ∃ A cap, sv = .slice A l.length cap := by
  obtain ⟨A, cap, rfl, _⟩ := strs_of_row h
  exact ⟨A, cap, rfl⟩
theorem brk_nil (q : Bool) (m : Nat) : brk q m [] = none := rfl
theorem brk_mark (q : Bool) (m : Nat) (r : Bs) : brk q m (39 :: r) = (brk q (m + 1) r).map (· + 1) := by rw [brk, if_pos rfl]
theorem brk_cut {q : Bool} {m : Nat} (h : q = false ∨ m % 2 = 0) (r : Bs) : brk q m (32 :: r) = some 0 := by rw [brk, if_neg (by decide), if_pos ⟨rfl, h⟩]
theorem brk_past {q : Bool} {m : Nat} {c : UInt8} (h : c ≠ 39) (h2 : ¬ (c = 32 ∧ (q = false ∨ m % 2 = 0))) (r : Bs) : brk q m (c :: r) = (brk q m r).map (· + 1) := by rw [brk, if_neg h, if_neg h2]
theorem map_one {o : Option Nat} {k : Nat} : (o.map (· + 1)).map (· + k) = o.map (· + (k + 1)) := map_add (by omega)
set_option maxRecDepth 100000 in
set_option maxHeartbeats 4000000 in
theorem pcut_at (s : ByteArray) (w : World) (M : Hid (Mx w)) (hs : s.size ≤ 2000) (h0 : 0 < s.size) :
    Calls Tryd.prog 29 #[.string s] w fun e w' => ∃ l v, e = .returned v ∧ w'.ownsRow w.heap.size 9 1 v l.length (cellsS l) ∧ fl l = cutP (bs s) ∧ Own w w' := by
  have hne : s.toList.isEmpty = false := nonempty_at h0
  have HA0 := Lib.hid (acc_new w)
  clear h0
  go_enter Tryd.func29, Tryd.ntmps29
  go_wp2
  refine wp_scope_straight ?_
  go_wp2_with fail
  go_step3
  go_wp2_with fail
  clear hne
  go_loopw [5] (fun v wr => ∃ (rest : ByteArray) (L : Ss), v = .string rest ∧ L.length + rest.size ≤ s.size ∧ Acc w w.heap.size L wr ∧ fl L ++ cutP (bs rest) = cutP (bs s)) (fun v _ => match v with | .string q => q.size | _ => 0)
  case atStart => exact ⟨s, [], rfl, by simp, HA0.out, rfl⟩
  case round =>
    obtain ⟨rest, L, rfl, hl, hA, hcut⟩ := hrel
    have HA := Lib.hid hA
    have HC := Lib.hid hcut
    have HRS := Lib.hid (show rest.size ≤ 2000 by omega)
    obtain ⟨q, hq⟩ : ∃ q, headQ (bs rest) = q := ⟨_, rfl⟩
    have HQ := Lib.hid hq
    have HQP : Hid (decide ((bs rest).head? = some 39) = q) := HQ
    clear hA hcut hq HA0
    go_wp2_with (go_at_call 35; with_reducible refine (pre_at rest 39 q _ HQP).mono ?_; rintro e w1 ⟨rfl, rfl⟩)
    go_loop [5, 7, 17] (fun r m i => ∃ k mk : Nat, r = .string rest ∧ i = .int .i64 k ∧ m = .int .i64 mk ∧ k ≤ rest.size ∧ mk ≤ k ∧ brk q 0 (bs rest) = (brk q mk ((bs rest).drop k)).map (· + k)) (fun _ _ i => rest.size - (intOf i).toNat)
    case atStart => exact ⟨0, 0, rfl, rfl, rfl, Nat.zero_le _, Nat.le_refl _, by rw [List.drop_zero]; cases brk q 0 (bs rest) <;> rfl⟩
    case round =>
      obtain ⟨k, mk, rfl, rfl, rfl, hk, hmk, hb⟩ := hrel
      have hrs := HRS.out
      by_cases hlt : k < rest.size
      · have hki : (k : Int) < rest.size := by omega
        rw [bs_cons rest k hlt] at hb
        have i1 : IntKind.i64.wrap ((k : Int) + 1) = (k : Int) + 1 := IntWalk.i64_in _ (by omega)
        have i2 : IntKind.i64.wrap ((mk : Int) + 1) = (mk : Int) + 1 := IntWalk.i64_in _ (by omega)
        by_cases c1 : rest[k].toNat = 39
        · have c1i : ((rest[k].toNat : Int) == 39) = true := beq_iff_eq.2 (by omega)
          rw [show rest[k] = 39 from UInt8.toNat_inj.1 c1, brk_mark, map_one] at hb
          have HB := Lib.hid hb
          clear hb c1
          go_wp2
          exact ⟨⟨k + 1, mk + 1, rfl, by go_num, by go_num, hlt, by omega, HB.out⟩, by simp [intOf] <;> omega⟩
        · have c1i : ((rest[k].toNat : Int) == 39) = false := beq_eq_false_iff_ne.2 (by omega)
          have hn39 : rest[k] ≠ 39 := fun e => c1 (by rw [e]; rfl)
          by_cases c2 : rest[k].toNat = 32
          · have c2i : ((rest[k].toNat : Int) == 32) = true := beq_iff_eq.2 (by omega)
            rw [show rest[k] = 32 from UInt8.toNat_inj.1 c2] at hb hn39
            have k0 : 0 ≤ (k : Int) + 1 := by omega
            have k1 : ((k : Int) + 1).toNat = k + 1 := by omega
            have k3 : (k : Int) + 1 ≤ rest.size := by omega
            have k4 : (k : Int) ≤ rest.size := by omega
            obtain ⟨x1, x2⟩ := ext_at (s := rest) 0 k (by omega)
            obtain ⟨z1, z2⟩ := ext_at (s := rest) (k + 1) rest.size (by omega)
            rw [List.drop_zero, Nat.sub_zero] at x1
            rw [List.take_of_length_le (by rw [List.length_drop, bs_len]; omega)] at z1
            obtain ⟨x, hx⟩ : ∃ x, rest.extract 0 k = x := ⟨_, rfl⟩
            obtain ⟨z, hz⟩ : ∃ z, rest.extract (k + 1) rest.size = z := ⟨_, rfl⟩
            rw [hx] at x1 x2
            rw [hz] at z1 z2
            have HX := Lib.hid x1
            have HZ := Lib.hid z1
            have HXS := Lib.hid (show x.size ≤ 2000 by omega)
            have HZS := Lib.hid z2
            have HLL := Lib.hid (show L.length ≤ 5000 by omega)
            clear x1 z1 x2 z2 c2 c1
            cases q
            · have HBK := Lib.hid (show brk false 0 (bs rest) = some k by rw [hb, brk_cut (.inl rfl)]; simp)
              clear hb hn39
              go_wp2_with (go_at_call 39; with_reducible refine (padd_at x w.heap.size L w _ HA M HXS.out HLL.out).mono ?_; rintro e w1 ⟨rfl, y, hy, hA1⟩; have HY := Lib.hid hy; have HA1 := Lib.hid hA1; clear hy hA1)
              refine ⟨⟨z, L ++ [y], rfl, by rw [List.length_append, HZS.out]; show L.length + 1 + _ ≤ _; omega, HA1.out, ?_⟩, ?_⟩
              · rw [← HC.out, cutP_some (s := bs rest) (k := k) (by rw [HQ.out, HBK.out]), ← HX.out, ← HZ.out, ← HY.out]
                unfold fl
                rw [List.map_append, List.append_assoc]
                rfl
              · show z.size < rest.size
                rw [HZS.out]
                omega
            · by_cases c3 : mk % 2 = 0
              · have HBK := Lib.hid (show brk true 0 (bs rest) = some k by rw [hb, brk_cut (.inr c3)]; simp)
                have c3i : ((mk : Int) % 2 == 0) = true := beq_iff_eq.2 (by omega)
                have c3j : ((mk : Int).tmod 2 == 0) = true := beq_iff_eq.2 (by rw [Int.tmod_eq_emod_of_nonneg (by omega)]; omega)
                clear hb hn39 c3
                go_wp2_with (go_at_call 39; with_reducible refine (padd_at x w.heap.size L w _ HA M HXS.out HLL.out).mono ?_; rintro e w1 ⟨rfl, y, hy, hA1⟩; have HY := Lib.hid hy; have HA1 := Lib.hid hA1; clear hy hA1)
                refine ⟨⟨z, L ++ [y], rfl, by rw [List.length_append, HZS.out]; show L.length + 1 + _ ≤ _; omega, HA1.out, ?_⟩, ?_⟩
                · rw [← HC.out, cutP_some (s := bs rest) (k := k) (by rw [HQ.out, HBK.out]), ← HX.out, ← HZ.out, ← HY.out]
                  unfold fl
                  rw [List.map_append, List.append_assoc]
                  rfl
                · show z.size < rest.size
                  rw [HZS.out]
                  omega
              · have hno : ¬ ((32 : UInt8) = 32 ∧ (true = false ∨ mk % 2 = 0)) := fun e => e.2.elim (fun e => by cases e) c3
                rw [brk_past hn39 hno, map_one] at hb
                have HB := Lib.hid hb
                have c3i : ((mk : Int) % 2 == 0) = false := beq_eq_false_iff_ne.2 (by omega)
                have c3j : ((mk : Int).tmod 2 == 0) = false := beq_eq_false_iff_ne.2 (by rw [Int.tmod_eq_emod_of_nonneg (by omega)]; omega)
                clear hb hn39 c3 hno
                go_wp2
                exact ⟨⟨k + 1, mk, rfl, by go_num, rfl, hlt, by omega, HB.out⟩, by simp [intOf] <;> omega⟩
          · have c2i : ((rest[k].toNat : Int) == 32) = false := beq_eq_false_iff_ne.2 (by omega)
            have hno : ¬ (rest[k] = 32 ∧ (q = false ∨ mk % 2 = 0)) := fun e => c2 (by rw [e.1]; rfl)
            rw [brk_past hn39 hno, map_one] at hb
            have HB := Lib.hid hb
            clear hb hn39 hno c1 c2
            go_wp2
            exact ⟨⟨k + 1, mk, rfl, by go_num, rfl, hlt, by omega, HB.out⟩, by simp [intOf] <;> omega⟩
      · obtain rfl : k = rest.size := by omega
        rw [bs_end rest rest.size (Nat.le_refl _), brk_nil] at hb
        have HB := Lib.hid (show brk (headQ (bs rest)) 0 (bs rest) = none by rw [HQ.out, hb]; rfl)
        have HLL := Lib.hid (show L.length ≤ 5000 by omega)
        clear hb
        go_upto_region 17 with (go_at_call 39; with_reducible refine (padd_at rest w.heap.size L w _ HA M HRS.out HLL.out).mono ?_; rintro e w1 ⟨rfl, y, hy, hA1⟩; have HY := Lib.hid hy; have HA1 := Lib.hid hA1; clear hy hA1)
        obtain ⟨v, hv, hst⟩ := acc_cell HA1.out
        have HST := Lib.hid hst
        clear hst
        go_wp2
        rw [Exit.noGoto_ret]
        go_ret
        refine ⟨L ++ [y], v, rfl, HST.out, ?_, acc_own HA1.out⟩
        rw [← HC.out, cutP_none HB.out, ← HY.out]
        unfold fl
        rw [List.map_append]
        rfl
set_option maxRecDepth 100000 in
theorem pcutl_at (s : ByteArray) (w : World) (M : Hid (Mx w)) (hs : s.size ≤ 2000) :
    Calls Tryd.prog 29 #[.string s] w fun e w' => ∃ l A c, e = .returned (.slice A l.length c) ∧ w'.ownsRow w.heap.size 9 1 (.slice A l.length c) l.length (cellsS l) ∧ fl l = cutL (bs s) ∧ Own w w' := by
  by_cases h0 : 0 < s.size
  · refine (pcut_at s w M hs h0).mono ?_
    rintro e w' ⟨l, v, rfl, h1, h2, h3⟩
    obtain ⟨A, c, rfl⟩ := row_slices h1
    refine ⟨l, A, c, rfl, h1, ?_, h3⟩
    rw [h2]
    unfold cutL
    rw [if_neg]
    intro e
    have := bs_len s
    rw [e, List.length_nil] at this
    omega
  · have hne : s.toList.isEmpty = true := empty_at h0
    have HC := Lib.hid (show cutL (bs s) = [] by
      unfold cutL
      rw [if_pos (List.eq_nil_of_length_eq_zero (by rw [bs_len]; omega))])
    clear h0
    go_enter Tryd.func29, Tryd.ntmps29
    go_wp2
    refine wp_scope_straight ?_
    go_wp2
    rw [Exit.noGoto_ret]
    go_ret
    exact ⟨[], none, 0, rfl, World.ownsRow_nil _ _ _ _, HC.out.symm, Own.refl _⟩
set_option maxRecDepth 100000 in
theorem psplit_row (s : ByteArray) (f : Int) (w : World) (hs : s.size ≤ 100000) (H : Hid (splitE (bs s) = f)) (M : Hid (Mx w)) :
    Calls Tryd.prog 14 #[.string s] w fun e w' => ∃ l A c, e = .returned (.tuple #[.slice A l.length c, .int .i64 f]) ∧ w'.ownsRow w.heap.size 9 1 (.slice A l.length c) l.length (cellsS l) ∧ fl l = splitV (bs s) ∧ Own w w' := by
  by_cases hb : 1024 < s.size
  · have hbi : (1024 : Int) < s.size := by omega
    have he : splitE (bs s) = 3 := by unfold splitE; rw [bs_len, if_pos hb]
    obtain rfl : f = 3 := H.out.symm.trans he
    have HV := Lib.hid (show splitV (bs s) = [] by unfold splitV; rw [if_neg (by rw [he]; decide)])
    clear hb he H
    go_enter Tryd.func14, Tryd.ntmps14
    go_wp2
    go_ret2
    exact ⟨[], _, _, rfl, World.ownsRow_nil _ _ _ _, HV.out.symm, Own.refl _⟩
  · have hbi : ¬ (1024 : Int) < s.size := by omega
    have HS := Lib.hid (show s.size ≤ 2000 by omega)
    have hsp := split_prog (s := bs s) (by rw [bs_len]; exact hb)
    have HY := Lib.hid hsp.1
    have HN := Lib.hid hsp.2
    have hcl := cutL_len (bs s)
    rw [bs_len] at hcl
    have HCL := Lib.hid (And.intro (show (cutL (bs s)).length ≤ 10000 by omega) (fun x (h : x ∈ cutL (bs s)) => show x.length ≤ 100000 by have := hcl.2 x h; omega))
    obtain ⟨j, hj⟩ : ∃ j, joinE (cutL (bs s)) = j := ⟨_, rfl⟩
    have HJ := Lib.hid hj
    clear hsp hcl hb hs hj
    go_enter Tryd.func14, Tryd.ntmps14
    go_upto_region 4 with (go_at_call 29; with_reducible refine (pcutl_at s _ M HS.out).mono ?_; rintro e w1 ⟨l, A, c, rfl, hp, hl, hg⟩)
    have HP := Lib.hid (strs_of_row hp)
    have HROW := Lib.hid hp
    have HL := Lib.hid hl
    have HLL := Lib.hid (show l.length ≤ 10000 by have := HCL.out.1; rw [← hl] at this; unfold fl at this; rw [List.length_map] at this; exact this)
    have HSM : Hid (Sm l) := Lib.hid (fun x hx => by
      have := HCL.out.2 (bs x) (by rw [← hl]; exact List.mem_map.2 ⟨x, hx, rfl⟩)
      rw [bs_len] at this
      exact this)
    have HJ2 := Lib.hid (show joinE (fl l) = j by rw [hl]; exact HJ.out)
    have HM := mxo M hg
    clear hp hl
    go_upto_region 5 with (go_at_call 12; with_reducible refine (pjoin_at l _ j _ HP HSM HLL.out HJ2 HM).mono ?_; rintro e w2 ⟨r, rfl, hr, hg2⟩; replace HROW := Lib.hid (row_own HROW.out hg2); have hq := hg.trans hg2; clear hg hg2)
    have HR := Lib.hid hr
    clear hr
    by_cases j0 : j = 0
    · subst j0
      have hrb : bs r = joinB (cutL (bs s)) := by rw [HR.out]; unfold joinV; rw [HJ2.out, if_pos rfl, HL.out]
      by_cases h : joinB (cutL (bs s)) = bs s
      · obtain ⟨h1, h2⟩ := HY.out ⟨HJ.out, h⟩
        obtain rfl : f = 0 := H.out.symm.trans h1
        obtain rfl : r = s := bytes_inj (hrb.trans h)
        have HV := Lib.hid h2
        have hx := str_eq (rfl : r = r)
        clear h h1 h2 hrb
        go_wp2
        go_ret2
        exact ⟨l, _, _, rfl, HROW.out, by rw [HL.out, HV.out], hq⟩
      · obtain ⟨h1, h2⟩ := HN.out (fun e => h e.2)
        obtain rfl : f = 2 := H.out.symm.trans h1
        have HV := Lib.hid h2
        have hne : r ≠ s := fun e => h (by rw [← hrb, e])
        have hx := str_ne hne
        clear h h1 h2 hrb hne
        go_wp2
        go_ret2
        exact ⟨[], _, _, rfl, World.ownsRow_nil _ _ _ _, HV.out.symm, hq⟩
    · obtain ⟨h1, h2⟩ := HN.out (fun e => j0 (HJ.out.symm.trans e.1))
      obtain rfl : f = 2 := H.out.symm.trans h1
      have HV := Lib.hid h2
      have gb : (j != 0) = true := bne_iff_ne.2 j0
      clear h1 h2 j0
      go_wp2
      go_ret2
      exact ⟨[], _, _, rfl, World.ownsRow_nil _ _ _ _, HV.out.symm, hq⟩
theorem psplit_at (s : ByteArray) (f : Int) (w : World) (hs : s.size ≤ 100000) (H : Hid (splitE (bs s) = f)) (M : Hid (Mx w)) :
    Calls Tryd.prog 14 #[.string s] w fun e w' => ∃ l v, e = .returned (.tuple #[v, .int .i64 f]) ∧ Strs w' v l ∧ fl l = splitV (bs s) ∧ Own w w' := by
  refine (psplit_row s f w hs H M).mono ?_
  rintro e w' ⟨l, A, c, rfl, h1, h2, h3⟩
  exact ⟨l, _, rfl, strs_of_row h1, h2, h3⟩
end Go.Proofs.YtedkpkdfopffiaaDoor.NamW
