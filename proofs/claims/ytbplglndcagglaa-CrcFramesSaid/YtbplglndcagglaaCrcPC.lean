/-
  Walks of the program of package crc: Open, All. Condition: none.
-/
import Derived.Test.YtbplglndcagglaaCrcPB
namespace Go.Proofs.Ytbplglndcagglaa.CrcW
open Go.ChangeShapes Go.WideShapes Go.ChangeAt Go.RowKit
open PairW CelW WirP CrcP WirW
set_option maxRecDepth 100000 in
set_option maxHeartbeats 2000000 in
theorem popen_at (b V : Bs) (v : Value) (f : Int) (m : Nat) (w : World) (HB : Hid (Cel w v (cellsU b))) (H : Hid (openE b = f ∧ openV b = V ∧ openK b = m)) :
    Calls Try.prog 19 #[v] w fun e w' => ∃ v', e = .returned (.tuple #[v', .int .i64 (m : Int), .int .i64 f]) ∧ w'.ownsRow w.heap.size 5 1 v' V.length (cellsU V) ∧ Own w w' := by
  obtain ⟨tf, htf⟩ : ∃ t, takeE b = t := ⟨_, rfl⟩
  obtain ⟨tx, htx⟩ : ∃ t, takeV b = t := ⟨_, rfl⟩
  obtain ⟨k, htm⟩ : ∃ t, takeK b = t := ⟨_, rfl⟩
  have HT := Lib.hid (show takeE b = tf ∧ takeV b = tx ∧ takeK b = k from ⟨htf, htx, htm⟩)
  obtain ⟨cf, hcf⟩ : ∃ t, cntE b = t := ⟨_, rfl⟩
  have hbad : cf ≠ 0 → f = cf ∧ V = [] ∧ m = 0 := fun h => by
    have h1 : openE b = cf := by unfold openE; rw [if_pos (by rw [hcf]; exact h), hcf]
    obtain ⟨h2, h3⟩ := open_bad (b := b) (by rw [h1]; exact h)
    exact ⟨by rw [← H.out.1, h1], by rw [← H.out.2.1, h2], by rw [← H.out.2.2, h3]⟩
  have hcf2 := hcf
  unfold cntE at hcf2
  rw [htf, htx, htm] at hcf2
  by_cases c1 : tf = 0
  · subst c1
    rw [if_neg (by simp)] at hcf2
    obtain ⟨o1, o2, o3, o4, o5, o6⟩ := take_once htf
    rw [htm] at o2 o3 o4
    by_cases c2 : tx < 0
    · rw [if_pos c2] at hcf2
      subst hcf2
      obtain ⟨rfl, rfl, rfl⟩ := hbad (by decide)
      clear H hcf hbad htf htx htm o1 o2 o3 o4 o5 o6
      go_enter Try.func19, Try.ntmps19
      go_wp2_with (go_at_call 30; with_reducible refine (ptake_at b _ _ _ _ _ HB HT).mono ?_; rintro e w1 ⟨rfl, rfl⟩)
      go_ret3
      exact ⟨_, rfl, World.ownsRow_nil _ _ _ _, Own.refl _⟩
    rw [if_neg c2] at hcf2
    by_cases c3 : 65536 < tx
    · rw [if_pos c3] at hcf2
      subst hcf2
      obtain ⟨rfl, rfl, rfl⟩ := hbad (by decide)
      clear H hcf hbad htf htx htm o1 o2 o3 o4 o5 o6
      go_enter Try.func19, Try.ntmps19
      go_wp2_with (go_at_call 30; with_reducible refine (ptake_at b _ _ _ _ _ HB HT).mono ?_; rintro e w1 ⟨rfl, rfl⟩)
      go_ret3
      exact ⟨_, rfl, World.ownsRow_nil _ _ _ _, Own.refl _⟩
    rw [if_neg c3] at hcf2
    obtain ⟨n, rfl⟩ : ∃ n : Nat, tx = n := ⟨tx.toNat, by omega⟩
    rw [Int.toNat_natCast] at hcf2
    obtain ⟨A, cap, rfl, h1, h2, h3⟩ := cel_cells HB.out
    obtain ⟨g, off, rfl, _⟩ := h3 (by omega)
    unfold maxLen at h2
    obtain ⟨z, hz⟩ : ∃ z, b.length = z := ⟨_, rfl⟩
    rw [hz] at o3 h1 hcf2 HB ⊢
    obtain ⟨i, hi⟩ : ∃ i, k + 4 = i := ⟨_, rfl⟩
    obtain ⟨j, hj⟩ : ∃ j, i + n = j := ⟨_, rfl⟩
    have i1 : IntKind.i64.wrap ((k : Int) + 4) = (i : Int) := (IntWalk.i64_in _ (by omega)).trans (by omega)
    have i2 : IntKind.i64.wrap ((i : Int) + n) = (j : Int) := (IntWalk.i64_in _ (by omega)).trans (by omega)
    have i3 : IntKind.i64.wrap ((z : Int) - k) = (z : Int) - k := IntWalk.i64_in _ (by omega)
    have i4 : IntKind.i64.wrap ((z : Int) - k - 4) = (z : Int) - k - 4 := IntWalk.i64_in _ (by omega)
    have d3 : ¬ (65536 : Int) < n := c3
    by_cases c4 : z < j
    · rw [if_pos (by omega)] at hcf2
      subst hcf2
      obtain ⟨rfl, rfl, rfl⟩ := hbad (by decide)
      have d4 : (z : Int) - k - 4 < n := by omega
      clear H hcf hbad htf htx htm o1 o2 o3 o4 o5 o6 hi hj hz h3
      go_enter Try.func19, Try.ntmps19
      go_wp2_with (go_at_call 30; with_reducible refine (ptake_at b _ _ _ _ _ HB HT).mono ?_; rintro e w1 ⟨rfl, rfl⟩)
      go_ret3
      exact ⟨_, rfl, World.ownsRow_nil _ _ _ _, Own.refl _⟩
    rw [if_neg (by omega)] at hcf2
    subst hcf2
    have d4 : ¬ (z : Int) - k - 4 < n := by omega
    obtain ⟨s1, hs1⟩ : ∃ s, ext 0 (b.take k) = s := ⟨_, rfl⟩
    obtain ⟨body, hbody⟩ : ∃ s, bodyB b = s := ⟨_, rfl⟩
    obtain ⟨t, ht⟩ : ∃ s, ext s1 body = s := ⟨_, rfl⟩
    obtain ⟨q, hq⟩ : ∃ q, decide ((b.drop k).take 4 = four t) = q := ⟨_, rfl⟩
    have hoE : openE b = if four t = (b.drop k).take 4 then 0 else 14 := by
      unfold openE readSum
      rw [if_neg (by rw [hcf]; simp), htm, hs1, hbody, ht]
    have hb2 : body = (b.drop i).take (j - i) := by
      rw [← hbody]
      unfold bodyB
      rw [htm, htx, hi, Int.toNat_natCast, show j - i = n by omega]
    have hbl : body.length ≤ 65536 := by rw [hb2, List.length_take]; omega
    have HNO := Lib.hid (show q = false → V = [] ∧ m = 0 ∧ f = 14 from fun e => by
      have h1 : openE b = 14 := by rw [hoE, if_neg (fun h => of_decide_eq_false (hq.trans e) h.symm)]
      obtain ⟨h2, h3⟩ := open_bad (b := b) (by rw [h1]; decide)
      exact ⟨by rw [← H.out.2.1, h2], by rw [← H.out.2.2, h3], by rw [← H.out.1, h1]⟩)
    have HYES := Lib.hid (show q = true → V = body ∧ m = j ∧ f = 0 from fun e => by
      have h1 : openE b = 0 := by rw [hoE, if_pos (of_decide_eq_true (hq.trans e)).symm]
      refine ⟨by rw [← H.out.2.1]; unfold openV; rw [if_pos h1, hbody], ?_, by rw [← H.out.1, h1]⟩
      rw [← H.out.2.2]
      unfold openK
      rw [if_pos h1, htm, htx, Int.toNat_natCast]
      omega)
    have HTK := Lib.hid (cel_pre (k := k) HB.out o3)
    have HSUM := Lib.hid (show Cel w (.slice (some ⟨g, off + k, none⟩) (i - k) (cap - k)) (cellsU ((b.drop k).take 4)) by
      have h5 := cel_pre (k := i - k) (cel_suf (k := k) HB.out o3) (by omega)
      rwa [show (b.drop k).take (i - k) = (b.drop k).take 4 by rw [show i - k = 4 by omega]] at h5)
    have LB3 := Lib.hid (show body.length ≤ 140737488355328 by omega)
    have HS1 := Lib.hid hs1
    have HTT := Lib.hid ht
    have HQ := Lib.hid hq
    have e1 : ¬ cap = k := by omega
    have e2 : k ≤ cap := by omega
    have e3 : i ≤ j := by omega
    have e4 : j ≤ cap := by omega
    have e5 : k ≤ i := by omega
    have e6 : i ≤ cap := by omega
    have e7 : j ≤ z := by omega
    by_cases ce : cap = i
    · have h0 : j - i = 0 := by omega
      have HPART := Lib.hid (show Cel w (.slice (some ⟨g, off, none⟩) 0 0) (cellsU body) by
        rw [hb2, h0, List.take_zero]
        exact ⟨_, 0, rfl, Nat.le_refl _, Nat.zero_le _, fun h => absurd h (by simp [cellsU])⟩)
      obtain rfl : j = cap := by omega
      obtain rfl : i = j := by omega
      have hs0 : sliced (some ⟨g, off, none⟩) i i i 1 = .slice (some ⟨g, off, none⟩) 0 0 := by simp [sliced]
      clear H hcf hbad htf htx htm o1 o2 o3 o4 o5 o6 hi hj hz h3 hs1 hbody ht hq hoE hb2 hbl c4 h0 ce c2 c3
      go_enter Try.func19, Try.ntmps19
      go_upto_region 13 with (go_at_call 30; with_reducible refine (ptake_at b _ _ _ _ _ HB HT).mono ?_; rintro e w1 ⟨rfl, rfl⟩)
      have f1 := (Own.refl w).drew
      go_region_held3 (fun w' => Own w w') (first | (with_reducible assumption) | (exact Own.drew (by with_reducible assumption)))
        (first
        | (go_at_call 27; have p0 := (show Own w _ by with_reducible assumption); have HX := Lib.hid (HTK.out.own p0); have HX2 := Lib.hid (HPART.out.own p0); with_reducible refine (psumbytes_at (b.take k) body _ _ s1 t _ HX HX2 HS1 HTT).mono ?_; rintro e w3 ⟨A3, cp3, rfl, hc3, q3⟩; have q4 := p0.trans q3; have HC3 := Lib.hid hc3; clear hc3 p0)
        | (go_at_call 31; have HX3 := Lib.hid (HSUM.out.own q4); with_reducible refine (equal_at ((b.drop k).take 4) (four t) _ _ q _ HX3 HC3 HQ).mono ?_; rintro e w4 ⟨rfl, rfl⟩))
      cases q with
      | false =>
        obtain ⟨rfl, rfl, rfl⟩ : V = [] ∧ m = 0 ∧ f = 14 := HNO.out rfl
        go_wp2
        go_ret3
        exact ⟨_, rfl, World.ownsRow_nil _ _ _ _, q4⟩
      | true =>
        obtain ⟨rfl, rfl, rfl⟩ : V = body ∧ m = i ∧ f = 0 := HYES.out rfl
        have HP4 := Lib.hid (HPART.out.own q4)
        go_wp2_with (go_at_call 32; with_reducible refine (bclone_at V _ _ _ HP4 LB3.out rfl).mono ?_; rintro e w5 ⟨v5, rfl, hown5, q5⟩)
        go_ret3
        exact ⟨_, rfl, row_base hown5 q4.size, q4.trans q5⟩
    · have HPART := Lib.hid (show Cel w (.slice (some ⟨g, off + i, none⟩) (j - i) (cap - i)) (cellsU body) by
        rw [hb2]
        exact cel_pre (k := j - i) (cel_suf (k := i) HB.out (by omega)) (by omega))
      clear H hcf hbad htf htx htm o1 o2 o3 o4 o5 o6 hi hj hz h3 hs1 hbody ht hq hoE hb2 hbl c4 c2 c3
      go_enter Try.func19, Try.ntmps19
      go_upto_region 13 with (go_at_call 30; with_reducible refine (ptake_at b _ _ _ _ _ HB HT).mono ?_; rintro e w1 ⟨rfl, rfl⟩)
      have f1 := (Own.refl w).drew
      go_region_held3 (fun w' => Own w w') (first | (with_reducible assumption) | (exact Own.drew (by with_reducible assumption)))
        (first
        | (go_at_call 27; have p0 := (show Own w _ by with_reducible assumption); have HX := Lib.hid (HTK.out.own p0); have HX2 := Lib.hid (HPART.out.own p0); with_reducible refine (psumbytes_at (b.take k) body _ _ s1 t _ HX HX2 HS1 HTT).mono ?_; rintro e w3 ⟨A3, cp3, rfl, hc3, q3⟩; have q4 := p0.trans q3; have HC3 := Lib.hid hc3; clear hc3 p0)
        | (go_at_call 31; have HX3 := Lib.hid (HSUM.out.own q4); with_reducible refine (equal_at ((b.drop k).take 4) (four t) _ _ q _ HX3 HC3 HQ).mono ?_; rintro e w4 ⟨rfl, rfl⟩))
      cases q with
      | false =>
        obtain ⟨rfl, rfl, rfl⟩ : V = [] ∧ m = 0 ∧ f = 14 := HNO.out rfl
        go_wp2
        go_ret3
        exact ⟨_, rfl, World.ownsRow_nil _ _ _ _, q4⟩
      | true =>
        obtain ⟨rfl, rfl, rfl⟩ : V = body ∧ m = j ∧ f = 0 := HYES.out rfl
        have HP4 := Lib.hid (HPART.out.own q4)
        go_wp2_with (go_at_call 32; with_reducible refine (bclone_at V _ _ _ HP4 LB3.out rfl).mono ?_; rintro e w5 ⟨v5, rfl, hown5, q5⟩)
        go_ret3
        exact ⟨_, rfl, row_base hown5 q4.size, q4.trans q5⟩
  · rw [if_pos c1] at hcf2
    subst hcf2
    obtain ⟨rfl, rfl, rfl⟩ := hbad c1
    have d1 : (f == 0) = false := beq_eq_false_iff_ne.2 c1
    clear H hcf hbad htf htx htm
    go_enter Try.func19, Try.ntmps19
    go_wp2_with (go_at_call 30; with_reducible refine (ptake_at b _ _ _ _ _ HB HT).mono ?_; rintro e w1 ⟨rfl, rfl⟩)
    go_ret3
    exact ⟨_, rfl, World.ownsRow_nil _ _ _ _, Own.refl _⟩
set_option maxRecDepth 100000 in
set_option maxHeartbeats 2000000 in
theorem pall_at (b : Bs) (L : List Bs) (n : Nat) (v : Value) (w : World) (HB : Hid (Cel w v (cellsU b))) (hbl : b.length ≤ 1000000000000) (H : Hid (allR b = (L, n))) :
    Calls Try.prog 21 #[v] w fun e w' => ∃ vl, e = .returned (.tuple #[vl, .int .i64 (n : Int)]) ∧ Lsts w' w.heap.size vl L ∧ Own w w' := by
  obtain ⟨i0, hi, hz0, hz1, hz2⟩ := info_parts (show (Try.prog.info? 23).map (fun i => (i.zero, i.size, i.bytes)) = some (some (.slice none 0 0), 1, 24) by kernel_rfl)
  have HI := Lib.hid hi
  have HZ0 := Lib.hid hz0
  have HZ1 := Lib.hid hz1
  have HZ2 := Lib.hid hz2
  clear hi hz0 hz1 hz2
  obtain ⟨A, cap, rfl, h1, h2, h3⟩ := cel_cells HB.out
  unfold maxLen at h2
  obtain ⟨z, hz⟩ : ∃ z, b.length = z := ⟨_, rfl⟩
  have HBZ := Lib.hid hz
  have HA := Lib.hid (show 0 < z → ∃ g off : Nat, A = some ⟨g, off, none⟩ from fun h0 => by
    obtain ⟨g, off, hA, _⟩ := h3 (by omega)
    exact ⟨g, off, hA⟩)
  rw [hz] at h1 hbl HB ⊢
  clear h3 hz
  have HALL := Lib.hid (show (([] : List Bs) ++ (allR (b.drop 0)).1, 0 + (allR (b.drop 0)).2) = (L, n) by rw [List.drop_zero, List.nil_append, Nat.zero_add]; exact H.out)
  clear H
  go_enter Try.func21, Try.ntmps21
  go_wp2
  go_loopw [4, 5, 6, 7, 8] (fun vo va _ _ _ wr => ∃ (k : Nat) (P : List Bs), va = .int .i64 (k : Int) ∧ k ≤ z ∧ P.length ≤ k ∧ Lsts wr w.heap.size vo P ∧ Own w wr ∧ (P ++ (allR (b.drop k)).1, k + (allR (b.drop k)).2) = (L, n)) (fun _ va _ _ _ _ => z - (intOf va).toNat)
  case atStart => exact ⟨0, [], rfl, Nat.zero_le _, Nat.le_refl _, lsts_nil w _, Own.refl w, HALL.out⟩
  case round =>
    obtain ⟨k, P, rfl, hk, hpk, hlst, q, hall⟩ := hrel
    have HLST := Lib.hid hlst
    obtain ⟨f, hf⟩ : ∃ t, openE (b.drop k) = t := ⟨_, rfl⟩
    have HBR := Lib.hid (HB.out.own q)
    by_cases c : f = 0
    · subst c
      obtain ⟨s1, s2, s3⟩ := open_size hf
      rw [all_step hf] at hall
      obtain ⟨V, hV⟩ : ∃ t, openV (b.drop k) = t := ⟨_, rfl⟩
      obtain ⟨m, hm⟩ : ∃ t, openK (b.drop k) = t := ⟨_, rfl⟩
      have HT := Lib.hid (And.intro hf (And.intro hV hm))
      rw [hm, List.length_drop, HBZ.out] at s2
      rw [hm] at s1
      rw [hV, hm, List.drop_drop] at hall
      have HN := Lib.hid (show ((P ++ [V]) ++ (allR (b.drop (k + m))).1, (k + m) + (allR (b.drop (k + m))).2) = (L, n) by rw [← hall, List.append_assoc, Nat.add_assoc]; rfl)
      obtain ⟨g, off, rfl⟩ := HA.out (by omega)
      have hck : ¬ cap = k := by omega
      have HCD := Lib.hid (cel_suf HBR.out hk)
      have i2 : IntKind.i64.wrap ((k : Int) + m) = (k : Int) + m := IntWalk.i64_in _ (by omega)
      obtain ⟨vs, hvl, hrow, hrows⟩ := hlst
      have HROW := Lib.hid hrow
      have HROWS := Lib.hid hrows
      have HVL := Lib.hid hvl
      have hkm : k + m ≤ z := by omega
      have hp1 : P.length + 1 ≤ k + m := by omega
      have hm1 : 1 ≤ m := by omega
      have K1 := Lib.hid (show P.length + [Value.slice none 0 0].length = P.length + 1 from rfl)
      have K2 := Lib.hid (show P.length + 1 ≤ maxLen by unfold maxLen; omega)
      have K3 := Lib.hid (show (P.length + 1) * 24 ≤ 140737488355328 by omega)
      clear hf hV hm s1 s2 s3 hall hrow hrows hvl
      go_wp2_with (first
        | (go_at_call 19; with_reducible refine (popen_at (b.drop k) V _ 0 m _ HCD HT).mono ?_; rintro e w3 ⟨v3, rfl, hown3, q3⟩; have HR3 := Lib.hid (World.ownsRow.alloc (row_down hown3 q.size) (.cells #[v3] 23)); have q4 := (q.trans q3).alloc (.cells #[v3] 23); have HRO := Lib.hid (row_own HROW.out (q3.alloc (.cells #[v3] 23))); obtain ⟨A3, c3, rfl⟩ := row_shape hown3; have HCE := Lib.hid (cel_new (w := w3) (T := 23) (cs := #[.slice A3 V.length c3]) (xs := [.slice A3 V.length c3]) (k := 1) rfl rfl (by unfold maxLen; decide)); have q34 := q3.alloc (.cells #[.slice A3 V.length c3] 23); clear hown3)
        | (at_builtin; refine wpList_append_k (by go_simp) _ _ 37 rfl w.heap.size 23 i0 (.slice none 0 0) 24 Try.underlying37 HI.out HZ0.out HZ1.out HZ2.out rfl _ P.length vs rfl HRO.out _ [.slice A3 V.length c3] rfl HCE.out (fun u hu => by rw [List.mem_singleton.1 hu]; rfl) (P.length + 1) rfl K2.out K3.out q4.size ?_; intro v5 w5 hown5 hgr5; have q5 := row_after q4 HRO.out hgr5 (Nat.le_refl _); have HL5 := Lib.hid (lsts_more HVL.out HRO.out (fun i hi u hu => row_own (HROWS.out i hi u hu) q34) HR3.out hgr5 hown5); clear hown5 hgr5))
      go_roundw
      case rel => exact ⟨k + m, P ++ [V], by go_num, hkm, by rw [List.length_append]; exact hp1, HL5.out, q5, HN.out⟩
      case measure => simp [intOf]; omega
    · obtain ⟨b1, b2⟩ := open_bad (b := b.drop k) (by rw [hf]; exact c)
      have HT := Lib.hid (show openE (b.drop k) = f ∧ openV (b.drop k) = [] ∧ openK (b.drop k) = 0 from ⟨hf, b1, b2⟩)
      rw [all_stop (by rw [hf]; exact c), List.append_nil, Nat.add_zero] at hall
      injection hall with a1 a2
      subst a1
      subst a2
      have d1 : (f == 0) = false := beq_eq_false_iff_ne.2 c
      have HBL := Lib.hid (show ∀ a : Option Addr, k = z → Cel wr (.slice a 0 0) (cellsU (b.drop k)) from fun a e => by
        rw [List.drop_of_length_le (by rw [HBZ.out]; omega)]
        exact ⟨a, 0, rfl, Nat.le_refl _, Nat.zero_le _, fun h => absurd h (by simp [cellsU])⟩)
      clear hf b1 b2 hlst c
      by_cases hck : cap = k
      · have hzk : z = k := by omega
        subst hzk
        subst hck
        have HCD := Lib.hid (HBL.out A rfl)
        go_wp2_with (go_at_call 19; with_reducible refine (popen_at _ [] _ f 0 _ HCD HT).mono ?_; rintro e w3 ⟨v3, rfl, _, q3⟩)
        go_ret2
        exact ⟨_, rfl, HLST.out.own q3, q.trans q3⟩
      · by_cases h0 : 0 < z
        · obtain ⟨g, off, rfl⟩ := HA.out h0
          have HCD := Lib.hid (cel_suf HBR.out hk)
          go_wp2_with (go_at_call 19; with_reducible refine (popen_at _ [] _ f 0 _ HCD HT).mono ?_; rintro e w3 ⟨v3, rfl, _, q3⟩)
          go_ret2
          exact ⟨_, rfl, HLST.out.own q3, q.trans q3⟩
        · obtain rfl : z = 0 := by omega
          obtain rfl : k = 0 := by omega
          cases A with
          | none =>
            have HCD := Lib.hid (show Cel wr (.slice none 0 cap) (cellsU (b.drop 0)) by rw [List.drop_zero]; exact HBR.out)
            go_wp2_with (go_at_call 19; with_reducible refine (popen_at _ [] _ f 0 _ HCD HT).mono ?_; rintro e w3 ⟨v3, rfl, _, q3⟩)
            go_ret2
            exact ⟨_, rfl, HLST.out.own q3, q.trans q3⟩
          | some ad =>
            have HCD := Lib.hid (show Cel wr (.slice (some ad) 0 cap) (cellsU (b.drop 0)) by rw [List.drop_zero]; exact HBR.out)
            go_wp2_with (go_at_call 19; with_reducible refine (popen_at _ [] _ f 0 _ HCD HT).mono ?_; rintro e w3 ⟨v3, rfl, _, q3⟩)
            go_ret2
            exact ⟨_, rfl, HLST.out.own q3, q.trans q3⟩
end Go.Proofs.Ytbplglndcagglaa.CrcW
