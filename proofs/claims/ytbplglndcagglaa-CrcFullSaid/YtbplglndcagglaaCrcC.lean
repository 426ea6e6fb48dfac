/-
  Walks of the specification of package crc: Open. Condition: none.
-/
import Derived.Test.YtbplglndcagglaaCrcB
import Derived.Deep.RegionHeld3
namespace Go.Proofs.Ytbplglndcagglaa.CrcW
open Go.ChangeShapes Go.WideShapes Go.ChangeAt Go.RowKit
open PairW CelW WirP CrcP WirW
theorem cel_pre {w : World} {A : Option Addr} {z cap k : Nat} {b : Bs} (h : Cel w (.slice A z cap) (cellsU b)) (hk : k ≤ z) : Cel w (.slice A k cap) (cellsU (b.take k)) := by
  obtain ⟨A', c, hv, h2, h3, h4⟩ := h
  rw [cellsU_len] at hv h2 h4
  injection hv with e1 e2 e3
  subst e1
  subst e3
  have hl : (cellsU (b.take k)).length = k := by rw [cellsU_len, List.length_take]; omega
  refine ⟨_, _, by rw [hl], by rw [hl]; omega, h3, fun h0 => ?_⟩
  rw [hl] at h0
  obtain ⟨g, o, hA, hc⟩ := h4 (by omega)
  refine ⟨g, o, hA, fun i u hu => hc i u ?_⟩
  have hi : i < k := by have := (List.getElem?_eq_some_iff.1 hu).1; rwa [hl] at this
  rw [← hu]
  unfold cellsU
  rw [List.map_take, List.getElem?_take_of_lt hi]
theorem cel_suf {w : World} {g off z cap k : Nat} {b : Bs} (h : Cel w (.slice (some ⟨g, off, none⟩) z cap) (cellsU b)) (hk : k ≤ z) : Cel w (.slice (some ⟨g, off + k, none⟩) (z - k) (cap - k)) (cellsU (b.drop k)) := by
  obtain ⟨A, c, hv, h2, h3, h4⟩ := h
  rw [cellsU_len] at hv h2 h4
  injection hv with e1 e2 e3
  subst e3
  refine ⟨_, cap - k, by rw [cellsU_len, List.length_drop, ← e2], by rw [cellsU_len, List.length_drop]; omega, by omega, fun h0 => ⟨g, off + k, rfl, fun i u hu => ?_⟩⟩
  rw [cellsU_len, List.length_drop] at h0
  obtain ⟨g', o', hA, hcl⟩ := h4 (by omega)
  rw [← e1] at hA
  injection hA with hA
  injection hA with a1 a2
  subst a1
  subst a2
  rw [Nat.add_assoc]
  refine hcl (k + i) u ?_
  rw [← hu]
  unfold cellsU
  rw [List.map_drop, List.getElem?_drop]
set_option maxRecDepth 100000 in
set_option maxHeartbeats 2000000 in
theorem ropen_at (b V : Bs) (v : Value) (f : Int) (m : Nat) (w : World) (HB : Hid (Cel w v (cellsU b))) (H : Hid (openE b = f ∧ openV b = V ∧ openK b = m)) :
    Calls Try.prog 20 #[v] w fun e w' => ∃ v', e = .returned (.tuple #[v', .int .i64 (m : Int), .int .i64 f]) ∧ w'.ownsRow w.heap.size 5 1 v' V.length (cellsU V) ∧ Own w w' := by
  obtain ⟨i0, hi, hz0, hz1, hz2⟩ := info_parts (show (Try.prog.info? 5).map (fun i => (i.zero, i.size, i.bytes)) = some (some (.int .u8 0), 1, 1) by kernel_rfl)
  have HI := Lib.hid hi
  have HZ0 := Lib.hid hz0
  have HZ1 := Lib.hid hz1
  have HZ2 := Lib.hid hz2
  clear hi hz0 hz1 hz2
  obtain ⟨tf, htf⟩ : ∃ t, takeE b = t := ⟨_, rfl⟩
  obtain ⟨tx, htx⟩ : ∃ t, takeV b = t := ⟨_, rfl⟩
  obtain ⟨k, htm⟩ : ∃ t, takeK b = t := ⟨_, rfl⟩
  have HT := Lib.hid (show takeE b = tf ∧ takeV b = tx ∧ takeK b = k from ⟨htf, htx, htm⟩)
  obtain ⟨cf, hcf⟩ : ∃ t, cntE b = t := ⟨_, rfl⟩
  have hbad : cf ≠ 0 → f = cf ∧ V = [] ∧ m = 0 := fun h => by
    have h1 : openE b = cf := by unfold openE; rw [if_pos (by rw [hcf]; exact h), hcf]
    obtain ⟨h2, h3⟩ := open_bad (b := b) (by rw [h1]; exact h)
    exact ⟨by rw [← H.out.1, h1], by rw [← H.out.2.1, h2], by rw [← H.out.2.2, h3]⟩
  have hcf2 := hcf
  unfold cntE at hcf2
  rw [htf, htx, htm] at hcf2
  by_cases c1 : tf = 0
  · subst c1
    rw [if_neg (by simp)] at hcf2
    obtain ⟨o1, o2, o3, o4, o5, o6⟩ := take_once htf
    rw [htm] at o2 o3 o4
    by_cases c2 : tx < 0
    · rw [if_pos c2] at hcf2
      subst hcf2
      obtain ⟨rfl, rfl, rfl⟩ := hbad (by decide)
      clear H hcf hbad htf htx htm o1 o2 o3 o4 o5 o6
      go_enter Try.func20, Try.ntmps20
      go_wp2_with (go_at_call 33; with_reducible refine (rtake_at b _ _ _ _ _ HB HT).mono ?_; rintro e w1 ⟨rfl, rfl⟩)
      go_ret3
      exact ⟨_, rfl, World.ownsRow_nil _ _ _ _, Own.refl _⟩
    rw [if_neg c2] at hcf2
    by_cases c3 : 65536 < tx
    · rw [if_pos c3] at hcf2
      subst hcf2
      obtain ⟨rfl, rfl, rfl⟩ := hbad (by decide)
      clear H hcf hbad htf htx htm o1 o2 o3 o4 o5 o6
      go_enter Try.func20, Try.ntmps20
      go_wp2_with (go_at_call 33; with_reducible refine (rtake_at b _ _ _ _ _ HB HT).mono ?_; rintro e w1 ⟨rfl, rfl⟩)
      go_ret3
      exact ⟨_, rfl, World.ownsRow_nil _ _ _ _, Own.refl _⟩
    rw [if_neg c3] at hcf2
    obtain ⟨n, rfl⟩ : ∃ n : Nat, tx = n := ⟨tx.toNat, by omega⟩
    rw [Int.toNat_natCast] at hcf2
    obtain ⟨A, cap, rfl, h1, h2, h3⟩ := cel_cells HB.out
    obtain ⟨g, off, rfl, _⟩ := h3 (by omega)
    unfold maxLen at h2
    obtain ⟨z, hz⟩ : ∃ z, b.length = z := ⟨_, rfl⟩
    rw [hz] at o3 h1 hcf2 HB ⊢
    obtain ⟨i, hi⟩ : ∃ i, k + 4 = i := ⟨_, rfl⟩
    obtain ⟨j, hj⟩ : ∃ j, i + n = j := ⟨_, rfl⟩
    have i1 : IntKind.i64.wrap ((k : Int) + 4) = (i : Int) := (IntWalk.i64_in _ (by omega)).trans (by omega)
    have i2 : IntKind.i64.wrap ((i : Int) + n) = (j : Int) := (IntWalk.i64_in _ (by omega)).trans (by omega)
    by_cases c4 : z < j
    · rw [if_pos (by omega)] at hcf2
      subst hcf2
      obtain ⟨rfl, rfl, rfl⟩ := hbad (by decide)
      have d4 : (z : Int) < j := by omega
      clear H hcf hbad htf htx htm o1 o2 o3 o4 o5 o6 hi hj hz h3
      go_enter Try.func20, Try.ntmps20
      go_wp2_with (go_at_call 33; with_reducible refine (rtake_at b _ _ _ _ _ HB HT).mono ?_; rintro e w1 ⟨rfl, rfl⟩)
      go_ret3
      exact ⟨_, rfl, World.ownsRow_nil _ _ _ _, Own.refl _⟩
    rw [if_neg (by omega)] at hcf2
    subst hcf2
    have d4 : ¬ (z : Int) < j := by omega
    obtain ⟨s1, hs1⟩ : ∃ s, ext 0 (b.take k) = s := ⟨_, rfl⟩
    obtain ⟨body, hbody⟩ : ∃ s, bodyB b = s := ⟨_, rfl⟩
    obtain ⟨t, ht⟩ : ∃ s, ext s1 body = s := ⟨_, rfl⟩
    obtain ⟨q, hq⟩ : ∃ q, decide (four t = (b.drop k).take 4) = q := ⟨_, rfl⟩
    have hsl : s1 < 4294967296 := by rw [← hs1]; exact ext_lt (by omega) _
    have htl : t < 4294967296 := by rw [← ht]; exact ext_lt hsl _
    have hoE : openE b = if four t = (b.drop k).take 4 then 0 else 14 := by
      unfold openE readSum
      rw [if_neg (by rw [hcf]; simp), htm, hs1, hbody, ht]
    have hb2 : body = (b.drop i).take (j - i) := by
      rw [← hbody]
      unfold bodyB
      rw [htm, htx, hi, Int.toNat_natCast, show j - i = n by omega]
    have hbl : body.length ≤ 65536 := by rw [hb2, List.length_take]; omega
    have HNO := Lib.hid (show q = false → V = [] ∧ m = 0 ∧ f = 14 from fun e => by
      have h1 : openE b = 14 := by rw [hoE, if_neg (of_decide_eq_false (hq.trans e))]
      obtain ⟨h2, h3⟩ := open_bad (b := b) (by rw [h1]; decide)
      exact ⟨by rw [← H.out.2.1, h2], by rw [← H.out.2.2, h3], by rw [← H.out.1, h1]⟩)
    have HYES := Lib.hid (show q = true → V = body ∧ m = j ∧ f = 0 from fun e => by
      have h1 : openE b = 0 := by rw [hoE, if_pos (of_decide_eq_true (hq.trans e))]
      refine ⟨by rw [← H.out.2.1]; unfold openV; rw [if_pos h1, hbody], ?_, by rw [← H.out.1, h1]⟩
      rw [← H.out.2.2]
      unfold openK
      rw [if_pos h1, htm, htx, Int.toNat_natCast]
      omega)
    have HTK := Lib.hid (cel_pre (k := k) HB.out o3)
    have HSUM := Lib.hid (show Cel w (.slice (some ⟨g, off + k, none⟩) (i - k) (cap - k)) (cellsU ((b.drop k).take 4)) by
      have h5 := cel_pre (k := i - k) (cel_suf (k := k) HB.out o3) (by omega)
      rwa [show (b.drop k).take (i - k) = (b.drop k).take 4 by rw [show i - k = 4 by omega]] at h5)
    have LB1 := Lib.hid (show 0 + (cellsU body).length = body.length by rw [cellsU_len, Nat.zero_add])
    have LB2 := Lib.hid (show body.length ≤ maxLen by unfold maxLen; omega)
    have LB3 := Lib.hid (show body.length * 1 ≤ 140737488355328 by omega)
    have HS1 := Lib.hid hs1
    have HTT := Lib.hid ht
    have HQ := Lib.hid hq
    have HSL := Lib.hid hsl
    have HTL := Lib.hid htl
    have e1 : ¬ cap = k := by omega
    have e2 : k ≤ cap := by omega
    have e3 : i ≤ j := by omega
    have e4 : j ≤ cap := by omega
    have e5 : k ≤ i := by omega
    have e6 : i ≤ cap := by omega
    have e7 : j ≤ z := by omega
    by_cases ce : cap = i
    · have h0 : j - i = 0 := by omega
      have HPART := Lib.hid (show Cel w (.slice (some ⟨g, off, none⟩) 0 0) (cellsU body) by
        rw [hb2, h0, List.take_zero]
        exact ⟨_, 0, rfl, Nat.le_refl _, Nat.zero_le _, fun h => absurd h (by simp [cellsU])⟩)
      obtain rfl : j = cap := by omega
      obtain rfl : i = j := by omega
      have hs0 : sliced (some ⟨g, off, none⟩) i i i 1 = .slice (some ⟨g, off, none⟩) 0 0 := by simp [sliced]
      clear H hcf hbad htf htx htm o1 o2 o3 o4 o5 o6 hi hj hz h3 hs1 hbody ht hq hsl htl hoE hb2 hbl c4 h0 ce
      go_enter Try.func20, Try.ntmps20
      go_upto_region 10 with (go_at_call 33; with_reducible refine (rtake_at b _ _ _ _ _ HB HT).mono ?_; rintro e w1 ⟨rfl, rfl⟩)
      have f1 := (Own.refl w).drew
      go_region_held3 (fun w' => Own w w') (first | (with_reducible assumption) | (exact Own.drew (by with_reducible assumption)))
        (first
        | (go_at_call 13; have HX := Lib.hid (HTK.out.own (show Own w _ by with_reducible assumption)); with_reducible refine (rsum_at (b.take k) _ s1 _ HX HS1).mono ?_; rintro e w2 ⟨rfl, rfl⟩)
        | (go_at_call 15; have HX2 := Lib.hid (HPART.out.own (show Own w _ by with_reducible assumption)); with_reducible refine (rext_at s1 body _ t _ HSL.out HX2 HTT).mono ?_; rintro e w2 ⟨rfl, rfl⟩))
      go_upto_region 11 with (fail)
      have f2 := f1.drew
      go_region_held3 (fun w' => Own w w') (first | (with_reducible assumption) | (exact Own.drew (by with_reducible assumption)))
        (first
        | (go_at_call 29; refine (rfour_at t _ HTL.out).mono ?_; rintro e w3 ⟨v3, rfl, hc3, q3⟩; have q4 := f2.trans q3; have HC3 := Lib.hid hc3; clear hc3)
        | (go_at_call 18; have HX3 := Lib.hid (HSUM.out.own q4); with_reducible refine (rsame_at (four t) ((b.drop k).take 4) _ _ q _ HC3 HX3 HQ).mono ?_; rintro e w4 ⟨rfl, rfl⟩))
      cases q with
      | false =>
        obtain ⟨rfl, rfl, rfl⟩ : V = [] ∧ m = 0 ∧ f = 14 := HNO.out rfl
        go_wp2
        go_ret3
        exact ⟨_, rfl, World.ownsRow_nil _ _ _ _, q4⟩
      | true =>
        obtain ⟨rfl, rfl, rfl⟩ : V = body ∧ m = i ∧ f = 0 := HYES.out rfl
        have HP4 := Lib.hid (HPART.out.own q4)
        go_wp2_with (at_builtin; refine wpList_append_r (by go_simp) _ _ 23 rfl w.heap.size 5 i0 (.int .u8 0) 1 Try.underlying23 HI.out HZ0.out HZ1.out HZ2.out rfl _ 0 (cellsU []) rfl (World.ownsRow_nil _ w.heap.size 5 1) _ (cellsU V) rfl HP4.out (cellsU_one _) V.length LB1.out LB2.out LB3.out q4.size ?_; intro v5 w5 hown5 hgr5 hsz5; have q5 := hgr5 _ q4 (Nat.le_refl _); have R5 := Lib.hid (show w5.ownsRow w.heap.size 5 1 v5 V.length (cellsU V) from hown5); clear hown5 hgr5 hsz5)
        go_ret3
        exact ⟨_, rfl, R5.out, q5⟩
    · have HPART := Lib.hid (show Cel w (.slice (some ⟨g, off + i, none⟩) (j - i) (cap - i)) (cellsU body) by
        rw [hb2]
        exact cel_pre (k := j - i) (cel_suf (k := i) HB.out (by omega)) (by omega))
      clear H hcf hbad htf htx htm o1 o2 o3 o4 o5 o6 hi hj hz h3 hs1 hbody ht hq hsl htl hoE hb2 hbl c4
      go_enter Try.func20, Try.ntmps20
      go_upto_region 10 with (go_at_call 33; with_reducible refine (rtake_at b _ _ _ _ _ HB HT).mono ?_; rintro e w1 ⟨rfl, rfl⟩)
      have f1 := (Own.refl w).drew
      go_region_held3 (fun w' => Own w w') (first | (with_reducible assumption) | (exact Own.drew (by with_reducible assumption)))
        (first
        | (go_at_call 13; have HX := Lib.hid (HTK.out.own (show Own w _ by with_reducible assumption)); with_reducible refine (rsum_at (b.take k) _ s1 _ HX HS1).mono ?_; rintro e w2 ⟨rfl, rfl⟩)
        | (go_at_call 15; have HX2 := Lib.hid (HPART.out.own (show Own w _ by with_reducible assumption)); with_reducible refine (rext_at s1 body _ t _ HSL.out HX2 HTT).mono ?_; rintro e w2 ⟨rfl, rfl⟩))
      go_upto_region 11 with (fail)
      have f2 := f1.drew
      go_region_held3 (fun w' => Own w w') (first | (with_reducible assumption) | (exact Own.drew (by with_reducible assumption)))
        (first
        | (go_at_call 29; refine (rfour_at t _ HTL.out).mono ?_; rintro e w3 ⟨v3, rfl, hc3, q3⟩; have q4 := f2.trans q3; have HC3 := Lib.hid hc3; clear hc3)
        | (go_at_call 18; have HX3 := Lib.hid (HSUM.out.own q4); with_reducible refine (rsame_at (four t) ((b.drop k).take 4) _ _ q _ HC3 HX3 HQ).mono ?_; rintro e w4 ⟨rfl, rfl⟩))
      cases q with
      | false =>
        obtain ⟨rfl, rfl, rfl⟩ : V = [] ∧ m = 0 ∧ f = 14 := HNO.out rfl
        go_wp2
        go_ret3
        exact ⟨_, rfl, World.ownsRow_nil _ _ _ _, q4⟩
      | true =>
        obtain ⟨rfl, rfl, rfl⟩ : V = body ∧ m = j ∧ f = 0 := HYES.out rfl
        have HP4 := Lib.hid (HPART.out.own q4)
        go_wp2_with (at_builtin; refine wpList_append_r (by go_simp) _ _ 23 rfl w.heap.size 5 i0 (.int .u8 0) 1 Try.underlying23 HI.out HZ0.out HZ1.out HZ2.out rfl _ 0 (cellsU []) rfl (World.ownsRow_nil _ w.heap.size 5 1) _ (cellsU V) rfl HP4.out (cellsU_one _) V.length LB1.out LB2.out LB3.out q4.size ?_; intro v5 w5 hown5 hgr5 hsz5; have q5 := hgr5 _ q4 (Nat.le_refl _); have R5 := Lib.hid (show w5.ownsRow w.heap.size 5 1 v5 V.length (cellsU V) from hown5); clear hown5 hgr5 hsz5)
        go_ret3
        exact ⟨_, rfl, R5.out, q5⟩
  · rw [if_pos c1] at hcf2
    subst hcf2
    obtain ⟨rfl, rfl, rfl⟩ := hbad c1
    have d1 : (f == 0) = false := beq_eq_false_iff_ne.2 c1
    clear H hcf hbad htf htx htm
    go_enter Try.func20, Try.ntmps20
    go_wp2_with (go_at_call 33; with_reducible refine (rtake_at b _ _ _ _ _ HB HT).mono ?_; rintro e w1 ⟨rfl, rfl⟩)
    go_ret3
    exact ⟨_, rfl, World.ownsRow_nil _ _ _ _, Own.refl _⟩
end Go.Proofs.Ytbplglndcagglaa.CrcW
