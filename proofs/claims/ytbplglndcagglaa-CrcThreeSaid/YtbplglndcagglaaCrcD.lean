/-
  Lists of contents in memory of the call's own; the walk of the specification's All. Condition: none.
-/
import Derived.Test.YtbplglndcagglaaCrcC
namespace Go.Proofs.Ytbplglndcagglaa.CrcW
open Go.ChangeShapes Go.WideShapes Go.ChangeAt Go.RowKit
open PairW CelW WirP CrcP WirW
/-- The slice v holds slices of bytes, all in blocks from H on. -/
def Lsts (w : World) (H : Nat) (v : Value) (L : List Bs) : Prop := ∃ vs : List Value, vs.length = L.length ∧ w.ownsRow H 23 1 v L.length vs ∧ ∀ i (h : i < L.length) u, vs[i]? = some u → w.ownsRow H 5 1 u L[i].length (cellsU L[i])
theorem Lsts.own {w w' : World} {H : Nat} {v : Value} {L : List Bs} (h : Lsts w H v L) (q : Own w w') : Lsts w' H v L := by
  obtain ⟨vs, h1, h2, h3⟩ := h
  exact ⟨vs, h1, row_own h2 q, fun i hi u hu => row_own (h3 i hi u hu) q⟩
theorem lsts_nil (w : World) (H : Nat) : Lsts w H (.slice none 0 0) [] := ⟨[], rfl, World.ownsRow_nil _ _ _ _, fun _ h => absurd h (Nat.not_lt_zero _)⟩
theorem row_down {w : World} {b0 b : Nat} {e : TypeId} {sv : Value} {n : Nat} {xs : List Value} (h : w.ownsRow b e 1 sv n xs) (hb : b0 ≤ b) : w.ownsRow b0 e 1 sv n xs := by
  refine ⟨h.1, h.2.imp id ?_⟩
  rintro ⟨g, cap, cur, h1, h2, h3⟩
  exact ⟨g, cap, cur, h1, by omega, h3⟩
/-- One content more. -/
theorem lsts_more {w w' : World} {H : Nat} {v v' u : Value} {L : List Bs} {c : Bs} {vs : List Value} (hl : vs.length = L.length) (hv : w.ownsRow H 23 1 v L.length vs) (h3 : ∀ i (h : i < L.length) x, vs[i]? = some x → w.ownsRow H 5 1 x L[i].length (cellsU L[i]))
    (hu : w.ownsRow H 5 1 u c.length (cellsU c)) (hg : w.grownBy w' v.ownBlock) (hr : w'.ownsRow H 23 1 v' (L.length + 1) (vs ++ [u])) : Lsts w' H v' (L ++ [c]) := by
  have ne : 5 ≠ 23 := by decide
  refine ⟨vs ++ [u], by rw [List.length_append, List.length_append, hl]; rfl, by rw [List.length_append]; exact hr, fun i hi x hx => ?_⟩
  rw [List.length_append] at hi
  have hi : i < L.length + 1 := hi
  by_cases e : i < L.length
  · rw [List.getElem?_append_left (by omega)] at hx
    have := h3 i e x hx
    rw [List.getElem_append_left e]
    exact this.kept hg (rows_apart this hv ne)
  · obtain rfl : i = L.length := by omega
    rw [List.getElem?_append_right (by omega), hl, Nat.sub_self] at hx
    obtain rfl : u = x := by simpa using hx
    have e2 : (L ++ [c])[L.length]'(by simp) = c := by simp
    rw [e2]
    exact hu.kept hg (rows_apart hu hv ne)
set_option maxRecDepth 100000 in
set_option maxHeartbeats 2000000 in
theorem rall_at (b : Bs) (L : List Bs) (n : Nat) (v : Value) (w : World) (HB : Hid (Cel w v (cellsU b))) (hbl : b.length ≤ 1000000000000) (H : Hid (allR b = (L, n))) :
    Calls Try.prog 22 #[v] w fun e w' => ∃ vl, e = .returned (.tuple #[vl, .int .i64 (n : Int)]) ∧ Lsts w' w.heap.size vl L ∧ Own w w' := by
  obtain ⟨i0, hi, hz0, hz1, hz2⟩ := info_parts (show (Try.prog.info? 23).map (fun i => (i.zero, i.size, i.bytes)) = some (some (.slice none 0 0), 1, 24) by kernel_rfl)
  have HI := Lib.hid hi
  have HZ0 := Lib.hid hz0
  have HZ1 := Lib.hid hz1
  have HZ2 := Lib.hid hz2
  clear hi hz0 hz1 hz2
  obtain ⟨A, cap, rfl, h1, h2, h3⟩ := cel_cells HB.out
  unfold maxLen at h2
  obtain ⟨z, hz⟩ : ∃ z, b.length = z := ⟨_, rfl⟩
  have HBZ := Lib.hid hz
  have HA := Lib.hid (show 0 < z → ∃ g off : Nat, A = some ⟨g, off, none⟩ from fun h0 => by
    obtain ⟨g, off, hA, _⟩ := h3 (by omega)
    exact ⟨g, off, hA⟩)
  rw [hz] at h1 hbl HB ⊢
  clear h3 hz
  have HALL := Lib.hid (show (([] : List Bs) ++ (allR (b.drop 0)).1, 0 + (allR (b.drop 0)).2) = (L, n) by rw [List.drop_zero, List.nil_append, Nat.zero_add]; exact H.out)
  clear H
  go_enter Try.func22, Try.ntmps22
  go_wp2
  go_loopw [4, 5, 6, 7, 8] (fun vo va _ _ _ wr => ∃ (k : Nat) (P : List Bs), va = .int .i64 (k : Int) ∧ k ≤ z ∧ P.length ≤ k ∧ Lsts wr w.heap.size vo P ∧ Own w wr ∧ (P ++ (allR (b.drop k)).1, k + (allR (b.drop k)).2) = (L, n)) (fun _ va _ _ _ _ => z - (intOf va).toNat)
  case atStart => exact ⟨0, [], rfl, Nat.zero_le _, Nat.le_refl _, lsts_nil w _, Own.refl w, HALL.out⟩
  case round =>
    obtain ⟨k, P, rfl, hk, hpk, hlst, q, hall⟩ := hrel
    have HLST := Lib.hid hlst
    obtain ⟨f, hf⟩ : ∃ t, openE (b.drop k) = t := ⟨_, rfl⟩
    have HBR := Lib.hid (HB.out.own q)
    by_cases c : f = 0
    · subst c
      obtain ⟨s1, s2, s3⟩ := open_size hf
      rw [all_step hf] at hall
      obtain ⟨V, hV⟩ : ∃ t, openV (b.drop k) = t := ⟨_, rfl⟩
      obtain ⟨m, hm⟩ : ∃ t, openK (b.drop k) = t := ⟨_, rfl⟩
      have HT := Lib.hid (And.intro hf (And.intro hV hm))
      rw [hm, List.length_drop, HBZ.out] at s2
      rw [hm] at s1
      rw [hV, hm, List.drop_drop] at hall
      have HN := Lib.hid (show ((P ++ [V]) ++ (allR (b.drop (k + m))).1, (k + m) + (allR (b.drop (k + m))).2) = (L, n) by rw [← hall, List.append_assoc, Nat.add_assoc]; rfl)
      obtain ⟨g, off, rfl⟩ := HA.out (by omega)
      have hck : ¬ cap = k := by omega
      have HCD := Lib.hid (cel_suf HBR.out hk)
      have i2 : IntKind.i64.wrap ((k : Int) + m) = (k : Int) + m := IntWalk.i64_in _ (by omega)
      obtain ⟨vs, hvl, hrow, hrows⟩ := hlst
      have HROW := Lib.hid hrow
      have HROWS := Lib.hid hrows
      have HVL := Lib.hid hvl
      have hkm : k + m ≤ z := by omega
      have hp1 : P.length + 1 ≤ k + m := by omega
      have hm1 : 1 ≤ m := by omega
      have K1 := Lib.hid (show P.length + [Value.slice none 0 0].length = P.length + 1 from rfl)
      have K2 := Lib.hid (show P.length + 1 ≤ maxLen by unfold maxLen; omega)
      have K3 := Lib.hid (show (P.length + 1) * 24 ≤ 140737488355328 by omega)
      clear hf hV hm s1 s2 s3 hall hrow hrows hvl
      go_wp2_with (first
        | (go_at_call 20; with_reducible refine (ropen_at (b.drop k) V _ 0 m _ HCD HT).mono ?_; rintro e w3 ⟨v3, rfl, hown3, q3⟩; have HR3 := Lib.hid (World.ownsRow.alloc (row_down hown3 q.size) (.cells #[v3] 23)); have q4 := (q.trans q3).alloc (.cells #[v3] 23); have HRO := Lib.hid (row_own HROW.out (q3.alloc (.cells #[v3] 23))); obtain ⟨A3, c3, rfl⟩ := row_shape hown3; have HCE := Lib.hid (cel_new (w := w3) (T := 23) (cs := #[.slice A3 V.length c3]) (xs := [.slice A3 V.length c3]) (k := 1) rfl rfl (by unfold maxLen; decide)); have q34 := q3.alloc (.cells #[.slice A3 V.length c3] 23); clear hown3)
        | (at_builtin; refine wpList_append_k (by go_simp) _ _ 37 rfl w.heap.size 23 i0 (.slice none 0 0) 24 Try.underlying37 HI.out HZ0.out HZ1.out HZ2.out rfl _ P.length vs rfl HRO.out _ [.slice A3 V.length c3] rfl HCE.out (fun u hu => by rw [List.mem_singleton.1 hu]; rfl) (P.length + 1) rfl K2.out K3.out q4.size ?_; intro v5 w5 hown5 hgr5; have q5 := row_after q4 HRO.out hgr5 (Nat.le_refl _); have HL5 := Lib.hid (lsts_more HVL.out HRO.out (fun i hi u hu => row_own (HROWS.out i hi u hu) q34) HR3.out hgr5 hown5); clear hown5 hgr5))
      go_roundw
      case rel => exact ⟨k + m, P ++ [V], by go_num, hkm, by rw [List.length_append]; exact hp1, HL5.out, q5, HN.out⟩
      case measure => simp [intOf]; omega
    · obtain ⟨b1, b2⟩ := open_bad (b := b.drop k) (by rw [hf]; exact c)
      have HT := Lib.hid (show openE (b.drop k) = f ∧ openV (b.drop k) = [] ∧ openK (b.drop k) = 0 from ⟨hf, b1, b2⟩)
      rw [all_stop (by rw [hf]; exact c), List.append_nil, Nat.add_zero] at hall
      injection hall with a1 a2
      subst a1
      subst a2
      have d1 : (f == 0) = false := beq_eq_false_iff_ne.2 c
      have HBL := Lib.hid (show ∀ a : Option Addr, k = z → Cel wr (.slice a 0 0) (cellsU (b.drop k)) from fun a e => by
        rw [List.drop_of_length_le (by rw [HBZ.out]; omega)]
        exact ⟨a, 0, rfl, Nat.le_refl _, Nat.zero_le _, fun h => absurd h (by simp [cellsU])⟩)
      clear hf b1 b2 hlst c
      by_cases hck : cap = k
      · have hzk : z = k := by omega
        subst hzk
        subst hck
        have HCD := Lib.hid (HBL.out A rfl)
        go_wp2_with (go_at_call 20; with_reducible refine (ropen_at _ [] _ f 0 _ HCD HT).mono ?_; rintro e w3 ⟨v3, rfl, _, q3⟩)
        go_ret2
        exact ⟨_, rfl, HLST.out.own q3, q.trans q3⟩
      · by_cases h0 : 0 < z
        · obtain ⟨g, off, rfl⟩ := HA.out h0
          have HCD := Lib.hid (cel_suf HBR.out hk)
          go_wp2_with (go_at_call 20; with_reducible refine (ropen_at _ [] _ f 0 _ HCD HT).mono ?_; rintro e w3 ⟨v3, rfl, _, q3⟩)
          go_ret2
          exact ⟨_, rfl, HLST.out.own q3, q.trans q3⟩
        · obtain rfl : z = 0 := by omega
          obtain rfl : k = 0 := by omega
          cases A with
          | none =>
            have HCD := Lib.hid (show Cel wr (.slice none 0 cap) (cellsU (b.drop 0)) by rw [List.drop_zero]; exact HBR.out)
            go_wp2_with (go_at_call 20; with_reducible refine (ropen_at _ [] _ f 0 _ HCD HT).mono ?_; rintro e w3 ⟨v3, rfl, _, q3⟩)
            go_ret2
            exact ⟨_, rfl, HLST.out.own q3, q.trans q3⟩
          | some ad =>
            have HCD := Lib.hid (show Cel wr (.slice (some ad) 0 cap) (cellsU (b.drop 0)) by rw [List.drop_zero]; exact HBR.out)
            go_wp2_with (go_at_call 20; with_reducible refine (ropen_at _ [] _ f 0 _ HCD HT).mono ?_; rintro e w3 ⟨v3, rfl, _, q3⟩)
            go_ret2
            exact ⟨_, rfl, HLST.out.own q3, q.trans q3⟩
end Go.Proofs.Ytbplglndcagglaa.CrcW
