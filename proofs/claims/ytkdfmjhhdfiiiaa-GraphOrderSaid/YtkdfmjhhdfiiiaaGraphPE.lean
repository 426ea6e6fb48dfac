/-
  Walks of the program's reached, Reach; of slices.Reverse; and of the program's Path. Condition: none.
-/
import Derived.Test.YtkdfmjhhdfiiiaaGraphPD
import Derived.Test.YtkdfmjhhdfiiiaaGraphPA
namespace Go.Proofs.Ytkdfmjhhdfiiiaa.GraW
open Go.ChangeShapes Go.WideShapes Go.ChangeAt Go.RowKit
open PairW CelW GraP TabW HepP
open HepW (Gr Rw)
/-- What is reached from one of the nodes of a list. -/
def rcs (n : Nat) (l : List Ar) (st : List Nat) (b : Nat) : Bool := st.any fun s => rch n l s b
def rcsV (n : Nat) (l : List Ar) (st : List Nat) : List Bool := (List.range n).map (rcs n l st)
theorem rcsV_len (n : Nat) (l : List Ar) (st : List Nat) : (rcsV n l st).length = n := by unfold rcsV; rw [List.length_map, List.length_range]
theorem rcsV_at {n : Nat} {l : List Ar} {st : List Nat} {b : Nat} (h : b < n) : (rcsV n l st)[b]? = some (rcs n l st b) := by unfold rcsV; rw [List.getElem?_map, List.getElem?_range h]; rfl
theorem rcsV_one (n : Nat) (l : List Ar) (a : Nat) : rcsV n l [a] = rchV n l a := by
  unfold rcsV rchV rcs
  simp
theorem sr_reach {n : Nat} {l : List Ar} {st : List Nat} {B : List Int} (G : Fit n l) (h : SrOk n l st (-1) B) : B.length = n ∧ ∀ b, b < n → ∃ v, B[b]? = some v ∧ (v != -1) = rcs n l st b := by
  obtain ⟨Q, K, p, T, hs, hc⟩ := h
  have hc : Q.length ≤ p ∧ T = [] := hc.resolve_right (by rintro ⟨b, hb, _⟩; omega)
  obtain ⟨hp, rfl⟩ := hc
  refine ⟨hs.bl, fun b hb => ?_⟩
  by_cases hq : b ∈ Q
  · obtain ⟨y, hy⟩ := hs.mark hq
    refine ⟨_, hy, ?_⟩
    obtain ⟨i, hi, e⟩ := List.mem_iff_getElem.1 hq
    obtain ⟨s, h1, h2⟩ := hs.sound G i b (by rw [List.getElem?_eq_getElem hi, e])
    rw [bne_iff_ne.2 (by omega)]
    unfold rcs
    exact (List.any_eq_true.2 ⟨s, h1, h2⟩).symm
  · refine ⟨_, hs.un b hb hq, ?_⟩
    have : rcs n l st b = false := by
      unfold rcs
      rw [List.any_eq_false]
      intro s h1 h2
      exact hq (hs.whole G hp h1 h2)
    rw [this]
    rfl
set_option maxRecDepth 100000 in
set_option maxHeartbeats 4000000 in
theorem preached_at (n : Nat) (l : List Ar) (st : List Nat) (vn vs : Value) (w : World) (HN : Hid (Cels w vn (rowF n l))) (HS : Hid (Cel w vs (cellsI (ints st)))) (HD : Hid st.Nodup) (HL : Hid (∀ x ∈ st, x < n)) (HG : Hid (Fit n l)) (hn : n ≤ 64) :
    Calls Try.prog 36 #[vn, vs] w fun e w' => ∃ g, e = .returned (.slice (some ⟨g, 0, none⟩) n n) ∧ w'.ownsRow w.heap.size 4 1 (.slice (some ⟨g, 0, none⟩) n n) n (cellsT (rcsV n l st)) ∧ Own w w' := by
  obtain ⟨i0, hi, hz0, hz1, hz2⟩ := info_parts (show (Try.prog.info? 4).map (fun i => (i.zero, i.size, i.bytes)) = some (some (.bool false), 1, 1) by kernel_rfl)
  have HI := Lib.hid hi
  have HZ0 := Lib.hid hz0
  have HZ1 := Lib.hid hz1
  have HBY := Lib.hid (show i0.bytes * n ≤ 281474976710656 by rw [hz2]; omega)
  have HMX := Lib.hid (show n ≤ maxLen by unfold maxLen; omega)
  have HZL := Lib.hid (show (madeCells (Value.bool false).cells (n * 1)).toList = cellsT (List.replicate n false) by rw [Nat.mul_one]; show (madeCells #[Value.bool false] n).toList = _; rw [toList_madeCells_one]; unfold cellsT; rw [List.map_replicate])
  clear hi hz0 hz1 hz2
  obtain ⟨An, cn, rfl, n1, n2, _⟩ := cels_open HN.out
  rw [rowF_len] at n1 HN ⊢
  unfold maxLen at n2
  obtain ⟨As, cs, rfl, _⟩ := cel_form HS.out
  go_enter Try.func36, Try.ntmps36
  go_upto_region 2 with (at_make; refine wpList_make_full _ rfl _ _ 33 rfl w.heap.size 4 i0 (.bool false) 1 Try.underlying33 HI.out HZ0.out HZ1.out _ _ _ _ n rfl rfl rfl rfl HBY.out HMX.out (Nat.le_refl _) ?_; intro w3 hown3 hg3; have q3 := (Own.refl w).grown hg3 (by simp); have HR3 := Lib.hid (show w3.ownsRow w.heap.size 4 1 (.slice (some ⟨w.heap.size, 0, none⟩) n n) n (cellsT (List.replicate n false)) from HZL.out ▸ hown3); clear hown3 hg3)
  have HN3 := Lib.hid (HN.out.own q3)
  have HS3 := Lib.hid (HS.out.own q3)
  obtain ⟨g, hgg⟩ : ∃ g, w.heap.size = g := ⟨_, rfl⟩
  have HGG := Lib.hid hgg
  rw [hgg] at HR3 ⊢
  clear hgg
  go_wp2_with (go_at_call 37; refine (psearch_at n l st _ _ (-1) _ HN3 HS3 HD HL HG hn).mono ?_; rintro e w4 ⟨g4, B, rfl, hr4, q4, hsr⟩; have HR4 := Lib.hid hr4; have HSR := Lib.hid (sr_reach HG.out hsr); have HRB := Lib.hid (row_own HR3.out q4); have q34 := q3.trans q4; clear hr4 hsr)
  go_loopw [6, 7, 15] (fun _ _ vi wr => ∃ (k : Nat) (R : List Bool), vi = .int .i64 (k : Int) ∧ k ≤ n ∧ Own w wr ∧ wr.ownsRow w3.heap.size 3 1 (.slice (some ⟨g4, 0, none⟩) n n) n (cellsI B) ∧ wr.ownsRow g 4 1 (.slice (some ⟨g, 0, none⟩) n n) n (cellsT R) ∧ R.length = n ∧ ∀ b, b < k → R[b]? = some (rcs n l st b)) (fun _ _ vi _ => n - (intOf vi).toNat)
  case atStart => exact ⟨0, _, rfl, Nat.zero_le _, q34, HR4.out, HRB.out, List.length_replicate, fun b hb => absurd hb (Nat.not_lt_zero _)⟩
  case round =>
    clear HR4 HRB q34 q4
    obtain ⟨k, R, rfl, hk, q, hrow, hrb, hrl, hok⟩ := hrel
    by_cases hlt : k < n
    · obtain ⟨v, hv, hvr⟩ := HSR.out.2 k hlt
      obtain ⟨v', e0, hv', _⟩ := row_int hrow HSR.out.1 hlt
      rw [hv] at hv'
      injection hv' with hv'
      subst hv'
      obtain ⟨bb, e1, _, f1⟩ := row_bool hrb hrl hlt
      obtain ⟨t, ht⟩ : ∃ t, rcs n l st k = t := ⟨_, rfl⟩
      rw [ht] at hvr
      have hne : g4 ≠ g := fun e => by
        rcases rows_apart hrow hrb (by decide) with r | r
        · cases r
        · exact r (by rw [e])
      have HROW := Lib.hid (row_set hrow (p := ⟨g, k, none⟩) (fun e => hne e.symm) (.bool t))
      have HRB := Lib.hid (row_put hrb k t)
      have QS := Lib.hid (q.setCell (p := ⟨g, k, none⟩) (Nat.le_of_eq HGG.out) (.bool t))
      have HOK := Lib.hid (show ∀ b, b < k + 1 → (R.set k t)[b]? = some (rcs n l st b) from fun b hb => by
        rw [List.getElem?_set]
        by_cases e : k = b
        · subst e
          rw [if_pos rfl, if_pos (by omega), ht]
        · rw [if_neg e]
          exact hok b (by omega))
      have HRL := Lib.hid (len_set (i := k) (v := t) hrl)
      have hkn : (k : Int) < n := by omega
      clear hv ht hrow hrb hrl hok
      go_wp2
      go_roundw
      case rel => exact ⟨k + 1, _, by go_num, hlt, QS.out, HROW.out, HRB.out, HRL.out, HOK.out⟩
      case measure => simp [intOf]; omega
    · obtain rfl : k = n := by omega
      have hR : R = rcsV k l st := List.ext_getElem? fun i => by
        by_cases hi : i < k
        · rw [hok i hi, rcsV_at hi]
        · rw [List.getElem?_eq_none (by omega), List.getElem?_eq_none (by rw [rcsV_len]; omega)]
      subst hR
      have HRB := Lib.hid hrb
      clear hrow hrb hok
      go_wp2
      go_ret
      exact ⟨g, rfl, by rw [HGG.out]; exact HRB.out, q⟩
set_option maxRecDepth 100000 in
set_option maxHeartbeats 2000000 in
theorem preach_at (N a : Int) (l : List Ar) (sv : Value) (f : Int) (V : List Bool) (w : World) (HP : Hid (Pts w sv l)) (H : Hid (reaE N l a = f ∧ reaV N l a = V)) :
    Calls Try.prog 18 #[grV N sv, .int .i64 a] w fun e w' => ∃ v, e = .returned (.tuple #[v, .int .i64 f]) ∧ w'.ownsRow w.heap.size 4 1 v V.length (cellsT V) ∧ Own w w' := by
  obtain ⟨ce, hce⟩ : ∃ f, chkE N l = f := ⟨_, rfl⟩
  have HCE := Lib.hid hce
  obtain ⟨A, cap, rfl, a1, a2, _⟩ := HP.out.open
  unfold maxLen at a2
  obtain ⟨m, hm⟩ : ∃ m, l.length = m := ⟨_, rfl⟩
  rw [hm] at a1 HP ⊢
  have HM := Lib.hid hm
  clear hm
  by_cases c0 : ce = 0
  · subst c0
    obtain ⟨b0, b1, b2, G⟩ := chk_ok.1 hce
    obtain ⟨n, rfl⟩ : ∃ n : Nat, N = n := ⟨N.toNat, by omega⟩
    rw [Int.toNat_natCast] at G
    have HG := Lib.hid G
    have hn64 : n ≤ 64 := by omega
    have hm512 : m ≤ 512 := by rw [← HM.out]; exact b2
    by_cases c1 : inN (n : Int) a = true
    · obtain ⟨n0, n1⟩ := inN_iff.1 c1
      obtain ⟨x, rfl⟩ : ∃ x : Nat, a = x := ⟨a.toNat, by omega⟩
      have hxn : x < n := by omega
      obtain ⟨rfl, rfl⟩ : 0 = f ∧ rchV n l x = V := by
        have h1 : reaE n l x = 0 := by unfold reaE; rw [if_neg (by rw [hce]; simp), if_pos c1]
        refine ⟨by rw [← H.out.1, h1], by rw [← H.out.2]; unfold reaV; rw [if_pos h1, Int.toNat_natCast, Int.toNat_natCast]⟩
      have HC1 := Lib.hid c1
      have HST := Lib.hid (show ∀ y ∈ [x], y < n from fun y hy => by rw [List.mem_singleton] at hy; omega)
      have HND := Lib.hid (show [x].Nodup by simp)
      clear hce H G c1 n0 n1 b0 b1 b2
      go_enter Try.func18, Try.ntmps18
      go_upto_region 1 with (fail)
      have k0 : (w.alloc (.cells #[.int .i64 (n : Int), .slice A m cap] 24)).cell? ⟨w.heap.size, 0, none⟩ = some (.int .i64 (n : Int)) := by go_simp
      have k1 : (w.alloc (.cells #[.int .i64 (n : Int), .slice A m cap] 24)).cell? ⟨w.heap.size, 1, none⟩ = some (.slice A m cap) := by go_simp
      have g0 : Own w (w.alloc (.cells #[.int .i64 (n : Int), .slice A m cap] 24)) := (Own.refl w).alloc _
      generalize hW : (w.alloc (.cells #[.int .i64 (n : Int), .slice A m cap] 24)) = W0 at *
      clear hW
      have HP0 := Lib.hid (HP.out.own g0)
      go_upto_region 6 with (first
        | (go_at_call 11; with_reducible refine (pcheck_at n l _ 0 _ HP0 HCE).mono ?_; rintro e w1 ⟨rfl, q1⟩; replace k0 := q1.cell k0; replace k1 := q1.cell k1; have p1 := q1)
        | (go_at_call 29; with_reducible refine (pnode_at n x _ _ _ true _ HC1).mono ?_; rintro e w2 ⟨rfl, q2⟩; replace k0 := q2.cell k0; replace k1 := q2.cell k1; have p2 := p1.trans q2; clear q2))
      have HP2 := Lib.hid (HP0.out.own p2)
      go_wp2_with (first
        | (go_at_call 32; refine (pfol_at n m l _ _ HP2 HG HM.out hm512 hn64).mono ?_; rintro e w4 ⟨g4, rfl, ht4, q4⟩; have HN5 := Lib.hid (ht4.cels.own ((Own.refl w4).alloc (.cells #[.int .i64 (x : Int)] 3))); have HS5 := Lib.hid (show Cel _ _ (cellsI (ints [x])) from cel_lit (w := w4) (T := 3) (cs := #[.int .i64 (x : Int)]) (xs := [.int .i64 (x : Int)]) (k := 1) rfl rfl (by unfold maxLen; decide)); have p5 := (p2.trans q4).alloc (.cells #[.int .i64 (x : Int)] 3); clear ht4 q4)
        | (go_at_call 36; refine (preached_at n l [x] _ _ _ HN5 HS5 HND HST HG hn64).mono ?_; rintro e w6 ⟨g6, rfl, hr6, q6⟩; have HR6 := Lib.hid hr6; clear hr6))
      go_ret2
      refine ⟨_, rfl, ?_, (g0.trans p5).trans q6⟩
      have h := row_down HR6.out (g0.trans p5).size
      rw [rcsV_one] at h
      rw [rchV_len]
      exact h
    · have c1 : inN (n : Int) a = false := Bool.eq_false_iff.2 c1
      obtain ⟨rfl, rfl⟩ : 6 = f ∧ [] = V := by
        have h1 : reaE n l a = 6 := by unfold reaE; rw [if_neg (by rw [hce]; simp), if_neg (by rw [c1]; simp)]
        exact ⟨by rw [← H.out.1, h1], by rw [← H.out.2, reaV_bad (by rw [h1]; decide)]⟩
      have HC1 := Lib.hid c1
      clear hce H G c1 b0 b1 b2
      go_enter Try.func18, Try.ntmps18
      go_upto_region 1 with (fail)
      have k0 : (w.alloc (.cells #[.int .i64 (n : Int), .slice A m cap] 24)).cell? ⟨w.heap.size, 0, none⟩ = some (.int .i64 (n : Int)) := by go_simp
      have k1 : (w.alloc (.cells #[.int .i64 (n : Int), .slice A m cap] 24)).cell? ⟨w.heap.size, 1, none⟩ = some (.slice A m cap) := by go_simp
      have g0 : Own w (w.alloc (.cells #[.int .i64 (n : Int), .slice A m cap] 24)) := (Own.refl w).alloc _
      generalize hW : (w.alloc (.cells #[.int .i64 (n : Int), .slice A m cap] 24)) = W0 at *
      clear hW
      have HP0 := Lib.hid (HP.out.own g0)
      go_wp2_with (first
        | (go_at_call 11; with_reducible refine (pcheck_at n l _ 0 _ HP0 HCE).mono ?_; rintro e w1 ⟨rfl, q1⟩; replace k0 := q1.cell k0; replace k1 := q1.cell k1; have p1 := q1)
        | (go_at_call 29; with_reducible refine (pnode_at n a _ _ _ false _ HC1).mono ?_; rintro e w2 ⟨rfl, q2⟩; replace k0 := q2.cell k0; replace k1 := q2.cell k1; have p2 := p1.trans q2; clear q2))
      go_ret2
      exact ⟨_, rfl, World.ownsRow_nil _ _ _ _, g0.trans p2⟩
  · obtain ⟨rfl, rfl⟩ : ce = f ∧ [] = V := by
      have h1 : reaE N l a = ce := by unfold reaE; rw [if_pos (by rw [hce]; exact c0), hce]
      exact ⟨by rw [← H.out.1, h1], by rw [← H.out.2, reaV_bad (by rw [h1]; exact c0)]⟩
    have d1 : (ce == 0) = false := beq_eq_false_iff_ne.2 c0
    have d2 : (ce != 0) = true := bne_iff_ne.2 c0
    clear hce H
    go_enter Try.func18, Try.ntmps18
    go_upto_region 1 with (fail)
    have k0 : (w.alloc (.cells #[.int .i64 N, .slice A m cap] 24)).cell? ⟨w.heap.size, 0, none⟩ = some (.int .i64 N) := by go_simp
    have k1 : (w.alloc (.cells #[.int .i64 N, .slice A m cap] 24)).cell? ⟨w.heap.size, 1, none⟩ = some (.slice A m cap) := by go_simp
    have g0 : Own w (w.alloc (.cells #[.int .i64 N, .slice A m cap] 24)) := (Own.refl w).alloc _
    generalize hW : (w.alloc (.cells #[.int .i64 N, .slice A m cap] 24)) = W0 at *
    clear hW
    have HP0 := Lib.hid (HP.out.own g0)
    go_wp2_with (go_at_call 11; with_reducible refine (pcheck_at N l _ ce _ HP0 HCE).mono ?_; rintro e w1 ⟨rfl, q1⟩; replace k0 := q1.cell k0; replace k1 := q1.cell k1; have p1 := q1)
    go_ret2
    exact ⟨_, rfl, World.ownsRow_nil _ _ _ _, g0.trans p1⟩
/-- A list that is turned round from both ends, the first i of each side. -/
structure Rv (H : List Nat) (n i : Nat) (H' : List Nat) : Prop where
  len : H'.length = n + 1
  low : 2 * i ≤ n + 1
  at' : ∀ k, k ≤ n → hx H' k = if k < i ∨ n < k + i then hx H (n - k) else hx H k
theorem rv_start {H : List Nat} {n : Nat} (hl : H.length = n + 1) : Rv H n 0 H := ⟨hl, Nat.zero_le _, fun k hk => by rw [if_neg (by omega)]⟩
theorem Rv.step {H H' : List Nat} {n i : Nat} (h : Rv H n i H') (hi : i < n - i) : Rv H n (i + 1) (sw H' i (n - i)) := by
  have hl := h.len
  refine ⟨by rw [sw_len]; exact hl, by omega, fun k hk => ?_⟩
  rw [sw_hx (by omega) (by omega)]
  by_cases c1 : k = n - i
  · rw [if_pos c1, if_pos (by omega), h.at' i (by omega), if_neg (by omega), c1]
    congr 1
    omega
  · rw [if_neg c1]
    by_cases c2 : k = i
    · rw [if_pos c2, if_pos (by omega), h.at' (n - i) (by omega), if_neg (by omega), c2]
    · rw [if_neg c2, h.at' k hk]
      by_cases c3 : k < i ∨ n < k + i
      · rw [if_pos c3, if_pos (by omega)]
      · rw [if_neg c3, if_neg (by omega)]
theorem Rv.stop {H H' : List Nat} {n i : Nat} (h : Rv H n i H') (hl : H.length = n + 1) (hi : ¬ i < n - i) : H' = H.reverse := by
  refine List.ext_getElem? fun k => ?_
  by_cases hk : k ≤ n
  · rw [hx_get (by rw [h.len]; omega), List.getElem?_reverse (by omega), hx_get (by omega), h.at' k hk, hl]
    have e : n + 1 - 1 - k = n - k := by omega
    rw [e]
    by_cases c : k < i ∨ n < k + i
    · rw [if_pos c]
    · rw [if_neg c]
      have := h.low
      congr 2
      omega
  · rw [List.getElem?_eq_none (by rw [h.len]; omega), List.getElem?_eq_none (by rw [List.length_reverse]; omega)]
set_option maxRecDepth 100000 in
set_option maxHeartbeats 2000000 in
theorem prev_at (base g n c : Nat) (H : List Nat) (w : World) (HR : Hid (Rw w base g (n + 1) c H)) :
    Calls Try.prog 38 #[.slice (some ⟨g, 0, none⟩) (n + 1) c] w fun e w' => e = .returned (.tuple #[]) ∧ Rw w' base g (n + 1) c H.reverse ∧ Gr w w' g := by
  have hb := HR.out.bounds
  obtain ⟨_, _, b1, b2⟩ := hb
  unfold maxLen at b2
  have HRV := Lib.hid (rv_start HR.out.len)
  have HL := Lib.hid HR.out.len
  go_enter Try.func38, Try.ntmps38
  go_wp2
  go_loopw [2, 3] (fun vi vj wr => ∃ (i : Nat) (H' : List Nat), vi = .int .i64 (i : Int) ∧ i ≤ n ∧ vj = .int .i64 ((n : Int) - i) ∧ Rv H n i H' ∧ Rw wr base g (n + 1) c H' ∧ Gr w wr g) (fun vi _ _ => n - (intOf vi).toNat)
  case atStart => exact ⟨0, H, rfl, Nat.zero_le _, by go_num, HRV.out, HR.out, HepW.Gr.refl w g⟩
  case round =>
    clear HRV
    obtain ⟨i, H', rfl, hin, rfl, hrv, hrw, q⟩ := hrel
    obtain ⟨j, hj⟩ : ∃ j : Nat, n - i = j := ⟨_, rfl⟩
    have ej : (n : Int) - i = (j : Int) := by omega
    rw [ej]
    by_cases hlt : i < j
    · obtain ⟨c0, f0⟩ := hrw.at (i := i) (by omega)
      obtain ⟨c1, f1⟩ := hrw.at (i := j) (by omega)
      have hji : j ≠ i := by omega
      have hij : i ≠ j := by omega
      have hltz : (i : Int) < j := by omega
      have hi2 : (i : Int) < n + 1 := by omega
      have hj2 : (j : Int) < n + 1 := by omega
      have HRV := Lib.hid (show Rv H n (i + 1) (sw H' i j) by rw [← hj]; exact hrv.step (by omega))
      have HRW := Lib.hid ((hrw.put i (hx H' j)).put j (hx H' i))
      have HQ := Lib.hid (((q.set i (.int .i64 (hx H' j : Int))).set j (.int .i64 (hx H' i : Int))).drew)
      have HJ := Lib.hid hj
      have hi1 : i + 1 ≤ n := by omega
      obtain ⟨x, hx1⟩ : ∃ x, hx H' i = x := ⟨_, rfl⟩
      obtain ⟨y, hx2⟩ : ∃ x, hx H' j = x := ⟨_, rfl⟩
      have HSW := Lib.hid (show sw H' i j = (H'.set i y).set j x by rw [← hx1, ← hx2]; rfl)
      rw [hx1] at c0
      rw [hx2] at c1
      rw [hx1, hx2] at HRW HQ
      clear hx1 hx2 hrv hrw hj ej
      go_upto_region 3 with (fail)
      go_region
      go_wp2
      go_roundw
      case rel =>
        refine ⟨i + 1, sw H' i j, by go_num, hi1, ?_, HRV.out, by rw [HSW.out]; exact HRW.out, HQ.out⟩
        have := HJ.out
        first | (congr 1; omega) | (congr 2; omega)
      case measure => simp [intOf]; omega
    · have HE := Lib.hid (hrv.stop HL.out (by omega))
      have HRW := Lib.hid hrw
      have hltz : ¬ (i : Int) < j := by omega
      clear hrv hrw ej hj
      go_wp2
      go_end0
      exact ⟨rfl, by rw [← HE.out]; exact HRW.out, q⟩
end Go.Proofs.Ytkdfmjhhdfiiiaa.GraW
