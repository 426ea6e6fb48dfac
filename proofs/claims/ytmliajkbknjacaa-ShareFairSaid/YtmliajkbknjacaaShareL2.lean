/-
  Package share: the laws ShareScales, ShareEven walked, over what they ask of the program. Condition: none.
-/
import Derived.Test.YtmliajkbknjacaaShareT
namespace Go.Proofs.Ytmliajkbknjacaa.ShaW
open Go.ChangeShapes Go.WideShapes Go.ChangeAt Go.RowKit
open PairW CelW MchW ShaP
open AsgP (su su_zero su_succ)
section
variable (S : ShaC)
include S
set_option maxRecDepth 100000 in
set_option maxHeartbeats 8000000 in
theorem lscales_at (t : Int) (ws : List Int) (b : Int) (v : Value) (w : World) (hb : I64 t) (HB : Hid (∀ x ∈ ws, I64 x)) (HV : Hid (Cel w v (cellsI ws))) :
    Calls Try.prog 6 #[.int .i64 t, v, .int .i64 b] w fun e w' => e = .returned (.bool true) ∧ Own w w' := by
  obtain ⟨A, cap, rfl, h1, h2, h3⟩ := cel_int HV.out
  unfold maxLen at h2
  obtain ⟨n, hn⟩ : ∃ n, ws.length = n := ⟨_, rfl⟩
  rw [hn] at h1 h3 HV ⊢
  have HN := Lib.hid hn
  have H3 := Lib.hid h3
  have hc : 60 < n ∨ (¬ 60 < n ∧ b < 1) ∨ (¬ 60 < n ∧ ¬ b < 1 ∧ 1000 < b) ∨ (¬ 60 < n ∧ ¬ b < 1 ∧ ¬ 1000 < b) := by omega
  clear hn h3
  by_cases hok : ¬ 60 < n ∧ ¬ b < 1 ∧ ¬ 1000 < b
  · obtain ⟨k1, k2, k3⟩ := hok
    have a1 : ¬ (60 : Int) < n := by omega
    have hn6 : n ≤ 60 := by omega
    have b1 : 1 ≤ b := by omega
    have b2 : b ≤ 1000 := by omega
    have c1 : decide (b < 1) = false := decide_eq_false (by omega)
    have c2 : decide (1000 < b) = false := decide_eq_false (by omega)
    have c3 : decide ((60 : Int) < (n : Int)) = false := decide_eq_false (by omega)
    have c4 : decide (60 < n) = false := decide_eq_false (by omega)
    obtain ⟨ii, hi, hz0, hz1, hz2⟩ := info_parts (show (Try.prog.info? 3).map (fun i => (i.zero, i.size, i.bytes)) = some (some (.int .i64 0), 1, 8) by kernel_rfl)
    have HI := Lib.hid hi
    have HZ0 := Lib.hid hz0
    have HZ1 := Lib.hid hz1
    have HZ2 := Lib.hid hz2
    clear hi hz0 hz1 hz2 hc k1 k2 k3
    go_enter Try.func6, Try.ntmps6
    go_wp2
    go_loopw [7, 8] (fun v7 v8 wr => ∃ (i : Nat) (A1 : Option Addr) (c1 : Nat), v7 = .slice A1 i c1 ∧ v8 = .int .i64 (i : Int) ∧ i ≤ n ∧ Own w wr ∧ wr.ownsRow w.heap.size 3 1 (.slice A1 i c1) i (cellsI (mpF (fun k => wF ws k * b) i)) ∧ ∀ k, k < i → okW (wF ws k) = true) (fun _ v8 _ => n - (intOf v8).toNat)
    case atStart => exact ⟨0, none, 0, rfl, rfl, Nat.zero_le _, Own.refl _, World.ownsRow_nil _ _ _ _, fun k h => absurd h (Nat.not_lt_zero _)⟩
    case round =>
      obtain ⟨i, A1, cp, rfl, rfl, hi, hq, hrow, hok⟩ := hrel
      have HQ := Lib.hid hq
      have HROW := Lib.hid hrow
      have HOK := Lib.hid hok
      clear hq hrow hok
      by_cases hlt : i < n
      · have hin : (i : Int) < n := by omega
        obtain ⟨g, off, rfl, h4⟩ := H3.out (by omega)
        have e0 := HQ.out.cell (h4 i _ (wF_cell (by rw [HN.out]; exact hlt)))
        obtain ⟨x, hx⟩ : ∃ x, wF ws i = x := ⟨_, rfl⟩
        rw [hx] at e0
        have HX := Lib.hid hx
        clear hx h4
        by_cases hx0 : x < 0
        · go_wp2_with (go_at_call 9; with_reducible refine (awake_at S _).mono ?_; rintro e w9 ⟨rfl, q9⟩; have Q9 := Lib.hid q9; clear q9)
          go_ret
          exact ⟨rfl, HQ.out.trans Q9.out⟩
        · by_cases hx1 : 1099511627776 < x
          · go_wp2_with (go_at_call 9; with_reducible refine (awake_at S _).mono ?_; rintro e w9 ⟨rfl, q9⟩; have Q9 := Lib.hid q9; clear q9)
            go_ret
            exact ⟨rfl, HQ.out.trans Q9.out⟩
          · have HOX := Lib.hid (show okW x = true from okW_iff.2 ⟨by omega, by omega⟩)
            obtain ⟨p, hp⟩ : ∃ p, x * b = p := ⟨_, rfl⟩
            have hpb : 0 ≤ p ∧ p ≤ 1099511627776000 := by
              rw [← hp]
              have h1 := Int.mul_nonneg (show 0 ≤ x by omega) (show 0 ≤ b by omega)
              have h2 : x * b ≤ 1099511627776 * b := Int.mul_le_mul_of_nonneg_right (by omega) (by omega)
              omega
            obtain ⟨hp0, hp1⟩ := hpb
            have HM1 := Lib.hid (show cellsI (mpF (fun k => wF ws k * b) (i + 1)) = cellsI (mpF (fun k => wF ws k * b) i) ++ [.int .i64 p] by rw [mpF_succ, cellsI_app, HX.out, hp]; rfl)
            have q6 := (Own.refl wr).alloc (.cells #[.int .i64 p] 3)
            have HRO := Lib.hid (row_own HROW.out q6)
            have HCE := Lib.hid (cel_lit (w := wr) (T := 3) (cs := #[.int .i64 p]) (xs := [.int .i64 p]) (k := 1) rfl rfl (by unfold maxLen; decide))
            have HQ6 := Lib.hid (HQ.out.trans q6)
            have K2 := Lib.hid (show i + 1 ≤ maxLen by unfold maxLen; omega)
            have K3 := Lib.hid (show (i + 1) * 8 ≤ 140737488355328 by omega)
            clear q6
            go_wp2_with (at_builtin; refine wpList_append_f (by go_simp) _ _ 22 rfl w.heap.size 3 ii (.int .i64 0) 8 Try.underlying22 HI.out HZ0.out HZ1.out HZ2.out rfl (.slice A1 i cp) i (cellsI (mpF (fun k => wF ws k * b) i)) rfl HRO.out _ [.int .i64 p] rfl HCE.out (fun x hx => by rw [List.mem_singleton.1 hx]; rfl) (i + 1) rfl K2.out K3.out HQ6.out.size ?_; intro v8 w8 hown8 hgr8 _; obtain ⟨A8, c8, rfl⟩ := rows_shape hown8; have HOWN8 := Lib.hid hown8; have HQ8 := Lib.hid (row_after HQ6.out HRO.out hgr8 (Nat.le_refl _)); clear hown8 hgr8)
            go_roundw
            case rel => exact ⟨i + 1, A8, c8, rfl, by go_num, hlt, HQ8.out, by rw [HM1.out]; exact HOWN8.out, fun k hk => by
              by_cases e : k = i
              · subst e; rw [HX.out]; exact HOX.out
              · exact HOK.out k (by omega)⟩
            case measure => simp [intOf]; omega
      · obtain rfl : n = i := by omega
        have hall : ws.all okW = true := all_mk (ws := ws) (by rw [HN.out]; exact HOK.out)
        obtain ⟨f1, hf1⟩ : ∃ f, splE t ws = f := ⟨_, rfl⟩
        obtain ⟨f2, hf2⟩ : ∃ f, splE t (mpF (fun k => wF ws k * b) n) = f := ⟨_, rfl⟩
        obtain ⟨M1, hm1⟩ : ∃ M, splV t ws = M := ⟨_, rfl⟩
        obtain ⟨M2, hm2⟩ : ∃ M, splV t (mpF (fun k => wF ws k * b) n) = M := ⟨_, rfl⟩
        have HMB := Lib.hid (show ∀ x ∈ mpF (fun k => wF ws k * b) n, I64 x from fun x hx => by
          unfold mpF at hx
          obtain ⟨k, hk, rfl⟩ := List.mem_map.1 hx
          have hk := List.mem_range.1 hk
          obtain ⟨x0, x1⟩ := all_at hall (i := k) (by rw [HN.out]; exact hk)
          have g1 := Int.mul_nonneg x0 (show 0 ≤ b by omega)
          have g2 : wF ws k * b ≤ 1099511627776 * b := Int.mul_le_mul_of_nonneg_right x1 (by omega)
          unfold I64
          omega)
        have HE := Lib.hid (show f2 = 0 → f1 = 0 from fun e => by
          rw [← hf1]
          exact scale_e b1 hall (by rw [HN.out, hf2]; exact e))
        have HVV := Lib.hid (show f1 = 0 → f2 = 0 → M2 = M1 from fun e1 e2 => by
          rw [← hm1, ← hm2]
          have := scale_v (t := t) (ws := ws) (b := b) b1 (by rw [hf1]; exact e1) (by rw [HN.out, hf2]; exact e2)
          rwa [HN.out] at this)
        have HCM := Lib.hid (cel_of_row HROW.out)
        have hs1 := S.split t ws _ f1 M1 wr hb HB (Lib.hid (HV.out.own HQ.out)) (Lib.hid hf1) (Lib.hid hm1)
        have hs2 := fun w1 (h : Hid (Cel w1 (.slice A1 n cp) (cellsI (mpF (fun k => wF ws k * b) n)))) => S.split t (mpF (fun k => wF ws k * b) n) _ f2 M2 w1 hb HMB h (Lib.hid hf2) (Lib.hid hm2)
        have HS2 := Lib.hid hs2
        clear hall hf1 hf2 hm1 hm2 hs2
        go_upto_region 11 with (go_at_call 10; refine hs1.mono ?_; rintro e w1 ⟨x1, rfl, c1, q1⟩; have C1 := Lib.hid c1; have Q1 := Lib.hid (HQ.out.trans q1); have HCM1 := Lib.hid (HCM.out.own q1); clear c1 q1)
        go_upto_region 12 with (go_at_call 10; refine (HS2.out _ HCM1).mono ?_; rintro e w2 ⟨x2, rfl, c2, q2⟩; have C2 := Lib.hid c2; have D1 := Lib.hid (C1.out.own q2); have Q2 := Lib.hid (Q1.out.trans q2); clear c2 q2)
        by_cases z1 : f1 = 0
        · subst z1
          by_cases z2 : f2 = 0
          · subst z2
            obtain rfl := HVV.out rfl rfl
            go_wp2_with (first
              | (go_at_call 12; with_reducible refine (rsame_yes M2 _ _ _ D1 C2).mono ?_; rintro e w3 ⟨rfl, q3⟩; have Q3 := Lib.hid (Q2.out.trans q3); clear q3)
              | (go_at_call 9; with_reducible refine (awake_at S _).mono ?_; rintro e w9 ⟨rfl, q9⟩; have Q9 := Lib.hid q9; clear q9))
            go_ret
            exact ⟨rfl, Q3.out.trans Q9.out⟩
          · have d2 : (f2 != 0) = true := bne_iff_ne.2 z2
            clear z2
            go_wp2_with (go_at_call 9; with_reducible refine (awake_at S _).mono ?_; rintro e w9 ⟨rfl, q9⟩; have Q9 := Lib.hid q9; clear q9)
            go_ret
            exact ⟨rfl, Q2.out.trans Q9.out⟩
        · have d1 : (f1 != 0) = true := bne_iff_ne.2 z1
          have d2 : (f2 != 0) = true := bne_iff_ne.2 fun e => z1 (HE.out e)
          clear z1
          go_wp2_with (go_at_call 9; with_reducible refine (awake_at S _).mono ?_; rintro e w9 ⟨rfl, q9⟩; have Q9 := Lib.hid q9; clear q9)
          go_ret
          exact ⟨rfl, Q2.out.trans Q9.out⟩
  · have hc : 60 < n ∨ (¬ 60 < n ∧ b < 1) ∨ (¬ 60 < n ∧ ¬ b < 1 ∧ 1000 < b) := by omega
    clear hok
    rcases hc with k1 | ⟨k1, k2⟩ | ⟨k1, k2, k3⟩
    all_goals
      first
        | (have a1 : (60 : Int) < n := by omega)
        | (have a1 : ¬ (60 : Int) < n := by omega)
      go_enter Try.func6, Try.ntmps6
      go_wp2_with (go_at_call 9; with_reducible refine (awake_at S _).mono ?_; rintro e w9 ⟨rfl, q9⟩; have Q9 := Lib.hid q9; clear q9)
      go_ret
      exact ⟨rfl, Q9.out⟩
end
end Go.Proofs.Ytmliajkbknjacaa.ShaW
