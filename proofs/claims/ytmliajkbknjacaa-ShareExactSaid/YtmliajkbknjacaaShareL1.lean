/-
  Package share: the laws ShareSplits, ShareStages, ShareExact walked, over what they ask of the program. Condition: none.
-/
import Derived.Test.YtmliajkbknjacaaShareT
namespace Go.Proofs.Ytmliajkbknjacaa.ShaW
open Go.ChangeShapes Go.WideShapes Go.ChangeAt Go.RowKit
open PairW CelW MchW ShaP
open AsgP (su su_zero su_succ)
section
variable (S : ShaC)
include S
set_option maxRecDepth 100000 in
set_option maxHeartbeats 4000000 in
theorem lsplits_at (t : Int) (ws : List Int) (v : Value) (w : World) (hb : I64 t) (HB : Hid (∀ x ∈ ws, I64 x)) (HV : Hid (Cel w v (cellsI ws))) :
    Calls Try.prog 3 #[.int .i64 t, v] w fun e w' => e = .returned (.bool true) ∧ Own w w' := by
  obtain ⟨f, hf⟩ : ∃ f, splE t ws = f := ⟨_, rfl⟩
  obtain ⟨M, hm⟩ : ∃ M, splV t ws = M := ⟨_, rfl⟩
  have HF := Lib.hid hf
  have HM := Lib.hid hm
  clear hf hm
  have hsp := S.split t ws v f M w hb HB HV HF HM
  obtain ⟨A, cap, rfl, h1, h2, _⟩ := cel_int HV.out
  unfold maxLen at h2
  obtain ⟨n, hn⟩ : ∃ n, ws.length = n := ⟨_, rfl⟩
  rw [hn] at h1 HV hsp ⊢
  have hc : (520 < n ∨ (¬ 520 < n ∧ (100 < n ∧ n ≤ 512))) ∨ (¬ 520 < n ∧ ¬ 100 < n) ∨ (¬ 520 < n ∧ (100 < n ∧ ¬ n ≤ 512)) := by omega
  clear hn
  rcases hc with hc | hc
  · rcases hc with a | ⟨a, b, c⟩
    all_goals
      first
        | (have a1 : (520 : Int) < n := by omega)
        | (have a1 : ¬ (520 : Int) < n := by omega
           have a2 : (100 : Int) < n := by omega
           have a3 : (n : Int) ≤ 512 := by omega)
      go_enter Try.func3, Try.ntmps3
      go_wp2_with (go_at_call 9; with_reducible refine (awake_at S _).mono ?_; rintro e w9 ⟨rfl, q9⟩; have Q9 := Lib.hid q9; clear q9)
      go_ret
      exact ⟨rfl, Q9.out⟩
  · have df : (f == f) = true := beq_self_eq_true f
    rcases hc with ⟨a, b⟩ | ⟨a, b, c⟩
    all_goals
      first
        | (have a1 : ¬ (520 : Int) < n := by omega
           have a2 : ¬ (100 : Int) < n := by omega)
        | (have a1 : ¬ (520 : Int) < n := by omega
           have a2 : (100 : Int) < n := by omega
           have a3 : ¬ (n : Int) ≤ 512 := by omega)
      go_enter Try.func3, Try.ntmps3
      go_upto_region 4 with (go_at_call 10; refine hsp.mono ?_; rintro e w1 ⟨x1, rfl, c1, q1⟩; have C1 := Lib.hid c1; have Q1 := Lib.hid q1; have HV1 := Lib.hid (HV.out.own q1); clear c1 q1)
      go_upto_region 5 with (go_at_call 11; with_reducible refine (rsplit_at t ws _ f M _ HV1 HF HM).mono ?_; rintro e w2 ⟨x2, rfl, r2, q2⟩; have C2 := Lib.hid (cel_of_row r2); have D1 := Lib.hid (C1.out.own q2); have Q2 := Lib.hid (Q1.out.trans q2); clear r2 q2)
      go_wp2_with (first
        | (go_at_call 12; with_reducible refine (rsame_yes M _ _ _ D1 C2).mono ?_; rintro e w3 ⟨rfl, q3⟩; have Q3 := Lib.hid (Q2.out.trans q3); clear q3)
        | (go_at_call 9; with_reducible refine (awake_at S _).mono ?_; rintro e w9 ⟨rfl, q9⟩; have Q9 := Lib.hid q9; clear q9))
      go_ret
      exact ⟨rfl, Q3.out.trans Q9.out⟩
set_option maxRecDepth 100000 in
set_option maxHeartbeats 4000000 in
theorem lstages_at (t n : Int) (w : World) (hb : I64 t) (hb2 : I64 n) :
    Calls Try.prog 4 #[.int .i64 t, .int .i64 n] w fun e w' => e = .returned (.bool true) ∧ Own w w' := by
  obtain ⟨f, hf⟩ : ∃ f, staE t n = f := ⟨_, rfl⟩
  obtain ⟨M, hm⟩ : ∃ M, staV t n = M := ⟨_, rfl⟩
  have HF := Lib.hid hf
  have HM := Lib.hid hm
  clear hf hm
  have hst := S.stages t n f M w hb hb2 HF HM
  have df : (f == f) = true := beq_self_eq_true f
  go_enter Try.func4, Try.ntmps4
  go_upto_region 2 with (go_at_call 13; refine hst.mono ?_; rintro e w1 ⟨x1, rfl, c1, q1⟩; have C1 := Lib.hid c1; have Q1 := Lib.hid q1; clear c1 q1)
  go_upto_region 3 with (go_at_call 14; with_reducible refine (rstages_at t n f M _ HF HM).mono ?_; rintro e w2 ⟨x2, rfl, r2, q2⟩; have C2 := Lib.hid (cel_of_row r2); have D1 := Lib.hid (C1.out.own q2); have Q2 := Lib.hid (Q1.out.trans q2); clear r2 q2)
  go_wp2_with (first
    | (go_at_call 12; with_reducible refine (rsame_yes M _ _ _ D1 C2).mono ?_; rintro e w3 ⟨rfl, q3⟩; have Q3 := Lib.hid (Q2.out.trans q3); clear q3)
    | (go_at_call 9; with_reducible refine (awake_at S _).mono ?_; rintro e w9 ⟨rfl, q9⟩; have Q9 := Lib.hid q9; clear q9))
  go_ret
  exact ⟨rfl, Q3.out.trans Q9.out⟩
set_option maxRecDepth 100000 in
set_option maxHeartbeats 4000000 in
theorem lexact_at (ws : List Int) (v : Value) (w : World) (HB : Hid (∀ x ∈ ws, I64 x)) (HV : Hid (Cel w v (cellsI ws))) :
    Calls Try.prog 8 #[v] w fun e w' => e = .returned (.bool true) ∧ Own w w' := by
  obtain ⟨A, cap, rfl, h1, h2, h3⟩ := cel_int HV.out
  unfold maxLen at h2
  obtain ⟨n, hn⟩ : ∃ n, ws.length = n := ⟨_, rfl⟩
  rw [hn] at h1 h3 HV ⊢
  have HN := Lib.hid hn
  have H3 := Lib.hid h3
  clear hn h3
  by_cases hbig : 60 < n
  · have a1 : (60 : Int) < n := by omega
    go_enter Try.func8, Try.ntmps8
    go_wp2_with (go_at_call 9; with_reducible refine (awake_at S _).mono ?_; rintro e w9 ⟨rfl, q9⟩; have Q9 := Lib.hid q9; clear q9)
    go_ret
    exact ⟨rfl, Q9.out⟩
  · have a1 : ¬ (60 : Int) < n := by omega
    have hn6 : n ≤ 60 := by omega
    clear hbig
    go_enter Try.func8, Try.ntmps8
    go_wp2
    go_loopw [3, 4] (fun v3 v4 wr => ∃ (i : Nat) (s : Int), v3 = .int .i64 s ∧ v4 = .int .i64 (i : Int) ∧ i ≤ n ∧ w = wr ∧ su (wF ws) i = s ∧ ∀ k, k < i → okW (wF ws k) = true) (fun _ v4 _ => n - (intOf v4).toNat)
    case atStart => exact ⟨0, 0, rfl, rfl, Nat.zero_le _, rfl, rfl, fun k h => absurd h (Nat.not_lt_zero _)⟩
    case round =>
      obtain ⟨i, s, rfl, rfl, hi, rfl, hs, hok⟩ := hrel
      have HSU := Lib.hid hs
      have HOK := Lib.hid hok
      have hsb := su_w (ws := ws) (k := i) fun k hk => okW_iff.1 (hok k hk)
      rw [hs] at hsb
      obtain ⟨hs0, hs1⟩ := hsb
      have hs2 : s ≤ 65970697666560 := by omega
      clear hs hok hs1
      by_cases hlt : i < n
      · have hin : (i : Int) < n := by omega
        obtain ⟨g, off, rfl, h4⟩ := H3.out (by omega)
        have e0 := h4 i _ (wF_cell (by rw [HN.out]; exact hlt))
        obtain ⟨x, hx⟩ : ∃ x, wF ws i = x := ⟨_, rfl⟩
        rw [hx] at e0
        have HX := Lib.hid hx
        clear hx h4
        by_cases hx0 : x < 0
        · go_wp2_with (go_at_call 9; with_reducible refine (awake_at S _).mono ?_; rintro e w9 ⟨rfl, q9⟩; have Q9 := Lib.hid q9; clear q9)
          go_ret
          exact ⟨rfl, Q9.out⟩
        · by_cases hx1 : 1099511627776 < x
          · go_wp2_with (go_at_call 9; with_reducible refine (awake_at S _).mono ?_; rintro e w9 ⟨rfl, q9⟩; have Q9 := Lib.hid q9; clear q9)
            go_ret
            exact ⟨rfl, Q9.out⟩
          · have HOX := Lib.hid (show okW x = true from okW_iff.2 ⟨by omega, by omega⟩)
            have HNX := Lib.hid (show su (wF ws) (i + 1) = s + x by rw [su_succ, HSU.out, HX.out])
            go_wp2
            go_roundw
            case rel => exact ⟨i + 1, s + x, by go_num, by go_num, hlt, trivial, HNX.out, fun k hk => by
              by_cases e : k = i
              · subst e; rw [HX.out]; exact HOX.out
              · exact HOK.out k (by omega)⟩
            case measure => simp [intOf]; omega
      · obtain rfl : n = i := by omega
        have HALL := Lib.hid (all_mk (ws := ws) (by rw [HN.out]; exact HOK.out))
        have HSW := Lib.hid (show sumW ws = s by unfold sumW; rw [HN.out]; exact HSU.out)
        obtain ⟨f, hf⟩ : ∃ f, splE s ws = f := ⟨_, rfl⟩
        obtain ⟨M, hm⟩ : ∃ M, splV s ws = M := ⟨_, rfl⟩
        have HF := Lib.hid hf
        have HM := Lib.hid hm
        have hsp := S.split s ws _ f M w (by unfold I64; omega) HB HV HF HM
        clear HOK hf hm
        by_cases hz : s = 0 ∨ 1099511627776 < s
        · have hne : f ≠ 0 := fun e => by
            obtain ⟨o1, _, _, o4, o5⟩ := splE_ok (HF.out.trans e)
            rw [HSW.out] at o4 o5
            omega
          obtain rfl : [] = M := by rw [← HM.out, splV_bad (by rw [HF.out]; exact hne)]
          have df : (f != 0) = true := bne_iff_ne.2 hne
          clear hne
          rcases hz with hz | hz
          · subst hz
            go_wp2_with (first
              | (go_at_call 10; refine hsp.mono ?_; rintro e w1 ⟨x1, rfl, c1, q1⟩; obtain ⟨A1, p1, rfl, _, _, _⟩ := cel_int c1; have Q1 := Lib.hid q1; clear c1 q1)
              | (go_at_call 9; with_reducible refine (awake_at S _).mono ?_; rintro e w9 ⟨rfl, q9⟩; have Q9 := Lib.hid q9; clear q9))
            go_ret
            exact ⟨rfl, Q1.out.trans Q9.out⟩
          · have hz2 : (s == 0) = false := beq_eq_false_iff_ne.2 (by omega)
            go_wp2_with (first
              | (go_at_call 10; refine hsp.mono ?_; rintro e w1 ⟨x1, rfl, c1, q1⟩; obtain ⟨A1, p1, rfl, _, _, _⟩ := cel_int c1; have Q1 := Lib.hid q1; clear c1 q1)
              | (go_at_call 9; with_reducible refine (awake_at S _).mono ?_; rintro e w9 ⟨rfl, q9⟩; have Q9 := Lib.hid q9; clear q9))
            go_ret
            exact ⟨rfl, Q1.out.trans Q9.out⟩
        · have hz0 : s ≠ 0 := fun e => hz (.inl e)
          have hz1 : ¬ 1099511627776 < s := fun e => hz (.inr e)
          have hnp : 0 < n := by
            refine Nat.pos_of_ne_zero fun e => hz0 ?_
            rw [← HSU.out, e]
            rfl
          have he : splE s ws = 0 := splE_fine (okW_iff.2 ⟨hs0, by omega⟩) (by rw [HN.out]; exact hnp) (by rw [HN.out]; omega) HALL.out (by rw [HSW.out]; exact hz0) (by rw [HSW.out]; omega)
          obtain rfl : 0 = f := he.symm.trans HF.out
          obtain rfl : ws = M := by
            rw [← HM.out, splV_ok he]
            conv => lhs; rw [← mpF_self ws]
            exact mpF_congr fun i hi => (exact_sh (splE_wts he) HSW.out).symm
          have hz2 : (s == 0) = false := beq_eq_false_iff_ne.2 hz0
          clear hz he hz0
          go_upto_region 11 with (go_at_call 10; refine hsp.mono ?_; rintro e w1 ⟨x1, rfl, c1, q1⟩; have C1 := Lib.hid c1; have Q1 := Lib.hid q1; have HV1 := Lib.hid (HV.out.own q1); clear c1 q1)
          go_wp2_with (first
            | (go_at_call 12; with_reducible refine (rsame_yes ws _ _ _ C1 HV1).mono ?_; rintro e w3 ⟨rfl, q3⟩; have Q3 := Lib.hid (Q1.out.trans q3); clear q3)
            | (go_at_call 9; with_reducible refine (awake_at S _).mono ?_; rintro e w9 ⟨rfl, q9⟩; have Q9 := Lib.hid q9; clear q9))
          go_ret
          exact ⟨rfl, Q3.out.trans Q9.out⟩
end
end Go.Proofs.Ytmliajkbknjacaa.ShaW
