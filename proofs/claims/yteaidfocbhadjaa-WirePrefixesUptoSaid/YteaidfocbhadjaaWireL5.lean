/-
  Package wire: the law Prefixes, over what is asked of the program. Condition: none.
-/
import Derived.Test.YteaidfocbhadjaaWireL4
import Derived.Test.YteaidfocbhadjaaWirePlainC
namespace Go.Proofs.Yteaidfocbhadjaa.WirW
open Go.ChangeShapes Go.WideShapes Go.ChangeAt Go.RowKit
open PairW CelW WirP
/-- A boxed struct of three cells is held. -/
theorem box3 (w : World) (a b c : Value) (T : TypeId) : (w.alloc (.cells #[a, b, c] T)).cell? ⟨w.heap.size, 0, none⟩ = some a ∧ (w.alloc (.cells #[a, b, c] T)).cell? ⟨w.heap.size, 1, none⟩ = some b ∧ (w.alloc (.cells #[a, b, c] T)).cell? ⟨w.heap.size, 2, none⟩ = some c :=
  ⟨by go_simp, by go_simp, by go_simp⟩
theorem held3 {W0 wc w1 : World} {a0 a1 a2 : Addr} {v0 v1 v2 : Value} (hg : Own wc w1) (h : wc.cell? a0 = some v0 ∧ wc.cell? a1 = some v1 ∧ wc.cell? a2 = some v2 ∧ Own W0 wc) :
    w1.cell? a0 = some v0 ∧ w1.cell? a1 = some v1 ∧ w1.cell? a2 = some v2 ∧ Own W0 w1 := ⟨hg.cell h.1, hg.cell h.2.1, hg.cell h.2.2.1, h.2.2.2.trans hg⟩
theorem cel_cap {w : World} {A : Option Addr} {n c : Nat} {xs : List Value} (h : Cel w (.slice A n c) xs) : n ≤ c ∧ c ≤ 9223372036854775807 := by
  obtain ⟨A', c', hv, h2, h3, _⟩ := h
  injection hv with e1 e2 e3
  unfold maxLen at h3
  omega
set_option maxRecDepth 100000 in
set_option maxHeartbeats 4000000 in
theorem lprefixes_at (C : PutC) (D : TakeC) (N : Int) (s : ByteArray) (l : List Int) (vl : Value) (cut : Int) (w : World) (HL : Hid (Cel w vl (cellsI l))) (hi : In64 l) (hn : I64 N) (hsl : s.size + l.length ≤ 10000000) (hcut64 : I64 cut) :
    Calls Try.prog 8 #[.agg #[.int .i64 N, .string s, vl], .int .i64 cut] w fun e w' => e = .returned (.bool true) ∧ Own w w' := by
  obtain ⟨B1, hB1⟩ : ∃ B, encI N = B := ⟨_, rfl⟩
  obtain ⟨B2, hB2⟩ : ∃ B, encT s.data.toList = B := ⟨_, rfl⟩
  obtain ⟨B3, hB3⟩ : ∃ B, encL l = B := ⟨_, rfl⟩
  obtain ⟨n1, hn1⟩ : ∃ n, B1.length = n := ⟨_, rfl⟩
  obtain ⟨n2, hn2⟩ : ∃ n, B2.length = n := ⟨_, rfl⟩
  obtain ⟨n3, hn3⟩ : ∃ n, B3.length = n := ⟨_, rfl⟩
  obtain ⟨z, hz⟩ : ∃ z, s.size = z := ⟨_, rfl⟩
  obtain ⟨y, hy⟩ : ∃ y, l.length = y := ⟨_, rfl⟩
  have hsd : s.data.toList.length = z := by rw [← hz]; exact Array.length_toList
  have b1 : n1 ≤ 1000000000000 := by have := enc_ten hn; rw [hB1, hn1] at this; omega
  have b2 : n2 ≤ 1000000000000 := by
    have := enc_ten (n := (z : Int)) (by omega)
    rw [← hn2, ← hB2]
    unfold encT
    rw [List.length_append, hsd]
    omega
  have b3 : n3 ≤ 1000000000000 := by
    have h1 := enc_ten (n := (y : Int)) (by omega)
    have h2 := encs_len l hi
    rw [← hn3, ← hB3]
    unfold encL
    rw [List.length_append, hy]
    omega
  have T1 := Lib.hid (fun k (hk : k < n1) => show takeE (B1.take k) = 13 ∧ takeV (B1.take k) = 0 ∧ takeK (B1.take k) = 0 by rw [← hB1]; exact take_cut N (by rw [hB1, hn1]; exact hk))
  have T2 := Lib.hid (fun k (hk : k < n2) => show textE (B2.take k) z = 13 ∧ textV (B2.take k) z = [] ∧ textK (B2.take k) z = 0 by rw [← hB2]; exact text_cut (by omega) (by rw [hB2, hn2]; exact hk) (by rw [hsd]; exact Int.le_refl _))
  have T3 := Lib.hid (fun k (hk : k < n3) => show listE (B3.take k) y = 13 ∧ listV (B3.take k) y = [] ∧ listK (B3.take k) y = 0 by rw [← hB3]; exact list_cut (by omega) hi (by rw [hB3, hn3]; exact hk) (by rw [hy]; exact Int.le_refl _))
  have E1 := Lib.hid hB1
  have E2 := Lib.hid hB2
  have E3 := Lib.hid hB3
  have L1 := Lib.hid hn1
  have L2 := Lib.hid hn2
  have L3 := Lib.hid hn3
  have HN := Lib.hid hn
  have HI := Lib.hid hi
  have HS := Lib.hid (show s.size ≤ 100000000 by omega)
  have HY := Lib.hid (show l.length ≤ 100000000 by omega)
  have iz : I64 (z : Int) := by unfold I64; omega
  have iy : I64 (y : Int) := by unfold I64; omega
  have IZ := Lib.hid iz
  have IY := Lib.hid iy
  obtain ⟨AL, cl, rfl, _, _⟩ := cel_ints HL.out
  rw [hy] at HL ⊢
  obtain ⟨k0, k1, k2⟩ := box3 w (.int .i64 N) (.string s) (.slice AL y cl) 42
  have g0 : Own w (w.alloc (.cells #[.int .i64 N, .string s, .slice AL y cl] 42)) := (Own.refl w).alloc _
  have HV := Lib.hid (HL.out.own g0)
  have HZ := Lib.hid hz
  clear hB1 hB2 hB3 hn1 hn2 hn3 hn hi hsl iz iy hsd hy HL
  go_enter Try.func8, Try.ntmps8
  go_upto_region 1 with (fail)
  generalize w.alloc (.cells #[.int .i64 N, .string s, .slice AL y cl] 42) = W0 at *
  generalize w.heap.size = Q at *
  go_cut [5, 6, 7] (fun x5 x6 x7 wx => ∃ A1 c1 A2 c2 A3 c3, x5 = .slice A1 n1 c1 ∧ x6 = .slice A2 n2 c2 ∧ x7 = .slice A3 n3 c3 ∧ Cel wx (.slice A1 n1 c1) (cellsU B1) ∧ Cel wx (.slice A2 n2 c2) (cellsU B2) ∧ Cel wx (.slice A3 n3 c3) (cellsU B3) ∧ wx.cell? ⟨Q, 1, none⟩ = some (.string s) ∧ wx.cell? ⟨Q, 2, none⟩ = some (.slice AL y cl) ∧ Own W0 wx)
  case first =>
    have f1 := (Own.refl W0).drew
    go_region_held3 (fun w' => w'.cell? ⟨Q, 0, none⟩ = some (.int .i64 N) ∧ w'.cell? ⟨Q, 1, none⟩ = some (.string s) ∧ w'.cell? ⟨Q, 2, none⟩ = some (.slice AL y cl) ∧ Own W0 w') (first | go_keep | (exact ⟨f1.cell k0, f1.cell k1, f1.cell k2, f1⟩))
      (first
      | (go_at_call 14; with_reducible refine (put_nil C N B1 n1 _ HN.out E1.out L1.out).mono ?_; rintro e w3 ⟨A1, c1, rfl, hc, q3⟩; obtain ⟨k0, k1, k2, k3⟩ := held3 q3 (by with_reducible assumption); (try replace HC2 := Lib.hid (HC2.out.own q3)); (try replace HC3 := Lib.hid (HC3.out.own q3)); have HC1 := Lib.hid hc; clear hc q3)
      | (go_at_call 20; with_reducible refine (puttext_nil C s B2 n2 _ HS.out E2.out L2.out).mono ?_; rintro e w3 ⟨A2, c2, rfl, hc, q3⟩; obtain ⟨k0, k1, k2, k3⟩ := held3 q3 (by with_reducible assumption); (try replace HC1 := Lib.hid (HC1.out.own q3)); (try replace HC3 := Lib.hid (HC3.out.own q3)); have HC2 := Lib.hid hc; clear hc q3)
      | (go_at_call 25; have HCW := Lib.hid (HV.out.own (show Own W0 _ by with_reducible assumption)); with_reducible refine (putlist_nil C l _ B3 n3 _ HCW HI.out HY.out E3.out L3.out).mono ?_; rintro e w3 ⟨A3, c3, rfl, hc, q3⟩; obtain ⟨k0, k1, k2, k3⟩ := held3 q3 (by with_reducible assumption); (try replace HC1 := Lib.hid (HC1.out.own q3)); (try replace HC2 := Lib.hid (HC2.out.own q3)); have HC3 := Lib.hid hc; clear hc q3 HCW))
    all_goals (go_wp2; go_meet; exact ⟨A1, c1, A2, c2, A3, c3, rfl, rfl, rfl, HC1.out, HC2.out, HC3.out, k1, k2, k3⟩)
  case rest =>
    obtain ⟨A1, c1, A2, c2, A3, c3, rfl, rfl, rfl, hc1, hc2, hc3, k1, k2, q1⟩ := hcut
    obtain ⟨m1, m1'⟩ := cel_cap hc1
    obtain ⟨m2, m2'⟩ := cel_cap hc2
    obtain ⟨m3, m3'⟩ := cel_cap hc3
    have HC1 := Lib.hid hc1
    have HC2 := Lib.hid hc2
    have HC3 := Lib.hid hc3
    have BL2 := Lib.hid (fun k => show (B2.take k).length ≤ 1000000000000 by rw [List.length_take, L2.out]; omega)
    have BL3 := Lib.hid (fun k => show (B3.take k).length ≤ 1000000000000 by rw [List.length_take, L3.out]; omega)
    clear hc1 hc2 hc3
    by_cases hneg : cut < 0
    · go_wp2_with (go_at_call 17; with_reducible refine (awake_at C D _).mono ?_; rintro e w6 ⟨rfl, q6⟩)
      go_ret
      exact ⟨rfl, (g0.trans q1).trans q6⟩
    · obtain ⟨k, rfl⟩ : ∃ k : Nat, cut = k := ⟨cut.toNat, by omega⟩
      go_upto_if 32 with (fail)
      go_cut [4] (fun s wx => s = .bool false ∧ Own wc wx)
      case first =>
        by_cases h : k < n1
        · have d1 : (k : Int) < n1 := by omega
          have HCT := Lib.hid (cel_take HC1.out (Nat.le_of_lt h))
          have HT := Lib.hid (T1.out k h)
          have hkc : k ≤ c1 := by omega
          have hkm : (k : Int) ≤ c1 := by omega
          go_wp2_with (go_at_call 11; with_reducible refine (D.int (B1.take k) _ 13 0 0 _ HCT HT).mono ?_; rintro e w3 ⟨rfl, q3⟩)
          all_goals (go_meet; exact ⟨rfl, q3⟩)
        · have d1 : ¬ (k : Int) < n1 := by omega
          go_wp2
          all_goals (go_meet; exact ⟨rfl, Own.refl _⟩)
      case rest =>
        obtain ⟨rfl, q2⟩ := hcut
        replace q1 := q1.trans q2
        replace k1 := q2.cell k1
        replace k2 := q2.cell k2
        replace HC2 := Lib.hid (HC2.out.own q2)
        replace HC3 := Lib.hid (HC3.out.own q2)
        clear q2 HC1
        go_upto_if 54 with (fail)
        go_cut [4] (fun s wx => s = .bool false ∧ Own wc wx)
        case first =>
          by_cases h : k < n2
          · have d1 : (k : Int) < n2 := by omega
            have HCT := Lib.hid (cel_take HC2.out (Nat.le_of_lt h))
            have HT := Lib.hid (T2.out k h)
            have hkc : k ≤ c2 := by omega
            have hkm : (k : Int) ≤ c2 := by omega
            have f1 := (Own.refl wc).drew
            go_upto_region 9 with (fail)
            go_region_held3 (fun w' => w'.cell? ⟨Q, 1, none⟩ = some (.string s) ∧ Own wc w') (first | (exact ⟨f1.cell k1, f1⟩) | (exact ⟨k5, q4⟩))
              (first
              | (go_at_call 18; have HCT2 := Lib.hid (HCT.out.own (show Own wc _ by with_reducible assumption)); with_reducible refine (taketext_y D (B2.take k) [] ⟨#[]⟩ _ z 13 0 _ HCT2 (BL2.out k) IZ.out HT rfl).mono ?_; rintro e w3 ⟨rfl, q3⟩; have q4 := Own.trans (show Own wc _ by with_reducible assumption) q3; have k5 := q4.cell k1))
            go_wp2
            all_goals (go_meet; exact ⟨rfl, q4⟩)
          · have d1 : ¬ (k : Int) < n2 := by omega
            go_wp2
            all_goals (go_meet; exact ⟨rfl, Own.refl _⟩)
        case rest =>
          obtain ⟨rfl, q2⟩ := hcut
          replace q1 := q1.trans q2
          replace k2 := q2.cell k2
          replace HC3 := Lib.hid (HC3.out.own q2)
          clear q2 HC2
          go_upto_if 79 with (fail)
          go_cut [4] (fun s wx => s = .bool false ∧ Own wc wx)
          case first =>
            by_cases h : k < n3
            · have d1 : (k : Int) < n3 := by omega
              have HCT := Lib.hid (cel_take HC3.out (Nat.le_of_lt h))
              have HT := Lib.hid (T3.out k h)
              have hkc : k ≤ c3 := by omega
              have hkm : (k : Int) ≤ c3 := by omega
              have f1 := (Own.refl wc).drew
              go_upto_region 13 with (fail)
              go_region_held3 (fun w' => w'.cell? ⟨Q, 2, none⟩ = some (.slice AL y cl) ∧ Own wc w') (first | (exact ⟨f1.cell k2, f1⟩) | (exact ⟨k5, q4⟩))
                (first
                | (go_at_call 22; have HCT2 := Lib.hid (HCT.out.own (show Own wc _ by with_reducible assumption)); with_reducible refine (takelist_n D (B3.take k) [] 0 _ y 13 0 _ HCT2 (BL3.out k) IY.out HT rfl).mono ?_; rintro e w3 ⟨A4, c4, rfl, _, q3⟩; have q4 := Own.trans (show Own wc _ by with_reducible assumption) q3; have k5 := q4.cell k2))
              go_wp2
              all_goals (go_meet; exact ⟨rfl, q4⟩)
            · have d1 : ¬ (k : Int) < n3 := by omega
              go_wp2
              all_goals (go_meet; exact ⟨rfl, Own.refl _⟩)
          case rest =>
            obtain ⟨rfl, q2⟩ := hcut
            go_wp2_with (go_at_call 17; with_reducible refine (awake_at C D _).mono ?_; rintro e w6 ⟨rfl, q6⟩)
            go_ret
            exact ⟨rfl, (g0.trans (q1.trans q2)).trans q6⟩
end Go.Proofs.Yteaidfocbhadjaa.WirW
