/-
  Walks of end, bare, number, order and Less of the specification of package ident: what a call returns for every input. Condition: none.
-/
import Derived.Test.YtifiljmiehddfaaDoorIdentA
namespace Go.Proofs.YtifiljmiehddfaaDoor.NamW
open Go.ChangeShapes Go.WideShapes Go.ChangeAt Go.RowKit
open PairW NamP
theorem bs_extract (s : ByteArray) (a b : Nat) : bs (s.extract a b) = ((bs s).drop a).take (b - a) := by
  unfold bs
  rw [ByteArray.data_extract, Array.toList_extract, List.extract_eq_take_drop]
theorem bs_toList (s : ByteArray) : s.toList = bs s := ByteArray.toList_eq s
theorem bs_cons (s : ByteArray) (i : Nat) (h : i < s.size) : (bs s).drop i = s[i] :: (bs s).drop (i + 1) := by
  rw [List.drop_eq_getElem_cons (by rw [bs_len]; exact h)]
  rfl
theorem bs_end (s : ByteArray) (i : Nat) (h : s.size ≤ i) : (bs s).drop i = [] := List.drop_eq_nil_of_le (by rw [bs_len]; exact h)
theorem bytesLess_cmp : ∀ (x y : Bs), Op.bytesLess x y = decide (cmpN (nums x) (nums y) < 0)
  | [], [] => rfl
  | [], _ :: _ => rfl
  | _ :: _, [] => rfl
  | a :: x, b :: y => by
    rw [Op.bytesLess, bytesLess_cmp x y]
    show _ = decide (cmpN (a.toNat :: nums x) (b.toNat :: nums y) < 0)
    rw [cmpN]
    by_cases h : a.toNat < b.toNat
    · have : a < b := h
      rw [if_pos h]
      simp [this]
    · have h' : ¬ a < b := h
      rw [if_neg h]
      by_cases k : b.toNat < a.toNat
      · have : a ≠ b := fun e => by rw [e] at k; omega
        rw [if_pos k]
        simp [h', this]
      · have : a = b := UInt8.toNat_inj.1 (by omega)
        rw [if_neg k]
        simp [this]
theorem run_yes {x : UInt8} {l : Bs} (h : digB x = true) : runD (x :: l) = x :: runD l := by unfold runD; rw [List.takeWhile_cons, if_pos h]
theorem run_no {x : UInt8} {l : Bs} (h : digB x = false) : runD (x :: l) = [] := by unfold runD; rw [List.takeWhile_cons, if_neg (by rw [h]; simp)]
theorem rest_drop : ∀ (l : Bs), restD l = l.drop (runD l).length
  | [] => rfl
  | x :: l => by
    cases h : digB x with
    | true =>
      rw [run_yes h]
      unfold restD
      rw [List.dropWhile_cons, if_pos h]
      exact rest_drop l
    | false =>
      rw [run_no h]
      unfold restD
      rw [List.dropWhile_cons, if_neg (by rw [h]; simp)]
      rfl
theorem run_take : ∀ (l : Bs), l.take (runD l).length = runD l
  | [] => rfl
  | x :: l => by
    cases h : digB x with
    | true => rw [run_yes h]; show x :: l.take (runD l).length = _; rw [run_take l]
    | false => rw [run_no h]; rfl
set_option maxRecDepth 100000 in
theorem end_at (s : ByteArray) (i r : Nat) (w : World) (hs : s.size ≤ maxLen) (hi : i ≤ s.size) (H : Hid (i + (runD ((bs s).drop i)).length = r)) : Calls Tryd.prog 42 #[.string s, .int .i64 i] w fun e w' => e = .returned (.int .i64 r) ∧ w = w' := by
  unfold maxLen at hs
  go_enter Tryd.func42, Tryd.ntmps42
  go_wp2
  go_loop [1] (fun v => ∃ k : Nat, v = .int .i64 k ∧ k ≤ s.size ∧ k + (runD ((bs s).drop k)).length = r) (fun v => s.size - (intOf v).toNat)
  case atStart => exact ⟨i, rfl, hi, H.out⟩
  case round =>
    obtain ⟨k, rfl, hk, he⟩ := hrel
    by_cases hlt : k < s.size
    · have hki : (k : Int) < s.size := by omega
      rw [bs_cons s k hlt] at he
      obtain ⟨td, htd⟩ : ∃ td, digB s[k] = td := ⟨_, rfl⟩
      have HD := Lib.hid htd
      cases td
      · obtain rfl : k = r := by rw [run_no htd] at he; simpa using he
        clear htd he H
        go_wp2_with (go_at_call 31; with_reducible refine (digit_at s[k] _ _ HD).mono ?_; rintro e w1 ⟨rfl, rfl⟩)
        go_ret
        exact ⟨rfl, rfl⟩
      · rw [run_yes htd] at he
        have HE := Lib.hid (show k + 1 + (runD ((bs s).drop (k + 1))).length = r by simp only [List.length_cons] at he; omega)
        clear htd he
        go_wp2_with (go_at_call 31; with_reducible refine (digit_at s[k] _ _ HD).mono ?_; rintro e w1 ⟨rfl, rfl⟩)
        go_round
        case rel => exact ⟨k + 1, by go_num, hlt, HE.out⟩
        case measure => simp [intOf]; omega
    · obtain rfl : k = s.size := by omega
      rw [bs_end s s.size (Nat.le_refl _)] at he
      obtain rfl : s.size = r := he
      clear H
      go_wp2
      go_ret
      exact ⟨rfl, rfl⟩
set_option maxRecDepth 100000 in
theorem bare_at (s r : ByteArray) (w : World) (hs : s.size ≤ maxLen) (H : Hid (bare (bs s) = bs r)) : Calls Tryd.prog 50 #[.string s] w fun e w' => e = .returned (.string r) ∧ w = w' := by
  unfold maxLen at hs
  go_enter Tryd.func50, Tryd.ntmps50
  go_wp2
  go_loop [0] (fun v => ∃ q : ByteArray, v = .string q ∧ q.size ≤ 9223372036854775807 ∧ bare (bs q) = bs r) (fun v => match v with | .string q => q.size | _ => 0)
  case atStart => exact ⟨s, rfl, by omega, H.out⟩
  case round =>
    obtain ⟨q, rfl, hq, he⟩ := hrel
    by_cases h0 : 0 < q.size
    · have hc := bs_cons q 0 h0
      rw [List.drop_zero] at hc
      rw [hc] at he
      unfold bare at he
      rw [List.dropWhile_cons] at he
      by_cases c : q[0].toNat = 48
      · have c1 : ((q[0].toNat : Int) == 48) = true := beq_iff_eq.2 (by omega)
        rw [if_pos (decide_eq_true c)] at he
        have HE := Lib.hid he
        have HB := Lib.hid (show bs (q.extract 1 q.size) = (bs q).drop 1 by rw [bs_extract, List.take_of_length_le (by rw [List.length_drop, bs_len]; omega)])
        have HZ := Lib.hid (show (q.extract 1 q.size).size = q.size - 1 by rw [ByteArray.size_extract]; omega)
        clear c he hc
        go_wp2
        refine ⟨⟨_, rfl, by rw [HZ.out]; omega, by rw [HB.out]; exact HE.out⟩, ?_⟩
        show (q.extract 1 q.size).size < q.size
        rw [HZ.out]
        omega
      · have c1 : ((q[0].toNat : Int) == 48) = false := beq_eq_false_iff_ne.2 (by omega)
        rw [if_neg (by simpa using c)] at he
        obtain rfl : q = r := bytes_inj (hc.trans he)
        clear c he hc H
        go_wp2
        go_ret
        exact ⟨rfl, rfl⟩
    · have h1 := bs_end q 0 (by omega)
      rw [List.drop_zero] at h1
      have he' := he
      rw [h1] at he'
      obtain rfl : q = r := bytes_inj (by show bs q = bs r; rw [h1, ← he']; rfl)
      have h2 : ¬ (0 : Int) < q.size := by omega
      clear he he' h1 H
      go_wp2
      go_ret
      exact ⟨rfl, rfl⟩
theorem ext_at {s : ByteArray} (a b : Nat) (h : b ≤ s.size) : bs (s.extract a b) = ((bs s).drop a).take (b - a) ∧ (s.extract a b).size = b - a := by
  refine ⟨bs_extract s a b, ?_⟩
  rw [ByteArray.size_extract]
  omega
theorem bare_str (s : ByteArray) : ∃ r : ByteArray, bare (bs s) = bs r ∧ r.size ≤ s.size := by
  refine ⟨⟨(bare (bs s)).toArray⟩, rfl, ?_⟩
  have := bare_len (bs s)
  rw [bs_len] at this
  exact this
set_option maxRecDepth 100000 in
set_option maxHeartbeats 2000000 in
theorem number_at (x y : ByteArray) (c : Int) (w : World) (hx : x.size ≤ maxLen) (hy : y.size ≤ maxLen) (H : Hid (numC (bs x) (bs y) = c)) : Calls Tryd.prog 43 #[.string x, .string y] w fun e w' => e = .returned (.int .i64 c) ∧ w = w' := by
  unfold maxLen at hx hy
  obtain ⟨p, hp, hps⟩ := bare_str x
  obtain ⟨q, hq, hqs⟩ := bare_str y
  have HP := Lib.hid hp
  have HQ := Lib.hid hq
  have hc := H.out
  unfold numC at hc
  rw [hp, hq, bs_len, bs_len, bs_len, bs_len] at hc
  clear hp hq H
  have m1 : x.size ≤ maxLen := hx
  have m2 : y.size ≤ maxLen := hy
  have M1 := Lib.hid m1
  have M2 := Lib.hid m2
  clear m1 m2
  by_cases h1 : p.size < q.size
  · rw [if_pos h1] at hc
    subst hc
    have n1 : ((p.size : Int) != q.size) = true := bne_iff_ne.2 (by omega)
    have n2 : (p.size : Int) < q.size := by omega
    go_enter Tryd.func43, Tryd.ntmps43
    go_wp2_with (go_at_call 50; (first | (with_reducible refine (bare_at x p _ M1.out HP).mono ?_; rintro e w1 ⟨rfl, rfl⟩) | (with_reducible refine (bare_at y q _ M2.out HQ).mono ?_; rintro e w1 ⟨rfl, rfl⟩)))
    go_ret
    exact ⟨rfl, rfl⟩
  rw [if_neg h1] at hc
  by_cases h2 : q.size < p.size
  · rw [if_pos h2] at hc
    subst hc
    have n1 : ((p.size : Int) != q.size) = true := bne_iff_ne.2 (by omega)
    have n2 : ¬ (p.size : Int) < q.size := by omega
    go_enter Tryd.func43, Tryd.ntmps43
    go_wp2_with (go_at_call 50; (first | (with_reducible refine (bare_at x p _ M1.out HP).mono ?_; rintro e w1 ⟨rfl, rfl⟩) | (with_reducible refine (bare_at y q _ M2.out HQ).mono ?_; rintro e w1 ⟨rfl, rfl⟩)))
    go_ret
    exact ⟨rfl, rfl⟩
  rw [if_neg h2] at hc
  have n1 : ((p.size : Int) != q.size) = false := bne_eq_false_iff_eq.2 (by omega)
  by_cases h3 : cmpN (nums (bs p)) (nums (bs q)) = 0
  · rw [if_neg (by simpa using h3)] at hc
    obtain rfl : p = q := bytes_inj (nums_inj (cmpN_zero.1 h3))
    clear h1 h2 h3 n1
    by_cases h4 : x.size < y.size
    · rw [if_pos h4] at hc
      subst hc
      have n1 : ((x.size : Int) != y.size) = true := bne_iff_ne.2 (by omega)
      have n2 : (x.size : Int) < y.size := by omega
      go_enter Tryd.func43, Tryd.ntmps43
      go_wp2_with (go_at_call 50; (first | (with_reducible refine (bare_at x p _ M1.out HP).mono ?_; rintro e w1 ⟨rfl, rfl⟩) | (with_reducible refine (bare_at y p _ M2.out HQ).mono ?_; rintro e w1 ⟨rfl, rfl⟩)))
      go_ret
      exact ⟨rfl, rfl⟩
    rw [if_neg h4] at hc
    by_cases h5 : y.size < x.size
    · rw [if_pos h5] at hc
      subst hc
      have n1 : ((x.size : Int) != y.size) = true := bne_iff_ne.2 (by omega)
      have n2 : ¬ (x.size : Int) < y.size := by omega
      go_enter Tryd.func43, Tryd.ntmps43
      go_wp2_with (go_at_call 50; (first | (with_reducible refine (bare_at x p _ M1.out HP).mono ?_; rintro e w1 ⟨rfl, rfl⟩) | (with_reducible refine (bare_at y p _ M2.out HQ).mono ?_; rintro e w1 ⟨rfl, rfl⟩)))
      go_ret
      exact ⟨rfl, rfl⟩
    rw [if_neg h5] at hc
    subst hc
    have n1 : ((x.size : Int) != y.size) = false := bne_eq_false_iff_eq.2 (by omega)
    go_enter Tryd.func43, Tryd.ntmps43
    go_wp2_with (go_at_call 50; (first | (with_reducible refine (bare_at x p _ M1.out HP).mono ?_; rintro e w1 ⟨rfl, rfl⟩) | (with_reducible refine (bare_at y p _ M2.out HQ).mono ?_; rintro e w1 ⟨rfl, rfl⟩)))
    go_ret
    exact ⟨rfl, rfl⟩
  · rw [if_pos h3] at hc
    have e1 : (p.toList == q.toList) = false := by
      rw [bs_toList, bs_toList]
      exact beq_eq_false_iff_ne.2 fun e => h3 (by rw [e]; exact cmpN_self _)
    have hb : Op.bytesLess p.toList q.toList = decide (c < 0) := by rw [bs_toList, bs_toList, bytesLess_cmp, hc]
    have h3' := cmpN_three (nums (bs p)) (nums (bs q))
    rw [hc] at h3' h3
    clear hc h1 h2
    rcases h3' with rfl | rfl | rfl
    · rw [show decide ((-1 : Int) < 0) = true from rfl] at hb
      go_enter Tryd.func43, Tryd.ntmps43
      go_wp2_with (go_at_call 50; (first | (with_reducible refine (bare_at x p _ M1.out HP).mono ?_; rintro e w1 ⟨rfl, rfl⟩) | (with_reducible refine (bare_at y q _ M2.out HQ).mono ?_; rintro e w1 ⟨rfl, rfl⟩)))
      go_ret
      exact ⟨rfl, rfl⟩
    · exact absurd rfl h3
    · rw [show decide ((1 : Int) < 0) = false from rfl] at hb
      go_enter Tryd.func43, Tryd.ntmps43
      go_wp2_with (go_at_call 50; (first | (with_reducible refine (bare_at x p _ M1.out HP).mono ?_; rintro e w1 ⟨rfl, rfl⟩) | (with_reducible refine (bare_at y q _ M2.out HQ).mono ?_; rintro e w1 ⟨rfl, rfl⟩)))
      go_ret
      exact ⟨rfl, rfl⟩
theorem ord_nil_nil : ordL [] [] = 0 := by rw [ordL]
theorem ord_nil_cons (y : UInt8) (b : Bs) : ordL [] (y :: b) = -1 := by rw [ordL]
theorem ord_cons_nil (x : UInt8) (a : Bs) : ordL (x :: a) [] = 1 := by rw [ordL]
theorem ord_cons (x y : UInt8) (a b : Bs) : ordL (x :: a) (y :: b) = if digB x = true then (if digB y = true then (if numC (runD (x :: a)) (runD (y :: b)) ≠ 0 then numC (runD (x :: a)) (runD (y :: b)) else ordL (restD (x :: a)) (restD (y :: b))) else -1)
    else if digB y = true then 1 else if x.toNat < y.toNat then -1 else if y.toNat < x.toNat then 1 else ordL a b := by
  rw [ordL]
  split
  · rfl
  · rfl
theorem runD_le (l : Bs) (i : Nat) (h : i ≤ l.length) : i + (runD (l.drop i)).length ≤ l.length := by
  have := run_len (l.drop i)
  rw [List.length_drop] at this
  omega
theorem ext_run {s : ByteArray} (i : Nat) (hi : i ≤ s.size) : bs (s.extract i (i + (runD ((bs s).drop i)).length)) = runD ((bs s).drop i) ∧ (s.extract i (i + (runD ((bs s).drop i)).length)).size ≤ s.size := by
  have h := runD_le (bs s) i (by rw [bs_len]; exact hi)
  rw [bs_len] at h
  obtain ⟨h1, h2⟩ := ext_at (s := s) i _ h
  refine ⟨?_, by omega⟩
  rw [h1, Nat.add_sub_cancel_left, run_take]
theorem rest_at {s : ByteArray} (i : Nat) : restD ((bs s).drop i) = (bs s).drop (i + (runD ((bs s).drop i)).length) := by rw [rest_drop, List.drop_drop]
set_option maxRecDepth 100000 in
set_option maxHeartbeats 4000000 in
theorem order_at (a b : ByteArray) (c : Int) (w : World) (hA : a.size ≤ maxLen) (hB : b.size ≤ maxLen) (H : Hid (ordL (bs a) (bs b) = c)) : Calls Tryd.prog 33 #[.string a, .string b] w fun e w' => e = .returned (.int .i64 c) ∧ Own w w' := by
  have hsA := Lib.hid hA
  have hsB := Lib.hid hB
  unfold maxLen at hA hB
  go_enter Tryd.func33, Tryd.ntmps33
  go_wp2
  go_loopw [5, 6] (fun vi vk wr => ∃ i k : Nat, vi = .int .i64 i ∧ vk = .int .i64 k ∧ i ≤ a.size ∧ k ≤ b.size ∧ ordL ((bs a).drop i) ((bs b).drop k) = c ∧ Own w wr) (fun vi _ _ => a.size - (intOf vi).toNat)
  case atStart => exact ⟨0, 0, rfl, rfl, Nat.zero_le _, Nat.zero_le _, H.out, Own.refl w⟩
  case round =>
    obtain ⟨i, k, rfl, rfl, hi, hk, he, q⟩ := hrel
    clear H
    by_cases hlt : i < a.size
    · have hii : (i : Int) < a.size := by omega
      by_cases hlk : k < b.size
      · have hki : (k : Int) < b.size := by omega
        have hiA := Lib.hid hi
        have hkB := Lib.hid hk
        have hra := ext_run (s := a) i hi
        have hrb := ext_run (s := b) k hk
        have hta := rest_at (s := a) i
        have htb := rest_at (s := b) k
        have hla := runD_le (bs a) i (by rw [bs_len]; exact hi)
        have hlb := runD_le (bs b) k (by rw [bs_len]; exact hk)
        rw [bs_len] at hla hlb
        rw [bs_cons a i hlt, bs_cons b k hlk, ord_cons] at he
        rw [← bs_cons a i hlt, ← bs_cons b k hlk] at he
        obtain ⟨ta, hta2⟩ : ∃ t, digB a[i] = t := ⟨_, rfl⟩
        obtain ⟨tb, htb2⟩ : ∃ t, digB b[k] = t := ⟨_, rfl⟩
        have HDA := Lib.hid hta2
        have HDB := Lib.hid htb2
        rw [hta2, htb2] at he
        cases ta
        · rw [if_neg (by simp)] at he
          cases tb
          · rw [if_neg (by simp)] at he
            clear hra hrb hta htb hla hlb hta2 htb2
            by_cases c1 : a[i].toNat < b[k].toNat
            · rw [if_pos c1] at he
              subst he
              have n1 : ((a[i].toNat : Int) != b[k].toNat) = true := bne_iff_ne.2 (by omega)
              have n2 : decide ((a[i].toNat : Int) < b[k].toNat) = true := decide_eq_true (by omega)
              have n3 : decide (a[i].toNat < b[k].toNat) = true := decide_eq_true c1
              clear c1
              go_upto_region 3 with (fail)
              refine region_after wr (by kernel_rfl) (by kernel_rfl) ?_
              repeat (first | go_big_quiet_step ((go_at_call 31; (first | (with_reducible refine (digit_at a[i] _ _ HDA).mono ?_) | (with_reducible refine (digit_at b[k] _ _ HDB).mono ?_)); rintro e wq ⟨rfl, rfl⟩; exact ⟨rfl, ⟨_, After.o _⟩, rfl⟩)) | quiet_step ((go_at_call 31; (first | (with_reducible refine (digit_at a[i] _ _ HDA).mono ?_) | (with_reducible refine (digit_at b[k] _ _ HDB).mono ?_)); rintro e wq ⟨rfl, rfl⟩; exact ⟨rfl, ⟨_, After.o _⟩, rfl⟩)))
              refine wpQuiet_nil ?_
              rintro _ ⟨z, rfl⟩
              have d3 := z.o
              generalize z.w = w3 at *
              replace q := q.trans d3
              clear d3
              go_upto_region 14 with (fail)
              go_quiet (fail)
              go_upto_region 15 with (fail)
              go_quiet (fail)
              go_wp2
              go_ret
              exact ⟨rfl, (q.drewN _).drewN _⟩
            · rw [if_neg c1] at he
              by_cases c2 : b[k].toNat < a[i].toNat
              · rw [if_pos c2] at he
                subst he
                have n1 : ((a[i].toNat : Int) != b[k].toNat) = true := bne_iff_ne.2 (by omega)
                have n2 : decide ((a[i].toNat : Int) < b[k].toNat) = false := decide_eq_false (by omega)
                have n3 : decide (a[i].toNat < b[k].toNat) = false := decide_eq_false c1
                clear c1 c2
                go_upto_region 3 with (fail)
                refine region_after wr (by kernel_rfl) (by kernel_rfl) ?_
                repeat (first | go_big_quiet_step ((go_at_call 31; (first | (with_reducible refine (digit_at a[i] _ _ HDA).mono ?_) | (with_reducible refine (digit_at b[k] _ _ HDB).mono ?_)); rintro e wq ⟨rfl, rfl⟩; exact ⟨rfl, ⟨_, After.o _⟩, rfl⟩)) | quiet_step ((go_at_call 31; (first | (with_reducible refine (digit_at a[i] _ _ HDA).mono ?_) | (with_reducible refine (digit_at b[k] _ _ HDB).mono ?_)); rintro e wq ⟨rfl, rfl⟩; exact ⟨rfl, ⟨_, After.o _⟩, rfl⟩)))
                refine wpQuiet_nil ?_
                rintro _ ⟨z, rfl⟩
                have d3 := z.o
                generalize z.w = w3 at *
                replace q := q.trans d3
                clear d3
                go_upto_region 14 with (fail)
                go_quiet (fail)
                go_upto_region 15 with (fail)
                go_quiet (fail)
                go_wp2
                go_ret
                exact ⟨rfl, (q.drewN _).drewN _⟩
              · rw [if_neg c2] at he
                have HE := Lib.hid he
                have n1 : ((a[i].toNat : Int) != b[k].toNat) = false := bne_eq_false_iff_eq.2 (by omega)
                have n2 : (a[i].toNat : Int) = b[k].toNat := by omega
                have n4 := UInt8.toNat_inj.1 (show a[i].toNat = b[k].toNat by omega)
                clear c1 c2 he n2 n4
                go_upto_region 3 with (fail)
                refine region_after wr (by kernel_rfl) (by kernel_rfl) ?_
                repeat (first | go_big_quiet_step ((go_at_call 31; (first | (with_reducible refine (digit_at a[i] _ _ HDA).mono ?_) | (with_reducible refine (digit_at b[k] _ _ HDB).mono ?_)); rintro e wq ⟨rfl, rfl⟩; exact ⟨rfl, ⟨_, After.o _⟩, rfl⟩)) | quiet_step ((go_at_call 31; (first | (with_reducible refine (digit_at a[i] _ _ HDA).mono ?_) | (with_reducible refine (digit_at b[k] _ _ HDB).mono ?_)); rintro e wq ⟨rfl, rfl⟩; exact ⟨rfl, ⟨_, After.o _⟩, rfl⟩)))
                refine wpQuiet_nil ?_
                rintro _ ⟨z, rfl⟩
                have d3 := z.o
                generalize z.w = w3 at *
                replace q := q.trans d3
                clear d3
                go_upto_region 14 with (fail)
                go_quiet (fail)
                go_wp2
                go_roundw
                case rel => exact ⟨i + 1, k + 1, by go_num, by go_num, hlt, hlk, HE.out, q.drewN _⟩
                case measure => simp [intOf]; omega
          · rw [if_pos rfl] at he
            subst he
            clear hra hrb hta htb hla hlb hta2 htb2
            go_upto_region 3 with (fail)
            refine region_after wr (by kernel_rfl) (by kernel_rfl) ?_
            repeat (first | go_big_quiet_step ((go_at_call 31; (first | (with_reducible refine (digit_at a[i] _ _ HDA).mono ?_) | (with_reducible refine (digit_at b[k] _ _ HDB).mono ?_)); rintro e wq ⟨rfl, rfl⟩; exact ⟨rfl, ⟨_, After.o _⟩, rfl⟩)) | quiet_step ((go_at_call 31; (first | (with_reducible refine (digit_at a[i] _ _ HDA).mono ?_) | (with_reducible refine (digit_at b[k] _ _ HDB).mono ?_)); rintro e wq ⟨rfl, rfl⟩; exact ⟨rfl, ⟨_, After.o _⟩, rfl⟩)))
            refine wpQuiet_nil ?_
            rintro _ ⟨z, rfl⟩
            have d3 := z.o
            generalize z.w = w3 at *
            replace q := q.trans d3
            clear d3
            go_wp2
            go_ret
            exact ⟨rfl, q⟩
        · rw [if_pos rfl] at he
          cases tb
          · rw [if_neg (by simp)] at he
            subst he
            clear hra hrb hta htb hla hlb hta2 htb2
            go_upto_region 3 with (fail)
            refine region_after wr (by kernel_rfl) (by kernel_rfl) ?_
            repeat (first | go_big_quiet_step ((go_at_call 31; (first | (with_reducible refine (digit_at a[i] _ _ HDA).mono ?_) | (with_reducible refine (digit_at b[k] _ _ HDB).mono ?_)); rintro e wq ⟨rfl, rfl⟩; exact ⟨rfl, ⟨_, After.o _⟩, rfl⟩)) | quiet_step ((go_at_call 31; (first | (with_reducible refine (digit_at a[i] _ _ HDA).mono ?_) | (with_reducible refine (digit_at b[k] _ _ HDB).mono ?_)); rintro e wq ⟨rfl, rfl⟩; exact ⟨rfl, ⟨_, After.o _⟩, rfl⟩)))
            refine wpQuiet_nil ?_
            rintro _ ⟨z, rfl⟩
            have d3 := z.o
            generalize z.w = w3 at *
            replace q := q.trans d3
            clear d3
            go_wp2
            go_ret
            exact ⟨rfl, q⟩
          · rw [if_pos rfl, hta, htb] at he
            have hpa := congrArg List.length (bs_cons a i hlt)
            have hrun : 0 < (runD ((bs a).drop i)).length := by rw [bs_cons a i hlt, run_yes hta2]; simp
            obtain ⟨m, hm⟩ : ∃ m, i + (runD ((bs a).drop i)).length = m := ⟨_, rfl⟩
            obtain ⟨n, hn⟩ : ∃ n, k + (runD ((bs b).drop k)).length = n := ⟨_, rfl⟩
            have HM := Lib.hid hm
            have HN := Lib.hid hn
            rw [hm] at hra hla he
            rw [hn] at hrb hlb he
            have him : i < m := by omega
            have hkn : k ≤ n := by omega
            rw [← hra.1, ← hrb.1] at he
            have HZA := Lib.hid (show (a.extract i m).size ≤ maxLen from Nat.le_trans hra.2 hsA.out)
            have HZB := Lib.hid (show (b.extract k n).size ≤ maxLen from Nat.le_trans hrb.2 hsB.out)
            obtain ⟨cc, hcc⟩ : ∃ cc, numC (bs (a.extract i m)) (bs (b.extract k n)) = cc := ⟨_, rfl⟩
            have HNC := Lib.hid hcc
            rw [hcc] at he
            have HE := Lib.hid he
            clear hcc he hra hrb hta htb hta2 htb2 hpa hrun hm hn
            go_upto_region 3 with (fail)
            refine region_after wr (by kernel_rfl) (by kernel_rfl) ?_
            repeat (first | go_big_quiet_step ((go_at_call 31; (first | (with_reducible refine (digit_at a[i] _ _ HDA).mono ?_) | (with_reducible refine (digit_at b[k] _ _ HDB).mono ?_)); rintro e wq ⟨rfl, rfl⟩; exact ⟨rfl, ⟨_, After.o _⟩, rfl⟩)) | quiet_step ((go_at_call 31; (first | (with_reducible refine (digit_at a[i] _ _ HDA).mono ?_) | (with_reducible refine (digit_at b[k] _ _ HDB).mono ?_)); rintro e wq ⟨rfl, rfl⟩; exact ⟨rfl, ⟨_, After.o _⟩, rfl⟩)))
            refine wpQuiet_nil ?_
            rintro _ ⟨z, rfl⟩
            have d3 := z.o
            generalize z.w = w3 at *
            replace q := q.trans d3
            clear d3
            go_upto_region 6 with (go_at_call 42; (first | (with_reducible refine (end_at a i m _ hsA.out hiA.out HM).mono ?_; rintro e w1 ⟨rfl, rfl⟩) | (with_reducible refine (end_at b k n _ hsB.out hkB.out HN).mono ?_; rintro e w1 ⟨rfl, rfl⟩)))
            have him2 : (i : Int) ≤ m := by omega
            have hkn2 : (k : Int) ≤ n := by omega
            have hma : (m : Int) ≤ a.size := by omega
            have hnb : (n : Int) ≤ b.size := by omega
            have hi0 : 0 ≤ (i : Int) := by omega
            have hk0 : 0 ≤ (k : Int) := by omega
            go_upto_region 6 with (fail)
            generalize w3 = wr at *
            refine region_after wr (by kernel_rfl) (by kernel_rfl) ?_
            repeat (first | go_big_quiet_step ((go_at_call 43; with_reducible refine (number_at _ _ cc _ HZA.out HZB.out HNC).mono ?_; rintro e wq ⟨rfl, rfl⟩; exact ⟨rfl, ⟨_, After.o _⟩, rfl⟩)) | quiet_step ((go_at_call 43; with_reducible refine (number_at _ _ cc _ HZA.out HZB.out HNC).mono ?_; rintro e wq ⟨rfl, rfl⟩; exact ⟨rfl, ⟨_, After.o _⟩, rfl⟩)))
            refine wpQuiet_nil ?_
            rintro _ ⟨z, rfl⟩
            have d6 := z.o
            generalize z.w = w6 at *
            replace q := q.trans d6
            clear d6
            by_cases c0 : cc = 0
            · subst c0
              have HE2 := Lib.hid (show ordL ((bs a).drop m) ((bs b).drop n) = c by rw [← HE.out, if_neg (by simp)])
              go_wp2
              go_roundw
              case rel => exact ⟨m, n, rfl, rfl, hla, hlb, HE2.out, q⟩
              case measure => simp [intOf]; omega
            · obtain rfl : cc = c := by rw [← HE.out, if_pos c0]
              have c1 : (cc != 0) = true := bne_iff_ne.2 c0
              clear c0 HE
              go_wp2
              go_ret
              exact ⟨rfl, q⟩
      · have e1 := bs_end b k (by omega)
        rw [e1, bs_cons a i hlt, ord_cons_nil] at he
        subst he
        have hki : ¬ (k : Int) < b.size := by omega
        go_wp2
        go_ret
        exact ⟨rfl, q⟩
    · have e0 := bs_end a i (by omega)
      rw [e0] at he
      have hii : ¬ (i : Int) < a.size := by omega
      by_cases hlk : k < b.size
      · rw [bs_cons b k hlk, ord_nil_cons] at he
        subst he
        have hki : (k : Int) < b.size := by omega
        go_wp2
        go_ret
        exact ⟨rfl, q⟩
      · rw [bs_end b k (by omega), ord_nil_nil] at he
        subst he
        have hki : ¬ (k : Int) < b.size := by omega
        go_wp2
        go_ret
        exact ⟨rfl, q⟩
set_option maxRecDepth 100000 in
theorem rless_at (a b : ByteArray) (t : Bool) (w : World) (hA : a.size ≤ maxLen) (hB : b.size ≤ maxLen) (H : Hid (lessB (bs a) (bs b) = t)) : Calls Tryd.prog 15 #[.string a, .string b] w fun e w' => e = .returned (.bool t) ∧ Own w w' := by
  have hsA := Lib.hid hA
  have hsB := Lib.hid hB
  obtain ⟨ta, hta⟩ : ∃ t, vldB (bs a) = t := ⟨_, rfl⟩
  obtain ⟨tb, htb⟩ : ∃ t, vldB (bs b) = t := ⟨_, rfl⟩
  obtain ⟨c, hc⟩ : ∃ c, ordL (bs a) (bs b) = c := ⟨_, rfl⟩
  have he := H.out
  unfold lessB at he
  rw [hta, htb, hc] at he
  have HTA := Lib.hid hta
  have HTB := Lib.hid htb
  have HC := Lib.hid hc
  clear hta htb hc H hA hB
  cases ta
  · obtain rfl : false = t := he
    go_enter Tryd.func15, Tryd.ntmps15
    go_wp2_with (go_at_call 12; with_reducible refine (rvalid_at a _ _ hsA.out HTA).mono ?_; rintro e w1 ⟨rfl, rfl⟩)
    go_ret
    exact ⟨rfl, Own.refl w⟩
  · cases tb
    · obtain rfl : false = t := he
      go_enter Tryd.func15, Tryd.ntmps15
      go_wp2_with (go_at_call 12; (first | (with_reducible refine (rvalid_at a _ _ hsA.out HTA).mono ?_; rintro e w1 ⟨rfl, rfl⟩) | (with_reducible refine (rvalid_at b _ _ hsB.out HTB).mono ?_; rintro e w1 ⟨rfl, rfl⟩)))
      go_ret
      exact ⟨rfl, Own.refl w⟩
    · obtain rfl : decide (c < 0) = t := he
      cases d : decide (c < 0)
      all_goals
        go_enter Tryd.func15, Tryd.ntmps15
        go_wp2_with (first | (go_at_call 12; (first | (with_reducible refine (rvalid_at a _ _ hsA.out HTA).mono ?_; rintro e w1 ⟨rfl, rfl⟩) | (with_reducible refine (rvalid_at b _ _ hsB.out HTB).mono ?_; rintro e w1 ⟨rfl, rfl⟩))) | (go_at_call 33; with_reducible refine (order_at a b c _ hsA.out hsB.out HC).mono ?_; rintro e w2 ⟨rfl, hg⟩))
        go_ret
        exact ⟨rfl, hg⟩
end Go.Proofs.YtifiljmiehddfaaDoor.NamW
