/-
  Walks of the program of package assign: Check, sum, isAssignment, Cost. Condition: none.
-/
import Derived.Test.YtfhdoeajoeaddaaAssignB
import Derived.OwnWalk
namespace Go.Proofs.Ytfhdoeajoeaddaa.AsgW
open Go.ChangeShapes Go.WideShapes Go.ChangeAt Go.RowKit
open PairW CelW TabW MchW AsgP
set_option maxRecDepth 100000 in
set_option maxHeartbeats 1000000 in
theorem pacheck_at (c : Tb) (v : Value) (f : Int) (w : World) (HT : Hid (Cels w v (cellsG c))) (HF : Hid (chA c = f)) :
    Calls Try.prog 12 #[v] w fun e w' => e = .returned (.int .i64 f) ∧ w = w' := by
  obtain ⟨A, cap, rfl, h1, h2, h3⟩ := gt_open HT.out
  unfold maxLen at h2
  have H3 := Lib.hid h3
  clear h3
  obtain ⟨n, hn⟩ : ∃ n, c.length = n := ⟨_, rfl⟩
  rw [hn] at h1 H3 HT ⊢
  have HN := Lib.hid hn
  clear hn
  by_cases h0 : 16 < n
  · obtain rfl : 3 = f := by rw [← HF.out]; exact (chA_full (by rw [HN.out]; exact h0)).symm
    have d0 : (16 : Int) < n := by omega
    go_enter Try.func12, Try.ntmps12
    go_wp2
    go_ret
    exact ⟨rfl, rfl⟩
  · have d0 : ¬ (16 : Int) < n := by omega
    go_enter Try.func12, Try.ntmps12
    go_wp2
    go_loopw [4, 14] (fun _ vi wr => ∃ j : Nat, vi = .int .i64 (j : Int) ∧ j ≤ n ∧ w = wr ∧ ∀ (i : Nat) r, i < j → c[i]? = some r → r.length = n) (fun _ vi _ => n - (intOf vi).toNat)
    case atStart => exact ⟨0, rfl, Nat.zero_le _, rfl, fun i r h => absurd h (Nat.not_lt_zero _)⟩
    case round =>
      obtain ⟨j, rfl, hj, rfl, hok⟩ := hrel
      have HOK := Lib.hid hok
      clear hok
      by_cases hlt : j < n
      · obtain ⟨g, off, rfl, h4⟩ := H3.out (by omega)
        obtain ⟨r, hr⟩ : ∃ r, c[j]? = some r := ⟨_, List.getElem?_eq_getElem (by rw [HN.out]; exact hlt)⟩
        obtain ⟨u, h5, h6⟩ := h4 j r hr
        obtain ⟨B, cr, rfl, h7, h8, _⟩ := cel_int h6
        unfold maxLen at h8
        have hjn : (j : Int) < n := by omega
        have HR := Lib.hid hr
        obtain ⟨k, hk⟩ : ∃ k, r.length = k := ⟨_, rfl⟩
        rw [hk] at h5 h7
        have HK := Lib.hid hk
        clear h4 h6 hr hk
        by_cases e : k = n
        · subst e
          go_wp2
          go_roundw
          case rel => exact ⟨j + 1, by go_num, hlt, trivial, fun i r' hi hr' => by
            by_cases e : i = j
            · subst e
              rw [HR.out] at hr'
              injection hr' with hr'
              rw [← hr']
              exact HK.out
            · exact HOK.out i r' (by omega) hr'⟩
          case measure => simp [intOf]; omega
        · obtain rfl : 2 = f := by rw [← HF.out]; exact (chA_form (by rw [HN.out]; omega) HR.out (by rw [HK.out, HN.out]; exact e)).symm
          have d2 : ((k : Int) != (n : Int)) = true := bne_iff_ne.2 (by omega)
          go_wp2
          go_ret
          exact ⟨rfl, rfl⟩
      · obtain rfl : n = j := by omega
        have HS := Lib.hid (show Sqa c from fun r hr => by
          obtain ⟨i, hi, e⟩ := List.mem_iff_getElem.1 hr
          rw [HN.out]
          exact HOK.out i r (by rw [← HN.out]; exact hi) (by rw [List.getElem?_eq_getElem hi, e]))
        clear HOK H3
        go_wp2
        go_loopw [6, 8, 26] (fun _ _ vi wr => ∃ i : Nat, vi = .int .i64 (i : Int) ∧ i ≤ n ∧ w = wr ∧ ∀ a, a < i → ∀ b, b < n → 0 ≤ ct c a b ∧ ct c a b ≤ 1099511627776) (fun _ _ vi _ => n - (intOf vi).toNat)
        case atStart => exact ⟨0, rfl, Nat.zero_le _, rfl, fun a h => absurd h (Nat.not_lt_zero _)⟩
        case round =>
          obtain ⟨i, rfl, hi, rfl, hok⟩ := hrel
          have HOK := Lib.hid hok
          clear hok
          by_cases hlt : i < n
          · have hin : (i : Int) < n := by omega
            obtain ⟨g, off, cap', gr, og, cr, ev, h3, h4, h5, h6, h7, h8⟩ := gt_row HT.out HS.out HN.out hlt
            injection ev with ev1 ev2 ev3
            subst ev1 ev3
            unfold maxLen at h7
            have H8 := Lib.hid h8
            clear h8 h4
            go_wp2
            go_loopw [8, 32] (fun _ vj wr => ∃ j : Nat, vj = .int .i64 (j : Int) ∧ j ≤ n ∧ w = wr ∧ ∀ b, b < j → 0 ≤ ct c i b ∧ ct c i b ≤ 1099511627776) (fun _ vj _ => n - (intOf vj).toNat)
            case atStart => exact ⟨0, rfl, Nat.zero_le _, rfl, fun a h => absurd h (Nat.not_lt_zero _)⟩
            case round =>
              obtain ⟨j, rfl, hj, rfl, hok2⟩ := hrel
              have HOK2 := Lib.hid hok2
              clear hok2
              by_cases hlt2 : j < n
              · have h8 := H8.out
                have h9 := h8 j hlt2
                have hjn : (j : Int) < n := by omega
                obtain ⟨x, hx⟩ : ∃ x, ct c i j = x := ⟨_, rfl⟩
                rw [hx] at h9
                have HX := Lib.hid hx
                clear hx h8
                have bad : (x < 0 ∨ 1099511627776 < x) → 1 = f := fun q => by
                  rw [← HF.out]
                  obtain ⟨r, hr⟩ : ∃ r, c[i]? = some r := ⟨_, List.getElem?_eq_getElem (by rw [HN.out]; exact hlt)⟩
                  have hl := HS.out r (List.mem_of_getElem? hr)
                  rw [HN.out] at hl
                  exact (chA_range (by rw [HN.out]; omega) HS.out hr (row_ct (j := j) hr (by omega)) (by rw [HX.out]; exact q)).symm
                have BAD := Lib.hid bad
                clear bad
                by_cases e1 : x < 0
                · obtain rfl := BAD.out (.inl e1)
                  go_wp2
                  go_ret
                  exact ⟨rfl, rfl⟩
                · by_cases e2 : 1099511627776 < x
                  · obtain rfl := BAD.out (.inr e2)
                    go_wp2
                    go_ret
                    exact ⟨rfl, rfl⟩
                  · go_wp2
                    go_roundw
                    case rel => exact ⟨j + 1, by go_num, hlt2, trivial, fun b hb => by
                      by_cases e : b = j
                      · subst e; rw [HX.out]; omega
                      · exact HOK2.out b (by omega)⟩
                    case measure => simp [intOf]; omega
              · obtain rfl : n = j := by omega
                go_wp2
                go_roundw
                case rel => exact ⟨i + 1, by go_num, hlt, trivial, fun a ha => by
                  by_cases e : a = i
                  · subst e; exact HOK2.out
                  · exact HOK.out a (by omega)⟩
                case measure => simp [intOf]; omega
          · obtain rfl : n = i := by omega
            obtain rfl : 0 = f := by
              rw [← HF.out]
              exact (chA_fine (by rw [HN.out]; omega) HS.out (rga_mk HS.out (by rw [HN.out]; exact HOK.out))).symm
            go_wp2
            go_ret
            exact ⟨rfl, rfl⟩
set_option maxRecDepth 100000 in
set_option maxHeartbeats 2000000 in
theorem psum_at (c : Tb) (l : List Int) (vc vl : Value) (n : Nat) (m : Int) (w : World) (HT : Hid (Cels w vc (cellsG c))) (HL : Hid (Cel w vl (cellsI l))) (HS : Hid (Sqa c)) (HR : Hid (Rga c)) (HN : Hid (c.length = n)) (b1 : n ≤ 16) (HA : Hid (IsA n l)) (HM : Hid (cost c l = m)) :
    Calls Try.prog 25 #[vc, vl] w fun e w' => e = .returned (.int .i64 m) ∧ w = w' := by
  obtain ⟨AC, capc, rfl, t1, t2, _⟩ := gt_open HT.out
  rw [HN.out] at t1 HT ⊢
  unfold maxLen at t2
  have hll := HA.out.len
  have HLL := Lib.hid hll
  obtain ⟨AL, capl, rfl, l1, l2, l3⟩ := cel_int HL.out
  unfold maxLen at l2
  rw [hll] at l1 l3 ⊢
  have H3 := Lib.hid l3
  clear l3 hll HL
  go_enter Try.func25, Try.ntmps25
  go_wp2
  go_loopw [5, 6, 7, 10] (fun vt _ _ vi wr => ∃ (i : Nat) (t : Int), vt = .int .i64 t ∧ vi = .int .i64 (i : Int) ∧ i ≤ n ∧ w = wr ∧ costK c l i = t) (fun _ _ _ vi _ => n - (intOf vi).toNat)
  case atStart => exact ⟨0, 0, rfl, rfl, Nat.zero_le _, rfl, rfl⟩
  case round =>
    obtain ⟨i, t, rfl, rfl, hi, rfl, ht⟩ := hrel
    have HTT := Lib.hid ht
    have tb := costK_bound HR.out l i
    rw [ht] at tb
    obtain ⟨tb1, tb2⟩ := tb
    clear ht
    by_cases hlt : i < n
    · have hin : (i : Int) < n := by omega
      have tb3 : t ≤ 17592186044416 := by omega
      obtain ⟨g, off, rfl, h4⟩ := H3.out (by omega)
      obtain ⟨x, hx⟩ : ∃ x, cl l i = x := ⟨_, rfl⟩
      have hxn := HA.out.lt hlt
      rw [hx] at hxn
      have hxz : (x : Int) < n := by omega
      have e0 := h4 i _ (getD_at (by rw [HLL.out]; exact hlt))
      rw [show l.getD i 0 = (x : Int) by rw [← hx]; unfold cl; have := (HA.out.at hlt).1; omega] at e0
      obtain ⟨gl, ol, cpl, gr, og, cr, he, _, _, e1, h5, h6, hcell⟩ := gt_row HT.out HS.out HN.out hlt
      injection he with ea eb ec
      subst ea
      subst ec
      unfold maxLen at h6
      have e2 := hcell x hxn
      obtain ⟨u, hu⟩ : ∃ u, ct c i x = u := ⟨_, rfl⟩
      rw [hu] at e2
      have hub := okc_of HR.out i x
      rw [hu] at hub
      obtain ⟨hub1, hub2⟩ := hub
      have HNX := Lib.hid (show costK c l (i + 1) = t + u by
        have e : costK c l (i + 1) = costK c l i + ct c i (cl l i) := rfl
        rw [e, HTT.out, hx, hu])
      clear hcell h4 eb hx hu tb2
      go_wp2
      go_roundw
      case rel => exact ⟨i + 1, t + u, by go_num, by go_num, hlt, trivial, HNX.out⟩
      case measure => simp [intOf]; omega
    · obtain rfl : n = i := by omega
      obtain rfl : m = t := by rw [← HTT.out, ← HM.out]; unfold cost; rw [HN.out]
      go_wp2
      go_ret
      exact ⟨rfl, rfl⟩
/-- The first i elements are columns, each once; T says which. -/
structure Tk (n : Nat) (l : List Int) (i : Nat) (T : List Bool) : Prop where
  len : T.length = n
  ok : ∀ a, a < i → (0 ≤ l.getD a 0 ∧ l.getD a 0 < (n : Int)) ∧ ∀ b, b < a → l.getD b 0 ≠ l.getD a 0
  iff : ∀ x, x < n → (T[x]? = some true ↔ ∃ a, a < i ∧ l.getD a 0 = (x : Int))
theorem tk_start (n : Nat) (l : List Int) : Tk n l 0 (List.replicate n false) :=
  ⟨List.length_replicate .., fun a h => absurd h (Nat.not_lt_zero _), fun x hx => ⟨fun h => (by rw [List.getElem?_replicate, if_pos hx] at h; cases h), fun ⟨a, h, _⟩ => absurd h (Nat.not_lt_zero _)⟩⟩
theorem Tk.next {n i x : Nat} {l : List Int} {T : List Bool} (k : Tk n l i T) (hx : x < n) (e : l.getD i 0 = (x : Int)) (h0 : T[x]? = some false) : Tk n l (i + 1) (T.set x true) := by
  refine ⟨by rw [List.length_set]; exact k.len, fun a ha => ?_, fun y hy => ?_⟩
  · by_cases d : a = i
    · subst d
      refine ⟨by omega, fun b hb e2 => ?_⟩
      have := (k.iff x hx).2 ⟨b, hb, e2.trans e⟩
      rw [h0] at this
      cases this
    · exact k.ok a (by omega)
  · rw [List.getElem?_set]
    by_cases d : x = y
    · subst d
      rw [if_pos rfl, if_pos (by rw [k.len]; exact hx)]
      exact ⟨fun _ => ⟨i, by omega, e⟩, fun _ => rfl⟩
    · rw [if_neg d, k.iff y hy]
      exact ⟨fun ⟨a, h1, h2⟩ => ⟨a, by omega, h2⟩, fun ⟨a, h1, h2⟩ => ⟨a, (by
        by_cases q : a = i
        · subst q; omega
        · omega), h2⟩⟩
set_option maxRecDepth 100000 in
set_option maxHeartbeats 2000000 in
theorem pisa_at (l : List Int) (v : Value) (n : Nat) (b : Bool) (w : World) (HL : Hid (Cel w v (cellsI l))) (hn : n ≤ 16) (HB : Hid (asgV n l = b)) :
    Calls Try.prog 26 #[v, .int .i64 (n : Int)] w fun e w' => e = .returned (.bool b) ∧ Own w w' := by
  obtain ⟨A, cap, rfl, h1, h2, h3⟩ := cel_int HL.out
  unfold maxLen at h2
  have H3 := Lib.hid h3
  clear h3
  obtain ⟨k, hk⟩ : ∃ k, l.length = k := ⟨_, rfl⟩
  rw [hk] at h1 H3 ⊢
  have HK := Lib.hid hk
  clear hk HL
  have no : ¬ IsA n l → false = b := fun q => by
    rw [← HB.out]
    exact (Bool.eq_false_iff.2 fun r => q (asgV_iff.1 r)).symm
  have NO := Lib.hid no
  clear no
  by_cases hkn : k = n
  · subst hkn
    obtain ⟨i1, hi, hz0, hz1, hz2⟩ := info_parts (show (Try.prog.info? 4).map (fun i => (i.zero, i.size, i.bytes)) = some (some (.bool false), 1, 1) by kernel_rfl)
    have JI := Lib.hid hi
    have JZ0 := Lib.hid hz0
    have JZ1 := Lib.hid hz1
    have HBY := Lib.hid (show i1.bytes * k ≤ 281474976710656 by rw [hz2]; omega)
    have HMX := Lib.hid (show k ≤ maxLen by unfold maxLen; omega)
    have HZL := Lib.hid (show (madeCells (Value.bool false).cells (k * 1)).toList = cellsT (List.replicate k false) by rw [Nat.mul_one]; show (madeCells #[Value.bool false] k).toList = _; rw [toList_madeCells_one]; unfold cellsT; rw [List.map_replicate])
    clear hi hz0 hz1 hz2
    go_enter Try.func26, Try.ntmps26
    go_wp2_with (at_make; refine wpList_make_full _ rfl _ _ 39 rfl w.heap.size 4 i1 (.bool false) 1 Try.underlying39 JI.out JZ0.out JZ1.out _ _ _ _ k rfl rfl rfl rfl HBY.out HMX.out (Nat.le_refl _) ?_; intro w3 hown3 hg3; have q3 := Lib.hid ((Own.refl w).grown hg3 (by simp)); have HR3 := Lib.hid (show w3.ownsRow w.heap.size 4 1 (.slice (some ⟨w.heap.size, 0, none⟩) k k) k (cellsT (List.replicate k false)) from HZL.out ▸ hown3); clear hown3 hg3)
    obtain ⟨gt, hgt⟩ : ∃ g, w.heap.size = g := ⟨_, rfl⟩
    have HG := Lib.hid hgt
    rw [hgt] at HR3
    have HGT := Lib.hid (Nat.le_of_eq hgt)
    simp only [hgt]
    clear hgt
    go_loopw [7, 16] (fun _ vi wr => ∃ (i : Nat) (T : List Bool), vi = .int .i64 (i : Int) ∧ i ≤ k ∧ Own w wr ∧ wr.ownsRow gt 4 1 (.slice (some ⟨gt, 0, none⟩) k k) k (cellsT T) ∧ Tk k l i T) (fun _ vi _ => k - (intOf vi).toNat)
    case atStart => exact ⟨0, _, rfl, Nat.zero_le _, q3.out, HR3.out, tk_start k l⟩
    case round =>
      clear HR3 q3
      obtain ⟨i, T, rfl, hi, q, hr, hk⟩ := hrel
      have HQ := Lib.hid q
      have HR := Lib.hid hr
      have HTK := Lib.hid hk
      clear q hr hk
      by_cases hlt : i < k
      · obtain ⟨g, off, rfl, h4⟩ := H3.out (by omega)
        have e0 := HQ.out.cell (h4 i _ (getD_at (by rw [HK.out]; exact hlt)))
        obtain ⟨x, hx⟩ : ∃ x, l.getD i 0 = x := ⟨_, rfl⟩
        rw [hx] at e0
        have HX := Lib.hid hx
        clear hx h4
        have hik : (i : Int) < k := by omega
        by_cases c1 : x < 0
        · obtain rfl := NO.out fun h => by have := (h.at hlt).1; rw [HX.out] at this; omega
          go_wp2
          go_ret
          exact ⟨rfl, HQ.out⟩
        · by_cases c2 : (k : Int) ≤ x
          · obtain rfl := NO.out fun h => by have := (h.at hlt).2; rw [HX.out] at this; omega
            go_wp2
            go_ret
            exact ⟨rfl, HQ.out⟩
          · obtain ⟨y, rfl⟩ : ∃ y : Nat, x = y := ⟨x.toNat, by omega⟩
            have hyk : y < k := by omega
            obtain ⟨t, e1, ht, e2⟩ := row_bool HR.out HTK.out.len hyk
            cases t with
            | true =>
              obtain rfl := NO.out fun h => by
                obtain ⟨a, ha, ea⟩ := (HTK.out.iff y hyk).1 ht
                exact h.ne hlt ha (ea.trans HX.out.symm)
              clear ht
              go_wp2
              go_ret
              exact ⟨rfl, HQ.out⟩
            | false =>
              have HNX := Lib.hid (HTK.out.next hyk HX.out ht)
              clear ht
              go_wp2
              go_roundw
              case rel => exact ⟨i + 1, _, by go_num, hlt, HQ.out.setCell HGT.out _, row_put HR.out y true, HNX.out⟩
              case measure => simp [intOf]; omega
      · obtain rfl : k = i := by omega
        obtain rfl : true = b := by rw [← HB.out]; exact (asgV_iff.2 (isA_mk HK.out HTK.out.ok)).symm
        go_wp2
        go_ret
        exact ⟨rfl, HQ.out⟩
  · obtain rfl := NO.out fun h => hkn (HK.out.symm.trans h.len)
    have d0 : ((k : Int) != (n : Int)) = true := bne_iff_ne.2 (by omega)
    go_enter Try.func26, Try.ntmps26
    go_wp2
    go_ret
    exact ⟨rfl, Own.refl w⟩
set_option maxRecDepth 100000 in
set_option maxHeartbeats 2000000 in
theorem pacost_at (c : Tb) (l : List Int) (vc vl : Value) (m f : Int) (w : World) (HT : Hid (Cels w vc (cellsG c))) (HL : Hid (Cel w vl (cellsI l))) (HM : Hid (coV c l = m)) (HF : Hid (coE c l = f)) :
    Calls Try.prog 16 #[vc, vl] w fun e w' => e = .returned (.tuple #[.int .i64 m, .int .i64 f]) ∧ Own w w' := by
  obtain ⟨h, hh⟩ : ∃ h, chA c = h := ⟨_, rfl⟩
  have HH := Lib.hid hh
  clear hh
  have hcall := pacheck_at c vc h w HT HH
  by_cases h0 : h = 0
  · subst h0
    obtain ⟨b1, b2, b3⟩ := chA_ok HH.out
    obtain ⟨n, hn⟩ : ∃ n, c.length = n := ⟨_, rfl⟩
    rw [hn] at b1
    have HN := Lib.hid hn
    have HS := Lib.hid b2
    have HR := Lib.hid b3
    clear hn b2 b3
    obtain ⟨b, hb⟩ : ∃ b, asgV n l = b := ⟨_, rfl⟩
    have HB := Lib.hid hb
    clear hb
    have hasg := pisa_at l vl n b w HL b1 HB
    obtain ⟨AC, capc, rfl, t1, t2, _⟩ := gt_open HT.out
    rw [HN.out] at t1 HT hcall ⊢
    unfold maxLen at t2
    cases b with
    | false =>
      obtain rfl : 0 = m := by
        rw [← HM.out]
        unfold coV
        rw [HN.out, HB.out, if_neg (by simp)]
      obtain rfl : 2 = f := by
        rw [← HF.out]
        unfold coE
        rw [if_pos HH.out, HN.out, HB.out, if_neg (by simp)]
      go_enter Try.func16, Try.ntmps16
      go_wp2_with (first
        | (go_at_call 12; refine hcall.mono ?_; rintro e w1 ⟨rfl, rfl⟩)
        | (go_at_call 26; refine hasg.mono ?_; rintro e w2 ⟨rfl, q2⟩; have HQ2 := Lib.hid q2; clear q2))
      go_ret2
      exact ⟨rfl, HQ2.out⟩
    | true =>
      have HA := Lib.hid (asgV_iff.1 HB.out)
      obtain rfl : cost c l = m := by
        rw [← HM.out]
        unfold coV
        rw [if_pos ⟨HH.out, by rw [HN.out]; exact HB.out⟩]
      obtain rfl : 0 = f := by
        rw [← HF.out]
        unfold coE
        rw [if_pos HH.out, HN.out, HB.out, if_pos rfl]
      obtain ⟨z, hz⟩ : ∃ z, cost c l = z := ⟨_, rfl⟩
      have HZ := Lib.hid hz
      rw [hz]
      clear hz HM HF
      go_enter Try.func16, Try.ntmps16
      go_wp2_with (first
        | (go_at_call 12; refine hcall.mono ?_; rintro e w1 ⟨rfl, rfl⟩)
        | (go_at_call 26; refine hasg.mono ?_; rintro e w2 ⟨rfl, q2⟩; have HQ2 := Lib.hid q2; clear q2)
        | (go_at_call 25; refine (psum_at c l _ vl n z _ (Lib.hid (HT.out.own HQ2.out)) (Lib.hid (HL.out.own HQ2.out)) HS HR HN b1 HA HZ).mono ?_; rintro e w3 ⟨rfl, rfl⟩))
      go_ret2
      exact ⟨rfl, HQ2.out⟩
  · obtain rfl : 0 = m := by
      rw [← HM.out]
      unfold coV
      rw [if_neg fun q => h0 (by rw [← HH.out]; exact q.1)]
    obtain rfl : h = f := by
      rw [← HF.out]
      unfold coE
      rw [HH.out, if_neg h0]
    have d2 : (h != 0) = true := bne_iff_ne.2 h0
    go_enter Try.func16, Try.ntmps16
    go_wp2_with (go_at_call 12; refine hcall.mono ?_; rintro e w1 ⟨rfl, rfl⟩)
    go_ret2
    exact ⟨rfl, Own.refl _⟩
end Go.Proofs.Ytfhdoeajoeaddaa.AsgW
