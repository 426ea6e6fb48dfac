/-
  Walks of the program of package match: Cover, Valid. Condition: none.
-/
import Derived.Test.YtdgahlojdllkbaaMatchPF
namespace Go.Proofs.Ytdgahlojdllkbaa.MchW
open Go.ChangeShapes Go.WideShapes Go.ChangeAt Go.RowKit
open PairW CelW TabW MchP
theorem Gt.shut {l : List (List Bool)} {W R : Nat} {m : List Int} (h : Gt l W R m) (hR : l.length = R) : ∃ V S : Nat → Prop, ((∀ r c, V r → at2 l r c = true → S c) ∧ ∀ c, S c → ∃ q : Nat, m[q]? = some (c : Int) ∧ V q) ∧ ∀ i : Nat, m[i]? = some (-1) → V i := by
  obtain ⟨m0, h0, V, S, k⟩ := h
  refine ⟨V, S, ⟨fun r c hv hp => ?_, fun c hc => ?_⟩, fun i hi => ?_⟩
  · rcases k.cl.1 r c hv hp with ⟨q, _, e⟩ | e
    · omega
    · exact e
  · obtain ⟨q, e1, _, e2⟩ := k.cl.2 c hc
    exact ⟨q, (k.con.eq q c).2 e1, e2⟩
  · have := (List.getElem?_eq_some_iff.1 hi).1
    rw [k.con.lm, hR] at this
    exact k.row i (Nat.zero_le _) this hi
/-- What Cover leaves. -/
def CovR (l : List (List Bool)) (w : World) (n : Nat) (e : Ending) (w' : World) : Prop := ∃ a b A B, e = .returned (.tuple #[a, b, .int .i64 0]) ∧ Own w w' ∧ w'.ownsRow w.heap.size 3 1 a A.length (cellsI (natsI A)) ∧ w'.ownsRow w.heap.size 3 1 b B.length (cellsI (natsI B)) ∧ Cov l n A B
set_option maxRecDepth 100000 in
set_option maxHeartbeats 1000000 in
theorem pcover_at (l : List (List Bool)) (vl : Value) (n : Nat) (w : World) (HT : Hid (Cels w vl (cellsB l))) (HF : Hid (chkE l = 0)) (HN : Hid (nuV l = n)) :
    Calls Try.prog 19 #[vl] w (CovR l w n) := by
  have hcall := pcheck_at l vl 0 w HT HF
  obtain ⟨b1, b2, b3⟩ := chk_ok HF.out
  obtain ⟨R, hR⟩ : ∃ R, l.length = R := ⟨_, rfl⟩
  obtain ⟨W, hW⟩ : ∃ W, wd l = W := ⟨_, rfl⟩
  rw [hR] at b1
  rw [hW] at b2
  have HR := Lib.hid hR
  have HW := Lib.hid hW
  have HS := Lib.hid b3
  have hg := greatest_at l vl W R w HT HS HR HW b2 b1
  clear hR hW b3
  go_enter Try.func19, Try.ntmps19
  go_upto_region 4 with (go_at_call 13; refine hcall.mono ?_; rintro e w1 ⟨rfl, rfl⟩)
  go_upto_region 5 with (first
    | (go_at_call 25; refine hg.mono ?_; rintro e w2 ⟨g, m, rfl, hm, q2, hgt⟩; have HM := Lib.hid (show Cel w2 (.slice (some ⟨g, 0, none⟩) R R) (cellsI m) from cel_of_row hm); have HQ := Lib.hid q2; have HG := Lib.hid hgt; obtain ⟨V, S, hv, hvn⟩ := Gt.shut hgt HR.out; have HV := Lib.hid hv; have HVN := Lib.hid hvn; have HI := Lib.hid (Gt.isP hgt).1; have HL := Lib.hid ((Gt.isP hgt).2.trans HR.out); have HTT := Lib.hid (HT.out.own q2); have HZ := Lib.hid (show sz m = n by rw [← HN.out]; unfold nuV; rw [if_pos HF.out, nu_of (Gt.mx hgt HR.out)]); clear hm q2 hgt hv hvn)
    | (go_at_call 32; refine (reached_at l m vl (.slice (some ⟨g, 0, none⟩) R R) W R V S w2 HTT HM HI HL HS HR HW b2 b1 HV HVN).mono ?_; rintro e w3 ⟨g1, g2, rs, cs, rfl, q3, r3, c3⟩; have HQ3 := Lib.hid q3; have HR3 := Lib.hid r3; have HC3 := Lib.hid c3; clear q3 r3 c3))
  clear hcall hg
  have h1 := places_at rs false (.slice (some ⟨g1, 0, none⟩) R R) R w3 (Lib.hid (cel_of_row HR3.out.rr)) (Lib.hid HR3.out.lens.1) b1
  go_upto_region 6 with (first
    | (go_at_call 33; with_reducible refine h1.mono ?_; rintro e w4 ⟨a, rfl, ha, q4⟩; have HA := Lib.hid ha; have HQ4 := Lib.hid q4; have HCW := Lib.hid ((cel_of_row HR3.out.rc).own q4); clear ha q4)
    | (go_at_call 33; with_reducible refine (places_at cs true (.slice (some ⟨g2, 0, none⟩) W W) W w4 HCW (Lib.hid HR3.out.lens.2) b2).mono ?_; rintro e w5 ⟨b, rfl, hb, q5⟩; have HB := Lib.hid hb; have HQ5 := Lib.hid q5; clear hb q5))
  all_goals
    go_wp2
    go_ret3
    refine ⟨a, b, _, _, rfl, ((HQ.out.trans HQ3.out).trans HQ4.out).trans HQ5.out, row_down (row_own HA.out HQ5.out) (HQ.out.trans HQ3.out).size, row_down HB.out ((HQ.out.trans HQ3.out).trans HQ4.out).size, ?_⟩
    rw [← HZ.out]
    exact HC3.out.cov HS.out HI.out HL.out HR.out HW.out
set_option maxRecDepth 100000 in
theorem pcover_bad (l : List (List Bool)) (vl : Value) (f : Int) (w : World) (HT : Hid (Cels w vl (cellsB l))) (HF : Hid (chkE l = f)) (h0 : f ≠ 0) :
    Calls Try.prog 19 #[vl] w (fun e w' => e = .returned (.tuple #[.slice none 0 0, .slice none 0 0, .int .i64 f]) ∧ w = w') := by
  have hcall := pcheck_at l vl f w HT HF
  have d1 : (f == 0) = false := beq_eq_false_iff_ne.2 h0
  have d2 : (f != 0) = true := bne_iff_ne.2 h0
  go_enter Try.func19, Try.ntmps19
  go_wp2_with (go_at_call 13; refine hcall.mono ?_; rintro e w1 ⟨rfl, rfl⟩)
  go_ret3
  exact ⟨rfl, rfl⟩
/-- A matching of a table that Check accepts. -/
def VOk (l : List (List Bool)) (m : List Int) : Prop := chkE l = 0 ∧ m.length = l.length ∧ IsP l m
/-- The first j elements may stand in a matching; which columns are taken. -/
structure VJ (l : List (List Bool)) (m : List Int) (W j : Nat) (s : List Bool) : Prop where
  ls : s.length = W
  ok : ∀ (i : Nat) x, i < j → m[i]? = some x → x = -1 ∨ ∃ c : Nat, x = (c : Int) ∧ at2 l i c = true
  one : ∀ i k c : Nat, i < j → k < j → m[i]? = some (c : Int) → m[k]? = some (c : Int) → i = k
  tk : ∀ c : Nat, s[c]? = some true ↔ c < W ∧ ∃ i : Nat, i < j ∧ m[i]? = some (c : Int)
theorem vj_zero (l : List (List Bool)) (m : List Int) (W : Nat) : VJ l m W 0 (List.replicate W false) := by
  refine ⟨List.length_replicate, fun i x h => absurd h (Nat.not_lt_zero _), fun i k c h => absurd h (Nat.not_lt_zero _), fun c => ⟨fun h => ?_, fun ⟨_, i, h, _⟩ => absurd h (Nat.not_lt_zero _)⟩⟩
  rw [List.getElem?_replicate] at h
  split at h
  · injection h with h; cases h
  · cases h
theorem VJ.none {l : List (List Bool)} {m : List Int} {W j : Nat} {s : List Bool} (h : VJ l m W j s) (hx : m[j]? = some (-1)) : VJ l m W (j + 1) s := by
  have key : ∀ i c : Nat, i < j + 1 → m[i]? = some (c : Int) → i < j := fun i c hi hc => by
    by_cases e : i = j
    · rw [e, hx] at hc
      injection hc with hc
      omega
    · omega
  refine ⟨h.ls, fun i x hi hc => ?_, fun i k c hi hk h1 h2 => h.one i k c (key i c hi h1) (key k c hk h2) h1 h2, fun c => (h.tk c).trans ⟨fun ⟨a, i, b, e⟩ => ⟨a, i, by omega, e⟩, fun ⟨a, i, b, e⟩ => ⟨a, i, key i c b e, e⟩⟩⟩
  by_cases e : i = j
  · rw [e, hx] at hc
    injection hc with hc
    exact .inl hc.symm
  · exact h.ok i x (by omega) hc
theorem VJ.put {l : List (List Bool)} {m : List Int} {W j c : Nat} {s : List Bool} (h : VJ l m W j s) (hx : m[j]? = some (c : Int)) (hp : at2 l j c = true) (hs : s[c]? = some false) : VJ l m W (j + 1) (s.set c true) := by
  have hcl := (List.getElem?_eq_some_iff.1 hs).1
  have hcW : c < W := by rw [← h.ls]; exact hcl
  have hno : ∀ i : Nat, i < j → m[i]? ≠ some (c : Int) := fun i hi e => by
    have := (h.tk c).2 ⟨hcW, i, hi, e⟩
    rw [hs] at this
    injection this with this
    cases this
  refine ⟨List.length_set.trans h.ls, fun i x hi hc => ?_, fun i k d hi hk h1 h2 => ?_, fun d => ?_⟩
  · by_cases e : i = j
    · rw [e, hx] at hc
      injection hc with hc
      exact .inr ⟨c, hc.symm, by rw [e]; exact hp⟩
    · exact h.ok i x (by omega) hc
  · by_cases e1 : i = j
    · by_cases e2 : k = j
      · rw [e1, e2]
      · rw [e1, hx] at h1
        injection h1 with h1
        rw [← h1] at h2
        exact absurd h2 (hno k (by omega))
    · by_cases e2 : k = j
      · rw [e2, hx] at h2
        injection h2 with h2
        rw [← h2] at h1
        exact absurd h1 (hno i (by omega))
      · exact h.one i k d (by omega) (by omega) h1 h2
  · rw [List.getElem?_set]
    by_cases e : c = d
    · rw [if_pos e, if_pos hcl]
      subst e
      exact ⟨fun _ => ⟨hcW, j, by omega, hx⟩, fun _ => rfl⟩
    · rw [if_neg e, h.tk d]
      refine ⟨fun ⟨a, i, b, q⟩ => ⟨a, i, by omega, q⟩, fun ⟨a, i, b, q⟩ => ⟨a, i, ?_, q⟩⟩
      by_cases e2 : i = j
      · rw [e2, hx] at q
        injection q with q
        omega
      · omega
theorem VJ.end_ {l : List (List Bool)} {m : List Int} {W : Nat} {s : List Bool} (h : VJ l m W m.length s) : IsP l m :=
  ⟨fun i x hx => h.ok i x (List.getElem?_eq_some_iff.1 hx).1 hx, fun i j c h1 h2 => h.one i j c (List.getElem?_eq_some_iff.1 h1).1 (List.getElem?_eq_some_iff.1 h2).1 h1 h2⟩
set_option maxRecDepth 100000 in
set_option maxHeartbeats 2000000 in
theorem pvalid_at (l : List (List Bool)) (m : List Int) (vl vm : Value) (t : Bool) (w : World) (HT : Hid (Cels w vl (cellsB l))) (HM : Hid (Cel w vm (cellsI m))) (HV : Hid (t = true ↔ VOk l m)) :
    Calls Try.prog 20 #[vl, vm] w fun e w' => e = .returned (.bool t) ∧ Own w w' := by
  obtain ⟨f, hf⟩ : ∃ f, chkE l = f := ⟨_, rfl⟩
  have HF := Lib.hid hf
  have hcall := pcheck_at l vl f w HT HF
  clear hf
  obtain ⟨AL, capl, rfl, t1, t2, _⟩ := tb_open HT.out
  obtain ⟨Am, capm, rfl, u1, u2, hmc⟩ := cel_int HM.out
  unfold maxLen at t2 u2
  have HMC := Lib.hid hmc
  clear hmc
  obtain ⟨R, hR⟩ : ∃ R, l.length = R := ⟨_, rfl⟩
  obtain ⟨n, hn⟩ : ∃ n, m.length = n := ⟨_, rfl⟩
  rw [hR] at t1 HT hcall ⊢
  rw [hn] at u1 HM HMC ⊢
  have HR := Lib.hid hR
  have HN := Lib.hid hn
  clear hR hn
  by_cases h0 : f = 0
  · subst h0
    by_cases hRn : n = R
    · subst hRn
      obtain ⟨b1, b2, b3⟩ := chk_ok HF.out
      obtain ⟨W, hW⟩ : ∃ W, wd l = W := ⟨_, rfl⟩
      rw [HR.out] at b1
      rw [hW] at b2
      have HW := Lib.hid hW
      have HS := Lib.hid b3
      obtain ⟨i1, hi, hz0, hz1, hz2⟩ := info_parts (show (Try.prog.info? 4).map (fun i => (i.zero, i.size, i.bytes)) = some (some (.bool false), 1, 1) by kernel_rfl)
      have JI := Lib.hid hi
      have JZ0 := Lib.hid hz0
      have JZ1 := Lib.hid hz1
      have HBY := Lib.hid (show i1.bytes * W ≤ 281474976710656 by rw [hz2]; omega)
      have HMX := Lib.hid (show W ≤ maxLen by unfold maxLen; omega)
      have HZL := Lib.hid (show (madeCells (Value.bool false).cells (W * 1)).toList = cellsT (List.replicate W false) by rw [Nat.mul_one]; show (madeCells #[Value.bool false] W).toList = _; rw [toList_madeCells_one]; unfold cellsT; rw [List.map_replicate])
      have hwid := pwidth_at l _ W w HT HW
      clear hW b3 hi hz0 hz1 hz2
      go_enter Try.func20, Try.ntmps20
      go_upto_region 4 with (first
        | (go_at_call 13; refine hcall.mono ?_; rintro e w1 ⟨rfl, rfl⟩)
        | (go_at_call 27; refine hwid.mono ?_; rintro e w1 ⟨rfl, rfl⟩)
        | (at_make; refine wpList_make_full _ rfl _ _ 38 rfl w.heap.size 4 i1 (.bool false) 1 Try.underlying38 JI.out JZ0.out JZ1.out _ _ _ _ W rfl rfl rfl rfl HBY.out HMX.out (Nat.le_refl _) ?_; intro w3 hown3 hg3; have q3 := (Own.refl w).grown hg3 (by simp); have HR3 := Lib.hid (show w3.ownsRow w.heap.size 4 1 (.slice (some ⟨w.heap.size, 0, none⟩) W W) W (cellsT (List.replicate W false)) from HZL.out ▸ hown3); have HQ3 := Lib.hid q3; clear hown3 hg3 q3))
      obtain ⟨g, hg⟩ : ∃ g, w.heap.size = g := ⟨_, rfl⟩
      have HGB := Lib.hid (show w.heap.size ≤ g by omega)
      rw [hg] at HR3 ⊢
      have HVJ := Lib.hid (vj_zero l m W)
      clear hg hcall hwid
      go_wp2
      go_loopw [6, 7, 23] (fun _ _ vi wr => ∃ (j : Nat) (s : List Bool), vi = .int .i64 (j : Int) ∧ j ≤ n ∧ Own w wr ∧ wr.ownsRow g 4 1 (.slice (some ⟨g, 0, none⟩) W W) W (cellsT s) ∧ VJ l m W j s) (fun _ _ vi _ => n - (intOf vi).toNat)
      case atStart => exact ⟨0, _, rfl, Nat.zero_le _, HQ3.out, HR3.out, HVJ.out⟩
      case round =>
        clear HQ3 HR3 HVJ
        obtain ⟨j, s, rfl, hj, q, hrow, hvj⟩ := hrel
        have HQ := Lib.hid q
        have HROW := Lib.hid hrow
        have HVJ := Lib.hid hvj
        clear q hrow hvj
        by_cases hlt : j < n
        · obtain ⟨gb, ob, rfl, hcell⟩ := HMC.out (by omega)
          obtain ⟨x, hx⟩ : ∃ x, m[j]? = some x := ⟨_, List.getElem?_eq_getElem (by rw [HN.out]; exact hlt)⟩
          have e0 := HQ.out.cell (hcell j x hx)
          have hjz : (j : Int) < n := by omega
          have HX := Lib.hid hx
          clear hcell hx
          by_cases hx1 : x = -1
          · subst hx1
            have HN1 := Lib.hid (HVJ.out.none HX.out)
            go_wp2
            go_roundw
            case rel => exact ⟨j + 1, s, by go_num, hlt, HQ.out, HROW.out, HN1.out⟩
            case measure => simp [intOf]; omega
          · have d1 : (x == -1) = false := beq_eq_false_iff_ne.2 hx1
            by_cases hx0 : x < 0
            · obtain rfl : t = false := by
                cases t with
                | false => rfl
                | true =>
                  obtain ⟨_, _, hp⟩ := HV.out.1 rfl
                  rcases hp.ok j x HX.out with e | ⟨c, e, _⟩ <;> omega
              go_wp2
              go_ret
              exact ⟨rfl, HQ.out⟩
            · obtain ⟨c, rfl⟩ : ∃ c : Nat, x = (c : Int) := ⟨x.toNat, by omega⟩
              by_cases hcW : c < W
              · have hcz : ¬ (W : Int) ≤ (c : Int) := by omega
                have hcz2 : (c : Int) < W := by omega
                obtain ⟨gl, ol, cpl, A, cr, he, _, _, e1, h4, h5, hrow⟩ := tb_row HT.out HS.out HR.out HW.out hlt
                injection he with ea eb ec
                subst ea
                subst ec
                obtain ⟨g2, og, rfl, e2⟩ := hrow c hcW
                replace e1 := HQ.out.cell e1
                replace e2 := HQ.out.cell e2
                unfold maxLen at h5
                obtain ⟨b, e3, hb, f3⟩ := row_bool HROW.out HVJ.out.ls hcW
                have HB := Lib.hid hb
                clear hrow hb eb
                cases hp : at2 l j c with
                | false =>
                  rw [hp] at e2
                  obtain rfl : t = false := by
                    cases t with
                    | false => rfl
                    | true =>
                      obtain ⟨_, _, hq⟩ := HV.out.1 rfl
                      rcases hq.ok j _ HX.out with e | ⟨d, e, hd⟩
                      · omega
                      · obtain rfl : c = d := by omega
                        rw [hp] at hd
                        cases hd
                  clear hp
                  go_wp2
                  go_ret
                  exact ⟨rfl, HQ.out⟩
                | true =>
                  rw [hp] at e2
                  have HP := Lib.hid hp
                  clear hp
                  cases b with
                  | true =>
                    obtain rfl : t = false := by
                      cases t with
                      | false => rfl
                      | true =>
                        obtain ⟨_, _, hq⟩ := HV.out.1 rfl
                        obtain ⟨_, i, hi, hm⟩ := (HVJ.out.tk c).1 HB.out
                        have := hq.one i j c hm HX.out
                        omega
                    go_wp2
                    go_ret
                    exact ⟨rfl, HQ.out⟩
                  | false =>
                    have HN1 := Lib.hid (HVJ.out.put HX.out HP.out HB.out)
                    have HRW := Lib.hid (row_put HROW.out c true)
                    have HQS := Lib.hid (HQ.out.setCell (p := ⟨g, c, none⟩) HGB.out (.bool true))
                    go_wp2
                    go_roundw
                    case rel => exact ⟨j + 1, _, by go_num, hlt, HQS.out, HRW.out, HN1.out⟩
                    case measure => simp [intOf]; omega
              · have hcz : (W : Int) ≤ (c : Int) := by omega
                obtain rfl : t = false := by
                  cases t with
                  | false => rfl
                  | true =>
                    obtain ⟨_, _, hq⟩ := HV.out.1 rfl
                    rcases hq.ok j _ HX.out with e | ⟨d, e, hd⟩
                    · omega
                    · obtain rfl : c = d := by omega
                      have := at2_col HS.out hd
                      rw [HW.out] at this
                      omega
                go_wp2
                go_ret
                exact ⟨rfl, HQ.out⟩
        · obtain rfl : n = j := by omega
          obtain rfl : t = true := HV.out.2 ⟨HF.out, HN.out.trans HR.out.symm, (show VJ l m W m.length s by rw [HN.out]; exact HVJ.out).end_⟩
          go_wp2
          go_ret
          exact ⟨rfl, HQ.out⟩
    · obtain rfl : t = false := by
        cases t with
        | false => rfl
        | true =>
          have := (HV.out.1 rfl).2.1
          rw [HN.out, HR.out] at this
          exact absurd this hRn
      have d1 : ((n : Int) != (R : Int)) = true := bne_iff_ne.2 (by omega)
      go_enter Try.func20, Try.ntmps20
      go_wp2_with (go_at_call 13; refine hcall.mono ?_; rintro e w1 ⟨rfl, rfl⟩)
      go_ret
      exact ⟨rfl, Own.refl _⟩
  · obtain rfl : t = false := by
      cases t with
      | false => rfl
      | true =>
        have := (HV.out.1 rfl).1
        rw [HF.out] at this
        exact absurd this h0
    have d2 : (f != 0) = true := bne_iff_ne.2 h0
    go_enter Try.func20, Try.ntmps20
    go_wp2_with (go_at_call 13; refine hcall.mono ?_; rintro e w1 ⟨rfl, rfl⟩)
    go_ret
    exact ⟨rfl, Own.refl _⟩
end Go.Proofs.Ytdgahlojdllkbaa.MchW
