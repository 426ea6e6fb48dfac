/-
  Package crc: the law Frames, over what is asked of the program. Condition: none.
-/
import Derived.Test.YtbplglndcagglaaCrcL5
import Derived.Laws.BitsAllLaws
namespace Go.Proofs.Ytbplglndcagglaa.CrcW
open Go.ChangeShapes Go.WideShapes Go.ChangeAt Go.RowKit
open PairW CelW WirP CrcP WirW
def begL (L : List Bs) (i : Nat) : List Int := (List.range i).map fun j => ((frs (L.take j)).length : Int)
theorem beg_succ (L : List Bs) (i : Nat) : begL L (i + 1) = begL L i ++ [((frs (L.take i)).length : Int)] := by unfold begL; rw [List.range_succ, List.map_append]; rfl
theorem beg_at {L : List Bs} {n i : Nat} (h : i < n) : (begL L n)[i]? = some ((frs (L.take i)).length : Int) := by unfold begL; rw [List.getElem?_map, List.getElem?_range h]; rfl
theorem head_len {c : Bs} (h : c.length ≤ 400) : (headB c).length = if 64 ≤ c.length then 2 else 1 := by
  unfold headB encI
  have hc : codeN (c.length : Int) = 2 * c.length := by unfold codeN; rw [if_neg (by omega), Int.toNat_natCast]
  rw [hc]
  by_cases h2 : 64 ≤ c.length
  · rw [var_big (by omega), var_small (by omega), if_pos h2]
    rfl
  · rw [var_small (by omega), if_neg h2]
    rfl
theorem xor_other {a b : Nat} (ha : a < 256) (hb : b < 256) (h0 : b ≠ 0) (x : UInt8) (hx : x.toNat = a) : x ≠ byteN (a ^^^ b) := fun e => by
  have h := congrArg UInt8.toNat e
  rw [byte_of (Nat.xor_lt_two_pow (n := 8) ha hb), hx] at h
  have h2 : a ^^^ (a ^^^ b) = a ^^^ a := by rw [← h]
  rw [← Nat.xor_assoc, Nat.xor_self, Nat.zero_xor] at h2
  exact h0 h2
theorem frame_row (C : CrcC) (c : Bs) (v : Value) (w : World) (N : Nat) (H : Hid (Cel w v (cellsU c))) (hc : c.length ≤ 400) (hN : (frB c).length = N) : Calls Try.prog 16 #[v] w fun e w' => ∃ A cp, e = .returned (.tuple #[.slice A N cp, .int .i64 0]) ∧ w'.ownsRow w.heap.size 5 1 (.slice A N cp) N (cellsU (frB c)) ∧ Own w w' := by
  have hE : frE c = 0 := if_neg (by omega)
  have hV : frV c = frB c := if_neg (by omega)
  refine (C.frame c v w H (by omega)).mono ?_
  rintro e w1 ⟨v1, rfl, hown, q⟩
  rw [hV] at hown
  obtain ⟨A, cp, rfl⟩ := row_shape hown
  rw [hN] at hown ⊢
  exact ⟨A, cp, by rw [hE], hown, q⟩
theorem frs_at {l : List Bs} {i p : Nat} (hi : i < l.length) (hp : p < 4 + l[i].length) : (frs l)[(frs (l.take i)).length + ((headB l[i]).length + p)]? = (four (sumC l[i]) ++ l[i])[p]? := by
  conv => lhs; rw [frs_split l i]
  rw [List.drop_eq_getElem_cons hi, frs_cons, List.getElem?_append_right (Nat.le_add_right _ _), Nat.add_sub_cancel_left, List.getElem?_append_left (by rw [fr_len]; omega)]
  unfold frB
  rw [List.getElem?_append_right (Nat.le_add_right _ _), Nat.add_sub_cancel_left]
/-- One byte of a frame behind its head changed. -/
theorem changed {l : List Bs} (hl : Fits l) {i p y hd cl B : Nat} (hi : i < l.length) (hcl : l[i].length = cl) (h4 : cl ≤ 400) (hhd : (if 64 ≤ cl then 2 else 1) = hd) (hB : (frs (l.take i)).length = B) (hp : p < 4 + cl) (hy : y < 256) (h0 : y ≠ 0) :
    ∃ z : Nat, z < 256 ∧ B + hd + p < (frs l).length ∧ (cellsU (frs l))[B + hd + p]? = some (.int .u8 (z : Int)) ∧ openE (((frs l).set (B + hd + p) (byteN (z ^^^ y))).drop B) = 14 ∧ allR ((frs l).set (B + hd + p) (byteN (z ^^^ y))) = (l.take i, B) := by
  subst hcl
  have hh := head_len h4
  rw [hhd] at hh
  have h1 := frs_at hi hp
  have hpl : p < (four (sumC l[i]) ++ l[i]).length := by rw [List.length_append, four_len]; exact hp
  rw [hh, hB, ← Nat.add_assoc, List.getElem?_eq_getElem hpl] at h1
  have h2 := (List.getElem?_eq_some_iff.1 h1).1
  refine ⟨((four (sumC l[i]) ++ l[i])[p]).toNat, UInt8.toNat_lt _, h2, ?_, ?_⟩
  · unfold cellsU
    rw [List.getElem?_map, h1]
    rfl
  · have h3 := found hl hi hp (byteN (((four (sumC l[i]) ++ l[i])[p]).toNat ^^^ y)) (xor_other (UInt8.toNat_lt _) hy h0 _ rfl)
    rw [hh, hB, ← Nat.add_assoc] at h3
    exact h3
set_option maxRecDepth 100000 in
set_option maxHeartbeats 4000000 in
theorem lframes_at (C : CrcC) (L : List Bs) (v : Value) (which place : Int) (y : Nat) (hy : y < 256) (w : World) (HL : Hid (Cels w v L)) :
    Calls Try.prog 8 #[v, .int .i64 which, .int .i64 place, .int .u8 (y : Int)] w fun e w' => e = .returned (.bool true) ∧ Own w w' := by
  obtain ⟨i0, hi, hz0, hz1, hz2⟩ := info_parts (show (Try.prog.info? 5).map (fun i => (i.zero, i.size, i.bytes)) = some (some (.int .u8 0), 1, 1) by kernel_rfl)
  have HI := Lib.hid hi
  have HZ0 := Lib.hid hz0
  have HZ1 := Lib.hid hz1
  have HZ2 := Lib.hid hz2
  clear hi hz0 hz1 hz2
  obtain ⟨i1, hi, hz0, hz1, hz2⟩ := info_parts (show (Try.prog.info? 3).map (fun i => (i.zero, i.size, i.bytes)) = some (some (.int .i64 0), 1, 8) by kernel_rfl)
  have JI := Lib.hid hi
  have JZ0 := Lib.hid hz0
  have JZ1 := Lib.hid hz1
  have JZ2 := Lib.hid hz2
  clear hi hz0 hz1 hz2
  obtain ⟨A, cap, rfl, a1, a2, a3⟩ := cels_open HL.out
  unfold maxLen at a2
  obtain ⟨n, hn⟩ : ∃ n, L.length = n := ⟨_, rfl⟩
  have HN := Lib.hid hn
  have HCL := Lib.hid (fun (h : 0 < n) => a3 (by rw [hn]; exact h))
  rw [hn] at a1 HL ⊢
  clear a3
  cases hgr : greatB L with
  | true =>
    have HG := Lib.hid hgr
    clear hgr hn
    go_enter Try.func8, Try.ntmps8
    go_wp2_with (first
      | (go_at_call 24; with_reducible refine (great_at L _ true _ HL HG).mono ?_; rintro e w1 ⟨rfl, rfl⟩)
      | (go_at_call 11; with_reducible refine (awake_at C _).mono ?_; rintro e w3 ⟨rfl, q3⟩))
    go_ret
    exact ⟨rfl, q3⟩
  | false =>
    obtain ⟨h12, h400⟩ := not_great hgr
    have HG := Lib.hid hgr
    have H400 := Lib.hid h400
    have HFIT := Lib.hid (fits_small h400)
    have htot := frs_le L h400
    rw [hn] at h12 htot
    obtain ⟨T, hT⟩ : ∃ T, (frs L).length = T := ⟨_, rfl⟩
    have HTT := Lib.hid hT
    have hT5 : T ≤ 5000 := by omega
    clear hgr h400 hn htot hT
    go_enter Try.func8, Try.ntmps8
    go_upto_region 3 with (go_at_call 24; with_reducible refine (great_at L _ false _ HL HG).mono ?_; rintro e w1 ⟨rfl, rfl⟩)
    go_wp2
    go_loopw [9, 10, 11, 12, 13] (fun vb ve vi _ _ wr => ∃ i : Nat, vi = .int .i64 (i : Int) ∧ i ≤ n ∧ Own w wr ∧ wr.ownsRow w.heap.size 5 1 vb (frs (L.take i)).length (cellsU (frs (L.take i))) ∧ wr.ownsRow w.heap.size 3 1 ve i (cellsI (begL L i))) (fun _ _ vi _ _ _ => n - (intOf vi).toNat)
    case atStart => exact ⟨0, rfl, Nat.zero_le _, Own.refl w, World.ownsRow_nil _ _ _ _, World.ownsRow_nil _ _ _ _⟩
    case round =>
      obtain ⟨i, rfl, hi, q, hb, he⟩ := hrel
      have RB := Lib.hid hb
      have RE := Lib.hid he
      by_cases hlt : i < n
      · obtain ⟨g, off, rfl, hc⟩ := HCL.out (by omega)
        have hil : i < L.length := by rw [HN.out]; exact hlt
        obtain ⟨u, e0, hu⟩ := hc i hil
        replace e0 := q.cell e0
        have HU := Lib.hid (hu.own q)
        obtain ⟨A2, c2, rfl, l1, l2⟩ := cel_form hu
        have hstep := frs_take hil
        have hmono := frs_mono (L := L) (i + 1)
        have hc400 := H400.out _ (List.getElem_mem hil)
        rw [HTT.out] at hmono
        obtain ⟨c, hcc⟩ : ∃ c, L[i] = c := ⟨_, rfl⟩
        rw [hcc] at hstep hc400 HU e0
        obtain ⟨M, hM⟩ : ∃ M, (frB c).length = M := ⟨_, rfl⟩
        obtain ⟨N0, hN0⟩ : ∃ M, (frs (L.take i)).length = M := ⟨_, rfl⟩
        obtain ⟨N1, hN1⟩ : ∃ M, (frs (L.take (i + 1))).length = M := ⟨_, rfl⟩
        have hNN : N1 = N0 + M := by rw [← hN1, hstep, List.length_append, hN0, hM]
        rw [hN1] at hmono
        rw [hN0] at hb
        obtain ⟨A0, c0, rfl⟩ := row_shape hb
        clear RB
        have RB := Lib.hid hb
        have HM := Lib.hid hM
        have HSTEP := Lib.hid hstep
        have HN0 := Lib.hid hN0
        have HN1 := Lib.hid hN1
        have HC400 := Lib.hid hc400
        have E1 := Lib.hid (show N0 + (cellsU (frB c)).length = N1 by rw [cellsU_len, hM]; omega)
        have E2 := Lib.hid (show N1 ≤ maxLen by unfold maxLen; omega)
        have E3 := Lib.hid (show N1 * 1 ≤ 140737488355328 by omega)
        have E4 := Lib.hid (show i + 1 ≤ maxLen by unfold maxLen; omega)
        have E5 := Lib.hid (show (i + 1) * 8 ≤ 140737488355328 by omega)
        have hil2 : (i : Int) < n := by omega
        rw [cellsU_len] at e0
        obtain ⟨cl, hcl⟩ : ∃ t, c.length = t := ⟨_, rfl⟩
        rw [cellsU_len, hcl] at HU
        rw [hcl] at e0
        clear hc hu hstep hmono hc400 hcc hM hN0 hN1 hNN hb he hil hcl l1 l2
        go_wp2_with (first
          | (go_at_call 16; with_reducible refine (frame_row C c _ _ M HU HC400.out HM.out).mono ?_; rintro e w1 ⟨A3, c3, rfl, hf1, q1⟩; have RF1 := Lib.hid (World.ownsRow.alloc (row_down hf1 q.size) (.cells #[.int .i64 (N0 : Int)] 3)); have RB1 := Lib.hid (World.ownsRow.alloc (row_own RB.out q1) (.cells #[.int .i64 (N0 : Int)] 3)); have RE1 := Lib.hid (World.ownsRow.alloc (row_own RE.out q1) (.cells #[.int .i64 (N0 : Int)] 3)); have p1 := (q.trans q1).alloc (.cells #[.int .i64 (N0 : Int)] 3); have HNE := Lib.hid (cel_new (w := w1) (T := 3) (cs := #[.int .i64 (N0 : Int)]) (xs := cellsI [(N0 : Int)]) (k := 1) rfl rfl (by unfold maxLen; decide)); clear hf1)
          | (at_builtin; refine wpList_append_k (by go_simp) _ _ 42 rfl w.heap.size 3 i1 (.int .i64 0) 8 Try.underlying42 JI.out JZ0.out JZ1.out JZ2.out rfl _ i (cellsI (begL L i)) rfl RE1.out _ (cellsI [(N0 : Int)]) rfl HNE.out (cellsI_one _) (i + 1) rfl E4.out E5.out p1.size ?_; intro v5 w5 hown hg5; have p4 := row_after p1 RE1.out hg5 (Nat.le_refl _); have RB3 := Lib.hid (RB1.out.kept hg5 (rows_apart RB1.out RE1.out (by decide))); have RF3 := Lib.hid (cel_of_row (RF1.out.kept hg5 (rows_apart RF1.out RE1.out (by decide)))); have RE3 := Lib.hid (show w5.ownsRow w.heap.size 3 1 v5 (i + 1) (cellsI (begL L (i + 1))) by rw [beg_succ, cellsI_app, HN0.out]; exact hown); clear hown hg5)
          | (at_builtin; refine wpList_append_k (by go_simp) _ _ 23 rfl w.heap.size 5 i0 (.int .u8 0) 1 Try.underlying23 HI.out HZ0.out HZ1.out HZ2.out rfl _ N0 (cellsU (frs (L.take i))) rfl RB3.out _ (cellsU (frB c)) rfl RF3.out (cellsU_one _) N1 E1.out E2.out E3.out p4.size ?_; intro v4 w4 hown hg4; have p5 := row_after p4 RB3.out hg4 (Nat.le_refl _); have RE5 := Lib.hid (RE3.out.kept hg4 (rows_apart RE3.out RB3.out (by decide))); have RB5 := Lib.hid (show w4.ownsRow w.heap.size 5 1 v4 N1 (cellsU (frs (L.take (i + 1)))) by rw [HSTEP.out, cellsU_app]; exact hown); clear hown hg4))
        go_roundw
        case rel => exact ⟨i + 1, by go_num, hlt, p5, by rw [HN1.out]; exact RB5.out, RE5.out⟩
        case measure => simp [intOf]; omega
      · obtain rfl : i = n := by omega
        have hLn : L.take i = L := List.take_of_length_le (by rw [HN.out]; exact Nat.le_refl _)
        rw [hLn, HTT.out] at hb
        clear RB RE
        have RB := Lib.hid hb
        have RE := Lib.hid he
        have HCB := Lib.hid (cel_of_row hb)
        obtain ⟨Ab, cb, rfl⟩ := row_shape hb
        obtain ⟨Ae, ce, rfl⟩ := row_shape he
        have hall := all_frames L HFIT.out [] (by rw [open_nil]; decide)
        rw [List.append_nil, HTT.out] at hall
        have HALL := Lib.hid hall
        have LXT := Lib.hid (show (frs L).length ≤ 200000 by rw [HTT.out]; omega)
        have HLW := Lib.hid (HL.out.own q)
        clear hb he hLn hall
        generalize wr = wz at *
        go_upto_region 16 with (first
          | (go_at_call 21; with_reducible refine (C.all (frs L) L T _ _ HCB LXT.out HALL).mono ?_; rintro e w8 ⟨v8, rfl, hl8, q8⟩; have HA8 := Lib.hid (cels_lsts hl8); have HB8 := Lib.hid (HLW.out.own q8); clear hl8)
          | (go_at_call 23; with_reducible refine (lists_yes L _ _ _ HA8 HB8).mono ?_; rintro e w9 ⟨rfl, q9⟩))
        have q10 := q.trans (q8.trans q9)
        have RB9 := Lib.hid (row_own RB.out (q8.trans q9))
        have RE9 := Lib.hid (row_own RE.out (q8.trans q9))
        clear q8 q9 HA8 HB8 RB RE HCB HALL HLW q
        by_cases hn0 : i = 0
        · have d0 : ((i : Int) == 0) = true := by rw [hn0]; rfl
          go_wp2_with (go_at_call 11; with_reducible refine (awake_at C _).mono ?_; rintro e w11 ⟨rfl, q11⟩)
          go_ret
          exact ⟨rfl, q10.trans q11⟩
        have d0 : ((i : Int) == 0) = false := beq_eq_false_iff_ne.2 (by omega)
        by_cases hneg : which < 0
        · go_wp2_with (go_at_call 11; with_reducible refine (awake_at C _).mono ?_; rintro e w11 ⟨rfl, q11⟩)
          go_ret
          exact ⟨rfl, q10.trans q11⟩
        obtain ⟨p, rfl⟩ : ∃ p : Nat, which = p := ⟨which.toNat, by omega⟩
        by_cases hpi : (i : Int) ≤ p
        · go_wp2_with (go_at_call 11; with_reducible refine (awake_at C _).mono ?_; rintro e w11 ⟨rfl, q11⟩)
          go_ret
          exact ⟨rfl, q10.trans q11⟩
        by_cases hy0 : y = 0
        · have d1 : ((y : Int) == 0) = true := by rw [hy0]; rfl
          go_wp2_with (go_at_call 11; with_reducible refine (awake_at C _).mono ?_; rintro e w11 ⟨rfl, q11⟩)
          go_ret
          exact ⟨rfl, q10.trans q11⟩
        have d1 : ((y : Int) == 0) = false := beq_eq_false_iff_ne.2 (by omega)
        have hp : p < i := by omega
        have hpl : p < L.length := by rw [HN.out]; exact hp
        obtain ⟨g0, off, rfl, hc⟩ := HCL.out (by omega)
        obtain ⟨u, e0, hu⟩ := hc p hpl
        replace e0 := q10.cell e0
        obtain ⟨A2, c2, rfl, l1, l2⟩ := cel_form hu
        obtain ⟨cl, hcl⟩ : ∃ t, L[p].length = t := ⟨_, rfl⟩
        have h4 : cl ≤ 400 := hcl ▸ H400.out _ (List.getElem_mem hpl)
        rw [cellsU_len, hcl] at e0
        obtain ⟨hd, hhd⟩ : ∃ t, (if 64 ≤ cl then 2 else 1) = t := ⟨_, rfl⟩
        obtain ⟨B, hB⟩ : ∃ t, (frs (L.take p)).length = t := ⟨_, rfl⟩
        have hd2 : hd ≤ 2 := by rw [← hhd]; split <;> omega
        have HCH := Lib.hid (fun (pl : Nat) (h : pl < 4 + cl) => changed HFIT.out hpl hcl h4 hhd hB h hy hy0)
        obtain ⟨_, _, hT0, _⟩ := HCH.out 0 (by omega)
        rw [HTT.out] at hT0
        have hpi2 : (p : Int) < i := by omega
        have hBG := Lib.hid hB
        obtain ⟨gE, cE, hvE, _, _⟩ := World.ownsRow.form RE9.out (by omega)
        injection hvE with hvE1 _ hvE2
        subst hvE1
        clear hvE2
        obtain ⟨g, cG, hvG, hg1, _⟩ := World.ownsRow.form RB9.out (by omega)
        injection hvG with hvG1 _ hvG2
        subst hvG1
        clear hvG2
        have HEG := Lib.hid (show ∀ wz : World, wz.ownsRow w.heap.size 3 1 (.slice (some ⟨gE, 0, none⟩) i ce) i (cellsI (begL L i)) → wz.cell? ⟨gE, p, none⟩ = some (.int .i64 (B : Int)) from fun wz h => by
          rw [World.ownsRow.cellAt h p (by omega)]
          unfold cellsI
          rw [List.getElem?_map, beg_at hp, hBG.out]
          rfl)
        have hTc : T ≤ cb := by
          obtain ⟨A', c', hv, h2, h3, _⟩ := cel_of_row RB9.out
          rw [cellsU_len, HTT.out] at hv h2
          injection hv with e1 e2 e3
          omega
        have HHD := Lib.hid hhd
        have HPL := Lib.hid hpl
        clear hc hu l1 l2 hcl hhd hB hpl
        go_upto_if 86 with (fail)
        go_cut [16] (fun s wx => s = .int .i64 (hd : Int) ∧ Own w9 wx)
        case first =>
          by_cases h64 : 64 ≤ cl
          · have d2 : (64 : Int) ≤ cl := by omega
            obtain rfl : 2 = hd := by rw [← HHD.out, if_pos h64]
            go_wp2
            go_meet
            exact ⟨rfl, by first | exact Own.refl _ | exact (Own.refl _).drewN _⟩
          · have d2 : ¬ (64 : Int) ≤ cl := by omega
            obtain rfl : 1 = hd := by rw [← HHD.out, if_neg h64]
            go_wp2
            go_meet
            exact ⟨rfl, by first | exact Own.refl _ | exact (Own.refl _).drewN _⟩
        case rest =>
          obtain ⟨rfl, q11⟩ := hcut
          replace e0 := q11.cell e0
          have RBC := Lib.hid (row_own RB9.out q11)
          have REC := Lib.hid (row_own RE9.out q11)
          have e1 := HEG.out _ REC.out
          have q12 := q10.trans q11
          by_cases hpn : place < 0
          · go_wp2_with (go_at_call 11; with_reducible refine (awake_at C _).mono ?_; rintro e w13 ⟨rfl, q13⟩)
            go_ret
            exact ⟨rfl, q12.trans q13⟩
          obtain ⟨pl, rfl⟩ : ∃ t : Nat, place = t := ⟨place.toNat, by omega⟩
          have i4 : IntKind.i64.wrap (4 + (cl : Int)) = 4 + (cl : Int) := IntWalk.i64_in _ (by omega)
          by_cases hpb : 4 + (cl : Int) ≤ pl
          · go_wp2_with (go_at_call 11; with_reducible refine (awake_at C _).mono ?_; rintro e w13 ⟨rfl, q13⟩)
            go_ret
            exact ⟨rfl, q12.trans q13⟩
          obtain ⟨z, hz, hat, hcell, ho, ha⟩ := HCH.out pl (by omega)
          rw [HTT.out] at hat
          obtain ⟨at1, hat1⟩ : ∃ t, B + hd = t := ⟨_, rfl⟩
          obtain ⟨at2, hat2⟩ : ∃ t, B + hd + pl = t := ⟨_, rfl⟩
          rw [hat2] at hat hcell ho ha
          obtain ⟨v, hv⟩ : ∃ t, z ^^^ y = t := ⟨_, rfl⟩
          have X1 : bits .xor .u8 (z : Int) (y : Int) = (v : Int) := by rw [← hv]; exact u8_xor_nat z y hz hy
          have hv256 : v < 256 := by rw [← hv]; exact Nat.xor_lt_two_pow (n := 8) hz hy
          rw [hv] at ho ha
          have i5 : IntKind.i64.wrap ((B : Int) + (hd : Int)) = (at1 : Int) := (IntWalk.i64_in _ (by omega)).trans (by omega)
          have i6 : IntKind.i64.wrap ((at1 : Int) + (pl : Int)) = (at2 : Int) := (IntWalk.i64_in _ (by omega)).trans (by omega)
          obtain ⟨X, hX⟩ : ∃ X, (frs L).set at2 (byteN v) = X := ⟨_, rfl⟩
          have hXl : X.length = T := by rw [← hX, List.length_set, HTT.out]
          have e2 := (World.ownsRow.cellAt RBC.out at2 (by omega)).trans hcell
          have f2 := World.ownsRow.frozenAt RBC.out at2
          have hst := World.ownsRow.stored RBC.out at2 (.int .u8 (v : Int))
          rw [set_cell8 _ _ _ hv256, hX] at hst
          have HRW := Lib.hid hst.1
          have HRE := Lib.hid (REC.out.kept hst.2 (rows_apart REC.out RBC.out (by decide)))
          have HQS := Lib.hid (q12.setCell (p := ⟨g, at2, none⟩) hg1 (.int .u8 (v : Int)))
          rw [hX] at ho ha
          have HOP := Lib.hid (ex_of ho (by decide))
          have HALL := Lib.hid ha
          have HXL := Lib.hid hXl
          have LX := Lib.hid (show X.length ≤ 200000 by omega)
          have LD := Lib.hid (show (X.drop B).length ≤ 200000 by rw [List.length_drop]; omega)
          have d3 : (at2 : Int) < T := by omega
          have hBT : B < T := by omega
          clear hcell ho ha hX hXl hst hv hz hv256
          go_upto_region 26 with (fail)
          go_cut [17] (fun s wx => s = .int .i64 (at2 : Int) ∧ wx.ownsRow w.heap.size 5 1 (.slice (some ⟨g, 0, none⟩) T cb) T (cellsU X) ∧ wx.ownsRow w.heap.size 3 1 (.slice (some ⟨gE, 0, none⟩) i ce) i (cellsI (begL L i)) ∧ Own w wx)
          case first =>
            go_wp2
            go_meet
            exact ⟨rfl, HRW.out, HRE.out, HQS.out⟩
          case rest =>
            obtain ⟨rfl, rb, re, q14⟩ := hcut
            clear HRW HRE HQS e0 e1 e2 f2
            have e3 := HEG.out _ re
            have HCX := Lib.hid (cel_of_row rb)
            have HCD := Lib.hid (show Cel wc (.slice (some ⟨g, B, none⟩) (T - B) (cb - B)) (cellsU (X.drop B)) by
              have h := cel_suf HCX.out (show B ≤ T by omega)
              rwa [Nat.zero_add] at h)
            have HLW := Lib.hid (HL.out.own q14)
            have hpc : p ≤ cap := by omega
            have hcb : ¬ cb = B := by omega
            have hpi3 : p ≤ i := by omega
            clear rb re
            go_wp2_with (first
              | (go_at_call 19; with_reducible refine (C.op _ [] _ 14 0 _ HCD LD.out HOP).mono ?_; rintro e w15 ⟨v15, rfl, _, q15⟩; have HCX15 := Lib.hid (HCX.out.own q15))
              | (go_at_call 21; with_reducible refine (C.all X (L.take p) B _ _ HCX15 LX.out HALL).mono ?_; rintro e w16 ⟨v16, rfl, hl16, q16⟩; have HA16 := Lib.hid (cels_lsts hl16); have HB16 := Lib.hid ((HLW.out.own (q15.trans q16)).take hpi3); clear hl16)
              | (go_at_call 23; with_reducible refine (lists_yes (L.take p) _ _ _ HA16 HB16).mono ?_; rintro e w17 ⟨rfl, q17⟩; have e5 := (q15.trans (q16.trans q17)).cell e3)
              | (go_at_call 11; with_reducible refine (awake_at C _).mono ?_; rintro e w18 ⟨rfl, q18⟩))
            go_ret
            exact ⟨rfl, q14.trans (q15.trans (q16.trans (q17.trans q18)))⟩
end Go.Proofs.Ytbplglndcagglaa.CrcW
