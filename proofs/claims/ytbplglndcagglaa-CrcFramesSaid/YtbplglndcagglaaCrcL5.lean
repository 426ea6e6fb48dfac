/-
  Package crc: the law Cuts, over what is asked of the program. Condition: none.
-/
import Derived.Test.YtbplglndcagglaaCrcL1
import Derived.Test.YtbplglndcagglaaCrcPlainC
import Derived.Deep.DeepCutAuto
import Derived.Laws.OwnMore
import Derived.Deep.AppendLies
namespace Go.Proofs.Ytbplglndcagglaa.CrcW
open Go.ChangeShapes Go.WideShapes Go.ChangeAt Go.RowKit
open PairW CelW WirP CrcP WirW
theorem row_set_lo {w : World} {base n : Nat} {e : TypeId} {v : Value} {xs : List Value} (h : w.ownsRow base e 1 v n xs) {p : Addr} (hp : p.block < base) (u : Value) : (w.setCell p u).ownsRow base e 1 v n xs := by
  refine ⟨h.1, h.2.imp id ?_⟩
  rintro ⟨g', cap', cur, h1, h2, h3, h4⟩
  refine ⟨g', cap', cur, h1, h2, ?_, h4⟩
  rw [Below.heap_setCell _ _ _ _ (by omega)]
  exact h3
theorem Lsts.set {w : World} {H : Nat} {v : Value} {L : List Bs} (h : Lsts w H v L) {p : Addr} (hp : p.block < H) (u : Value) : Lsts (w.setCell p u) H v L := by
  obtain ⟨vs, h1, h2, h3⟩ := h
  exact ⟨vs, h1, row_set_lo h2 hp u, fun i hi x hx => row_set_lo (h3 i hi x hx) hp u⟩
theorem set_cell8 (X : Bs) (j z : Nat) (hz : z < 256) : (cellsU X).set j (.int .u8 (z : Int)) = cellsU (X.set j (byteN z)) := by
  unfold cellsU
  rw [List.map_set, byte_of hz]
def endsL (L : List Bs) (i : Nat) : List Int := (List.range i).map fun j => ((frs (L.take (j + 1))).length : Int)
theorem ends_succ (L : List Bs) (i : Nat) : endsL L (i + 1) = endsL L i ++ [((frs (L.take (i + 1))).length : Int)] := by unfold endsL; rw [List.range_succ, List.map_append]; rfl
theorem ends_len (L : List Bs) (i : Nat) : (endsL L i).length = i := by unfold endsL; rw [List.length_map, List.length_range]
theorem ends_at {L : List Bs} {n i : Nat} (h : i < n) : (endsL L n)[i]? = some ((frs (L.take (i + 1))).length : Int) := by unfold endsL; rw [List.getElem?_map, List.getElem?_range h]; rfl
theorem not_great {L : List Bs} (h : greatB L = false) : L.length ≤ 12 ∧ ∀ c ∈ L, c.length ≤ 400 := by
  unfold greatB at h
  rw [Bool.or_eq_false_iff, decide_eq_false_iff_not] at h
  refine ⟨by omega, fun c hc => ?_⟩
  have h2 := h.2
  rw [List.any_eq_false] at h2
  have := h2 c hc
  simp at this
  exact this
theorem frame_in (C : CrcC) (c : Bs) (v : Value) (w : World) (N : Nat) (H : Hid (Cel w v (cellsU c))) (hc : c.length ≤ 400) (hN : (frB c).length = N) : Calls Try.prog 16 #[v] w fun e w' => ∃ A cp, e = .returned (.tuple #[.slice A N cp, .int .i64 0]) ∧ Cel w' (.slice A N cp) (cellsU (frB c)) ∧ Own w w' := by
  have hE : frE c = 0 := if_neg (by omega)
  have hV : frV c = frB c := if_neg (by omega)
  refine (C.frame c v w H (by omega)).mono ?_
  rintro e w1 ⟨v1, rfl, hown, q⟩
  rw [hV] at hown
  have hc := cel_of_row hown
  obtain ⟨A, cp, rfl⟩ := row_shape hown
  rw [hN] at hc ⊢
  exact ⟨A, cp, by rw [hE], hc, q⟩
theorem frs_mono {L : List Bs} (i : Nat) : (frs (L.take i)).length ≤ (frs L).length := by
  rw [frs_split L i, List.length_append]
  omega
set_option maxRecDepth 100000 in
set_option maxHeartbeats 4000000 in
theorem lcuts_at (C : CrcC) (L : List Bs) (v : Value) (cut : Int) (w : World) (HL : Hid (Cels w v L)) :
    Calls Try.prog 9 #[v, .int .i64 cut] w fun e w' => e = .returned (.bool true) ∧ Own w w' := by
  obtain ⟨i0, hi, hz0, hz1, hz2⟩ := info_parts (show (Try.prog.info? 5).map (fun i => (i.zero, i.size, i.bytes)) = some (some (.int .u8 0), 1, 1) by kernel_rfl)
  have HI := Lib.hid hi
  have HZ0 := Lib.hid hz0
  have HZ1 := Lib.hid hz1
  have HZ2 := Lib.hid hz2
  clear hi hz0 hz1 hz2
  obtain ⟨i1, hi, hz0, hz1, hz2⟩ := info_parts (show (Try.prog.info? 3).map (fun i => (i.zero, i.size, i.bytes)) = some (some (.int .i64 0), 1, 8) by kernel_rfl)
  have JI := Lib.hid hi
  have JZ0 := Lib.hid hz0
  have JZ1 := Lib.hid hz1
  have JZ2 := Lib.hid hz2
  clear hi hz0 hz1 hz2
  obtain ⟨A, cap, rfl, a1, a2, a3⟩ := cels_open HL.out
  unfold maxLen at a2
  obtain ⟨n, hn⟩ : ∃ n, L.length = n := ⟨_, rfl⟩
  have HN := Lib.hid hn
  have HCL := Lib.hid (fun (h : 0 < n) => a3 (by rw [hn]; exact h))
  rw [hn] at a1 HL ⊢
  clear a3
  cases hgr : greatB L with
  | true =>
    have HG := Lib.hid hgr
    clear hgr hn
    go_enter Try.func9, Try.ntmps9
    go_wp2_with (first
      | (go_at_call 24; with_reducible refine (great_at L _ true _ HL HG).mono ?_; rintro e w1 ⟨rfl, rfl⟩)
      | (go_at_call 11; with_reducible refine (awake_at C _).mono ?_; rintro e w3 ⟨rfl, q3⟩))
    go_ret
    exact ⟨rfl, q3⟩
  | false =>
    obtain ⟨h12, h400⟩ := not_great hgr
    have HG := Lib.hid hgr
    have H400 := Lib.hid h400
    have HFIT := Lib.hid (fits_small h400)
    have htot := frs_le L h400
    rw [hn] at h12 htot
    obtain ⟨T, hT⟩ : ∃ T, (frs L).length = T := ⟨_, rfl⟩
    have HTT := Lib.hid hT
    have hT5 : T ≤ 5000 := by omega
    clear hgr h400 hn htot hT
    go_enter Try.func9, Try.ntmps9
    go_upto_region 3 with (go_at_call 24; with_reducible refine (great_at L _ false _ HL HG).mono ?_; rintro e w1 ⟨rfl, rfl⟩)
    go_wp2
    go_loopw [5, 6, 7, 8, 9] (fun vb ve vi _ _ wr => ∃ i : Nat, vi = .int .i64 (i : Int) ∧ i ≤ n ∧ Own w wr ∧ wr.ownsRow w.heap.size 5 1 vb (frs (L.take i)).length (cellsU (frs (L.take i))) ∧ wr.ownsRow w.heap.size 3 1 ve i (cellsI (endsL L i))) (fun _ _ vi _ _ _ => n - (intOf vi).toNat)
    case atStart => exact ⟨0, rfl, Nat.zero_le _, Own.refl w, World.ownsRow_nil _ _ _ _, World.ownsRow_nil _ _ _ _⟩
    case round =>
      obtain ⟨i, rfl, hi, q, hb, he⟩ := hrel
      have RB := Lib.hid hb
      have RE := Lib.hid he
      by_cases hlt : i < n
      · obtain ⟨g, off, rfl, hc⟩ := HCL.out (by omega)
        have hil : i < L.length := by rw [HN.out]; exact hlt
        obtain ⟨u, e0, hu⟩ := hc i hil
        replace e0 := q.cell e0
        have HU := Lib.hid (hu.own q)
        obtain ⟨A2, c2, rfl, l1, l2⟩ := cel_form hu
        have hstep := frs_take hil
        have hmono := frs_mono (L := L) (i + 1)
        have hc400 := H400.out _ (List.getElem_mem hil)
        rw [HTT.out] at hmono
        obtain ⟨c, hcc⟩ : ∃ c, L[i] = c := ⟨_, rfl⟩
        rw [hcc] at hstep hc400 HU e0
        obtain ⟨M, hM⟩ : ∃ M, (frB c).length = M := ⟨_, rfl⟩
        obtain ⟨N0, hN0⟩ : ∃ M, (frs (L.take i)).length = M := ⟨_, rfl⟩
        obtain ⟨N1, hN1⟩ : ∃ M, (frs (L.take (i + 1))).length = M := ⟨_, rfl⟩
        have hNN : N1 = N0 + M := by rw [← hN1, hstep, List.length_append, hN0, hM]
        rw [hN1] at hmono
        rw [hN0] at RB
        have HM := Lib.hid hM
        have HSTEP := Lib.hid hstep
        have HN1 := Lib.hid hN1
        have HC400 := Lib.hid hc400
        have E1 := Lib.hid (show N0 + (cellsU (frB c)).length = N1 by rw [cellsU_len, hM]; omega)
        have E2 := Lib.hid (show N1 ≤ maxLen by unfold maxLen; omega)
        have E3 := Lib.hid (show N1 * 1 ≤ 140737488355328 by omega)
        have E4 := Lib.hid (show i + 1 ≤ maxLen by unfold maxLen; omega)
        have E5 := Lib.hid (show (i + 1) * 8 ≤ 140737488355328 by omega)
        have hil2 : (i : Int) < n := by omega
        rw [cellsU_len] at e0
        obtain ⟨cl, hcl⟩ : ∃ t, c.length = t := ⟨_, rfl⟩
        rw [cellsU_len, hcl] at HU
        rw [hcl] at e0
        clear hc hu hstep hmono hc400 hcc hM hN0 hN1 hNN hb he hil hcl l1 l2
        go_wp2_with (first
          | (go_at_call 16; with_reducible refine (frame_in C c _ _ M HU HC400.out HM.out).mono ?_; rintro e w1 ⟨A3, c3, rfl, hc3, q1⟩; have HF := Lib.hid hc3; have RB1 := Lib.hid (row_own RB.out q1); have RE1 := Lib.hid (row_own RE.out q1); have p1 := q.trans q1; clear hc3)
          | (at_builtin; refine wpList_append_k (by go_simp) _ _ 23 rfl w.heap.size 5 i0 (.int .u8 0) 1 Try.underlying23 HI.out HZ0.out HZ1.out HZ2.out rfl _ N0 (cellsU (frs (L.take i))) rfl RB1.out _ (cellsU (frB c)) rfl HF.out (cellsU_one _) N1 E1.out E2.out E3.out p1.size ?_; intro v4 w4 hown hg4; have p2 := row_after p1 RB1.out hg4 (Nat.le_refl _); have RE2 := Lib.hid (World.ownsRow.alloc (RE1.out.kept hg4 (rows_apart RE1.out RB1.out (by decide))) (.cells #[.int .i64 (N1 : Int)] 3)); have RB2 := Lib.hid (World.ownsRow.alloc (show w4.ownsRow w.heap.size 5 1 v4 N1 (cellsU (frs (L.take (i + 1)))) by rw [HSTEP.out, cellsU_app]; exact hown) (.cells #[.int .i64 (N1 : Int)] 3)); obtain ⟨A4, c4, rfl⟩ := row_shape hown; have p3 := p2.alloc (.cells #[.int .i64 (N1 : Int)] 3); have HNE := Lib.hid (cel_new (w := w4) (T := 3) (cs := #[.int .i64 (N1 : Int)]) (xs := cellsI [(N1 : Int)]) (k := 1) rfl rfl (by unfold maxLen; decide)); clear hown hg4)
          | (at_builtin; refine wpList_append_k (by go_simp) _ _ 42 rfl w.heap.size 3 i1 (.int .i64 0) 8 Try.underlying42 JI.out JZ0.out JZ1.out JZ2.out rfl _ i (cellsI (endsL L i)) rfl RE2.out _ (cellsI [(N1 : Int)]) rfl HNE.out (cellsI_one _) (i + 1) rfl E4.out E5.out p3.size ?_; intro v5 w5 hown hg5; have p4 := row_after p3 RE2.out hg5 (Nat.le_refl _); have RB3 := Lib.hid (RB2.out.kept hg5 (rows_apart RB2.out RE2.out (by decide))); have RE3 := Lib.hid (show w5.ownsRow w.heap.size 3 1 v5 (i + 1) (cellsI (endsL L (i + 1))) by rw [ends_succ, cellsI_app, HN1.out]; exact hown); clear hown hg5))
        go_roundw
        case rel => exact ⟨i + 1, by go_num, hlt, p4, by rw [HN1.out]; exact RB3.out, RE3.out⟩
        case measure => simp [intOf]; omega
      · obtain rfl : i = n := by omega
        have hLn : L.take i = L := List.take_of_length_le (by rw [HN.out]; exact Nat.le_refl _)
        rw [hLn, HTT.out] at hb
        clear RB RE
        have RB := Lib.hid hb
        have RE := Lib.hid he
        obtain ⟨Ab, cb, rfl⟩ := row_shape hb
        obtain ⟨Ae, ce, rfl⟩ := row_shape he
        obtain ⟨cb1, cb2⟩ := (show T ≤ cb ∧ cb ≤ 9223372036854775807 by
          have h := cel_of_row hb
          obtain ⟨A', c', hv, h2, h3, _⟩ := h
          rw [cellsU_len, HTT.out] at hv h2
          injection hv with e1 e2 e3
          unfold maxLen at h3
          omega)
        have HAB := Lib.hid (show 0 < T → ∃ g, Ab = some ⟨g, 0, none⟩ ∧ w.heap.size ≤ g ∧ g < wr.heap.size from fun h0 => by
          obtain ⟨g, c, hv, h2, h3⟩ := World.ownsRow.form hb h0
          injection hv with e1 _ _
          exact ⟨g, e1, h2, h3⟩)
        have HAE := Lib.hid (show ∀ j, j < i → ∃ g, Ae = some ⟨g, 0, none⟩ ∧ wr.cell? ⟨g, j, none⟩ = some (.int .i64 ((frs (L.take (j + 1))).length : Int)) from fun j hj => by
          obtain ⟨g, c, hv, h2, h3⟩ := World.ownsRow.form he (by omega)
          injection hv with e1 _ e3
          subst e1
          refine ⟨g, rfl, ?_⟩
          rw [World.ownsRow.cellAt he j (by omega)]
          unfold cellsI
          rw [List.getElem?_map, ends_at hj]
          rfl)
        have HNO : T = 0 → Ab = none → cb = 0 := fun _ hn => by
          rcases hb.2 with ⟨hv, _⟩ | ⟨g, c, cur, hv, _⟩
          · injection hv
          · injection hv with e1 _ _
            rw [hn] at e1
            cases e1
        have HNOH := Lib.hid HNO
        clear hb he hLn HNO
        by_cases hneg : cut < 0
        · go_wp2_with (go_at_call 11; with_reducible refine (awake_at C _).mono ?_; rintro e w6 ⟨rfl, q6⟩)
          go_ret
          exact ⟨rfl, q.trans q6⟩
        obtain ⟨k, rfl⟩ : ∃ k : Nat, cut = k := ⟨cut.toNat, by omega⟩
        by_cases hbig : T < k
        · have d1 : (T : Int) < k := by omega
          go_wp2_with (go_at_call 11; with_reducible refine (awake_at C _).mono ?_; rintro e w6 ⟨rfl, q6⟩)
          go_ret
          exact ⟨rfl, q.trans q6⟩
        have d1 : ¬ (T : Int) < k := by omega
        have hkT : k ≤ T := by omega
        generalize wr = wz at *
        go_upto_region 17 with (fail)
        clear d1 hneg
        go_loopw [10, 11, 12] (fun vw vt vi wr => ∃ i2 wh : Nat, vw = .int .i64 (wh : Int) ∧ vt = .int .i64 ((frs (L.take wh)).length : Int) ∧ vi = .int .i64 (i2 : Int) ∧ i2 ≤ i ∧ wh ≤ i2 ∧ (frs (L.take wh)).length ≤ k ∧ (∀ j, wh < j → j ≤ i2 → k < (frs (L.take j)).length) ∧ Own wz wr) (fun _ _ vi _ => i - (intOf vi).toNat)
        case atStart => exact ⟨0, 0, rfl, rfl, rfl, Nat.zero_le _, Nat.le_refl _, Nat.zero_le _, fun j h1 h2 => (by omega), Own.refl wz⟩
        case round =>
          obtain ⟨i2, wh, rfl, rfl, rfl, h1, h2, h3, h4, q5⟩ := hrel
          have H4 := Lib.hid h4
          have H3 := Lib.hid h3
          clear h4
          by_cases hlt2 : i2 < i
          · obtain ⟨g, rfl, e0⟩ := HAE.out i2 hlt2
            replace e0 := q5.cell e0
            have hil : (i2 : Int) < i := by omega
            have hge : i ≤ ce ∨ True := .inr trivial
            by_cases hle : (frs (L.take (i2 + 1))).length ≤ k
            · have HLE := Lib.hid hle
              obtain ⟨E, hE⟩ : ∃ E, (frs (L.take (i2 + 1))).length = E := ⟨_, rfl⟩
              rw [hE] at e0 hle
              have HE := Lib.hid hE
              have d2 : (E : Int) ≤ k := by omega
              clear hE hge h3
              go_upto_region 20 with (fail)
              go_quiet (fail)
              go_wp2
              go_roundw
              case rel => exact ⟨i2 + 1, i2 + 1, by go_num, by rw [HE.out], by go_num, hlt2, Nat.le_refl _, HLE.out, fun j k1 k2 => (by omega), q5.drewN _⟩
              case measure => simp [intOf]; omega
            · have HLE := Lib.hid (show k < (frs (L.take (i2 + 1))).length by omega)
              obtain ⟨E, hE⟩ : ∃ E, (frs (L.take (i2 + 1))).length = E := ⟨_, rfl⟩
              rw [hE] at e0 hle
              have d2 : ¬ (E : Int) ≤ k := by omega
              clear hE hge h3
              go_wp2
              go_roundw
              case rel => exact ⟨i2 + 1, wh, rfl, rfl, by go_num, hlt2, by omega, H3.out, fun j k1 k2 => (by
                  by_cases e : j = i2 + 1
                  · rw [e]; exact HLE.out
                  · exact H4.out j k1 (by omega)), q5⟩
              case measure => simp [intOf]; omega
          · obtain rfl : i2 = i := by omega
            obtain ⟨ct1, ct2⟩ := cuts (l := L) HFIT.out (k := k) (wh := wh) (by rw [HN.out]; exact h2) h3 (fun h => H4.out (wh + 1) (by omega) (by rw [HN.out] at h; omega))
            obtain ⟨X, hX⟩ : ∃ X, (frs L).take k = X := ⟨_, rfl⟩
            obtain ⟨B, hB⟩ : ∃ B, (frs (L.take wh)).length = B := ⟨_, rfl⟩
            rw [hX, hB] at ct1 ct2
            rw [hB] at h3 ⊢
            have hXl : X.length = k := by rw [← hX, List.length_take, HTT.out]; omega
            have HOP := Lib.hid (ex_of ct1 (by decide))
            have HALL := Lib.hid ct2
            have LX := Lib.hid (show X.length ≤ 200000 by omega)
            have LD := Lib.hid (show (X.drop B).length ≤ 200000 by rw [List.length_drop]; omega)
            have q6 := q.trans q5
            have RB6 := Lib.hid (row_own RB.out q5)
            have HCX := Lib.hid (show Cel wr (.slice Ab k cb) (cellsU X) by
              have h := cel_of_row RB6.out
              rw [← hX]
              exact cel_pre h (by omega))
            have HXK := Lib.hid hXl
            have hkc : k ≤ cb := by omega
            clear ct1 ct2 hX hB hXl H3 H4
            generalize wr = wy at *
            go_upto_region 22 with (fail)
            go_cut [15] (fun s wx => s = .int .i64 13 ∧ Own wy wx)
            case first =>
              by_cases hcb : cb = B
              · have hBk : B = k := by omega
                have HCD := Lib.hid (show Cel wy (.slice Ab 0 0) (cellsU (X.drop B)) by
                  rw [List.drop_of_length_le (by rw [HXK.out]; omega)]
                  exact ⟨_, 0, rfl, Nat.le_refl _, Nat.zero_le _, fun h => absurd h (by simp [cellsU])⟩)
                subst hBk
                subst hcb
                go_wp2_with (go_at_call 19; with_reducible refine (C.op _ [] _ 13 0 _ HCD LD.out HOP).mono ?_; rintro e w6 ⟨v6, rfl, _, q6⟩)
                go_meet
                exact ⟨rfl, q6⟩
              · obtain ⟨g, rfl⟩ : ∃ g, Ab = some ⟨g, 0, none⟩ := by
                  by_cases h0 : 0 < T
                  · obtain ⟨g, hg, _⟩ := HAB.out h0
                    exact ⟨g, hg⟩
                  · cases Ab with
                    | none => have := HNOH.out (by omega) rfl; omega
                    | some ad =>
                      rcases RB6.out.2 with ⟨hv, _⟩ | ⟨g, c, cur, hv, _⟩
                      · cases hv
                      · injection hv with e1 _ _
                        exact ⟨g, e1⟩
                have HCD := Lib.hid (show Cel wy (.slice (some ⟨g, B, none⟩) (k - B) (cb - B)) (cellsU (X.drop B)) by
                  have h := cel_suf HCX.out h3
                  rwa [Nat.zero_add] at h)
                go_wp2_with (go_at_call 19; with_reducible refine (C.op _ [] _ 13 0 _ HCD LD.out HOP).mono ?_; rintro e w6 ⟨v6, rfl, _, q6⟩)
                go_meet
                exact ⟨rfl, q6⟩
            case rest =>
              obtain ⟨rfl, q7⟩ := hcut
              have HLW := Lib.hid ((HL.out.own (q6.trans q7)).take h2)
              have HCX7 := Lib.hid (HCX.out.own q7)
              have hwc : wh ≤ cap := by omega
              have RB7 := Lib.hid (row_own RB6.out q7)
              have q67 := q6.trans q7
              have HGC := Lib.hid (show ∀ g, g < wz.heap.size → g < wc.heap.size from fun g h => by have := q5.size; have := q7.size; omega)
              go_upto_region 26 with (first
                | (go_at_call 21; with_reducible refine (C.all X (L.take wh) B _ _ HCX7 LX.out HALL).mono ?_; rintro e w8 ⟨v8, rfl, hl8, q8⟩; have HL8 := Lib.hid hl8; have HA8 := Lib.hid (cels_lsts hl8); have HB8 := Lib.hid (HLW.out.own q8); clear hl8)
                | (go_at_call 23; with_reducible refine (lists_yes (L.take wh) _ _ _ HA8 HB8).mono ?_; rintro e w9 ⟨rfl, q9⟩))
              have q89 := q8.trans q9
              go_wp2
              go_loopw [18] (fun vi wr => ∃ (i : Nat) (xs : List Value), vi = .int .i64 (i : Int) ∧ i ≤ k ∧ Own w wr ∧ wr.ownsRow w.heap.size 5 1 (.slice Ab T cb) T xs ∧ (∀ u ∈ xs, ∃ m, u = .int .u8 m) ∧ Lsts wr wc.heap.size v8 (L.take wh)) (fun vi _ => k - (intOf vi).toNat)
              case atStart => exact ⟨0, _, rfl, Nat.zero_le _, q67.trans q89, row_own RB7.out q89, fun u hu => (by
                  obtain ⟨x, _, rfl⟩ := List.mem_map.1 hu
                  exact ⟨_, rfl⟩), HL8.out.own q9⟩
              case round =>
                obtain ⟨i, xs, rfl, hik, qr, hrow, hxs, hlst⟩ := hrel
                have HXS := Lib.hid hxs
                have HLST := Lib.hid hlst
                by_cases hlt3 : i < k
                · obtain ⟨g, rfl, hg1, hg2⟩ := HAB.out (by omega)
                  have hgc := HGC.out g hg2
                  have hxl : xs.length = T := by rw [hrow.1, Nat.mul_one]
                  obtain ⟨u, hu⟩ : ∃ u, xs[i]? = some u := ⟨_, List.getElem?_eq_getElem (by omega)⟩
                  obtain ⟨m, rfl⟩ := hxs u (List.mem_of_getElem? hu)
                  have e0 := (World.ownsRow.cellAt hrow i (by omega)).trans hu
                  have f0 := World.ownsRow.frozenAt hrow i
                  have HROW := Lib.hid hrow
                  have hil : (i : Int) < k := by omega
                  clear hrow hxs hlst hu hxl
                  go_wp2
                  go_roundw
                  case rel => exact ⟨i + 1, _, by go_num, hlt3, qr.setCell hg1 _, (World.ownsRow.stored HROW.out i _).1, fun u hu => (by
                      rcases List.mem_or_eq_of_mem_set hu with h | h
                      · exact HXS.out u h
                      · exact ⟨_, h⟩), HLST.out.set hgc _⟩
                  case measure => simp [intOf]; omega
                · obtain rfl : i = k := by omega
                  have HA9 := Lib.hid (cels_lsts hlst)
                  have HB9 := Lib.hid ((HL.out.own qr).take h2)
                  clear hrow hxs hlst
                  go_wp2_with (first
                    | (go_at_call 23; with_reducible refine (lists_yes (L.take wh) _ _ _ HA9 HB9).mono ?_; rintro e w9 ⟨rfl, q9⟩)
                    | (go_at_call 11; with_reducible refine (awake_at C _).mono ?_; rintro e w10 ⟨rfl, q10⟩))
                  go_ret
                  exact ⟨rfl, qr.trans (q9.trans q10)⟩
end Go.Proofs.Ytbplglndcagglaa.CrcW
