/-
  Walk of the program's Split of package share. Condition: none.
-/
import Derived.Test.YtmliajkbknjacaaSharePB
import Derived.Deep.RegionLaw
namespace Go.Proofs.Ytmliajkbknjacaa.ShaW
open Go.ChangeShapes Go.WideShapes Go.ChangeAt Go.RowKit
open PairW CelW MchW ShaP StaP StaW
open AsgP (su su_zero su_succ su_congr)
/-- Two rows of the call's own, apart. -/
structure Rz (w0 w : World) (a b n : Nat) (f g : Nat → Int) : Prop where
  ra : w.ownsRow w0.heap.size 3 1 (.slice (some ⟨a, 0, none⟩) n n) n (cellsI (mpF f n))
  rb : w.ownsRow w0.heap.size 3 1 (.slice (some ⟨b, 0, none⟩) n n) n (cellsI (mpF g n))
  ne : a ≠ b
  own : Own w0 w
theorem mpF_put {f h : Nat → Int} {n i : Nat} {x : Int} (e : ∀ k, k < n → h k = if k = i then x else f k) : (mpF f n).set i x = mpF h n := by
  refine List.ext_getElem? fun k => ?_
  rw [List.getElem?_set]
  by_cases q : i = k
  · subst q
    rw [if_pos rfl, mpF_len]
    by_cases hl : i < n
    · rw [if_pos hl, mpF_at hl, e i hl, if_pos rfl]
    · rw [if_neg hl, List.getElem?_eq_none (by rw [mpF_len]; omega)]
  · rw [if_neg q]
    by_cases hl : k < n
    · rw [mpF_at hl, mpF_at hl, e k hl, if_neg (fun z => q z.symm)]
    · rw [List.getElem?_eq_none (by rw [mpF_len]; omega), List.getElem?_eq_none (by rw [mpF_len]; omega)]
section
variable {w0 w w' : World} {a b n : Nat} {f g h : Nat → Int}
theorem row_cell {base c : Nat} (r : w.ownsRow base 3 1 (.slice (some ⟨a, 0, none⟩) n c) n (cellsI (mpF f n))) {i : Nat} (hi : i < n) : w.cell? ⟨a, i, none⟩ = some (.int .i64 (f i)) ∧ w.frozen? ⟨a, i, none⟩ = false := by
  refine ⟨?_, World.ownsRow.frozenAt r i⟩
  rw [World.ownsRow.cellAt r i (by omega)]
  unfold cellsI
  rw [List.getElem?_map, mpF_at hi]
  rfl
theorem row_old {base : Nat} {v : Value} {xs : List Value} (r : w.ownsRow base 3 1 v n xs) (q : Own w w') : w'.ownsRow base 3 1 v n xs := by
  refine ⟨r.1, ?_⟩
  rcases r.2 with h | ⟨g, cap, cur, h1, h2, h3, h4⟩
  · exact .inl h
  · exact .inr ⟨g, cap, cur, h1, h2, (q.block g (Array.getElem?_eq_some_iff.1 h3).1).trans h3, h4⟩
theorem row_blk_le {base c : Nat} {xs : List Value} (r : w.ownsRow base 3 1 (.slice (some ⟨a, 0, none⟩) n c) n xs) : base ≤ a ∧ a < w.heap.size := by
  rcases r.2 with ⟨h, _⟩ | ⟨g, cap, cur, h1, h2, h3, h4⟩
  · cases h
  · injection h1 with h1
    injection h1 with h1
    injection h1 with h1
    subst h1
    exact ⟨h2, (Array.getElem?_eq_some_iff.1 h3).1⟩
theorem Rz.old (r : Rz w0 w a b n f g) (q : Own w w') : Rz w0 w' a b n f g := ⟨row_old r.ra q, row_old r.rb q, r.ne, r.own.trans q⟩
theorem Rz.drewN (r : Rz w0 w a b n f g) (q : Nat) : Rz w0 (w.drewN q) a b n f g := r.old ((Own.refl w).drewN q)
theorem set_kept {w : World} {base c i : Nat} {u : Value} {xs : List Value} (r : w.ownsRow base 3 1 (.slice (some ⟨a, 0, none⟩) n c) n xs) (hne : a ≠ b) : (w.setCell ⟨b, i, none⟩ u).ownsRow base 3 1 (.slice (some ⟨a, 0, none⟩) n c) n xs := by
  refine ⟨r.1, ?_⟩
  rcases r.2 with ⟨h, _⟩ | ⟨g, cap, cur, h1, h2, h3, h4⟩
  · cases h
  · refine .inr ⟨g, cap, cur, h1, h2, ?_, h4⟩
    injection h1 with h1
    injection h1 with h1
    injection h1 with h1
    rw [StaW.set_other w b i u (by omega)]
    exact h3
theorem Rz.putA (r : Rz w0 w a b n f g) (i : Nat) (x : Int) (e : ∀ k, k < n → h k = if k = i then x else f k) : Rz w0 (w.setCell ⟨a, i, none⟩ (.int .i64 x)) a b n h g := by
  have h1 := (World.ownsRow.stored r.ra i (.int .i64 x)).1
  rw [cellsI_set, mpF_put e] at h1
  exact ⟨h1, set_kept r.rb (Ne.symm r.ne), r.ne, r.own.setCell (p := ⟨a, i, none⟩) (row_blk_le r.ra).1 _⟩
theorem Rz.putB (r : Rz w0 w a b n f g) (i : Nat) (x : Int) (e : ∀ k, k < n → h k = if k = i then x else g k) : Rz w0 (w.setCell ⟨b, i, none⟩ (.int .i64 x)) a b n f h := by
  have h1 := (World.ownsRow.stored r.rb i (.int .i64 x)).1
  rw [cellsI_set, mpF_put e] at h1
  exact ⟨set_kept r.ra r.ne, h1, r.ne, r.own.setCell (p := ⟨b, i, none⟩) (row_blk_le r.rb).1 _⟩
end
/-- Two rows made, in either order. -/
theorem rz_made {w0 w : World} {n : Nat} {i0 : TypeInfo} {C : Array Value} (hz1 : i0.size = 1) (hn : n ≤ 1000000) (q : Own w0 w) (hC : madeCells (Value.int .i64 0).cells (n * i0.size) = C) :
    w.heap.size < (w.alloc (.cells C 3)).heap.size ∧ Rz w0 ((w.alloc (.cells C 3)).alloc (.cells C 3)) w.heap.size (w.heap.size + 1) n (fun _ => 0) (fun _ => 0) ∧ Rz w0 ((w.alloc (.cells C 3)).alloc (.cells C 3)) (w.heap.size + 1) w.heap.size n (fun _ => 0) (fun _ => 0) := by
  have hc0 : C.toList = cellsI (mpF (fun _ => 0) n) := by
    rw [← hC, hz1, Nat.mul_one]
    show (madeCells #[Value.int .i64 0] n).toList = _
    rw [toList_madeCells_one]
    refine List.ext_getElem? fun k => ?_
    unfold cellsI
    by_cases hk : k < n
    · rw [List.getElem?_map, mpF_at hk, List.getElem?_replicate, if_pos hk]; rfl
    · rw [List.getElem?_eq_none (by rw [List.length_replicate]; omega), List.getElem?_eq_none (by rw [List.length_map, mpF_len]; omega)]
  have hsz : C.size = n := by rw [← hC, hz1, Nat.mul_one, size_madeCells]
  have mk : ∀ v : World, w0.heap.size ≤ v.heap.size → (v.alloc (.cells C 3)).ownsRow w0.heap.size 3 1 (.slice (some ⟨v.heap.size, 0, none⟩) n n) n (cellsI (mpF (fun _ => 0) n)) := fun v hv =>
    ⟨by rw [cellsI_len, mpF_len, Nat.mul_one], .inr ⟨_, n, C, rfl, hv, (by show (v.heap.push _)[v.heap.size]? = _; rw [Array.getElem?_push, if_pos rfl]), Nat.le_refl _, by unfold maxLen; omega, by rw [hsz, Nat.mul_one], by rw [Nat.mul_one, ← hc0, List.take_of_length_le (by rw [Array.length_toList, hsz]; exact Nat.le_refl _)]⟩⟩
  have r1 := (mk w q.size).alloc (.cells C 3)
  have r2 := mk (w.alloc (.cells C 3)) (by rw [World.size_alloc]; have := q.size; omega)
  rw [World.size_alloc] at r2
  have qq := (q.alloc (.cells C 3)).alloc (.cells C 3)
  exact ⟨by rw [World.size_alloc]; omega, ⟨r1, r2, by omega, qq⟩, ⟨r2, r1, by omega, qq⟩⟩
set_option maxRecDepth 100000 in
set_option maxHeartbeats 8000000 in
theorem psplit_at (t : Int) (ws : List Int) (v : Value) (f : Int) (M : List Int) (w : World) (HV : Hid (Cel w v (cellsI ws))) (HF : Hid (splE t ws = f)) (HM : Hid (splV t ws = M)) :
    Calls Try.prog 10 #[.int .i64 t, v] w fun e w' => ∃ x, e = .returned (.tuple #[x, .int .i64 f]) ∧ Cel w' x (cellsI M) ∧ Own w w' := by
  obtain ⟨b0, hb0⟩ : ∃ b, okW t = b := ⟨_, rfl⟩
  have hamt := pamount_at t b0 w (Lib.hid hb0)
  have bad : f ≠ 0 → M = [] := fun e => by rw [← HM.out]; exact splV_bad (by rw [HF.out]; exact e)
  have BAD := Lib.hid bad
  have HB0 := Lib.hid hb0
  clear hb0 bad
  cases b0 with
  | false =>
    obtain rfl : 1 = f := by rw [← HF.out]; exact (splE_t HB0.out).symm
    obtain rfl := BAD.out (by decide)
    obtain ⟨A, cap, rfl, h1, h2, h3⟩ := cel_int HV.out
    go_enter Try.func10, Try.ntmps10
    go_wp2_with (go_at_call 16; refine hamt.mono ?_; rintro e w1 ⟨rfl, rfl⟩)
    go_ret2
    exact ⟨_, rfl, cel_nil _, Own.refl _⟩
  | true =>
    have hf0 : splE 0 ws = f := by rw [← splE_any HB0.out]; exact HF.out
    have hwei := pweigh_at ws v f (weiS ws) w HV (Lib.hid hf0) (Lib.hid rfl)
    have HWEI := Lib.hid hwei
    clear hwei
    by_cases hf : f = 0
    · subst hf
      obtain ⟨-, ⟨l1, l2⟩, hall, hs0, hs1⟩ := splE_ok hf0
      have W := splE_wts HF.out
      have hT0 : 1 ≤ sumW ws := by have := W.pos; omega
      have HW := Lib.hid W
      have hws : weiS ws = sumW ws := if_pos hf0
      obtain ⟨ht0, ht1⟩ := okW_iff.1 HB0.out
      obtain ⟨A, cap, rfl, h1, h2, h3⟩ := cel_int HV.out
      unfold maxLen at h2
      obtain ⟨g, off, rfl, h4⟩ := h3 l1
      have HC := Lib.hid (fun i (h : i < ws.length) => h4 i _ (wF_cell h))
      have HQL := Lib.hid (fun i (h : i < ws.length) => q_le HF.out h)
      have HWL := Lib.hid (fun i (h : i < ws.length) => w_le HF.out h)
      have HWA := Lib.hid (fun i (h : i < ws.length) => all_at hall h)
      have HMM := Lib.hid (show mpF (shF t (sumW ws) (wF ws) ws.length) ws.length = M by rw [← splV_ok HF.out]; exact HM.out)
      rw [hws] at HWEI
      obtain ⟨T, hT⟩ : ∃ T, sumW ws = T := ⟨_, rfl⟩
      obtain ⟨n, hn⟩ : ∃ n, ws.length = n := ⟨_, rfl⟩
      rw [hT, hn] at HW HMM
      rw [hT] at HWEI HQL HWL hs1 hT0
      rw [hn] at HC HQL HWL HWA HWEI l1 l2 h1 ⊢
      have HN := Lib.hid hn
      clear h3 h4 W hall hws hf0 HM HF BAD hs0 hT hn
      obtain ⟨i0, hi, hz0, hz1, hz2⟩ := info_parts (show (Try.prog.info? 3).map (fun i => (i.zero, i.size, i.bytes)) = some (some (.int .i64 0), 1, 8) by kernel_rfl)
      have HI := Lib.hid hi
      have HZ0 := Lib.hid hz0
      have HZ1 := Lib.hid hz1
      have HZ2 := Lib.hid hz2
      clear hi hz0 hz1 hz2
      go_enter Try.func10, Try.ntmps10
      go_upto_region 6 with (first | (go_at_call 16; refine hamt.mono ?_; rintro e w1 ⟨rfl, rfl⟩) | (go_at_call 17; refine HWEI.out.mono ?_; rintro e w1 ⟨rfl, rfl⟩))
      have hmk : ∀ wx : World, (Instr.makeSlice 22 (.int .i64 (n : Int)) (.int .i64 (n : Int))).run Try.prog wx = .ok (.slice (some ⟨wx.heap.size, 0, none⟩) n n) (wx.alloc (.cells (madeCells (Value.int .i64 0).cells (n * i0.size)) 3)) := fun wx => by
        have := run_make (P := Try.prog) wx 22 3 i0 (.int .i64 0) Try.underlying22 HI.out HZ0.out .i64 .i64 (n : Int) (n : Int) (by omega) (Int.le_refl _) (by rw [HZ2.out]; omega) (by omega)
        simpa using this
      obtain ⟨C, hC⟩ : ∃ C, madeCells (Value.int .i64 0).cells (n * i0.size) = C := ⟨_, rfl⟩
      rw [hC] at hmk
      obtain ⟨-, z1, z2⟩ := rz_made (w := w) HZ1.out (show n ≤ 1000000 by omega) (Own.refl w) hC
      have Z1 := Lib.hid z1
      have Z2 := Lib.hid z2
      clear z1 z2 hC HI HZ0 HZ1 HZ2
      go_cut [8, 9] from 26 to 31 (fun s8 s9 wx => ∃ a b : Nat, s8 = .slice (some ⟨a, 0, none⟩) n n ∧ s9 = .slice (some ⟨b, 0, none⟩) n n ∧ Rz w wx a b n (fun _ => 0) (fun _ => 0))
      case first =>
        go_region
        · go_wp2
          go_meet
          first
            | exact ⟨_, _, rfl, rfl, Z1.out.old (Own.refl _).drew⟩
            | exact ⟨_, _, rfl, rfl, Z2.out.old (Own.refl _).drew⟩
        · go_wp2
          go_meet
          first
            | exact ⟨_, _, rfl, rfl, Z1.out.old (Own.refl _).drew⟩
            | exact ⟨_, _, rfl, rfl, Z2.out.old (Own.refl _).drew⟩
      case rest =>
        obtain ⟨a, b, rfl, rfl, hz⟩ := hcut
        have HZ := Lib.hid hz
        clear hz hmk Z1 Z2 HWEI hamt
        have W := HW.out
        obtain ⟨Q, hQ⟩ : ∃ Q, qF t T (wF ws) = Q := ⟨_, rfl⟩
        obtain ⟨R, hR⟩ : ∃ R, rF t T (wF ws) = R := ⟨_, rfl⟩
        have hQd : ∀ i, t * wF ws i / T = Q i := fun i => by rw [← hQ]; rfl
        have hRd : ∀ i, t * wF ws i % T = R i := fun i => by rw [← hR]; rfl
        have hQ0 : ∀ i, i < n → 0 ≤ Q i ∧ Q i ≤ t := fun i h => by
          rw [← hQ]
          exact ⟨W.q0 h, HQL.out i h⟩
        obtain ⟨m, hm⟩ : ∃ m : Nat, leftF t T (wF ws) n = m := ⟨(leftF t T (wF ws) n).toNat, by have := W.left0; omega⟩
        have hmn : m ≤ n := by have := W.left_le; omega
        have hSU : ∀ i, i ≤ n → 0 ≤ t - su Q i ∧ t - su Q i ≤ t := fun i h => by
          have h1 := su_mono (f := Q) (n := n) (fun k hk => (hQ0 k hk).1) h
          have h2 := su_mono (f := Q) (n := i) (fun k hk => (hQ0 k (by omega)).1) (Nat.zero_le i)
          rw [su_zero] at h2
          have h3 := W.left0
          unfold leftF at h3
          rw [hQ] at h3
          omega
        have hend : t - su Q n = m := by
          rw [← hm, ← hQ]
          rfl
        have HQD := Lib.hid hQd
        have HRD := Lib.hid hRd
        have HQ0 := Lib.hid hQ0
        have HSU := Lib.hid hSU
        have HEND := Lib.hid hend
        have HSH := Lib.hid (fun k => (show shF t T (wF ws) n k = Q k + if bef R n k < (m : Int) then 1 else 0 by unfold shF; rw [hQ, hR, hm]))
        have HT0 := Lib.hid ht0
        clear W hQ hR hQd hRd hQ0 hSU hend hm HQL HW
        go_wp2
        go_loopw [10, 11, 12, 35] (fun x _ _ y wr => ∃ (i : Nat) (L : Int), x = .int .i64 L ∧ y = .int .i64 (i : Int) ∧ i ≤ n ∧ t - su Q i = L ∧ Rz w wr a b n (fun k => if k < i then Q k else 0) (fun k => if k < i then R k else 0)) (fun _ _ _ y _ => n - (intOf y).toNat)
        case atStart => exact ⟨0, t, rfl, rfl, Nat.zero_le _, by rw [su_zero]; omega, by simpa using HZ.out⟩
        case round =>
          obtain ⟨i, L, rfl, rfl, hi, hL, hz⟩ := hrel
          clear HZ
          by_cases hlt : i < n
          · have e0 := hz.own.cell (HC.out i hlt)
            obtain ⟨x, hx⟩ : ∃ x, wF ws i = x := ⟨_, rfl⟩
            have q1 := HQD.out i
            have q2 := HRD.out i
            obtain ⟨q3, q4⟩ := HQ0.out i hlt
            have q5 := (HWA.out i hlt).1
            have q6 := HWL.out i hlt
            obtain ⟨q7, q8⟩ := HSU.out (i + 1) hlt
            obtain ⟨L2, hL2⟩ : ∃ L2, L - Q i = L2 := ⟨_, rfl⟩
            have hL3 : t - su Q (i + 1) = L2 := by rw [su_succ, ← hL2, ← hL]; omega
            rw [hx] at e0 q1 q2 q5 q6
            have hcall := fun w h1 h2 => pexact_at t x T (Q i) (R i) w ⟨ht0, ht1⟩ ⟨q5, q6⟩ ⟨hT0, hs1⟩ h1 h2
            have HCALL := Lib.hid (fun w => hcall w (Lib.hid q1) (Lib.hid q2))
            have HZR := Lib.hid hz
            have hin : (i : Int) < n := by omega
            have k1 : IntKind.i64.wrap (L - Q i) = L2 := (IntWalk.i64_in _ (by omega)).trans hL2
            have HL3 := Lib.hid hL3
            obtain ⟨qi, hqi⟩ : ∃ z, Q i = z := ⟨_, rfl⟩
            obtain ⟨ri, hri⟩ : ∃ z, R i = z := ⟨_, rfl⟩
            rw [hqi, hri] at HCALL
            rw [hqi] at k1
            have HQI := Lib.hid hqi
            have HRI := Lib.hid hri
            have hab : a ≠ b := hz.ne
            have hba : b ≠ a := fun e => hab e.symm
            clear hz hcall hL2 hL3 hqi hri q1 q2 q3 q4 q7 q8 hL hx q6
            go_upto_region 12 with (go_at_call 18; refine (HCALL.out _).mono ?_; rintro e w5 ⟨rfl, hd⟩; have HZ5 := Lib.hid (HZR.out.old (Own.of_drew hd)); obtain ⟨c5, f5⟩ := row_cell HZ5.out.ra hlt; obtain ⟨c6, f6⟩ := row_cell HZ5.out.rb hlt; clear hd)
            have hz7 := (HZ5.out.putA (h := fun k => if k < i + 1 then Q k else 0) i qi (fun k _ => by
              by_cases e : k = i
              · rw [if_pos e, if_pos (by omega), e, HQI.out]
              · rw [if_neg e]
                by_cases e2 : k < i
                · rw [if_pos e2, if_pos (by omega)]
                · rw [if_neg e2, if_neg (by omega)])).putB (h := fun k => if k < i + 1 then R k else 0) i ri (fun k _ => by
              by_cases e : k = i
              · rw [if_pos e, if_pos (by omega), e, HRI.out]
              · rw [if_neg e]
                by_cases e2 : k < i
                · rw [if_pos e2, if_pos (by omega)]
                · rw [if_neg e2, if_neg (by omega)])
            generalize (w5.setCell ⟨a, i, none⟩ (.int .i64 qi)).setCell ⟨b, i, none⟩ (.int .i64 ri) = w7 at hz7 ⊢
            have c7 := (row_cell hz7.ra hlt).1
            rw [if_pos (Nat.lt_succ_self i), HQI.out] at c7
            have HZ7 := Lib.hid hz7
            clear hz7 c5 c6 f5 f6
            go_wp2
            go_roundw
            case rel => exact ⟨i + 1, L2, rfl, by go_num, hlt, HL3.out, HZ7.out⟩
            case measure => simp [intOf]; omega
          · obtain rfl : i = n := by omega
            have hLm : L = m := by rw [← hL]; exact HEND.out
            subst hLm
            have hzq : Rz w wr a b i Q R := ⟨by rw [← mpF_congr (f := fun k => if k < i then Q k else 0) (g := Q) (n := i) fun k hk => if_pos hk]; exact hz.ra, by rw [← mpF_congr (f := fun k => if k < i then R k else 0) (g := R) (n := i) fun k hk => if_pos hk]; exact hz.rb, hz.ne, hz.own⟩
            have hcall := pranked_at R b i i wr (Lib.hid fun k hk => (row_cell hzq.rb hk).1) l1 (by omega)
            have HCALL := Lib.hid hcall
            have HZR := Lib.hid hzq
            clear hz hzq hcall hL
            generalize wr = wz at *
            have hm0 : ¬ (m : Int) < 0 := by omega
            go_wp2_with (go_at_call 19; refine HCALL.out.mono ?_; rintro e w5 ⟨g2, c2, E, rfl, hg2, hre, hmg, ho⟩; have HZ5 := Lib.hid (HZR.out.old ho); have HRE := Lib.hid hre; have HMG := Lib.hid (rank_bef hmg); have HAG := Lib.hid (show a ≠ g2 from by have := (row_blk_le HZR.out.ra).2; omega); obtain ⟨_, _, hc1, hc2⟩ := hre.bounds; unfold maxLen at hc2; have hmc : (m : Int) ≤ c2 := (by omega); have hmc2 : m ≤ c2 := (by omega); clear hre hmg ho hg2)
            go_loopw [14, 65] (fun _ y wr => ∃ j : Nat, y = .int .i64 (j : Int) ∧ j ≤ m ∧ Rz w wr a b i (fun k => Q k + if bef R i k < (j : Int) then 1 else 0) R ∧ Rd wr g2 g2 i c2 E) (fun _ y _ => m - (intOf y).toNat)
            case atStart => exact ⟨0, rfl, Nat.zero_le _, ⟨by
              rw [mpF_congr (g := Q) fun k hk => by
                have := bef_nonneg (R := R) (n := i) (i := k)
                try dsimp only
                rw [if_neg (by omega)]
                omega]
              exact HZ5.out.ra, HZ5.out.rb, HZ5.out.ne, HZ5.out.own⟩, HRE.out⟩
            case round =>
              obtain ⟨j, rfl, hj, hz, hre⟩ := hrel
              by_cases hlt : j < m
              · obtain ⟨hE1, hE2⟩ := HMG.out
                have hx := hE1 j (by omega)
                have hbx := hE2 j (by omega)
                have e0 := (hre.at (i := j) (by omega)).1
                obtain ⟨x, hxx⟩ : ∃ x, E j = x := ⟨_, rfl⟩
                rw [hxx] at hx hbx e0
                obtain ⟨c0, f0⟩ := row_cell hz.ra hx
                rw [hbx, if_neg (by omega)] at c0
                obtain ⟨q3, q4⟩ := HQ0.out x hx
                have hza := hz.putA (h := fun k => Q k + if bef R i k < ((j + 1 : Nat) : Int) then 1 else 0) x (Q x + 1) (fun k hk => by
                  try dsimp only
                  by_cases e : k = x
                  · rw [if_pos e, e, hbx, if_pos (by omega)]
                  · rw [if_neg e]
                    have : bef R i k ≠ j := fun z => e (bef_inj (R := R) hk hx (z.trans hbx.symm))
                    by_cases e2 : bef R i k < (j : Int)
                    · rw [if_pos e2, if_pos (by omega)]
                    · rw [if_neg e2, if_neg (by omega)])
                have hrk := set_kept (b := a) (i := x) (u := .int .i64 (Q x + 1)) hre (fun z => HAG.out z.symm)
                obtain ⟨qx, hqx⟩ : ∃ z, Q x = z := ⟨_, rfl⟩
                rw [hqx] at c0 q3 q4 hza hrk
                have HZA := Lib.hid hza
                have HRK := Lib.hid hrk
                have k1 : IntKind.i64.wrap (qx + 0 + 1) = qx + 1 := (IntWalk.i64_in _ (by omega)).trans (by omega)
                have k2 : IntKind.i64.wrap (qx + 1) = qx + 1 := IntWalk.i64_in _ (by omega)
                have hxn : (x : Int) < i := by omega
                have hjm : (j : Int) < m := by omega
                rw [Int.add_zero] at c0
                clear hza hrk hre hz hE1 hE2 hbx hxx hqx
                go_wp2
                go_roundw
                case rel => exact ⟨j + 1, by go_num, hlt, HZA.out, HRK.out⟩
                case measure => simp [intOf]; omega
              · obtain rfl : j = m := by omega
                have HM2 := Lib.hid (show mpF (fun k => Q k + if bef R i k < (j : Int) then 1 else 0) i = M by
                  rw [← HMM.out]
                  exact mpF_congr fun k _ => (HSH.out k).symm)
                have HZZ := Lib.hid hz
                clear hz hre
                go_wp2
                go_ret2
                refine ⟨_, rfl, ?_, HZZ.out.own⟩
                rw [← HM2.out]
                exact cel_of_row HZZ.out.ra
    · obtain rfl := BAD.out hf
      have d0 : (f == 0) = false := beq_eq_false_iff_ne.2 hf
      have d1 : (f != 0) = true := by simp [hf]
      clear hf0
      obtain ⟨A, cap, rfl, h1, h2, h3⟩ := cel_int HV.out
      go_enter Try.func10, Try.ntmps10
      go_wp2_with (first | (go_at_call 16; refine hamt.mono ?_; rintro e w1 ⟨rfl, rfl⟩) | (go_at_call 17; refine HWEI.out.mono ?_; rintro e w1 ⟨rfl, rfl⟩))
      go_ret2
      exact ⟨_, rfl, cel_nil _, Own.refl _⟩
end Go.Proofs.Ytmliajkbknjacaa.ShaW
