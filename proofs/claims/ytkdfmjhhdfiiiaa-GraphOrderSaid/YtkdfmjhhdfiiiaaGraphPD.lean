/-
  Walk of the program's search, wave by wave. Condition: none.
-/
import Derived.Test.YtkdfmjhhdfiiiaaGraphPC
import Derived.Test.YtkdfmjhhdfiiiaaRepeat
import Derived.Test.YtkdfmjhhdfiiiaaHeapA
import Derived.Deep.LoopGhost
namespace Go.Proofs.Ytkdfmjhhdfiiiaa.GraW
open Go.ChangeShapes Go.WideShapes Go.ChangeAt Go.RowKit
open PairW CelW GraP TabW
open HepW (Gr)
/-! ### Lists -/
theorem asc_take {F : List Nat} (hF : F.Pairwise (· < ·)) {j v : Nat} (hj : F[j]? = some v) {c : Nat} (hc : c ∈ F) (hlt : c < v) : c ∈ F.take j := by
  obtain ⟨i, hi, e⟩ := List.mem_iff_getElem.1 hc
  obtain ⟨hj1, hj2⟩ := List.getElem?_eq_some_iff.1 hj
  rw [List.mem_take_iff_getElem]
  refine ⟨i, ?_, e⟩
  rcases Nat.lt_trichotomy i j with k | k | k
  · omega
  · subst k
    omega
  · have := List.pairwise_iff_getElem.1 hF j i hj1 hi k
    omega
theorem take_asc {F : List Nat} (hF : F.Pairwise (· < ·)) {j v : Nat} (hj : F[j]? = some v) : ∀ x ∈ F.take j, x < v := fun x hx => by
  obtain ⟨i, hi, e⟩ := List.mem_take_iff_getElem.1 hx
  obtain ⟨hj1, hj2⟩ := List.getElem?_eq_some_iff.1 hj
  have := List.pairwise_iff_getElem.1 hF i j (by omega) hj1 (by omega)
  omega
theorem take_next {α : Type} {F : List α} {j : Nat} {v : α} (hj : F[j]? = some v) : F.take (j + 1) = F.take j ++ [v] := by
  obtain ⟨hj1, hj2⟩ := List.getElem?_eq_some_iff.1 hj
  rw [List.take_succ_eq_append_getElem hj1, hj2]
theorem ints_get {l : List Nat} {i : Nat} (h : i < l.length) : (cellsI (ints l))[i]? = some (.int .i64 (l[i] : Int)) := by
  unfold cellsI
  rw [List.getElem?_map, ints_at (List.getElem?_eq_getElem h)]
  rfl
theorem sc_small {n : Nat} {l : List Ar} {st Q K T : List Nat} {B : List Int} {p : Nat} (h : Sc n l st Q K B p T) : Q.length ≤ n := nodup_le n Q h.nd h.lt
/-! ### Memory -/
theorem gr_grown {a w w' : World} {g : Nat} {row : Option Nat} (h : Gr a w g) (hg : w.grownBy w' row) (hr : ∀ k, row = some k → a.heap.size ≤ k) : Gr a w' g :=
  ⟨hg.os.trans h.os, hg.output.trans h.output, Nat.le_trans h.size hg.size, fun k hk hne => (hg.block k (Nat.lt_of_lt_of_le hk h.size) fun e => by have := hr k e.symm; omega).trans (h.block k hk hne)⟩
theorem gr_ownto {a w w' : World} {g : Nat} (h : Gr a w g) (q : Own w w') : Gr a w' g :=
  ⟨q.os.trans h.os, q.output.trans h.output, Nat.le_trans h.size q.size, fun k hk hne => (q.block k (Nat.lt_of_lt_of_le hk h.size)).trans (h.block k hk hne)⟩
theorem cel_gr {w w' : World} {g : Nat} {v : Value} {xs : List Value} (h : Cel w v xs) (q : Gr w w' g) (hne : v.ownBlock ≠ some g) : Cel w' v xs := by
  obtain ⟨A, cap, h1, h2, h3, h4⟩ := h
  refine ⟨A, cap, h1, h2, h3, fun h0 => ?_⟩
  obtain ⟨b, off, h5, h6⟩ := h4 h0
  refine ⟨b, off, h5, fun i u hu => ?_⟩
  have hc := h6 i u hu
  rw [World.cell?_of_block (w := w) (q.block b (block_lt_of_cell hc) fun e => hne (by rw [h1, h5, e]; rfl))]
  exact hc
/-- A slice that is not empty lies in a block that is there. -/
theorem cel_block {w : World} {v : Value} {xs : List Value} (h : Cel w v xs) {g : Nat} (hg : w.heap.size ≤ g) (h0 : 0 < xs.length) : v.ownBlock ≠ some g := by
  obtain ⟨A, cap, h1, _, _, h4⟩ := h
  obtain ⟨b, off, h5, h6⟩ := h4 h0
  have hc := block_lt_of_cell (h6 0 _ (List.getElem?_eq_getElem h0))
  have hc : b < w.heap.size := hc
  rw [h1, h5]
  intro e
  injection e with e
  have e : b = g := e
  omega
/-- A slice of nodes, opened. -/
theorem cel_nats {w : World} {v : Value} {l : List Nat} {n : Nat} (h : Cel w v (cellsI (ints l))) (hn : l.length = n) : ∃ A cap, v = .slice A n cap ∧ n ≤ cap ∧ cap ≤ maxLen ∧ (0 < n → ∃ g off : Nat, A = some ⟨g, off, none⟩ ∧ ∀ i x : Nat, l[i]? = some x → w.cell? ⟨g, off + i, none⟩ = some (.int .i64 (x : Int))) := by
  obtain ⟨A, cap, h1, h2, h3, h4⟩ := h
  rw [cellsI_len, ints_len, hn] at h1 h2 h4
  refine ⟨A, cap, h1, h2, h3, fun h0 => ?_⟩
  obtain ⟨b, off, h5, h6⟩ := h4 h0
  refine ⟨b, off, h5, fun i x hx => h6 i _ ?_⟩
  unfold cellsI
  rw [List.getElem?_map, ints_at hx]
  rfl
/-- What a search leaves. -/
def SrOk (n : Nat) (l : List Ar) (st : List Nat) (tz : Int) (B : List Int) : Prop := ∃ Q K p T, Sc n l st Q K B p T ∧ ((Q.length ≤ p ∧ T = []) ∨ ∃ b : Nat, tz = (b : Int) ∧ b ∈ Q)
/-- The nodes of the start, marked one by one. -/
def StB (n : Nat) (st : List Nat) (k : Nat) (B : List Int) : Prop := B.length = n ∧ (∀ x, x < n → x ∉ st.take k → B[x]? = some (-1)) ∧ ∀ x ∈ st.take k, B[x]? = some (x : Int)
theorem stB_zero (n : Nat) (st : List Nat) : StB n st 0 (List.replicate n (-1)) := ⟨List.length_replicate, fun x hx _ => by rw [List.getElem?_replicate, if_pos hx], fun x hx => by rw [List.take_zero] at hx; cases hx⟩
theorem stB_more {n : Nat} {st : List Nat} {k x : Nat} {B : List Int} (h : StB n st k B) (hx : st[k]? = some x) (hn : x < n) : StB n st (k + 1) (B.set x (x : Int)) := by
  have hxb : x < B.length := by rw [h.1]; exact hn
  refine ⟨by rw [List.length_set]; exact h.1, fun y hy hno => ?_, fun y hy => ?_⟩
  · rw [take_next hx, List.mem_append, List.mem_singleton] at hno
    rw [List.getElem?_set, if_neg (fun e => hno (.inr e.symm))]
    exact h.2.1 y hy fun e => hno (.inl e)
  · rw [List.getElem?_set]
    by_cases e : x = y
    · subst e
      rw [if_pos rfl, if_pos hxb]
    · rw [if_neg e]
      rw [take_next hx, List.mem_append, List.mem_singleton] at hy
      exact h.2.2 y (hy.resolve_right fun q => e q.symm)
theorem stB_end {n : Nat} {l : List Ar} {st : List Nat} {k : Nat} {B : List Int} (h : StB n st k B) (hk : st.length = k) (hn : st.Nodup) (hl : ∀ x ∈ st, x < n) : Sc n l st st st B 0 [] := by
  subst hk
  obtain ⟨h1, h2, h3⟩ := h
  rw [List.take_length] at h2 h3
  exact sc_start hn hl h1 h2 h3
set_option maxRecDepth 100000 in
set_option maxHeartbeats 8000000 in
theorem psearch_at (n : Nat) (l : List Ar) (st : List Nat) (vn vs : Value) (tz : Int) (w : World) (HN : Hid (Cels w vn (rowF n l))) (HS : Hid (Cel w vs (cellsI (ints st)))) (HD : Hid st.Nodup) (HL : Hid (∀ x ∈ st, x < n)) (HG : Hid (Fit n l)) (hn : n ≤ 64) :
    Calls Try.prog 37 #[vn, vs, .int .i64 tz] w fun e w' => ∃ g B, e = .returned (.slice (some ⟨g, 0, none⟩) n n) ∧ w'.ownsRow w.heap.size 3 1 (.slice (some ⟨g, 0, none⟩) n n) n (cellsI B) ∧ Own w w' ∧ SrOk n l st tz B := by
  obtain ⟨i0, hi, hz0, hz1, hz2⟩ := info_parts (show (Try.prog.info? 3).map (fun i => (i.zero, i.size, i.bytes)) = some (some (.int .i64 0), 1, 8) by kernel_rfl)
  have HI := Lib.hid hi
  have HZ0 := Lib.hid hz0
  have HZ1 := Lib.hid hz1
  have HZ2 := Lib.hid hz2
  obtain ⟨An, cn, rfl, n1, n2, hnc⟩ := cels_open HN.out
  rw [rowF_len] at n1 hnc HN ⊢
  unfold maxLen at n2
  have HNC := Lib.hid hnc
  obtain ⟨s, hs⟩ : ∃ s, st.length = s := ⟨_, rfl⟩
  obtain ⟨As, cs, rfl, s1, s2, hsc⟩ := cel_nats HS.out hs
  unfold maxLen at s2
  have HSC := Lib.hid hsc
  have HSL := Lib.hid hs
  have hs64 : s ≤ 64 := by
    have := nodup_le n st HD.out HL.out
    omega
  have k0 : (w.alloc (.cells #[.int .i64 (-1)] 3)).cell? ⟨w.heap.size, 0, none⟩ = some (.int .i64 (-1)) := by go_simp
  have q0 : Own w (w.alloc (.cells #[.int .i64 (-1)] 3)) := (Own.refl w).alloc _
  clear hi hz0 hz1 hz2 hnc hsc hs
  go_enter Try.func37, Try.ntmps37
  go_upto_region 1 with (fail)
  refine wp_scope_straight ?_
  go_upto_region 2 with (go_at_call 51; refine (prep_at n w.heap.size _ k0 hn).mono ?_; rintro e w2 ⟨g, rfl, hr2, q2⟩; have HR2 := Lib.hid (row_down hr2 q0.size); have HGL := Lib.hid (Nat.le_trans q0.size (hr2.lt g rfl).1); have q3 := q0.trans q2; clear hr2 q2)
  clear k0 q0
  have HST0 := Lib.hid (stB_zero n st)
  go_wp2
  go_loopw [9, 22] (fun _ vi wr => ∃ (k : Nat) (B : List Int), vi = .int .i64 (k : Int) ∧ k ≤ s ∧ Own w wr ∧ wr.ownsRow w.heap.size 3 1 (.slice (some ⟨g, 0, none⟩) n n) n (cellsI B) ∧ StB n st k B) (fun _ vi _ => s - (intOf vi).toNat)
  case atStart => exact ⟨0, _, rfl, Nat.zero_le _, q3, HR2.out, HST0.out⟩
  case round =>
    clear HR2 q3
    obtain ⟨k, B, rfl, hk, q, hrow, hst⟩ := hrel
    by_cases hlt : k < s
    · obtain ⟨gs, off, rfl, hc⟩ := HSC.out (by omega)
      have hkl : k < st.length := by rw [HSL.out]; exact hlt
      obtain ⟨x, hx⟩ : ∃ x, st[k]? = some x := ⟨_, List.getElem?_eq_getElem hkl⟩
      have hxn : x < n := HL.out x (List.mem_of_getElem? hx)
      have c0 := q.cell (hc k x hx)
      obtain ⟨bv, e0, _, f0⟩ := row_int hrow hst.1 hxn
      have HROW := Lib.hid (row_puti hrow x (x : Int))
      have HST := Lib.hid (stB_more hst hx hxn)
      have hks : (k : Int) < s := by omega
      have hxn2 : (x : Int) < n := by omega
      have QS := Lib.hid (q.setCell (p := ⟨g, x, none⟩) HGL.out (.int .i64 (x : Int)))
      clear hc hx hkl hrow hst
      go_wp2
      go_roundw
      case rel => exact ⟨k + 1, _, by go_num, hlt, QS.out, HROW.out, HST.out⟩
      case measure => simp [intOf]; omega
    · obtain rfl : k = s := by omega
      have HSC0 := Lib.hid (stB_end (l := l) hst HSL.out HD.out HL.out)
      have HROW := Lib.hid hrow
      have HCW := Lib.hid (HS.out.own q)
      have HNB := Lib.hid (show 0 < st.length → (Value.slice As k cs).ownBlock ≠ some g from fun h0 => cel_block HS.out HGL.out (by rw [cellsI_len, ints_len]; exact h0))
      clear hst hrow
      go_wp2
      go_step3
      go_wp2
      go_loopg [10, 11, 13, 15, 37, 46] (n + 1) (fun kx v10 _ _ _ _ _ wr => ∃ (D W K : List Nat) (B : List Int), n + 1 - D.length ≤ kx ∧ Own w wr ∧ wr.ownsRow w.heap.size 3 1 (.slice (some ⟨g, 0, none⟩) n n) n (cellsI B) ∧ Cel wr v10 (cellsI (ints W)) ∧ (0 < W.length → v10.ownBlock ≠ some g) ∧ Sc n l st (D ++ W) K B D.length [])
      case atStart => exact ⟨[], st, st, B, Nat.le_refl _, q, HROW.out, HCW.out, HNB.out, HSC0.out⟩
      case round =>
        clear q HROW HCW HNB HSC0
        obtain ⟨D, W, K, B, hkx, q, hrow, hcw, hnb, hsc⟩ := hrel
        obtain ⟨m, hm⟩ : ∃ m, W.length = m := ⟨_, rfl⟩
        obtain ⟨Aw, cw, rfl, w1, w2', hcw2⟩ := cel_nats hcw hm
        unfold maxLen at w2'
        have HROW := Lib.hid hrow
        have HCW := Lib.hid hcw
        have HCW2 := Lib.hid hcw2
        have HNB := Lib.hid hnb
        have HSC1 := Lib.hid hsc
        have HWL := Lib.hid hm
        have HG5 := Lib.hid (hrow.lt g rfl).2
        have HQ5 := Lib.hid q.size
        have hsmall := sc_small hsc
        rw [List.length_append, hm] at hsmall
        clear hrow hcw hcw2 hnb hsc hm
        generalize wr = w5 at *
        by_cases hm0 : 0 < m
        · have hm0z : (0 : Int) < m := by omega
          go_wp2
          go_loopw [11, 13, 15, 37, 46] (fun v11 _ _ v37 _ wr => ∃ (i : Nat) (A K : List Nat) (B : List Int), v37 = .int .i64 (i : Int) ∧ i ≤ m ∧ Own w wr ∧ Gr w5 wr g ∧ wr.ownsRow w.heap.size 3 1 (.slice (some ⟨g, 0, none⟩) n n) n (cellsI B) ∧ wr.ownsRow w5.heap.size 3 1 v11 A.length (cellsI (ints A)) ∧ Sc n l st (D ++ W ++ A) K B (D.length + i) []) (fun _ _ _ v37 _ _ => m - (intOf v37).toNat)
          case atStart => exact ⟨0, [], K, B, rfl, Nat.zero_le _, q, HepW.Gr.refl _ _, HROW.out, World.ownsRow_nil _ _ _ _, by rw [List.append_nil, Nat.add_zero]; exact HSC1.out⟩
          case round =>
            clear q HROW HSC1
            obtain ⟨i, A, K, B, rfl, hi, q, hgr, hrow, harow, hsc⟩ := hrel
            have HROW := Lib.hid hrow
            have HAROW := Lib.hid harow
            have HGR := Lib.hid hgr
            have HSC2 := Lib.hid hsc
            obtain ⟨Aa, ca, rfl⟩ := rows_shape harow
            clear hrow harow hgr hsc
            generalize wr = w6 at *
            by_cases hlt : i < m
            · have him : (i : Int) < m := by omega
              have hil : i < W.length := by rw [HWL.out]; exact hlt
              obtain ⟨u, hu⟩ : ∃ u, W[i]? = some u := ⟨_, List.getElem?_eq_getElem hil⟩
              obtain ⟨gw, offw, rfl, hcw⟩ := HCW2.out hm0
              have hwc := hcw i u hu
              have hgw : gw ≠ g := fun e => HNB.out (by rw [HWL.out]; exact hm0) (by rw [e]; rfl)
              have c0 := (World.cell?_of_block (w := w5) (HGR.out.block gw (block_lt_of_cell hwc) hgw)).trans hwc
              have HP := Lib.hid (show (D ++ W ++ A)[D.length + i]? = some u by
                rw [List.append_assoc, List.getElem?_append_right (by omega), Nat.add_sub_cancel_left, List.getElem?_append_left hil]
                exact hu)
              have hun : u < n := HSC2.out.lt u (List.mem_of_getElem? HP.out)
              have hun2 : (u : Int) < n := by omega
              obtain ⟨gn, offn, rfl, hnx⟩ := HNC.out (by omega)
              obtain ⟨vf, e0', hcf⟩ := hnx u _ (rowF_at hun)
              have e0 := q.cell e0'
              obtain ⟨f, hf⟩ : ∃ f, (fol n l u).length = f := ⟨_, rfl⟩
              have HFL := Lib.hid hf
              obtain ⟨Af, cf, rfl, f1, f2, hcf2⟩ := cel_nats hcf hf
              unfold maxLen at f2
              have HCF := Lib.hid hcf2
              have hfn := fol_len n l u
              rw [hf] at hfn
              clear hu hcw hwc hnx e0' hcf hcf2 hf hil
              go_wp2
              go_loopw [11, 15, 46] (fun v11 _ v46 wr => ∃ (j : Nat) (A K : List Nat) (B : List Int), v46 = .int .i64 (j : Int) ∧ j ≤ f ∧ Own w wr ∧ Gr w5 wr g ∧ wr.ownsRow w.heap.size 3 1 (.slice (some ⟨g, 0, none⟩) n n) n (cellsI B) ∧ wr.ownsRow w5.heap.size 3 1 v11 A.length (cellsI (ints A)) ∧ (D ++ W ++ A)[D.length + i]? = some u ∧ Sc n l st (D ++ W ++ A) K B (D.length + i) ((fol n l u).take j)) (fun _ _ v46 _ => f - (intOf v46).toNat)
              case atStart => exact ⟨0, A, K, B, rfl, Nat.zero_le _, q, HGR.out, HROW.out, HAROW.out, HP.out, HSC2.out⟩
              case round =>
                clear q HROW HAROW HGR HSC2 HP c0 e0
                obtain ⟨j, A, K, B, rfl, hj, q, hgr, hrow, harow, hp, hsc⟩ := hrel
                obtain ⟨Aa, ca, rfl⟩ := rows_shape harow
                have HAROW := Lib.hid harow
                have HGR := Lib.hid hgr
                have HP := Lib.hid hp
                clear harow hgr hp
                by_cases hlt2 : j < f
                · have hjf : (j : Int) < f := by omega
                  have hjl : j < (fol n l u).length := by rw [HFL.out]; exact hlt2
                  obtain ⟨v, hv⟩ : ∃ v, (fol n l u)[j]? = some v := ⟨_, List.getElem?_eq_getElem hjl⟩
                  obtain ⟨gf, offf, rfl, hcf⟩ := HCF.out (by omega)
                  have c1 := q.cell (hcf j v hv)
                  have hvm := List.mem_of_getElem? hv
                  have hav : ar l u v = true := (fol_mem.1 hvm).2
                  have hvn : v < n := (fol_mem.1 hvm).1
                  have hvn2 : (v : Int) < n := by omega
                  obtain ⟨bv, e1, hbv, g1⟩ := row_int hrow hsc.bl hvn
                  have HT := Lib.hid (fun c (h1 : c < v) (h2 : ar l u c = true) => asc_take (fol_asc n l u) hv (fol_mem.2 ⟨(HG.out.ar h2).2, h2⟩) h1)
                  have HT2 := Lib.hid (take_asc (fol_asc n l u) hv)
                  have HTN := Lib.hid (take_next hv)
                  have HROW := Lib.hid hrow
                  have HSC3 := Lib.hid hsc
                  have HBV := Lib.hid hbv
                  clear hrow hsc hbv hcf hv hvm hjl
                  by_cases hb : bv = -1
                  · subst hb
                    have HADD := Lib.hid (HSC3.out.add HP.out hav hvn HBV.out HT.out HT2.out)
                    have HRW2 := Lib.hid (row_puti HROW.out v (u : Int))
                    have QS := Lib.hid (q.setCell (p := ⟨g, v, none⟩) HGL.out (.int .i64 (u : Int)))
                    have GS := Lib.hid (HGR.out.set v (.int .i64 (u : Int)))
                    by_cases ht : (v : Int) = tz
                    · subst ht
                      go_wp2
                      rw [Exit.noGoto_ret]
                      go_ret
                      refine ⟨g, _, rfl, HRW2.out, QS.out, _, _, _, _, HADD.out, .inr ⟨v, rfl, ?_⟩⟩
                      exact List.mem_append_right _ (List.mem_singleton.2 rfl)
                    · have d2 : ((v : Int) == tz) = false := beq_eq_false_iff_ne.2 ht
                      have hsl : A.length < n := by
                        have := sc_small HADD.out
                        rw [List.length_append, List.length_append, List.length_append] at this
                        show A.length + 1 ≤ n
                        have e1 : [v].length = 1 := rfl
                        omega
                      have HNG := Lib.hid (show (Value.slice Aa A.length ca).ownBlock ≠ some g from fun e => by
                        have h1 := (HAROW.out.lt g e).1
                        have h2 := HG5.out
                        omega)
                      have HA1 := Lib.hid (ownsRow_setCell_other HAROW.out (a := ⟨g, v, none⟩) HNG.out (.int .i64 (u : Int)))
                      obtain ⟨z, hz⟩ : ∃ z, A.length = z := ⟨_, rfl⟩
                      have HZL := Lib.hid hz
                      rw [hz] at hsl HA1 HNG ⊢
                      have K2 := Lib.hid (show z + 1 ≤ maxLen by unfold maxLen; omega)
                      have K3 := Lib.hid (show (z + 1) * 8 ≤ 140737488355328 by omega)
                      go_upto_region 18 with (fail)
                      generalize hw7 : wr.setCell ⟨g, v, none⟩ (.int .i64 (u : Int)) = w7 at *
                      clear hw7 e1 g1 c1 hz ht
                      have q7 := (Own.refl w7).alloc (.cells #[.int .i64 (v : Int)] 3)
                      have HRO := Lib.hid (row_own HA1.out q7)
                      have HCE := Lib.hid (cel_lit (w := w7) (T := 3) (cs := #[.int .i64 (v : Int)]) (xs := [.int .i64 (v : Int)]) (k := 1) rfl rfl (by unfold maxLen; decide))
                      have HBS := Lib.hid (show w5.heap.size ≤ (w7.alloc (.cells #[.int .i64 (v : Int)] 3)).heap.size from Nat.le_trans GS.out.size q7.size)
                      have HQ7 := Lib.hid q7
                      clear q7
                      go_wp2_with (at_builtin; refine wpList_append_k (by go_simp) _ _ 29 rfl w5.heap.size 3 i0 (.int .i64 0) 8 Try.underlying29 HI.out HZ0.out HZ1.out HZ2.out rfl _ z (cellsI (ints A)) rfl HRO.out _ [.int .i64 (v : Int)] rfl HCE.out (fun x hx => by rw [List.mem_singleton.1 hx]; rfl) (z + 1) rfl K2.out K3.out HBS.out ?_; intro v8 w8 hown8 hgr8; have HOWN8 := Lib.hid hown8; have HGR8 := Lib.hid hgr8; clear hown8 hgr8)
                      go_roundw
                      case rel =>
                        have hrb := fun k (hk : (Value.slice Aa z ca).ownBlock = some k) => (HA1.out.lt k hk).1
                        refine ⟨j + 1, A ++ [v], K ++ [D.length + i], B.set v (u : Int), by go_num, hlt2, (QS.out.trans HQ7.out).grown HGR8.out (fun k hk => Nat.le_trans HQ5.out (hrb k hk)), gr_grown (gr_ownto GS.out HQ7.out) HGR8.out hrb, (row_own HRW2.out HQ7.out).kept HGR8.out (.inr fun e => HNG.out e.symm), ?_, ?_, ?_⟩
                        · rw [List.length_append, HZL.out, ints_app, cellsI_app]
                          exact HOWN8.out
                        · rw [← List.append_assoc]
                          exact get_app.2 (.inl HP.out)
                        · rw [← List.append_assoc, HTN.out]
                          exact HADD.out
                      case measure => simp [intOf]; omega
                  · have d1 : (bv != -1) = true := bne_iff_ne.2 hb
                    have HSK := Lib.hid (HSC3.out.skip hvn HBV.out hb (fun u' hu' => by
                      have := HP.out
                      rw [hu'] at this
                      injection this with this
                      subst this
                      exact HT.out))
                    rw [← HTN.out] at HSK
                    go_wp2
                    go_roundw
                    case rel => exact ⟨j + 1, A, K, B, by go_num, hlt2, q, HGR.out, HROW.out, HAROW.out, HP.out, HSK.out⟩
                    case measure => simp [intOf]; omega
                · obtain rfl : j = f := by omega
                  have HNX := Lib.hid (hsc.next HP.out (fun v hv => by
                    rw [List.take_of_length_le (by rw [HFL.out]; exact Nat.le_refl _)]
                    exact (fol_fit HG.out).2 hv))
                  have HROW := Lib.hid hrow
                  clear hrow hsc
                  go_wp2
                  go_roundw
                  case rel => exact ⟨i + 1, A, K, B, by go_num, hlt, q, HGR.out, HROW.out, HAROW.out, HNX.out⟩
                  case measure => simp [intOf]; omega
            · obtain rfl : i = m := by omega
              have HSC4 := Lib.hid (show Sc n l st ((D ++ W) ++ A) K B (D ++ W).length [] by rw [List.length_append, HWL.out]; exact HSC2.out)
              have HCA := Lib.hid (show Cel w6 (.slice Aa A.length ca) (cellsI (ints A)) from cel_of_row HAROW.out)
              have HNA := Lib.hid (show 0 < A.length → (Value.slice Aa A.length ca).ownBlock ≠ some g from fun _ e => by
                have h1 := (HAROW.out.lt g e).1
                have h2 := HG5.out
                omega)
              go_wp2
              go_roundg (n + 1 - (D.length + i))
              case measure => omega
              case rel => exact ⟨D ++ W, A, K, B, by rw [List.length_append, HWL.out]; exact Nat.le_refl _, q, HROW.out, HCA.out, HNA.out, HSC4.out⟩
        · obtain rfl : m = 0 := by omega
          obtain rfl := List.eq_nil_of_length_eq_zero HWL.out
          have HSR := Lib.hid (show SrOk n l st tz B from ⟨_, _, _, _, HSC1.out, .inl ⟨by rw [List.append_nil]; exact Nat.le_refl _, rfl⟩⟩)
          go_wp2
          rw [Exit.noGoto_ret]
          go_ret
          exact ⟨g, B, rfl, HROW.out, q, HSR.out⟩
end Go.Proofs.Ytkdfmjhhdfiiiaa.GraW
