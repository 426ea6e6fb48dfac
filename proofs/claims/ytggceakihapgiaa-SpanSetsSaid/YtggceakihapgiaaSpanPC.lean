/-
  Walk of the program's ends of two lists of spans, sorted by the library: what a call returns for every input. Condition: none.
-/
import Derived.Test.YtggceakihapgiaaSpanPB
namespace Go.Proofs.Ytggceakihapgiaa.SpaW
open Go.ChangeShapes Go.WideShapes Go.ChangeAt Go.RowKit
open PairW SpaP
abbrev encZ (x : Int) : Value := .int .i64 x
theorem endsF_take {l : List Sp} {k : Nat} (h : k < l.length) : endsF (l.take (k + 1)) = endsF (l.take k) ++ [(at' l k).1, (at' l k).2] := by rw [take_at h, endsF_snoc]
theorem concat_to (a b all : List Sp) (A B : Option Addr) (n m ca cb Q N : Nat) (w : World) (HA : Hid (Pts w (.slice A n ca) a)) (HB : Hid (Pts w (.slice B m cb) b)) (HN : Hid (a.length = n)) (HM : Hid (b.length = m))
    (q0 : w.cell? ⟨Q, 0, none⟩ = some (.slice A n ca)) (q1 : w.cell? ⟨Q, 1, none⟩ = some (.slice B m cb)) (hle : n + m ≤ 1000) (HALL : Hid (a ++ b = all)) (HLEN : Hid (all.length = N)) :
    Calls Try.prog 46 #[.slice (some ⟨Q, 0, none⟩) 2 2] w fun e w' => ∃ C cc, e = .returned (.slice C N cc) ∧ Pts w' (.slice C N cc) all ∧ Own w w' := by
  refine (concat_at a b A B n m ca cb Q w HA HB HN HM q0 q1 hle).mono ?_
  rintro e w' ⟨s', rfl, hp, hg⟩
  rw [HALL.out] at hp
  obtain ⟨C, cc, h1, _⟩ := hp.open
  rw [HLEN.out] at h1
  subst h1
  exact ⟨C, cc, rfl, hp, hg⟩
set_option maxRecDepth 100000 in
set_option maxHeartbeats 4000000 in
theorem pends_at (a b : List Sp) (sa sb : Value) (R : List Int) (w : World) (HA : Hid (Pts w sa a)) (HB : Hid (Pts w sb b)) (hn : a.length + b.length ≤ 300) (HR : Hid (endsS (a ++ b) = R)) :
    Calls Try.prog 42 #[sa, sb] w fun e w' => ∃ sv, e = .returned sv ∧ w'.ownsRow w.heap.size 3 1 sv R.length (R.map (Value.int .i64)) ∧ Own w w' := by
  obtain ⟨i0, hi, hz0, hz1, hz2⟩ := info_parts (show (Try.prog.info? 3).map (fun i => (i.zero, i.size, i.bytes)) = some (some (.int .i64 0), 1, 8) by kernel_rfl)
  have HI := Lib.hid hi
  have HZ0 := Lib.hid hz0
  have HZ1 := Lib.hid hz1
  have HZ2 := Lib.hid hz2
  clear hi hz0 hz1 hz2
  obtain ⟨A, ca, rfl, _, _, _⟩ := HA.out.open
  obtain ⟨B, cb, rfl, _, _, _⟩ := HB.out.open
  have HLEN := Lib.hid (show (a ++ b).length = a.length + b.length by simp)
  obtain ⟨all, hall⟩ : ∃ all, a ++ b = all := ⟨_, rfl⟩
  have HALL := Lib.hid hall
  rw [hall] at HLEN HR
  have HRL := Lib.hid (show R.length = all.length * 2 by rw [← HR.out, endsS_len])
  clear hall
  obtain ⟨na, hna⟩ : ∃ n, a.length = n := ⟨_, rfl⟩
  obtain ⟨nb, hnb⟩ : ∃ n, b.length = n := ⟨_, rfl⟩
  rw [hna] at HLEN hn
  rw [hnb] at HLEN hn
  have HNA := Lib.hid hna
  have HNB := Lib.hid hnb
  rw [hna] at HA
  rw [hnb] at HB
  rw [hna, hnb]
  clear hna hnb
  obtain ⟨N, hN⟩ : ∃ N, all.length = N := ⟨_, rfl⟩
  rw [hN] at HRL
  have hNle : N ≤ 300 := by have := HLEN.out; omega
  replace HLEN := Lib.hid hN
  clear hN
  have g0 : Own w (w.alloc (.cells #[.slice A na ca, .slice B nb cb] 22)) := (Own.refl w).alloc _
  have q0 : (w.alloc (.cells #[.slice A na ca, .slice B nb cb] 22)).cell? ⟨w.heap.size, 0, none⟩ = some (.slice A na ca) := by go_simp
  have q1 : (w.alloc (.cells #[.slice A na ca, .slice B nb cb] 22)).cell? ⟨w.heap.size, 1, none⟩ = some (.slice B nb cb) := by go_simp
  go_enter Try.func42, Try.ntmps42
  go_upto_region 3 with (go_at_call 46; refine (concat_to a b all A B na nb ca cb _ N _ (Lib.hid (HA.out.own g0)) (Lib.hid (HB.out.own g0)) HNA HNB q0 q1 (by omega) HALL HLEN).mono ?_; rintro e w2 ⟨C, cc, rfl, hp, hg⟩)
  have h02 : Own w w2 := g0.trans hg
  obtain ⟨_, _, hv, hc1, hc2, hop⟩ := hp.open
  injection hv with ev1 ev2 ev3
  subst ev1; subst ev3
  clear ev2
  unfold maxLen at hc2
  rw [HLEN.out] at hop hc1
  have HC := Lib.hid hop
  have HS := Lib.hid (fun k (h : k < all.length) => endsF_take h)
  rw [HLEN.out] at HS
  clear hop hp g0 q0 q1 hg HA HB HNA HNB HALL
  go_loopw [5, 13] (fun v i wr => ∃ k : Nat, i = .int .i64 k ∧ k ≤ N ∧ Own w2 wr ∧ wr.ownsRow w2.heap.size 3 1 v (k * 2) ((endsF (all.take k)).map (Value.int .i64))) (fun _ i _ => N - (intOf i).toNat)
  case atStart => exact ⟨0, rfl, Nat.zero_le _, Own.refl w2, World.ownsRow_nil w2 _ _ _⟩
  case round =>
    obtain ⟨k, rfl, hk, q, hrow⟩ := hrel
    have HROW := Lib.hid hrow
    clear hrow
    by_cases hlt : k < N
    · obtain ⟨b, off, rfl, hc⟩ := HC.out (by omega)
      have e0 := q.cell (hc k hlt).1
      have e1 := q.cell (hc k hlt).2
      have hbl := block_lt_of_cell (hc k hlt).1
      clear hc
      obtain ⟨⟨x, y⟩, hp⟩ : ∃ p, at' all k = p := ⟨_, rfl⟩
      have HSK := Lib.hid (HS.out k hlt)
      rw [hp] at e0 e1 HSK
      simp only at e0 e1 HSK
      clear hp
      obtain ⟨z, z0, _, _⟩ := pt_new wr x y 36
      have g1 : Own w2 (wr.alloc (.cells #[.int .i64 x, .int .i64 y] 36)) := q.alloc _
      have HROW1 := Lib.hid (HROW.out.alloc (.cells #[.int .i64 x, .int .i64 y] 36))
      clear HROW q
      go_upto_region 5 with (fail)
      generalize wr.alloc (.cells #[.int .i64 x, .int .i64 y] 36) = W0 at *
      have HROW2 := Lib.hid (HROW1.out.alloc (.cells #[.int .i64 x, .int .i64 y] 3))
      have g2 : Own w2 (W0.alloc (.cells #[.int .i64 x, .int .i64 y] 3)) := g1.alloc _
      go_wp2_with (at_builtin; refine wpList_append_lies _ rfl _ _ 52 rfl w2.heap.size 3 i0 _ 1 8 Try.underlying52 HI.out HZ0.out HZ1.out HZ2.out rfl (by omega) _ _ _ rfl HROW2.out ⟨W0.heap.size, 0, none⟩ 2 2 [.int .i64 x, .int .i64 y] rfl rfl (World.news_of_block (cs := #[.int .i64 x, .int .i64 y]) (t := 3) (fr := (0, 0)) (heap_alloc_new W0 _)) (by simp [Value.oneCell']) (by omega) (by unfold maxLen; omega) (by omega) g2.size _ rfl ?_)
      intro gg cap w4 hown hgr hat hlt4
      have hO : Own w2 w4 := g2.grown hgr (fun j hj => (HROW1.out.lt j hj).1)
      have HROW4 := Lib.hid hown
      clear hown hgr hat HROW1 HROW2
      go_wp2
      go_roundw
      case rel => exact ⟨k + 1, by go_num, hlt, hO, by rw [HSK.out, List.map_append, Nat.add_mul]; exact HROW4.out⟩
      case measure => simp [intOf]; omega
    · obtain rfl : k = N := by omega
      have HRO := Lib.hid (show (endsF (all.take k)).mergeSort (fun x y => decide (x ≤ y)) = R by rw [show all.take k = all from by rw [← HLEN.out]; exact List.take_length]; exact HR.out)
      obtain ⟨zs, hzs⟩ : ∃ zs, endsF (all.take k) = zs := ⟨_, rfl⟩
      rw [hzs] at HROW HRO
      have hzl : zs.length = k * 2 := by rw [← hzs, endsF_len, List.length_take, HLEN.out]; omega
      clear hzs HS HC HLEN
      have HB := Lib.hid h02.size
      rcases HROW.out.2 with ⟨hv0, hk0⟩ | ⟨g, gcap, cur, rfl, hg1, hg2, hg3, hg4, hg5, hg6⟩
      · subst hv0
        have hk00 : k = 0 := by omega
        subst hk00
        have hzn := List.eq_nil_of_length_eq_zero (show zs.length = 0 by omega)
        subst hzn
        have hR0 : R = [] := List.eq_nil_of_length_eq_zero (by rw [HRL.out])
        subst hR0
        go_wp2_with (go_at_call 47; refine (Try.slices_Sort_int_none none 0 _).mono ?_; rintro e w5 ⟨rfl, rfl⟩)
        go_ret
        exact ⟨_, rfl, World.ownsRow_nil _ _ _ _, h02.trans q⟩
      · have hgl : g < wr.heap.size := (Array.getElem?_eq_some_iff.1 hg2).1
        have hho := holds_of_blockI (ss := zs) hg2 (by rw [hzl]; simpa using hg6)
        have hsort := Try.slices_Sort_int g 0 gcap zs wr hho hgl (by omega)
        rw [HRO.out, hzl] at hsort
        go_wp2_with (go_at_call 47; refine hsort.mono ?_; rintro e w5 ⟨rfl, nn, os, rfl⟩)
        go_ret
        have hs2 := ownsRow_sortedI (w := wr) (base := w.heap.size) (n := nn) (os := os) (ts := R) (ss := zs) (e := 3) (cap := gcap) (by rw [HRL.out, hzl]) (Nat.le_trans HB.out hg1) hg2 (by rw [hzl]; exact hg3) hg4 hg5
        rw [hzl] at hs2
        rw [HRL.out]
        exact ⟨_, rfl, hs2, (h02.trans q).grown (grownBy_sortedI _) (fun j hj => by injection hj with hj; exact hj ▸ Nat.le_trans HB.out hg1)⟩
end Go.Proofs.Ytggceakihapgiaa.SpaW
