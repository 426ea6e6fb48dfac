/-
  Walks of the specification of package graph: Path. Condition: none.
-/
import Derived.Test.YtkdfmjhhdfiiiaaGraphD
import Derived.Test.YtkdfmjhhdfiiiaaGraphPlainC
import Derived.Test.YtkdfmjhhdfiiiaaBytes
namespace Go.Proofs.Ytkdfmjhhdfiiiaa.GraW
open Go.ChangeShapes Go.WideShapes Go.ChangeAt Go.RowKit
open PairW CelW GraP
theorem has_ar (l : List Ar) (a b : Nat) : decide (((a : Int), (b : Int)) ∈ l) = ar l a b := by
  by_cases h : ((a : Int), (b : Int)) ∈ l
  · rw [decide_eq_true h, ar_iff.2 h]
  · rw [decide_eq_false h, Bool.eq_false_iff.2 fun k => h (ar_iff.1 k)]
/-- What Path returns. -/
def pthE (N : Int) (l : List Ar) (a b : Int) : Int := if chkE N l ≠ 0 then chkE N l else if inN N a = true then (if inN N b = true then (if rch N.toNat l a.toNat b.toNat = true then 0 else 6) else 6) else 6
def pthV (N : Int) (l : List Ar) (a b : Int) : List Nat := if pthE N l a b = 0 then pth N.toNat l ((dst N.toNat l a.toNat b.toNat).getD 0) a.toNat b.toNat else []
theorem pthV_bad {N : Int} {l : List Ar} {a b : Int} (h : pthE N l a b ≠ 0) : pthV N l a b = [] := if_neg h
theorem row_one {w : World} {base : Nat} {e : TypeId} (v : Value) (hb : base ≤ w.heap.size) : (w.alloc (.cells #[v] e)).ownsRow base e 1 (.slice (some ⟨w.heap.size, 0, none⟩) 1 1) 1 [v] := World.ownsRow_lit w #[v] 1 hb (by unfold maxLen; decide) rfl
set_option maxRecDepth 100000 in
set_option maxHeartbeats 4000000 in
theorem rpath_at (N a b : Int) (l : List Ar) (sv : Value) (f : Int) (V : List Nat) (w : World) (HP : Hid (Pts w sv l)) (H : Hid (pthE N l a b = f ∧ pthV N l a b = V)) :
    Calls Try.prog 21 #[grV N sv, .int .i64 a, .int .i64 b] w fun e w' => ∃ v, e = .returned (.tuple #[v, .int .i64 f]) ∧ w'.ownsRow w.heap.size 3 1 v V.length (cellsI (ints V)) ∧ Own w w' := by
  obtain ⟨i0, hi, hz0, hz1, hz2⟩ := info_parts (show (Try.prog.info? 3).map (fun i => (i.zero, i.size, i.bytes)) = some (some (.int .i64 0), 1, 8) by kernel_rfl)
  have HI := Lib.hid hi
  have HZ0 := Lib.hid hz0
  have HZ1 := Lib.hid hz1
  have HZ2 := Lib.hid hz2
  obtain ⟨ce, hce⟩ : ∃ f, chkE N l = f := ⟨_, rfl⟩
  have HCE := Lib.hid hce
  obtain ⟨A, cap, rfl, a1, a2, _⟩ := HP.out.open
  unfold maxLen at a2
  obtain ⟨m, hm⟩ : ∃ m, l.length = m := ⟨_, rfl⟩
  rw [hm] at a1 HP ⊢
  clear hm
  by_cases c0 : ce = 0
  · subst c0
    obtain ⟨b0, b1, b2, G⟩ := chk_ok.1 hce
    obtain ⟨n, rfl⟩ : ∃ n : Nat, N = n := ⟨N.toNat, by omega⟩
    rw [Int.toNat_natCast] at G
    have HG := Lib.hid G
    have hn64 : n ≤ 64 := by omega
    by_cases c1 : inN (n : Int) a = true
    · have HC1 := Lib.hid c1
      by_cases c2 : inN (n : Int) b = true
      · have HC2 := Lib.hid c2
        obtain ⟨n0, n1⟩ := inN_iff.1 c1
        obtain ⟨n2, n3⟩ := inN_iff.1 c2
        obtain ⟨x, rfl⟩ : ∃ x : Nat, a = x := ⟨a.toNat, by omega⟩
        obtain ⟨y, rfl⟩ : ∃ y : Nat, b = y := ⟨b.toNat, by omega⟩
        have hxn : x < n := by omega
        have hyn : y < n := by omega
        have HXN := Lib.hid hxn
        have HYN := Lib.hid hyn
        have hxn2 : (x : Int) < n := by omega
        have hin : pthE n l x y = if rch n l x y = true then 0 else 6 := by unfold pthE; rw [if_neg (by rw [hce]; simp), if_pos c1, if_pos c2, Int.toNat_natCast, Int.toNat_natCast, Int.toNat_natCast]
        cases hd : dst n l x y with
        | none =>
          obtain ⟨rfl, rfl⟩ : 6 = f ∧ [] = V := by
            have h1 : pthE n l x y = 6 := by rw [hin, if_neg (by rw [dst_none.1 hd]; simp)]
            exact ⟨by rw [← H.out.1, h1], by rw [← H.out.2, pthV_bad (by rw [h1]; decide)]⟩
          have hneg := dstI_none.2 hd
          have HNEG := Lib.hid hneg
          clear hi hz0 hz1 hz2 hce H G c1 c2 n0 n1 n2 n3 b0 b1 b2 hin hd hneg
          go_enter Try.func21, Try.ntmps21
          go_upto_region 1 with (fail)
          have k0 : (w.alloc (.cells #[.int .i64 (n : Int), .slice A m cap] 24)).cell? ⟨w.heap.size, 0, none⟩ = some (.int .i64 (n : Int)) := by go_simp
          have k1 : (w.alloc (.cells #[.int .i64 (n : Int), .slice A m cap] 24)).cell? ⟨w.heap.size, 1, none⟩ = some (.slice A m cap) := by go_simp
          have g0 : Own w (w.alloc (.cells #[.int .i64 (n : Int), .slice A m cap] 24)) := (Own.refl w).alloc _
          generalize hW : (w.alloc (.cells #[.int .i64 (n : Int), .slice A m cap] 24)) = W0 at *
          have HBX := Lib.hid (show w.heap.size < W0.heap.size by rw [← hW]; simp)
          have HK0 := Lib.hid k0
          have HK1 := Lib.hid k1
          clear hW
          have HP0 := Lib.hid (HP.out.own g0)
          go_upto_region 7 with (first
            | (go_at_call 12; with_reducible refine (rcheck_at n l _ 0 _ HP0 HCE).mono ?_; rintro e w1 ⟨rfl, q1⟩; replace k0 := q1.cell k0; replace k1 := q1.cell k1; have p1 := q1)
            | (go_at_call 30; with_reducible refine (rnode_at n x _ _ _ true _ HC1).mono ?_; rintro e w2 ⟨rfl, q2⟩; replace k0 := q2.cell k0; replace k1 := q2.cell k1; have p2 := p1.trans q2; clear q2)
            | (go_at_call 30; with_reducible refine (rnode_at n y _ _ _ true _ HC2).mono ?_; rintro e w2 ⟨rfl, q2⟩; replace k0 := q2.cell k0; replace k1 := q2.cell k1; have p3 := p2.trans q2; clear q2)
            | (go_at_call 39; with_reducible refine (rfar_at n y l _ _ (Lib.hid (HP0.out.own p3)) HG HYN.out hn64).mono ?_; rintro e w4 ⟨g, rfl, hr4, q4⟩; have p4 := p3.trans q4; have HR4 := Lib.hid hr4; clear hr4))
          obtain ⟨v, e0, hv, _⟩ := row_int HR4.out (dstV_len _ _ _) HXN.out
          rw [dstV_at HXN.out] at hv
          injection hv with hv
          have d1 : v < 0 := by rw [← hv]; exact HNEG.out
          clear hv
          go_wp2
          go_ret2
          exact ⟨_, rfl, World.ownsRow_nil _ _ _ _, g0.trans p4⟩
        | some K =>
          obtain ⟨rfl, rfl⟩ : 0 = f ∧ pth n l K x y = V := by
            have h0 : rch n l x y = true := (rch_iff G hxn).2 ⟨K, (dst_some.1 hd).2.1⟩
            have h1 : pthE n l x y = 0 := by rw [hin, if_pos h0]
            exact ⟨by rw [← H.out.1, h1], by rw [← H.out.2]; unfold pthV; rw [if_pos h1, Int.toNat_natCast, Int.toNat_natCast, Int.toNat_natCast, hd]; rfl⟩
          have HD := Lib.hid hd
          have HKN := Lib.hid (dst_some.1 hd).1
          have hpos : 0 ≤ dstI n l x y := by rw [dstI_some.2 hd]; omega
          have HPOS := Lib.hid hpos
          clear hi hz0 hz1 hz2 hce H G c1 c2 n0 n1 n2 n3 b0 b1 b2 hin hd hpos
          go_enter Try.func21, Try.ntmps21
          go_upto_region 1 with (fail)
          have k0 : (w.alloc (.cells #[.int .i64 (n : Int), .slice A m cap] 24)).cell? ⟨w.heap.size, 0, none⟩ = some (.int .i64 (n : Int)) := by go_simp
          have k1 : (w.alloc (.cells #[.int .i64 (n : Int), .slice A m cap] 24)).cell? ⟨w.heap.size, 1, none⟩ = some (.slice A m cap) := by go_simp
          have g0 : Own w (w.alloc (.cells #[.int .i64 (n : Int), .slice A m cap] 24)) := (Own.refl w).alloc _
          generalize hW : (w.alloc (.cells #[.int .i64 (n : Int), .slice A m cap] 24)) = W0 at *
          have HBX := Lib.hid (show w.heap.size < W0.heap.size by rw [← hW]; simp)
          have HK0 := Lib.hid k0
          have HK1 := Lib.hid k1
          clear hW
          have HP0 := Lib.hid (HP.out.own g0)
          go_upto_region 7 with (first
            | (go_at_call 12; with_reducible refine (rcheck_at n l _ 0 _ HP0 HCE).mono ?_; rintro e w1 ⟨rfl, q1⟩; replace k0 := q1.cell k0; replace k1 := q1.cell k1; have p1 := q1)
            | (go_at_call 30; with_reducible refine (rnode_at n x _ _ _ true _ HC1).mono ?_; rintro e w2 ⟨rfl, q2⟩; replace k0 := q2.cell k0; replace k1 := q2.cell k1; have p2 := p1.trans q2; clear q2)
            | (go_at_call 30; with_reducible refine (rnode_at n y _ _ _ true _ HC2).mono ?_; rintro e w2 ⟨rfl, q2⟩; replace k0 := q2.cell k0; replace k1 := q2.cell k1; have p3 := p2.trans q2; clear q2)
            | (go_at_call 39; with_reducible refine (rfar_at n y l _ _ (Lib.hid (HP0.out.own p3)) HG HYN.out hn64).mono ?_; rintro e w4 ⟨g, rfl, hr4, q4⟩; have p4 := p3.trans q4; have HR4 := Lib.hid (row_down hr4 p3.size); clear hr4))
          obtain ⟨v, e0, hv, _⟩ := row_int HR4.out (dstV_len _ _ _) HXN.out
          rw [dstV_at HXN.out] at hv
          injection hv with hv
          have d1 : ¬ v < 0 := by rw [← hv]; exact Int.not_lt.2 HPOS.out
          clear hv
          have HR6 := Lib.hid (show (w4.alloc (.cells #[.int .i64 (x : Int)] 3)).ownsRow w4.heap.size 3 1 (.slice (some ⟨w4.heap.size, 0, none⟩) 1 1) 1 (cellsI (ints ([] ++ [x]))) from row_one _ (Nat.le_refl _))
          have p5 := (Own.refl w4).alloc (.cells #[.int .i64 (x : Int)] 3)
          clear k0 k1
          go_upto_region 11 with (fail)
          generalize hw5 : w4.alloc (.cells #[.int .i64 (x : Int)] 3) = w5 at *
          clear hw5
          clear p1 p2 p3 q1 e0
          go_loopw [10, 11, 12] (fun vo va _ wr => ∃ (P : List Nat) (z k : Nat), va = .int .i64 (z : Int) ∧ z < n ∧ dst n l z y = some k ∧ Own w4 wr ∧ wr.ownsRow w4.heap.size 3 1 vo (P.length + 1) (cellsI (ints (P ++ [z]))) ∧ P ++ pth n l k z y = pth n l K x y) (fun vo _ _ _ => 64 - lenOf vo)
          case atStart => exact ⟨[], x, K, rfl, HXN.out, HD.out, p5, HR6.out, rfl⟩
          case round =>
            obtain ⟨P, z, k, rfl, hzn, hdz, q5, hrow, hpp⟩ := hrel
            obtain ⟨Ao, co, rfl⟩ := rows_shape hrow
            have q := p4.trans q5
            have hlen : P.length + (k + 1) = K + 1 := by rw [← pth_len n l y K x, ← hpp, List.length_append, pth_len]
            have hK := HKN.out
            have HROW := Lib.hid hrow
            have HPP := Lib.hid hpp
            by_cases hzy : z = y
            · subst hzy
              obtain rfl : k = 0 := by
                have := (dst_zero (l := l) hzn).2 rfl
                rw [hdz] at this
                injection this with this
              have e1 : P ++ [z] = pth n l K x z := hpp
              have HE := Lib.hid e1
              have HLN := Lib.hid (show P.length + 1 = (pth n l K x z).length by rw [← e1, List.length_append]; rfl)
              clear hpp hrow hdz hlen hK e1 HPP
              go_wp2
              go_ret2
              refine ⟨_, rfl, ?_, g0.trans q⟩
              rw [← HLN.out, ← HE.out]
              exact row_down HROW.out (g0.trans p4).size
            · have d2 : ((z : Int) == (y : Int)) = false := beq_eq_false_iff_ne.2 (by omega)
              obtain ⟨k, rfl⟩ : ∃ j, k = j + 1 := by
                cases k with
                | zero => exact absurd ((dst_zero hzn).1 hdz) hzy
                | succ j => exact ⟨j, rfl⟩
              obtain ⟨c1, c2, c3, c4⟩ := nx_spec HG.out hdz
              have HPN := Lib.hid (show (P ++ [z]) ++ pth n l k (nx n l k z y) y = pth n l K x y by rw [List.append_assoc]; exact hpp)
              obtain ⟨nn, hnn⟩ : ∃ c, nx n l k z y = c := ⟨_, rfl⟩
              rw [hnn] at c1 c2 c3 c4 HPN
              have HC2' := Lib.hid c2
              have HC3' := Lib.hid c3
              have HC4' := Lib.hid c4
              have HDZ := Lib.hid hdz
              have HLEN := Lib.hid hlen
              have hPL : P.length + 1 ≤ 63 := by omega
              clear hpp hrow c2 c3 c4 hdz hnn hzy
              go_wp2
              generalize wr = wz at *
              go_loopw [12] (fun vj wy => ∃ j : Nat, vj = .int .i64 (j : Int) ∧ j ≤ nn ∧ Own wz wy) (fun vj _ => nn - (intOf vj).toNat)
              case atStart => exact ⟨0, rfl, Nat.zero_le _, Own.refl wz⟩
              case round =>
                obtain ⟨j, rfl, hj, q6⟩ := hrel
                have q := q.trans q6
                have k0 := q.cell HK0.out
                have k1 := q.cell HK1.out
                have hjn : j < n := by omega
                obtain ⟨dz, c0, hdz, _⟩ := row_int (row_own HR4.out (q5.trans q6)) (dstV_len _ _ _) hzn
                obtain ⟨dj, c1', hdj, _⟩ := row_int (row_own HR4.out (q5.trans q6)) (dstV_len _ _ _) hjn
                have c1 := c1'
                clear c1'
                rw [dstV_at hzn] at hdz
                rw [dstV_at hjn] at hdj
                injection hdz with hdz
                injection hdj with hdj
                have hdz2 : dz = (k : Int) + 1 := by rw [← hdz, dstI_some.2 HDZ.out]; rfl
                subst hdz2
                have i1 : IntKind.i64.wrap ((k : Int) + 1 - 1) = k := (IntWalk.i64_in _ (by omega)).trans (by omega)
                have hzn2 : (z : Int) < n := by omega
                have hjn2 : (j : Int) < n := by omega
                by_cases har : ar l z j = true
                · have HT : Hid (decide (((z : Int), (j : Int)) ∈ l) = true) := Lib.hid (by rw [has_ar]; exact har)
                  by_cases hdk : dj = k
                  · have hjnn : j = nn := by
                      rcases Nat.lt_or_ge j nn with h | h
                      · have h5 := HC4'.out j h
                        have h6 : wk n l k j y = true := (dst_step HG.out HDZ.out har).1 (dstI_some.1 (hdj.trans hdk))
                        rw [har, h6] at h5
                        cases h5
                      · omega
                    subst hjnn
                    subst hdk
                    clear hdj hdz har
                    go_upto_region 13 with (fail)
                    have c0d : ∀ x : After wr, x.w.cell? ⟨g, z, none⟩ = some (.int .i64 ((k : Int) + 1)) := fun x => x.o.cell c0
                    have c1d : ∀ x : After wr, x.w.cell? ⟨g, j, none⟩ = some (.int .i64 (k : Int)) := fun x => x.o.cell c1
                    have k0d : ∀ x : After wr, x.w.cell? ⟨w.heap.size, 0, none⟩ = some (.int .i64 (n : Int)) := fun x => x.o.cell k0
                    have k1d : ∀ x : After wr, x.w.cell? ⟨w.heap.size, 1, none⟩ = some (.slice A m cap) := fun x => x.o.cell k1
                    clear c0 c1 k0 k1
                    refine region_after wr (by kernel_rfl) (by kernel_rfl) ?_
                    repeat (first
                      | go_big_quiet_step ((((go_at_call 28; with_reducible refine (rhas_at n l _ _ _ true _ (Lib.hid (HP0.out.own ((q.trans (After.o _))))) HT).mono ?_; rintro e w2 ⟨rfl, hg⟩; exact ⟨rfl, ⟨w2, (After.o _).trans hg⟩, rfl⟩))))
                      | quiet_step ((((go_at_call 28; with_reducible refine (rhas_at n l _ _ _ true _ (Lib.hid (HP0.out.own ((q.trans (After.o _))))) HT).mono ?_; rintro e w2 ⟨rfl, hg⟩; exact ⟨rfl, ⟨w2, (After.o _).trans hg⟩, rfl⟩)))))
                    refine wpQuiet_nil ?_
                    rintro _ ⟨x, rfl⟩
                    clear c0d c1d k0d k1d
                    have d4 := x.o
                    generalize x.w = w2 at *
                    have K1 := Lib.hid (show (P.length + 1) + [Value.int .i64 0].length = P.length + 1 + 1 from rfl)
                    have K2 := Lib.hid (show P.length + 1 + 1 ≤ maxLen by unfold maxLen; omega)
                    have K3 := Lib.hid (show (P.length + 1 + 1) * 8 ≤ 140737488355328 by omega)
                    have HRO := Lib.hid (row_own HROW.out ((q6.trans d4).alloc (.cells #[.int .i64 (j : Int)] 3)))
                    have HCE2 := Lib.hid (cel_lit (w := w2) (T := 3) (cs := #[.int .i64 (j : Int)]) (xs := cellsI (ints [j])) (k := 1) rfl rfl (by unfold maxLen; decide))
                    have q8 := ((q5.trans q6).trans d4).alloc (.cells #[.int .i64 (j : Int)] 3)
                    go_wp2_with (at_builtin; refine wpList_append_r (by go_simp) _ _ 29 rfl w4.heap.size 3 i0 (.int .i64 0) 8 Try.underlying29 HI.out HZ0.out HZ1.out HZ2.out rfl _ (P.length + 1) (cellsI (ints (P ++ [z]))) rfl HRO.out _ (cellsI (ints [j])) rfl HCE2.out (cellsI_one _) (P.length + 1 + 1) K1.out K2.out K3.out q8.size ?_; intro v9 w9 hown9 hgr9 hsz9; have q9 := hgr9 _ q8 (Nat.le_refl _); obtain ⟨A9, c9, rfl⟩ := rows_shape hown9; have HR9 := Lib.hid hown9; clear hown9 hgr9 hsz9)
                    go_roundw
                    case rel => exact ⟨P ++ [z], j, k, rfl, hjn, HC3'.out, q9, by rw [List.length_append, ints_app, cellsI_app]; exact HR9.out, HPN.out⟩
                    case measure => simp [lenOf]; omega
                  · have hne : j < nn := by
                      rcases Nat.lt_or_ge j nn with h | h
                      · exact h
                      · obtain rfl : j = nn := by omega
                        exact absurd (by rw [← hdj, dstI_some.2 HC3'.out]) hdk
                    have d3 : (dj == (k : Int)) = false := beq_eq_false_iff_ne.2 hdk
                    have d4' : decide (dj = (k : Int)) = false := decide_eq_false hdk
                    clear hdj hdz har hdk
                    go_upto_region 13 with (fail)
                    have c0d : ∀ x : After wr, x.w.cell? ⟨g, z, none⟩ = some (.int .i64 ((k : Int) + 1)) := fun x => x.o.cell c0
                    have c1d : ∀ x : After wr, x.w.cell? ⟨g, j, none⟩ = some (.int .i64 dj) := fun x => x.o.cell c1
                    have k0d : ∀ x : After wr, x.w.cell? ⟨w.heap.size, 0, none⟩ = some (.int .i64 (n : Int)) := fun x => x.o.cell k0
                    have k1d : ∀ x : After wr, x.w.cell? ⟨w.heap.size, 1, none⟩ = some (.slice A m cap) := fun x => x.o.cell k1
                    clear c0 c1 k0 k1
                    refine region_after wr (by kernel_rfl) (by kernel_rfl) ?_
                    repeat (first
                      | go_big_quiet_step ((((go_at_call 28; with_reducible refine (rhas_at n l _ _ _ true _ (Lib.hid (HP0.out.own ((q.trans (After.o _))))) HT).mono ?_; rintro e w2 ⟨rfl, hg⟩; exact ⟨rfl, ⟨w2, (After.o _).trans hg⟩, rfl⟩))))
                      | quiet_step ((((go_at_call 28; with_reducible refine (rhas_at n l _ _ _ true _ (Lib.hid (HP0.out.own ((q.trans (After.o _))))) HT).mono ?_; rintro e w2 ⟨rfl, hg⟩; exact ⟨rfl, ⟨w2, (After.o _).trans hg⟩, rfl⟩)))))
                    refine wpQuiet_nil ?_
                    rintro _ ⟨x, rfl⟩
                    clear c0d c1d k0d k1d
                    have d4 := x.o
                    generalize x.w = w2 at *
                    go_wp2
                    go_roundw
                    case rel => exact ⟨j + 1, by go_num, hne, q6.trans d4⟩
                    case measure => simp [intOf]; omega
                · have hne : j < nn := by
                    rcases Nat.lt_or_ge j nn with h | h
                    · exact h
                    · obtain rfl : j = nn := by omega
                      exact absurd HC2'.out har
                  have HT : Hid (decide (((z : Int), (j : Int)) ∈ l) = false) := Lib.hid (by rw [has_ar]; exact Bool.eq_false_iff.2 har)
                  clear hdj hdz har
                  go_upto_region 13 with (fail)
                  have c0d : ∀ x : After wr, x.w.cell? ⟨g, z, none⟩ = some (.int .i64 ((k : Int) + 1)) := fun x => x.o.cell c0
                  have c1d : ∀ x : After wr, x.w.cell? ⟨g, j, none⟩ = some (.int .i64 dj) := fun x => x.o.cell c1
                  have k0d : ∀ x : After wr, x.w.cell? ⟨w.heap.size, 0, none⟩ = some (.int .i64 (n : Int)) := fun x => x.o.cell k0
                  have k1d : ∀ x : After wr, x.w.cell? ⟨w.heap.size, 1, none⟩ = some (.slice A m cap) := fun x => x.o.cell k1
                  clear c0 c1 k0 k1
                  refine region_after wr (by kernel_rfl) (by kernel_rfl) ?_
                  repeat (first
                    | go_big_quiet_step ((((go_at_call 28; with_reducible refine (rhas_at n l _ _ _ false _ (Lib.hid (HP0.out.own ((q.trans (After.o _))))) HT).mono ?_; rintro e w2 ⟨rfl, hg⟩; exact ⟨rfl, ⟨w2, (After.o _).trans hg⟩, rfl⟩))))
                    | quiet_step ((((go_at_call 28; with_reducible refine (rhas_at n l _ _ _ false _ (Lib.hid (HP0.out.own ((q.trans (After.o _))))) HT).mono ?_; rintro e w2 ⟨rfl, hg⟩; exact ⟨rfl, ⟨w2, (After.o _).trans hg⟩, rfl⟩)))))
                  refine wpQuiet_nil ?_
                  rintro _ ⟨x, rfl⟩
                  clear c0d c1d k0d k1d
                  have d4 := x.o
                  generalize x.w = w2 at *
                  go_wp2
                  go_roundw
                  case rel => exact ⟨j + 1, by go_num, hne, q6.trans d4⟩
                  case measure => simp [intOf]; omega
      · have c2 : inN (n : Int) b = false := Bool.eq_false_iff.2 c2
        obtain ⟨rfl, rfl⟩ : 6 = f ∧ [] = V := by
          have h1 : pthE n l a b = 6 := by unfold pthE; rw [if_neg (by rw [hce]; simp), if_pos c1, if_neg (by rw [c2]; simp)]
          exact ⟨by rw [← H.out.1, h1], by rw [← H.out.2, pthV_bad (by rw [h1]; decide)]⟩
        have HC2 := Lib.hid c2
        clear hi hz0 hz1 hz2 hce H G c1 c2 b0 b1 b2
        go_enter Try.func21, Try.ntmps21
        go_upto_region 1 with (fail)
        have k0 : (w.alloc (.cells #[.int .i64 (n : Int), .slice A m cap] 24)).cell? ⟨w.heap.size, 0, none⟩ = some (.int .i64 (n : Int)) := by go_simp
        have k1 : (w.alloc (.cells #[.int .i64 (n : Int), .slice A m cap] 24)).cell? ⟨w.heap.size, 1, none⟩ = some (.slice A m cap) := by go_simp
        have g0 : Own w (w.alloc (.cells #[.int .i64 (n : Int), .slice A m cap] 24)) := (Own.refl w).alloc _
        generalize hW : (w.alloc (.cells #[.int .i64 (n : Int), .slice A m cap] 24)) = W0 at *
        have HBX := Lib.hid (show w.heap.size < W0.heap.size by rw [← hW]; simp)
        have HK0 := Lib.hid k0
        have HK1 := Lib.hid k1
        clear hW
        have HP0 := Lib.hid (HP.out.own g0)
        go_wp2_with (first
          | (go_at_call 12; with_reducible refine (rcheck_at n l _ 0 _ HP0 HCE).mono ?_; rintro e w1 ⟨rfl, q1⟩; replace k0 := q1.cell k0; replace k1 := q1.cell k1; have p1 := q1)
          | (go_at_call 30; with_reducible refine (rnode_at n a _ _ _ true _ HC1).mono ?_; rintro e w2 ⟨rfl, q2⟩; replace k0 := q2.cell k0; replace k1 := q2.cell k1; have p2 := p1.trans q2; clear q2)
          | (go_at_call 30; with_reducible refine (rnode_at n b _ _ _ false _ HC2).mono ?_; rintro e w2 ⟨rfl, q2⟩; replace k0 := q2.cell k0; replace k1 := q2.cell k1; have p3 := p2.trans q2; clear q2))
        go_ret2
        exact ⟨_, rfl, World.ownsRow_nil _ _ _ _, g0.trans p3⟩
    · have c1 : inN (n : Int) a = false := Bool.eq_false_iff.2 c1
      obtain ⟨rfl, rfl⟩ : 6 = f ∧ [] = V := by
        have h1 : pthE n l a b = 6 := by unfold pthE; rw [if_neg (by rw [hce]; simp), if_neg (by rw [c1]; simp)]
        exact ⟨by rw [← H.out.1, h1], by rw [← H.out.2, pthV_bad (by rw [h1]; decide)]⟩
      have HC1 := Lib.hid c1
      clear hi hz0 hz1 hz2 hce H G c1 b0 b1 b2
      go_enter Try.func21, Try.ntmps21
      go_upto_region 1 with (fail)
      have k0 : (w.alloc (.cells #[.int .i64 (n : Int), .slice A m cap] 24)).cell? ⟨w.heap.size, 0, none⟩ = some (.int .i64 (n : Int)) := by go_simp
      have k1 : (w.alloc (.cells #[.int .i64 (n : Int), .slice A m cap] 24)).cell? ⟨w.heap.size, 1, none⟩ = some (.slice A m cap) := by go_simp
      have g0 : Own w (w.alloc (.cells #[.int .i64 (n : Int), .slice A m cap] 24)) := (Own.refl w).alloc _
      generalize hW : (w.alloc (.cells #[.int .i64 (n : Int), .slice A m cap] 24)) = W0 at *
      have HBX := Lib.hid (show w.heap.size < W0.heap.size by rw [← hW]; simp)
      have HK0 := Lib.hid k0
      have HK1 := Lib.hid k1
      clear hW
      have HP0 := Lib.hid (HP.out.own g0)
      go_wp2_with (first
        | (go_at_call 12; with_reducible refine (rcheck_at n l _ 0 _ HP0 HCE).mono ?_; rintro e w1 ⟨rfl, q1⟩; replace k0 := q1.cell k0; replace k1 := q1.cell k1; have p1 := q1)
        | (go_at_call 30; with_reducible refine (rnode_at n a _ _ _ false _ HC1).mono ?_; rintro e w2 ⟨rfl, q2⟩; replace k0 := q2.cell k0; replace k1 := q2.cell k1; have p2 := p1.trans q2; clear q2))
      go_ret2
      exact ⟨_, rfl, World.ownsRow_nil _ _ _ _, g0.trans p2⟩
  · obtain ⟨rfl, rfl⟩ : ce = f ∧ [] = V := by
      have h1 : pthE N l a b = ce := by unfold pthE; rw [if_pos (by rw [hce]; exact c0), hce]
      exact ⟨by rw [← H.out.1, h1], by rw [← H.out.2, pthV_bad (by rw [h1]; exact c0)]⟩
    have d1 : (ce == 0) = false := beq_eq_false_iff_ne.2 c0
    clear hi hz0 hz1 hz2 hce H
    go_enter Try.func21, Try.ntmps21
    go_upto_region 1 with (fail)
    have k0 : (w.alloc (.cells #[.int .i64 N, .slice A m cap] 24)).cell? ⟨w.heap.size, 0, none⟩ = some (.int .i64 N) := by go_simp
    have k1 : (w.alloc (.cells #[.int .i64 N, .slice A m cap] 24)).cell? ⟨w.heap.size, 1, none⟩ = some (.slice A m cap) := by go_simp
    have g0 : Own w (w.alloc (.cells #[.int .i64 N, .slice A m cap] 24)) := (Own.refl w).alloc _
    generalize hW : (w.alloc (.cells #[.int .i64 N, .slice A m cap] 24)) = W0 at *
    have HBX := Lib.hid (show w.heap.size < W0.heap.size by rw [← hW]; simp)
    have HK0 := Lib.hid k0
    have HK1 := Lib.hid k1
    clear hW
    have HP0 := Lib.hid (HP.out.own g0)
    go_wp2_with (go_at_call 12; with_reducible refine (rcheck_at N l _ ce _ HP0 HCE).mono ?_; rintro e w1 ⟨rfl, q1⟩; replace k0 := q1.cell k0; replace k1 := q1.cell k1; have p1 := q1)
    go_ret2
    exact ⟨_, rfl, World.ownsRow_nil _ _ _ _, g0.trans p1⟩
end Go.Proofs.Ytkdfmjhhdfiiiaa.GraW
