/-
  Package crc: the law Three, over what is asked of the program. Condition: none.
-/
import Derived.Test.YtbplglndcagglaaCrcL1
import Derived.Deep.AppendLies
import Derived.Deep.RegionHeld3
namespace Go.Proofs.Ytbplglndcagglaa.CrcW
open Go.ChangeShapes Go.WideShapes Go.ChangeAt Go.RowKit
open PairW CelW WirP CrcP WirW
theorem min3_at {P : Program} (x y z m : Nat) (hm : min (min x y) z = m) (w : World) (ts : Array TypeId) (t : TypeId) : (Builtin.min_ ts t #[.int .i64 (x : Int), .int .i64 (y : Int), .int .i64 (z : Int)]).run P w = .ok (.int .i64 (m : Int)) w := by
  have e : (if (z : Int) < (if (y : Int) < x then (y : Int) else x) then (z : Int) else (if (y : Int) < x then (y : Int) else x)) = (m : Int) := by
    rw [← hm]
    by_cases c1 : (y : Int) < x
    · rw [if_pos c1]
      by_cases c2 : (z : Int) < y
      · rw [if_pos c2]; omega
      · rw [if_neg c2]; omega
    · rw [if_neg c1]
      by_cases c2 : (z : Int) < x
      · rw [if_pos c2]; omega
      · rw [if_neg c2]; omega
  simp only [Builtin.min_, Builtin.min2, List.foldlM_cons, List.foldlM_nil, Sem.run_pure, pure_bind]
  rw [e]
set_option maxRecDepth 100000 in
set_option maxHeartbeats 4000000 in
theorem lthree_at (C : CrcC) (a b c : Bs) (va vb vc : Value) (w : World) (HA : Hid (Cel w va (cellsU a))) (HB : Hid (Cel w vb (cellsU b))) (HC : Hid (Cel w vc (cellsU c))) :
    Calls Try.prog 5 #[va, vb, vc] w fun e w' => e = .returned (.bool true) ∧ Own w w' := by
  obtain ⟨i0, hi, hz0, hz1, hz2⟩ := info_parts (show (Try.prog.info? 5).map (fun i => (i.zero, i.size, i.bytes)) = some (some (.int .u8 0), 1, 1) by kernel_rfl)
  have HI := Lib.hid hi
  have HZ0 := Lib.hid hz0
  have HZ1 := Lib.hid hz1
  have HZ2 := Lib.hid hz2
  clear hi hz0 hz1 hz2
  obtain ⟨A1, p1, rfl, x1, x2, x3⟩ := cel_cells HA.out
  obtain ⟨A2, p2, rfl, y1, y2, y3⟩ := cel_cells HB.out
  obtain ⟨A3, p3, rfl, z1, z2, z3⟩ := cel_cells HC.out
  unfold maxLen at x2 y2 z2
  have MA := Lib.hid x3
  have MB := Lib.hid y3
  have MC := Lib.hid z3
  obtain ⟨n1, hn1⟩ : ∃ n, a.length = n := ⟨_, rfl⟩
  obtain ⟨n2, hn2⟩ : ∃ n, b.length = n := ⟨_, rfl⟩
  obtain ⟨n3, hn3⟩ : ∃ n, c.length = n := ⟨_, rfl⟩
  rw [hn1] at x1 HA ⊢
  rw [hn2] at y1 HB ⊢
  rw [hn3] at z1 HC ⊢
  obtain ⟨n, hn⟩ : ∃ n, min (min n1 n2) n3 = n := ⟨_, rfl⟩
  have hmin := fun w ts t => min3_at (P := Try.prog) n1 n2 n3 n hn w ts t
  have m1 : n ≤ n1 := by omega
  have m2 : n ≤ n2 := by omega
  have m3 : n ≤ n3 := by omega
  clear x3 y3 z3
  by_cases hbig : 4096 < n
  · have d1 : (4096 : Int) < n := by omega
    clear hn
    go_enter Try.func5, Try.ntmps5
    go_wp2_with (go_at_call 11; with_reducible refine (awake_at C _).mono ?_; rintro e w3 ⟨rfl, q3⟩)
    go_ret
    exact ⟨rfl, q3⟩
  · have d1 : ¬ (4096 : Int) < n := by omega
    obtain ⟨a', ha'⟩ : ∃ t, a.take n = t := ⟨_, rfl⟩
    obtain ⟨b', hb'⟩ : ∃ t, b.take n = t := ⟨_, rfl⟩
    obtain ⟨c', hc'⟩ : ∃ t, c.take n = t := ⟨_, rfl⟩
    have la : a'.length = n := by rw [← ha', List.length_take]; omega
    have lb : b'.length = n := by rw [← hb', List.length_take]; omega
    have lc : c'.length = n := by rw [← hc', List.length_take]; omega
    obtain ⟨X, hX⟩ : ∃ t, xor3 a' b' c' = t := ⟨_, rfl⟩
    have lX : X.length = n := by rw [← hX, xor3_len a' b' c' (by omega) (by omega), la]
    obtain ⟨ta, hta⟩ : ∃ t, ext 0 a' = t := ⟨_, rfl⟩
    obtain ⟨tb, htb⟩ : ∃ t, ext 0 b' = t := ⟨_, rfl⟩
    obtain ⟨tc, htc⟩ : ∃ t, ext 0 c' = t := ⟨_, rfl⟩
    obtain ⟨tx, htx⟩ : ∃ t, ext 0 X = t := ⟨_, rfl⟩
    have hlt : ∀ l : Bs, ext 0 l < 4294967296 := fun l => ext_lt (by omega) l
    have hs3 : ta ^^^ tb ^^^ tc = tx := by rw [← hta, ← htb, ← htc, ← htx, ← hX]; exact (sum_xor3 (by omega) (by omega)).symm
    obtain ⟨tm, htm⟩ : ∃ t, ta ^^^ tb = t := ⟨_, rfl⟩
    have lta : ta < 4294967296 := by rw [← hta]; exact hlt _
    have ltb : tb < 4294967296 := by rw [← htb]; exact hlt _
    have ltc : tc < 4294967296 := by rw [← htc]; exact hlt _
    have k1 : bits .xor .u32 (ta : Int) (tb : Int) = (tm : Int) := by rw [u32_xor_nat ta tb lta ltb, htm]
    have k2 : bits .xor .u32 (tm : Int) (tc : Int) = (tx : Int) := by rw [u32_xor_nat tm tc (by rw [← htm]; exact lt_xor lta ltb) ltc, ← hs3, htm]
    have K1 := Lib.hid k1
    have K2 := Lib.hid k2
    have SA := Lib.hid hta
    have SB := Lib.hid htb
    have SC := Lib.hid htc
    have SX := Lib.hid htx
    have CA := Lib.hid (show Cel w (.slice A1 n p1) (cellsU a') by rw [← ha']; exact cel_pre HA.out m1)
    have CB := Lib.hid (show Cel w (.slice A2 n p2) (cellsU b') by rw [← hb']; exact cel_pre HB.out m2)
    have CC := Lib.hid (show Cel w (.slice A3 n p3) (cellsU c') by rw [← hc']; exact cel_pre HC.out m3)
    have LA := Lib.hid (show a'.length ≤ 200000 by omega)
    have LB := Lib.hid (show b'.length ≤ 200000 by omega)
    have LC := Lib.hid (show c'.length ≤ 200000 by omega)
    have LX := Lib.hid (show X.length ≤ 200000 by omega)
    have LXN := Lib.hid lX
    have HXS := Lib.hid (show ∀ i (h : i < n), ∃ (h1 : i < a.length) (h2 : i < b.length) (h3 : i < c.length), X.take (i + 1) = X.take i ++ [a[i] ^^^ b[i] ^^^ c[i]] from fun i h => by
      refine ⟨by omega, by omega, by omega, ?_⟩
      have hx := xor3_at a' b' c' i (by omega) (by omega) (by omega)
      rw [hX] at hx
      have hxi : X[i]'(by omega) = a'[i]'(by omega) ^^^ b'[i]'(by omega) ^^^ c'[i]'(by omega) := by
        rw [List.getElem?_eq_getElem (by omega)] at hx
        exact Option.some.inj hx
      rw [List.take_succ_eq_append_getElem (by omega), hxi]
      subst ha'
      subst hb'
      subst hc'
      rw [List.getElem_take, List.getElem_take, List.getElem_take])
    have e1 : n ≤ p1 := by omega
    have e2 : n ≤ p2 := by omega
    have e3 : n ≤ p3 := by omega
    clear ha' hb' hc' la lb lc hX lX hta htb htc htx hlt hs3 htm lta ltb ltc k1 k2 hn hn1 hn2 hn3
    go_enter Try.func5, Try.ntmps5
    go_wp2
    go_loopw [8, 9] (fun vo vi wr => ∃ i : Nat, vi = .int .i64 (i : Int) ∧ i ≤ n ∧ Own w wr ∧ wr.ownsRow w.heap.size 5 1 vo i (cellsU (X.take i))) (fun _ vi _ => n - (intOf vi).toNat)
    case atStart => exact ⟨0, rfl, Nat.zero_le _, Own.refl w, World.ownsRow_nil _ _ _ _⟩
    case round =>
      obtain ⟨i, rfl, hi, q, hrow⟩ := hrel
      have HROW := Lib.hid hrow
      by_cases hlt : i < n
      · obtain ⟨h1, h2, h3, hx⟩ := HXS.out i hlt
        obtain ⟨g1, o1, rfl, f1⟩ := MA.out (by omega)
        obtain ⟨g2, o2, rfl, f2⟩ := MB.out (by omega)
        obtain ⟨g3, o3, rfl, f3⟩ := MC.out (by omega)
        have c1 := f1 i h1
        have c2 := f2 i h2
        have c3 := f3 i h3
        have b1 := a[i].toNat_lt
        have b2 := b[i].toNat_lt
        have b3 := c[i].toNat_lt
        have t1 : bits .xor .u8 (a[i].toNat : Int) (b[i].toNat : Int) = ((a[i] ^^^ b[i]).toNat : Int) := by rw [u8_xor_nat _ _ b1 b2, UInt8.toNat_xor]
        have t2 : bits .xor .u8 ((a[i] ^^^ b[i]).toNat : Int) (c[i].toNat : Int) = ((a[i] ^^^ b[i] ^^^ c[i]).toNat : Int) := by rw [u8_xor_nat _ _ (a[i] ^^^ b[i]).toNat_lt b3, UInt8.toNat_xor (a[i] ^^^ b[i])]
        generalize (a[i] ^^^ b[i]).toNat = r1 at t1 t2
        obtain ⟨x, hxe⟩ : ∃ x, a[i] ^^^ b[i] ^^^ c[i] = x := ⟨_, rfl⟩
        rw [hxe] at t2 hx
        generalize a[i].toNat = q1 at c1 t1
        generalize b[i].toNat = q2 at c2 t1
        generalize c[i].toNat = q3 at c3 t2
        have j1 : (i : Int) < n1 := by omega
        have j2 : (i : Int) < n2 := by omega
        have j3 : (i : Int) < n3 := by omega
        have HXT := Lib.hid hx
        have hn2 : n ≤ 4096 := by omega
        have F1 := Lib.hid c1
        have F2 := Lib.hid c2
        have F3 := Lib.hid c3
        replace c1 := q.cell c1
        replace c2 := q.cell c2
        replace c3 := q.cell c3
        have HSZ := Lib.hid (q.alloc (.cells #[.int .u8 (x.toNat : Int)] 5)).size
        clear hrow hx hxe b1 b2 b3 f1 f2 f3 h1 h2 h3
        go_upto_region 8 with (fail)
        go_region_held3 (fun w' => w'.cell? ⟨g1, o1 + i, none⟩ = some (.int .u8 (q1 : Int)) ∧ w'.cell? ⟨g2, o2 + i, none⟩ = some (.int .u8 (q2 : Int)) ∧ w'.cell? ⟨g3, o3 + i, none⟩ = some (.int .u8 (q3 : Int))) (first | go_keep | (exact ⟨q4.cell F1.out, q4.cell F2.out, q4.cell F3.out⟩) | (exact ⟨((q.drew).alloc _).cell F1.out, ((q.drew).alloc _).cell F2.out, ((q.drew).alloc _).cell F3.out⟩) | (exact ⟨((q.alloc _).drew).cell F1.out, ((q.alloc _).drew).cell F2.out, ((q.alloc _).drew).cell F3.out⟩))
          ((refine step_append_lies _ (by rfl) _ _ _ (by rfl) w.heap.size 5 i0 (.int .u8 0) 1 1 Try.underlying23 HI.out HZ0.out HZ1.out HZ2.out rfl (by omega) _ _ _ (by rfl) ((HROW.out.alloc _).drew) ⟨wr.heap.size, 0, none⟩ 1 1 [.int .u8 (x.toNat : Int)] (by rfl) (by rfl) (World.news_of_block (cs := #[.int .u8 (x.toNat : Int)]) (t := 5) (fr := (0, 0)) (heap_alloc_new wr _)) (by simp [Value.oneCell']) (by omega) (by unfold maxLen; omega) (by omega) HSZ.out _ rfl ?_; intro gg cap4 w4 hown hgrow hat hlt4; have q4 : Own w w4 := Own.grown ((q.alloc _).drew) hgrow (fun jj hj => (HROW.out.lt jj hj).1); have HOWN := Lib.hid hown; clear hown hgrow hat hlt4))
        go_wp2
        go_roundw
        case rel => exact ⟨i + 1, by go_num, hlt, q4, by rw [HXT.out, cellsU_app]; exact HOWN.out⟩
        case measure => simp [intOf]; omega
      · obtain rfl : i = n := by omega
        obtain ⟨AX, px, rfl⟩ := row_shape hrow
        have cx := cel_of_row hrow
        rw [List.take_of_length_le (by rw [LXN.out]; exact Nat.le_refl _)] at cx
        have CX := Lib.hid cx
        clear cx
        have k1 := K1.out
        have k2 := K2.out
        clear hrow
        go_upto_region 9 with (fail)
        refine region_after wr (by kernel_rfl) (by kernel_rfl) ?_
        repeat (first
          | go_big_quiet_step ((first | (go_at_call 12; with_reducible refine (C.sum X _ tx _ (Lib.hid (CX.out.own (After.o _))) LX.out SX).mono ?_; rintro e w2 ⟨rfl, hg⟩; exact ⟨rfl, ⟨w2, (After.o _).trans hg⟩, rfl⟩) | (go_at_call 12; with_reducible refine (C.sum a' _ ta _ (Lib.hid (CA.out.own (q.trans (After.o _)))) LA.out SA).mono ?_; rintro e w2 ⟨rfl, hg⟩; exact ⟨rfl, ⟨w2, (After.o _).trans hg⟩, rfl⟩) | (go_at_call 12; with_reducible refine (C.sum b' _ tb _ (Lib.hid (CB.out.own (q.trans (After.o _)))) LB.out SB).mono ?_; rintro e w2 ⟨rfl, hg⟩; exact ⟨rfl, ⟨w2, (After.o _).trans hg⟩, rfl⟩) | (go_at_call 12; with_reducible refine (C.sum c' _ tc _ (Lib.hid (CC.out.own (q.trans (After.o _)))) LC.out SC).mono ?_; rintro e w2 ⟨rfl, hg⟩; exact ⟨rfl, ⟨w2, (After.o _).trans hg⟩, rfl⟩) | (go_at_call 11; with_reducible refine (awake_at C _).mono ?_; rintro e w2 ⟨rfl, hg⟩; exact ⟨rfl, ⟨w2, (After.o _).trans hg⟩, rfl⟩)))
          | quiet_step ((first | (go_at_call 12; with_reducible refine (C.sum X _ tx _ (Lib.hid (CX.out.own (After.o _))) LX.out SX).mono ?_; rintro e w2 ⟨rfl, hg⟩; exact ⟨rfl, ⟨w2, (After.o _).trans hg⟩, rfl⟩) | (go_at_call 12; with_reducible refine (C.sum a' _ ta _ (Lib.hid (CA.out.own (q.trans (After.o _)))) LA.out SA).mono ?_; rintro e w2 ⟨rfl, hg⟩; exact ⟨rfl, ⟨w2, (After.o _).trans hg⟩, rfl⟩) | (go_at_call 12; with_reducible refine (C.sum b' _ tb _ (Lib.hid (CB.out.own (q.trans (After.o _)))) LB.out SB).mono ?_; rintro e w2 ⟨rfl, hg⟩; exact ⟨rfl, ⟨w2, (After.o _).trans hg⟩, rfl⟩) | (go_at_call 12; with_reducible refine (C.sum c' _ tc _ (Lib.hid (CC.out.own (q.trans (After.o _)))) LC.out SC).mono ?_; rintro e w2 ⟨rfl, hg⟩; exact ⟨rfl, ⟨w2, (After.o _).trans hg⟩, rfl⟩) | (go_at_call 11; with_reducible refine (awake_at C _).mono ?_; rintro e w2 ⟨rfl, hg⟩; exact ⟨rfl, ⟨w2, (After.o _).trans hg⟩, rfl⟩))))
        refine wpQuiet_nil ?_
        rintro _ ⟨x, rfl⟩
        have q9 := x.o
        generalize x.w = w9 at *
        go_wp2
        go_ret
        exact ⟨rfl, q.trans q9⟩
end Go.Proofs.Ytbplglndcagglaa.CrcW
