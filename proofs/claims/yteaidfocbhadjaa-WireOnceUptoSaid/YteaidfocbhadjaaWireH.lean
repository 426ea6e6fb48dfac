/-
  Walks of the specification of package wire: TakeList. Condition: none.
-/
import Derived.Test.YteaidfocbhadjaaWireD
import Derived.Test.YteaidfocbhadjaaWireG
namespace Go.Proofs.Yteaidfocbhadjaa.WirW
open Go.ChangeShapes Go.WideShapes Go.ChangeAt Go.RowKit
open PairW CelW WirP
/-- What is left to read, n integers of which P are read, from place k on. -/
def Left (b : Bs) (n k : Nat) (P : List Int) (f : Int) (V : List Int) (m : Nat) : Prop :=
  (if (readL (n - P.length) (b.drop k)).1 ≠ 0 then ((readL (n - P.length) (b.drop k)).1, ([] : List Int), 0) else (0, P ++ (readL (n - P.length) (b.drop k)).2.1, k + (readL (n - P.length) (b.drop k)).2.2)) = (f, V, m)
theorem Left.start {b : Bs} {most f : Int} {V : List Int} {m n : Nat} (hs : sizeE b most = 0) (hn : takeV b = (n : Int)) (H : listE b most = f ∧ listV b most = V ∧ listK b most = m) : Left b n (takeK b) [] f V m := by
  obtain ⟨rfl, rfl, rfl⟩ := H
  unfold Left listV listK
  have hE : listE b most = (readL n (b.drop (takeK b))).1 := by unfold listE; rw [if_neg (by rw [hs]; simp), hn]; rfl
  rw [hE, hn, Int.toNat_natCast]
  show (if (readL (n - 0) (b.drop (takeK b))).1 ≠ 0 then _ else _) = _
  rw [Nat.sub_zero]
  by_cases c : (readL n (b.drop (takeK b))).1 = 0
  · rw [if_neg (by rw [c]; simp), if_pos c, if_pos c, c, List.nil_append]
    rfl
  · rw [if_pos c, if_neg c, if_neg c]
    rfl
theorem Left.done {b : Bs} {n k : Nat} {P V : List Int} {f : Int} {m : Nat} (H : Left b n k P f V m) (hp : P.length = n) : f = 0 ∧ V = P ∧ m = k := by
  unfold Left at H
  rw [hp, Nat.sub_self] at H
  have H : ((0 : Int), P ++ [], k + 0) = (f, V, m) := H
  rw [List.append_nil] at H
  injection H with h1 h2
  injection h2 with h2 h3
  exact ⟨h1.symm, h2.symm, h3.symm⟩
theorem Left.bad {b : Bs} {n k : Nat} {P V : List Int} {f : Int} {m : Nat} (H : Left b n k P f V m) (hp : P.length < n) (he : takeE (b.drop k) ≠ 0) : f = takeE (b.drop k) ∧ V = [] ∧ m = 0 := by
  unfold Left at H
  obtain ⟨j, hj⟩ : ∃ j, n - P.length = j + 1 := ⟨n - P.length - 1, by omega⟩
  have hr : readL (j + 1) (b.drop k) = (takeE (b.drop k), [], 0) := by
    unfold readL
    rw [if_pos he]
  rw [hj, hr, if_pos he] at H
  injection H with h1 h2
  injection h2 with h2 h3
  exact ⟨h1.symm, h2.symm, h3.symm⟩
theorem Left.one {b : Bs} {n k : Nat} {P V : List Int} {f : Int} {m : Nat} (H : Left b n k P f V m) (hp : P.length < n) (he : takeE (b.drop k) = 0) : Left b n (k + takeK (b.drop k)) (P ++ [takeV (b.drop k)]) f V m := by
  unfold Left at H ⊢
  obtain ⟨j, hj⟩ : ∃ j, n - P.length = j + 1 := ⟨n - P.length - 1, by omega⟩
  have hj2 : n - (P ++ [takeV (b.drop k)]).length = j := by rw [List.length_append]; show n - (P.length + 1) = j; omega
  have hr : readL (j + 1) (b.drop k) = if (readL j ((b.drop k).drop (takeK (b.drop k)))).1 ≠ 0 then ((readL j ((b.drop k).drop (takeK (b.drop k)))).1, [], 0) else (0, takeV (b.drop k) :: (readL j ((b.drop k).drop (takeK (b.drop k)))).2.1, takeK (b.drop k) + (readL j ((b.drop k).drop (takeK (b.drop k)))).2.2) := by
    conv => lhs; unfold readL
    rw [if_neg (by rw [he]; simp)]
  rw [hj, hr, List.drop_drop] at H
  rw [hj2]
  by_cases c : (readL j (b.drop (k + takeK (b.drop k)))).1 = 0
  · have c' : ¬ (readL j (b.drop (k + takeK (b.drop k)))).1 ≠ 0 := fun h => h c
    rw [if_neg c'] at H
    rw [if_neg c']
    rw [if_neg (by simp)] at H
    rw [← H, List.append_assoc, Nat.add_assoc]
    rfl
  · rw [if_pos c, if_pos c] at H
    rw [if_pos c]
    exact H
theorem cel_drop {w : World} {g off z cap k : Nat} {b : Bs} (h : Cel w (.slice (some ⟨g, off, none⟩) z cap) (cellsU b)) (hk : k ≤ z) : Cel w (.slice (some ⟨g, off + k, none⟩) (z - k) (cap - k)) (cellsU (b.drop k)) := by
  obtain ⟨A, c, hv, h2, h3, h4⟩ := h
  rw [cellsU_len] at hv h2 h4
  injection hv with e1 e2 e3
  subst e3
  refine ⟨_, cap - k, by rw [cellsU_len, List.length_drop, ← e2], by rw [cellsU_len, List.length_drop]; omega, by omega, fun h0 => ⟨g, off + k, rfl, fun i u hu => ?_⟩⟩
  rw [cellsU_len, List.length_drop] at h0
  obtain ⟨g', o', hA, hcl⟩ := h4 (by omega)
  rw [← e1] at hA
  injection hA with hA
  injection hA with a1 a2
  subst a1
  subst a2
  rw [Nat.add_assoc]
  refine hcl (k + i) u ?_
  rw [← hu]
  unfold cellsU
  rw [List.map_drop, List.getElem?_drop]
theorem cel_drop0 {w : World} {a : Option Addr} {z : Nat} {b : Bs} (hz : b.length = z) : Cel w (.slice a 0 0) (cellsU (b.drop z)) := by
  rw [List.drop_of_length_le (by omega)]
  exact ⟨a, 0, rfl, Nat.le_refl _, Nat.zero_le _, fun h => absurd h (by simp [cellsU])⟩
theorem cel_int1 {w : World} {T : TypeId} {z : Int} : Cel (w.alloc (.cells #[.int .i64 z] T)) (.slice (some ⟨w.heap.size, 0, none⟩) 1 1) (cellsI [z]) := by
  refine ⟨_, 1, rfl, Nat.le_refl _, by unfold maxLen; decide, fun _ => ⟨w.heap.size, 0, rfl, fun i u hu => ?_⟩⟩
  have hi : i < 1 := (List.getElem?_eq_some_iff.1 hu).1
  obtain rfl : i = 0 := by omega
  have hu : some (Value.int .i64 z) = some u := hu
  rw [← hu]
  go_simp
set_option maxRecDepth 100000 in
set_option maxHeartbeats 1000000 in
theorem rtakelist_at (b : Bs) (V : List Int) (v : Value) (most f : Int) (m : Nat) (w : World) (HB : Hid (Cel w v (cellsU b))) (hz : b.length ≤ 1000000000000) (H : Hid (listE b most = f ∧ listV b most = V ∧ listK b most = m)) :
    Calls Try.prog 23 #[v, .int .i64 most] w fun e w' => ∃ vl, e = .returned (.tuple #[vl, .int .i64 (m : Int), .int .i64 f]) ∧ w'.ownsRow w.heap.size 3 1 vl V.length (cellsI V) ∧ Own w w' := by
  obtain ⟨i0, hi, hz0, hz1, hz2⟩ := info_parts (show (Try.prog.info? 3).map (fun i => (i.zero, i.size, i.bytes)) = some (some (.int .i64 0), 1, 8) by kernel_rfl)
  have HI := Lib.hid hi
  have HZ0 := Lib.hid hz0
  have HZ1 := Lib.hid hz1
  have HZ2 := Lib.hid hz2
  clear hi hz0 hz1 hz2
  obtain ⟨sf, hsf⟩ : ∃ t, sizeE b most = t := ⟨_, rfl⟩
  by_cases c1 : sf = 0
  · subst c1
    obtain ⟨t1, t2, t3⟩ := size_ok hsf
    obtain ⟨o1, o2, o3, o4, o5, o6⟩ := take_once t1
    obtain ⟨n, hn⟩ : ∃ n : Nat, takeV b = (n : Int) := ⟨(takeV b).toNat, by omega⟩
    have HL := Lib.hid (Left.start hsf hn H.out)
    obtain ⟨k0, hk0⟩ : ∃ k, takeK b = k := ⟨_, rfl⟩
    rw [hk0] at HL o2 o3
    rw [hn] at o6
    have HS := Lib.hid (show SizeIs b most 0 (n : Int) k0 by unfold SizeIs; rw [hsf, if_pos rfl, if_pos rfl, hn, hk0]; exact ⟨rfl, rfl, rfl⟩)
    obtain ⟨A, cap, rfl, h1, h2, h3⟩ := cel_cells HB.out
    obtain ⟨g, off, rfl, _⟩ := h3 (by omega)
    unfold maxLen at h2
    obtain ⟨z, hbz⟩ : ∃ z, b.length = z := ⟨_, rfl⟩
    have HBZ := Lib.hid hbz
    rw [hbz] at h1 o3 HB hz ⊢
    have HR0 := Lib.hid (World.ownsRow_made (e := 3) (size := 1) w #[] 0 (Nat.le_refl _) (Nat.zero_le _) rfl)
    have qa : Own w (w.alloc (.cells #[] 3)) := (Own.refl w).alloc _
    clear H hsf o1 o4 o5 t1 t2 t3 h3 hn hk0 hbz
    go_enter Try.func23, Try.ntmps23
    go_upto_region 2 with (go_at_call 36; with_reducible refine (size_at b _ most _ _ _ _ HB HS).mono ?_; rintro e w1 ⟨rfl, rfl⟩)
    go_upto_region 5 with (fail)
    go_loopw [8, 10] (fun vk vo wr => ∃ (k g4 p c4 : Nat) (P : List Int), vk = .int .i64 (k : Int) ∧ vo = .slice (some ⟨g4, 0, none⟩) p c4 ∧ P.length = p ∧ p ≤ k ∧ k ≤ z ∧ p ≤ n ∧ Own w wr ∧ wr.ownsRow w.heap.size 3 1 (.slice (some ⟨g4, 0, none⟩) p c4) p (cellsI P) ∧ Left b n k P f V m) (fun vk _ _ => z + 1 - (intOf vk).toNat)
    case atStart => exact ⟨k0, w.heap.size, 0, 0, [], rfl, rfl, rfl, Nat.zero_le _, o3, Nat.zero_le _, qa, HR0.out, HL.out⟩
    case round =>
      obtain ⟨k, g4, p, c4, P, rfl, rfl, hp, hpk, hkz, hpn, q, hrow, hleft⟩ := hrel
      have HROW := Lib.hid hrow
      have HLEFT := Lib.hid hleft
      have HP := Lib.hid hp
      clear hrow hleft hp
      by_cases hlt : p < n
      · have hltI : (p : Int) < n := by omega
        have HBR := Lib.hid (HB.out.own q)
        obtain ⟨ef, hef⟩ : ∃ t, takeE (b.drop k) = t := ⟨_, rfl⟩
        obtain ⟨ex, hex⟩ : ∃ t, takeV (b.drop k) = t := ⟨_, rfl⟩
        obtain ⟨ek, hek⟩ : ∃ t, takeK (b.drop k) = t := ⟨_, rfl⟩
        have HT := Lib.hid (show takeE (b.drop k) = ef ∧ takeV (b.drop k) = ex ∧ takeK (b.drop k) = ek from ⟨hef, hex, hek⟩)
        have hplt : P.length < n := by rw [HP.out]; exact hlt
        by_cases ce : ef = 0
        · subst ce
          obtain ⟨p1, p2, p3, p4, p5, p6⟩ := take_once hef
          rw [hek, List.length_drop, HBZ.out] at p3
          rw [hek] at p2
          have HL1 := Lib.hid (by have := HLEFT.out.one hplt hef; rw [hek, hex] at this; exact this)
          have hck : ¬ cap = k := by omega
          have HCD := Lib.hid (cel_drop HBR.out hkz)
          have i2 : IntKind.i64.wrap ((k : Int) + ek) = (k : Int) + ek := IntWalk.i64_in _ (by omega)
          have HROW1 := Lib.hid (HROW.out.alloc (.cells #[.int .i64 ex] 3))
          have q1 : Own w (wr.alloc (.cells #[.int .i64 ex] 3)) := q.alloc _
          have HSZ1 := Lib.hid q1.size
          have HCEL := Lib.hid (cel_int1 (w := wr) (T := 3) (z := ex))
          have HK3 := Lib.hid (show p + 1 ≤ maxLen by unfold maxLen; omega)
          have HK4 := Lib.hid (show (p + 1) * 8 ≤ 140737488355328 by omega)
          have hp1 : p + 1 ≤ k + ek := by omega
          have hp2 : k + ek ≤ z := by omega
          have hms : z + 1 - (k + ek) < z + 1 - k := by omega
          clear hef hex hek p1 p2 p3 p4 p5 p6 hplt
          go_wp2_with (first
            | (go_at_call 12; with_reducible refine (rtake_at (b.drop k) _ _ _ _ _ HCD HT).mono ?_; rintro e w3 ⟨rfl, rfl⟩)
            | (at_builtin; refine wpList_append_c (by go_simp) _ _ 35 rfl w.heap.size 3 i0 (.int .i64 0) 8 Try.underlying35 HI.out HZ0.out HZ1.out HZ2.out rfl g4 p c4 (cellsI P) rfl HROW1.out _ (cellsI [ex]) rfl HCEL.out (cellsI_one _) (p + 1) rfl HK3.out HK4.out HSZ1.out ?_; intro g5 c5 w5 hown5 hgr5; have q5 := own_more q1 hgr5 HROW1.out (Nat.le_refl _)))
          go_roundw
          case rel => exact ⟨k + ek, g5, p + 1, c5, P ++ [ex], by go_num, rfl, by rw [List.length_append, HP.out]; rfl, hp1, hp2, hlt, q5, by rw [cellsI_app]; exact hown5, HL1.out⟩
          case measure => simp [intOf]; omega
        · obtain ⟨rfl, rfl, rfl⟩ := HLEFT.out.bad hplt (by rw [hef]; exact ce)
          have d1 : (ef == 0) = false := beq_eq_false_iff_ne.2 ce
          have HV := Lib.hid (show takeV (b.drop k) = 0 ∧ takeK (b.drop k) = 0 from take_bad (by rw [hef]; exact ce))
          by_cases hck : cap = k
          · have hzk : z = k := by omega
            subst hzk
            subst hck
            have HCD := Lib.hid (cel_drop0 (w := wr) (a := some ⟨g, off, none⟩) HBZ.out)
            have HEF := Lib.hid hef
            clear hef hex hek hplt
            go_wp2_with (go_at_call 12; with_reducible refine (rtake_at _ _ _ _ _ _ HCD HT).mono ?_; rintro e w3 ⟨rfl, rfl⟩)
            go_ret3
            exact ⟨_, by rw [HEF.out]; rfl, World.ownsRow_nil _ _ _ _, q⟩
          · have HCD := Lib.hid (cel_drop HBR.out hkz)
            have HEF := Lib.hid hef
            clear hef hex hek hplt
            go_wp2_with (go_at_call 12; with_reducible refine (rtake_at (b.drop k) _ _ _ _ _ HCD HT).mono ?_; rintro e w3 ⟨rfl, rfl⟩)
            go_ret3
            exact ⟨_, by rw [HEF.out]; rfl, World.ownsRow_nil _ _ _ _, q⟩
      · obtain rfl : p = n := by omega
        obtain ⟨rfl, rfl, rfl⟩ := HLEFT.out.done HP.out
        go_wp2
        go_ret3
        exact ⟨_, rfl, by rw [HP.out]; exact HROW.out, q⟩
  · have hE : listE b most = sf := by unfold listE; rw [if_pos (by rw [hsf]; exact c1), hsf]
    have hH := H.out
    unfold listV listK at hH
    rw [hE, if_neg c1, if_neg c1] at hH
    obtain ⟨rfl, rfl, rfl⟩ := hH
    have HS := Lib.hid (show SizeIs b most sf 0 0 by unfold SizeIs; rw [hsf, if_neg c1, if_neg c1]; exact ⟨rfl, rfl, rfl⟩)
    have d1 : (sf == 0) = false := beq_eq_false_iff_ne.2 c1
    clear H hE hsf
    go_enter Try.func23, Try.ntmps23
    go_wp2_with (go_at_call 36; with_reducible refine (size_at b _ most _ _ _ _ HB HS).mono ?_; rintro e w1 ⟨rfl, rfl⟩)
    go_ret3
    exact ⟨_, rfl, World.ownsRow_nil _ _ _ _, Own.refl _⟩
end Go.Proofs.Yteaidfocbhadjaa.WirW
