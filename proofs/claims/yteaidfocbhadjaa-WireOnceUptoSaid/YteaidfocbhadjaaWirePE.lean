/-
  Walks of the program of package wire: takeCount, TakeText, TakeList. Condition: none.
-/
import Derived.Test.YteaidfocbhadjaaWirePD
import Derived.Test.YteaidfocbhadjaaWireF
import Derived.Test.YteaidfocbhadjaaWireH
namespace Go.Proofs.Yteaidfocbhadjaa.WirW
open Go.ChangeShapes Go.WideShapes Go.ChangeAt Go.RowKit
open PairW CelW WirP
set_option maxRecDepth 100000 in
theorem pcount_at (b : Bs) (v : Value) (most f x : Int) (m : Nat) (w : World) (HB : Hid (Cel w v (cellsU b))) (H : Hid (SizeIs b most f x m)) :
    Calls Try.prog 35 #[v, .int .i64 most] w fun e w' => e = .returned (.tuple #[.int .i64 x, .int .i64 (m : Int), .int .i64 f]) ∧ w = w' := by
  obtain ⟨tf, htf⟩ : ∃ t, takeE b = t := ⟨_, rfl⟩
  obtain ⟨tx, htx⟩ : ∃ t, takeV b = t := ⟨_, rfl⟩
  obtain ⟨tm, htm⟩ : ∃ t, takeK b = t := ⟨_, rfl⟩
  have HT := Lib.hid (show takeE b = tf ∧ takeV b = tx ∧ takeK b = tm from ⟨htf, htx, htm⟩)
  have hH := H.out
  unfold SizeIs at hH
  rw [htx, htm] at hH
  unfold sizeE at hH
  rw [htf, htx] at hH
  clear htf htx htm H
  by_cases c1 : tf = 0
  · subst c1
    rw [if_neg (by simp)] at hH
    by_cases c2 : tx < 0
    · rw [if_pos c2, if_neg (by decide), if_neg (by decide)] at hH
      obtain ⟨rfl, rfl, rfl⟩ := hH
      go_enter Try.func35, Try.ntmps35
      go_wp2_with (go_at_call 11; with_reducible refine (ptake_at b v _ _ _ _ HB HT).mono ?_; rintro e w1 ⟨rfl, rfl⟩)
      go_ret3
      exact ⟨rfl, rfl⟩
    · rw [if_neg c2] at hH
      by_cases c3 : most < tx
      · rw [if_pos c3, if_neg (by decide), if_neg (by decide)] at hH
        obtain ⟨rfl, rfl, rfl⟩ := hH
        go_enter Try.func35, Try.ntmps35
        go_wp2_with (go_at_call 11; with_reducible refine (ptake_at b v _ _ _ _ HB HT).mono ?_; rintro e w1 ⟨rfl, rfl⟩)
        go_ret3
        exact ⟨rfl, rfl⟩
      · rw [if_neg c3, if_pos rfl, if_pos rfl] at hH
        obtain ⟨rfl, rfl, rfl⟩ := hH
        go_enter Try.func35, Try.ntmps35
        go_wp2_with (go_at_call 11; with_reducible refine (ptake_at b v _ _ _ _ HB HT).mono ?_; rintro e w1 ⟨rfl, rfl⟩)
        go_ret3
        exact ⟨rfl, rfl⟩
  · rw [if_pos c1, if_neg c1, if_neg c1] at hH
    obtain ⟨rfl, rfl, rfl⟩ := hH
    have d1 : (tf == 0) = false := beq_eq_false_iff_ne.2 c1
    go_enter Try.func35, Try.ntmps35
    go_wp2_with (go_at_call 11; with_reducible refine (ptake_at b v _ _ _ _ HB HT).mono ?_; rintro e w1 ⟨rfl, rfl⟩)
    go_ret3
    exact ⟨rfl, rfl⟩
set_option maxRecDepth 100000 in
theorem ptaketext_at (b V : Bs) (v : Value) (most f : Int) (m : Nat) (w : World) (HB : Hid (Cel w v (cellsU b))) (H : Hid (textE b most = f ∧ textV b most = V ∧ textK b most = m)) :
    Calls Try.prog 18 #[v, .int .i64 most] w fun e w' => e = .returned (.tuple #[.string (strB V), .int .i64 (m : Int), .int .i64 f]) ∧ w = w' := by
  obtain ⟨sf, hsf⟩ : ∃ t, sizeE b most = t := ⟨_, rfl⟩
  by_cases c1 : sf = 0
  · subst c1
    obtain ⟨t1, t2, t3⟩ := size_ok hsf
    obtain ⟨o1, o2, o3, o4, o5, o6⟩ := take_once t1
    obtain ⟨n, hn⟩ : ∃ n : Nat, takeV b = (n : Int) := ⟨(takeV b).toNat, by omega⟩
    obtain ⟨k, hk⟩ : ∃ k, takeK b = k := ⟨_, rfl⟩
    have HS := Lib.hid (show SizeIs b most 0 (n : Int) k by unfold SizeIs; rw [hsf, if_pos rfl, if_pos rfl, hn, hk]; exact ⟨rfl, rfl, rfl⟩)
    obtain ⟨A, cap, rfl, h1, h2, h3⟩ := cel_cells HB.out
    obtain ⟨g, off, rfl, hc⟩ := h3 (by omega)
    unfold maxLen at h2
    rw [hk] at o2 o3
    rw [hn] at o6
    obtain ⟨z, hz⟩ : ∃ z, b.length = z := ⟨_, rfl⟩
    have hE : textE b most = if ((z : Int) - k) < n then 13 else 0 := by unfold textE; rw [if_neg (by rw [hsf]; simp), hn, hk, hz]
    have hH := H.out
    unfold textV textK at hH
    rw [hE, hn, hk] at hH
    clear H hE o1 o4 o5 t1 t2 t3 h3
    have i1 : IntKind.i64.wrap ((z : Int) - k) = (z : Int) - k := IntWalk.i64_in _ (by omega)
    by_cases c2 : ((z : Int) - k) < n
    · rw [if_pos c2, if_neg (by decide), if_neg (by decide)] at hH
      obtain ⟨rfl, rfl, rfl⟩ := hH
      rw [hz] at h1 o3 HB ⊢
      clear hc hn hk hsf hz
      go_enter Try.func18, Try.ntmps18
      go_wp2_with (go_at_call 35; with_reducible refine (pcount_at b _ most _ _ _ _ HB HS).mono ?_; rintro e w1 ⟨rfl, rfl⟩)
      go_ret3
      exact ⟨rfl, rfl⟩
    · rw [if_neg c2, if_pos rfl, if_pos rfl, Int.toNat_natCast] at hH
      obtain ⟨rfl, rfl, rfl⟩ := hH
      have i2 : IntKind.i64.wrap ((k : Int) + n) = (k : Int) + n := IntWalk.i64_in _ (by omega)
      have hlen : ((b.drop k).take n).length = n := by rw [List.length_take, List.length_drop]; omega
      have hcv := fun (cp : Nat) => conv_at (P := Try.prog) (w := w) (g := g) (off := off + k) (cap := cp) (l := (b.drop k).take n) hlen (fun i hi => by
        have hi2 : k + i < b.length := by omega
        rw [Nat.add_assoc, hc (k + i) hi2, List.getElem_take, List.getElem_drop]) (src := 22) (e := 5) (dst := 9) rfl rfl rfl
      obtain ⟨V, hV⟩ : ∃ V, (b.drop k).take n = V := ⟨_, rfl⟩
      rw [hV] at hcv
      have hv0 : k = cap → n = 0 ∧ V = [] := fun e => by
        have h0 : n = 0 := by omega
        exact ⟨h0, by rw [← hV, h0]; rfl⟩
      have hc0 := conv_at (P := Try.prog) (w := w) (g := g) (off := off) (cap := 0) (l := []) (len := 0) rfl (fun i hi => absurd hi (Nat.not_lt_zero _)) (src := 22) (e := 5) (dst := 9) rfl rfl rfl
      rw [hV]
      rw [hz] at h1 o3 HB ⊢
      clear hc hn hk hsf hz hlen hV
      by_cases ce : k = cap
      · obtain ⟨rfl, rfl⟩ := hv0 ce
        subst ce
        have i3 : IntKind.i64.wrap (k : Int) = k := IntWalk.i64_in _ (by omega)
        have hs0 : sliced (some ⟨g, off, none⟩) k k k 1 = .slice (some ⟨g, off, none⟩) 0 0 := by simp [sliced]
        go_enter Try.func18, Try.ntmps18
        go_wp2_with (go_at_call 35; with_reducible refine (pcount_at b _ most _ _ _ _ HB HS).mono ?_; rintro e w1 ⟨rfl, rfl⟩)
        go_ret3
        exact ⟨rfl, rfl⟩
      · have ce' : ¬ cap = k := fun e => ce e.symm
        clear hv0 hc0 ce
        go_enter Try.func18, Try.ntmps18
        go_wp2_with (go_at_call 35; with_reducible refine (pcount_at b _ most _ _ _ _ HB HS).mono ?_; rintro e w1 ⟨rfl, rfl⟩)
        go_ret3
        exact ⟨rfl, rfl⟩
  · have hE : textE b most = sf := by unfold textE; rw [if_pos (by rw [hsf]; exact c1), hsf]
    have hH := H.out
    unfold textV textK at hH
    rw [hE, if_neg c1, if_neg c1] at hH
    obtain ⟨rfl, rfl, rfl⟩ := hH
    have HS := Lib.hid (show SizeIs b most sf 0 0 by unfold SizeIs; rw [hsf, if_neg c1, if_neg c1]; exact ⟨rfl, rfl, rfl⟩)
    have d1 : (sf == 0) = false := beq_eq_false_iff_ne.2 c1
    clear H hE hsf
    go_enter Try.func18, Try.ntmps18
    go_wp2_with (go_at_call 35; with_reducible refine (pcount_at b _ most _ _ _ _ HB HS).mono ?_; rintro e w1 ⟨rfl, rfl⟩)
    go_ret3
    exact ⟨rfl, rfl⟩
set_option maxRecDepth 100000 in
set_option maxHeartbeats 1000000 in
theorem ptakelist_at (b : Bs) (V : List Int) (v : Value) (most f : Int) (m : Nat) (w : World) (HB : Hid (Cel w v (cellsU b))) (hz : b.length ≤ 1000000000000) (H : Hid (listE b most = f ∧ listV b most = V ∧ listK b most = m)) :
    Calls Try.prog 22 #[v, .int .i64 most] w fun e w' => ∃ vl, e = .returned (.tuple #[vl, .int .i64 (m : Int), .int .i64 f]) ∧ w'.ownsRow w.heap.size 3 1 vl V.length (cellsI V) ∧ Own w w' := by
  obtain ⟨i0, hi, hz0, hz1, hz2⟩ := info_parts (show (Try.prog.info? 3).map (fun i => (i.zero, i.size, i.bytes)) = some (some (.int .i64 0), 1, 8) by kernel_rfl)
  have HI := Lib.hid hi
  have HZ0 := Lib.hid hz0
  have HZ1 := Lib.hid hz1
  have HZ2 := Lib.hid hz2
  clear hi hz0 hz1 hz2
  obtain ⟨sf, hsf⟩ : ∃ t, sizeE b most = t := ⟨_, rfl⟩
  by_cases c1 : sf = 0
  · subst c1
    obtain ⟨t1, t2, t3⟩ := size_ok hsf
    obtain ⟨o1, o2, o3, o4, o5, o6⟩ := take_once t1
    obtain ⟨n, hn⟩ : ∃ n : Nat, takeV b = (n : Int) := ⟨(takeV b).toNat, by omega⟩
    have HL := Lib.hid (Left.start hsf hn H.out)
    obtain ⟨k0, hk0⟩ : ∃ k, takeK b = k := ⟨_, rfl⟩
    rw [hk0] at HL o2 o3
    rw [hn] at o6
    have HS := Lib.hid (show SizeIs b most 0 (n : Int) k0 by unfold SizeIs; rw [hsf, if_pos rfl, if_pos rfl, hn, hk0]; exact ⟨rfl, rfl, rfl⟩)
    obtain ⟨A, cap, rfl, h1, h2, h3⟩ := cel_cells HB.out
    obtain ⟨g, off, rfl, _⟩ := h3 (by omega)
    unfold maxLen at h2
    obtain ⟨z, hbz⟩ : ∃ z, b.length = z := ⟨_, rfl⟩
    have HBZ := Lib.hid hbz
    rw [hbz] at h1 o3 HB hz ⊢
    have HR0 := Lib.hid (World.ownsRow_nil w w.heap.size 3 1)
    have qa : Own w w := Own.refl w
    clear H hsf o1 o4 o5 t1 t2 t3 h3 hn hk0 hbz
    go_enter Try.func22, Try.ntmps22
    go_upto_region 2 with (go_at_call 35; with_reducible refine (pcount_at b _ most _ _ _ _ HB HS).mono ?_; rintro e w1 ⟨rfl, rfl⟩)
    go_upto_region 6 with (fail)
    go_loopw [8, 10, 11, 12, 13, 25] (fun vk vo _ _ _ vi wr => ∃ (k p : Nat) (P : List Int), vk = .int .i64 (k : Int) ∧ vi = .int .i64 (p : Int) ∧ P.length = p ∧ p ≤ k ∧ k ≤ z ∧ p ≤ n ∧ Own w wr ∧ wr.ownsRow w.heap.size 3 1 vo p (cellsI P) ∧ Left b n k P f V m) (fun _ _ _ _ _ vi _ => n - (intOf vi).toNat)
    case atStart => exact ⟨k0, 0, [], rfl, rfl, rfl, Nat.zero_le _, o3, Nat.zero_le _, qa, HR0.out, HL.out⟩
    case round =>
      obtain ⟨k, p, P, rfl, rfl, hp, hpk, hkz, hpn, q, hrow, hleft⟩ := hrel
      have HROW := Lib.hid hrow
      have HLEFT := Lib.hid hleft
      have HP := Lib.hid hp
      clear hrow hleft hp
      by_cases hlt : p < n
      · have hltI : (p : Int) < n := by omega
        have HBR := Lib.hid (HB.out.own q)
        obtain ⟨ef, hef⟩ : ∃ t, takeE (b.drop k) = t := ⟨_, rfl⟩
        obtain ⟨ex, hex⟩ : ∃ t, takeV (b.drop k) = t := ⟨_, rfl⟩
        obtain ⟨ek, hek⟩ : ∃ t, takeK (b.drop k) = t := ⟨_, rfl⟩
        have HT := Lib.hid (show takeE (b.drop k) = ef ∧ takeV (b.drop k) = ex ∧ takeK (b.drop k) = ek from ⟨hef, hex, hek⟩)
        have hplt : P.length < n := by rw [HP.out]; exact hlt
        by_cases ce : ef = 0
        · subst ce
          obtain ⟨p1, p2, p3, p4, p5, p6⟩ := take_once hef
          rw [hek, List.length_drop, HBZ.out] at p3
          rw [hek] at p2
          have HL1 := Lib.hid (by have := HLEFT.out.one hplt hef; rw [hek, hex] at this; exact this)
          have hck : ¬ cap = k := by omega
          have HCD := Lib.hid (cel_drop HBR.out hkz)
          have i2 : IntKind.i64.wrap ((k : Int) + ek) = (k : Int) + ek := IntWalk.i64_in _ (by omega)
          have HROW1 := Lib.hid (HROW.out.alloc (.cells #[.int .i64 ex] 3))
          have q1 : Own w (wr.alloc (.cells #[.int .i64 ex] 3)) := q.alloc _
          have HSZ1 := Lib.hid q1.size
          have HCEL := Lib.hid (cel_int1 (w := wr) (T := 3) (z := ex))
          have HK3 := Lib.hid (show p + 1 ≤ maxLen by unfold maxLen; omega)
          have HK4 := Lib.hid (show (p + 1) * 8 ≤ 140737488355328 by omega)
          have hp1 : p + 1 ≤ k + ek := by omega
          have hp2 : k + ek ≤ z := by omega
          clear hef hex hek p1 p2 p3 p4 p5 p6 hplt
          go_wp2_with (first
            | (go_at_call 11; with_reducible refine (ptake_at (b.drop k) _ _ _ _ _ HCD HT).mono ?_; rintro e w3 ⟨rfl, rfl⟩)
            | (at_builtin; refine wpList_append_r (by go_simp) _ _ 35 rfl w.heap.size 3 i0 (.int .i64 0) 8 Try.underlying35 HI.out HZ0.out HZ1.out HZ2.out rfl _ p (cellsI P) rfl HROW1.out _ (cellsI [ex]) rfl HCEL.out (cellsI_one _) (p + 1) rfl HK3.out HK4.out HSZ1.out ?_; intro v5 w5 hown5 hgr5 hsz5; have q5 := hgr5 _ q1 (Nat.le_refl _); clear hsz5 hgr5))
          go_roundw
          case rel => exact ⟨k + ek, p + 1, P ++ [ex], by go_num, by go_num, by rw [List.length_append, HP.out]; rfl, hp1, hp2, hlt, q5, by rw [cellsI_app]; exact hown5, HL1.out⟩
          case measure => simp [intOf]; omega
        · obtain ⟨rfl, rfl, rfl⟩ := HLEFT.out.bad hplt (by rw [hef]; exact ce)
          have d1 : (ef == 0) = false := beq_eq_false_iff_ne.2 ce
          have HV := Lib.hid (show takeV (b.drop k) = 0 ∧ takeK (b.drop k) = 0 from take_bad (by rw [hef]; exact ce))
          by_cases hck : cap = k
          · have hzk : z = k := by omega
            subst hzk
            subst hck
            have HCD := Lib.hid (cel_drop0 (w := wr) (a := some ⟨g, off, none⟩) HBZ.out)
            have HEF := Lib.hid hef
            clear hef hex hek hplt
            go_wp2_with (go_at_call 11; with_reducible refine (ptake_at _ _ _ _ _ _ HCD HT).mono ?_; rintro e w3 ⟨rfl, rfl⟩)
            go_ret3
            exact ⟨_, by rw [HEF.out]; rfl, World.ownsRow_nil _ _ _ _, q⟩
          · have HCD := Lib.hid (cel_drop HBR.out hkz)
            have HEF := Lib.hid hef
            clear hef hex hek hplt
            go_wp2_with (go_at_call 11; with_reducible refine (ptake_at (b.drop k) _ _ _ _ _ HCD HT).mono ?_; rintro e w3 ⟨rfl, rfl⟩)
            go_ret3
            exact ⟨_, by rw [HEF.out]; rfl, World.ownsRow_nil _ _ _ _, q⟩
      · obtain rfl : p = n := by omega
        obtain ⟨rfl, rfl, rfl⟩ := HLEFT.out.done HP.out
        go_wp2
        go_ret3
        exact ⟨_, rfl, by rw [HP.out]; exact HROW.out, q⟩
  · have hE : listE b most = sf := by unfold listE; rw [if_pos (by rw [hsf]; exact c1), hsf]
    have hH := H.out
    unfold listV listK at hH
    rw [hE, if_neg c1, if_neg c1] at hH
    obtain ⟨rfl, rfl, rfl⟩ := hH
    have HS := Lib.hid (show SizeIs b most sf 0 0 by unfold SizeIs; rw [hsf, if_neg c1, if_neg c1]; exact ⟨rfl, rfl, rfl⟩)
    have d1 : (sf == 0) = false := beq_eq_false_iff_ne.2 c1
    clear H hE hsf
    go_enter Try.func22, Try.ntmps22
    go_wp2_with (go_at_call 35; with_reducible refine (pcount_at b _ most _ _ _ _ HB HS).mono ?_; rintro e w1 ⟨rfl, rfl⟩)
    go_ret3
    exact ⟨_, rfl, World.ownsRow_nil _ _ _ _, Own.refl _⟩
end Go.Proofs.Yteaidfocbhadjaa.WirW
