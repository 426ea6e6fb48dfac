/-
  Walks of the specification of package field: SameLines and Numbers. Condition: none.
-/
import Derived.Test.YtedkpkdfopffiaaDoorFieldR
namespace Go.Proofs.YtedkpkdfopffiaaDoor.NamW
open Go.ChangeShapes Go.WideShapes Go.ChangeAt Go.RowKit
open PairW NamP StrW FldP
/-- The slice value v holds slices that hold the lists of L. -/
def Lns (w : World) (v : Value) (L : List Ss) : Prop :=
  ∃ (A : Option Addr) (cap : Nat), v = .slice A L.length cap ∧ L.length ≤ cap ∧ cap ≤ maxLen ∧
    (0 < L.length → ∃ b off : Nat, A = some ⟨b, off, none⟩ ∧ ∀ i, i < L.length → ∃ sv, w.cell? ⟨b, off + i, none⟩ = some sv ∧ Strs w sv (L.getD i []))
theorem Lns.own {w w' : World} {v : Value} {L : List Ss} (h : Lns w v L) (hg : Own w w') : Lns w' v L := by
  obtain ⟨A, cap, h1, h2, h3, h4⟩ := h
  refine ⟨A, cap, h1, h2, h3, fun h0 => ?_⟩
  obtain ⟨b, off, h5, h6⟩ := h4 h0
  refine ⟨b, off, h5, fun i hi => ?_⟩
  obtain ⟨sv, h7, h8⟩ := h6 i hi
  exact ⟨sv, hg.cell h7, h8.own hg⟩
theorem Drew.own {w w' : World} (h : Drew w w') : Own w w' := Own.of_drew h
theorem Drew.trans {a b c : World} (h : Drew a b) (k : Drew b c) : Drew a c := by
  obtain ⟨n, rfl⟩ := k
  exact Drew.more h n
set_option maxRecDepth 100000 in
theorem sameL_yes (L : List Ss) (va vb : Value) (w : World) (HA : Hid (Lns w va L)) (HB : Hid (Lns w vb L)) :
    Calls Tryd.prog 19 #[va, vb] w fun e w' => e = .returned (.bool true) ∧ Drew w w' := by
  obtain ⟨A, ca, rfl, ha1, ha2, ha⟩ := HA.out
  obtain ⟨B, cb, rfl, hb1, hb2, hb⟩ := HB.out
  unfold maxLen at ha2 hb2
  have HCA := Lib.hid ha
  have HCB := Lib.hid hb
  clear ha hb HA HB
  obtain ⟨n, hn⟩ : ∃ n, L.length = n := ⟨_, rfl⟩
  rw [hn] at HCA HCB ha1 hb1 ⊢
  clear hn
  go_enter Tryd.func19, Tryd.ntmps19
  go_wp2
  go_loopw [5] (fun i wr => ∃ k : Nat, i = .int .i64 k ∧ k ≤ n ∧ Drew w wr) (fun i _ => n - (intOf i).toNat)
  case atStart => exact ⟨0, rfl, Nat.zero_le _, Drew.refl' w⟩
  case round =>
    obtain ⟨k, rfl, hk, q⟩ := hrel
    by_cases hlt : k < n
    · obtain ⟨b, off, rfl, hc⟩ := HCA.out (by omega)
      obtain ⟨b2, off2, rfl, hc2⟩ := HCB.out (by omega)
      obtain ⟨sa, ea, sa2⟩ := hc k hlt
      obtain ⟨sb, eb, sb2⟩ := hc2 k hlt
      have e0 := Drew.cell q ea
      have e1 := Drew.cell q eb
      have HSA := Lib.hid (fun m : Nat => (sa2.own (Drew.own q)).own ((Own.refl wr).drewN m))
      have HSB := Lib.hid (fun m : Nat => (sb2.own (Drew.own q)).own ((Own.refl wr).drewN m))
      clear hc hc2 ea eb sa2 sb2
      have hkn : (k : Int) < n := by omega
      generalize L.getD k [] = l at HSA HSB
      go_upto_region 6 with (fail)
      go_quiet ((go_at_call 16; (first | (refine Calls.quiet_of (same_yes l sa sb _ (Lib.hid (HSA.out _)) (Lib.hid (HSB.out _)))) | (refine quiet_add (same_yes l sa sb _ (Lib.hid (HSA.out _)) (Lib.hid (HSB.out _)))))))
      go_wp2
      go_roundw
      case rel => exact ⟨k + 1, by go_num, hlt, Drew.more q _⟩
      case measure => simp [intOf]; omega
    · obtain rfl : n = k := by omega
      go_wp2
      go_ret
      exact ⟨rfl, q⟩
/-- The error and the numbers of several strings. -/
def numbersE : List Bs → Int
  | [] => 0
  | x :: r => if numberE x ≠ 0 then numberE x else numbersE r
def numbersV (l : List Bs) : List Int := if numbersE l = 0 then l.map numberV else []
def cellsZ (l : List Int) : List Value := l.map (Value.int .i64)
theorem numbers_bad {l : Ss} {k : Nat} {f : Int} (h : k < l.length) (he : numbersE (fl l) = numbersE (fl (l.drop k))) (hf : numberE (bs (atS l k)) = f) (h0 : f ≠ 0) : numbersE (fl l) = f ∧ numbersV (fl l) = [] := by
  have e : numbersE (fl l) = f := by
    rw [he, fl_drop h]
    show (if _ then _ else _) = _
    rw [hf, if_pos h0]
  exact ⟨e, by unfold numbersV; rw [e, if_neg h0]⟩
theorem numbers_step {l : Ss} {k : Nat} (h : k < l.length) (he : numbersE (fl l) = numbersE (fl (l.drop k))) (hf : numberE (bs (atS l k)) = 0) : numbersE (fl l) = numbersE (fl (l.drop (k + 1))) := by
  rw [he, fl_drop h]
  show (if _ then _ else _) = _
  rw [hf, if_neg (by decide)]
theorem numbers_end {l : Ss} (he : numbersE (fl l) = numbersE (fl (l.drop l.length))) : numbersE (fl l) = 0 ∧ numbersV (fl l) = (fl l).map numberV := by
  have e : numbersE (fl l) = 0 := by rw [he, List.drop_length]; rfl
  exact ⟨e, by unfold numbersV; rw [if_pos e]⟩
theorem numbers_take {l : Ss} {k : Nat} (h : k < l.length) : cellsZ ((fl (l.take (k + 1))).map numberV) = cellsZ ((fl (l.take k)).map numberV) ++ [.int .i64 (numberV (bs (atS l k)))] := by
  rw [fl_take h]
  unfold cellsZ
  rw [List.map_append, List.map_append]
  rfl
/-- No string is longer than 100000 bytes. -/
def Sm (l : Ss) : Prop := ∀ s ∈ l, s.size ≤ 100000
theorem Sm.at_ {l : Ss} (h : Sm l) {i : Nat} (hi : i < l.length) : (atS l i).size ≤ 100000 := h _ (atS_mem hi)
theorem Sm.short {l : Ss} (h : Sm l) : Short l := fun s hs => by have := h s hs; unfold maxLen; omega
set_option maxRecDepth 100000 in
set_option maxHeartbeats 2000000 in
theorem rnumbers_at (l : Ss) (sv : Value) (f : Int) (w : World) (HP : Hid (Strs w sv l)) (HS : Hid (Sm l)) (hlen : l.length ≤ 10000) (H : Hid (numbersE (fl l) = f)) :
    Calls Tryd.prog 21 #[sv] w fun e w' => ∃ v, e = .returned (.tuple #[v, .int .i64 f]) ∧ w'.ownsRow w.heap.size 3 1 v (numbersV (fl l)).length (cellsZ (numbersV (fl l))) ∧ Own w w' := by
  obtain ⟨i0, hi, hz0, hz1, hz2⟩ := info_parts (show (Tryd.prog.info? 3).map (fun i => (i.zero, i.size, i.bytes)) = some (some (.int .i64 0), 1, 8) by kernel_rfl)
  have HI := Lib.hid hi
  have HZ0 := Lib.hid hz0
  have HZ1 := Lib.hid hz1
  have HZ2 := Lib.hid hz2
  clear hi hz0 hz1 hz2
  obtain ⟨A, cap, rfl, ha1, ha2, ha⟩ := HP.out
  unfold maxLen at ha2
  have HA := Lib.hid ha
  clear ha HP
  have HAM := Lib.hid (fun k (h : k < l.length) => HS.out.at_ h)
  have HB := Lib.hid (fun k f (h : k < l.length) he hf h0 => numbers_bad (l := l) (k := k) (f := f) h he hf h0)
  have HST := Lib.hid (fun k (h : k < l.length) he hf => numbers_step (l := l) (k := k) h he hf)
  have HEN := Lib.hid (fun he => numbers_end (l := l) he)
  have HTK := Lib.hid (fun k (h : k < l.length) => numbers_take (l := l) (k := k) h)
  have HTA := Lib.hid (show l.take l.length = l from List.take_length)
  have HLL := Lib.hid (show (fl l).length = l.length from by unfold fl; exact List.length_map ..)
  rw [H.out] at HB HEN
  obtain ⟨n, hn⟩ : ∃ n, l.length = n := ⟨_, rfl⟩
  rw [hn] at HA ha1 hlen HAM HB HST HEN HTK HTA HLL ⊢
  clear hn HS
  go_enter Tryd.func21, Tryd.ntmps21
  go_wp2
  go_loopw [4, 5] (fun v i wr => ∃ k : Nat, i = .int .i64 k ∧ k ≤ n ∧ Own w wr ∧ wr.ownsRow w.heap.size 3 1 v k (cellsZ ((fl (l.take k)).map numberV)) ∧ numbersE (fl l) = numbersE (fl (l.drop k))) (fun _ i _ => n - (intOf i).toNat)
  case atStart => exact ⟨0, rfl, Nat.zero_le _, Own.refl w, World.ownsRow_nil w _ _ _, by rw [List.drop_zero]⟩
  case round =>
    obtain ⟨k, rfl, hk, q, hrow, he⟩ := hrel
    have HE := Lib.hid he
    have HROW := Lib.hid hrow
    clear hrow he
    by_cases hlt : k < n
    · obtain ⟨b, off, rfl, hc⟩ := HA.out (by omega)
      have e0 := q.cell (hc k hlt)
      clear hc
      have hkn : (k : Int) < n := by omega
      have hxs := HAM.out k hlt
      have hbad := HB.out k
      have hstep := HST.out k hlt HE.out
      have htk := HTK.out k hlt
      obtain ⟨x, hx⟩ : ∃ x, atS l k = x := ⟨_, rfl⟩
      rw [hx] at e0 hxs hbad hstep htk
      have HXS := Lib.hid hxs
      have HTKK := Lib.hid htk
      obtain ⟨nv, hnv⟩ : ∃ v, numberV (bs x) = v := ⟨_, rfl⟩
      obtain ⟨ne, hne⟩ : ∃ v, numberE (bs x) = v := ⟨_, rfl⟩
      rw [hnv] at HTKK
      have HNV := Lib.hid (And.intro hnv hne)
      by_cases h0 : ne = 0
      · subst h0
        have HSTEP := Lib.hid (hstep hne)
        clear hx hxs hbad hstep htk hnv hne
        go_upto_region 8 with (go_at_call 23; with_reducible refine (rnumber_at x nv 0 _ HXS.out HNV).mono ?_; rintro e w1 ⟨rfl, rfl⟩)
        have HROW1 := Lib.hid (HROW.out.alloc (.cells #[.int .i64 nv] 3))
        have q1 : Own w (wr.alloc (.cells #[.int .i64 nv] 3)) := q.alloc _
        clear HROW
        go_wp2_with (at_builtin; refine wpList_append_lies _ rfl _ _ 39 rfl w.heap.size 3 i0 _ 1 8 Tryd.underlying39 HI.out HZ0.out HZ1.out HZ2.out rfl (by omega) _ _ _ rfl HROW1.out ⟨wr.heap.size, 0, none⟩ 1 1 [.int .i64 nv] rfl rfl (World.news_of_block (cs := #[.int .i64 nv]) (t := 3) (fr := (0, 0)) (heap_alloc_new wr _)) (by simp [Value.oneCell']) (by omega) (by unfold maxLen; omega) (by omega) q1.size _ rfl ?_)
        intro gg cap4 w4 hown hgr hat hlt4
        have hO : Own w w4 := q1.grown hgr (fun j hj => (HROW1.out.lt j hj).1)
        have HROW4 := Lib.hid hown
        clear hown hgr hat HROW1
        go_wp2
        go_roundw
        case rel => exact ⟨k + 1, by go_num, hlt, hO, by rw [HTKK.out]; exact HROW4.out, HSTEP.out⟩
        case measure => simp [intOf]; omega
      · have hb := hbad ne hlt (H.out.symm.trans HE.out) hne h0
        obtain rfl := hb.1
        have HV := Lib.hid hb.2
        have hbe : (f != 0) = true := bne_iff_ne.2 h0
        clear hx hxs hbad hstep htk hnv hne hb
        go_wp2_with (go_at_call 23; with_reducible refine (rnumber_at x nv f _ HXS.out HNV).mono ?_; rintro e w1 ⟨rfl, rfl⟩)
        go_ret2
        exact ⟨_, rfl, by rw [HV.out]; exact World.ownsRow_nil _ _ _ _, q⟩
    · obtain rfl : n = k := by omega
      have hend := HEN.out (H.out.symm.trans HE.out)
      obtain rfl := hend.1
      have HV := Lib.hid hend.2
      clear hend
      go_wp2
      go_ret2
      refine ⟨_, rfl, ?_, q⟩
      have hr := HROW.out
      rw [HTA.out] at hr
      rw [HV.out, List.length_map, HLL.out]
      exact hr
end Go.Proofs.YtedkpkdfopffiaaDoor.NamW
