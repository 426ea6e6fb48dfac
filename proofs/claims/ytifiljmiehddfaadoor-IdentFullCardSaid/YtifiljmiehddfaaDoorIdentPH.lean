/-
  Walk of the program's New: names checked and counted in a map, in order. Condition: none.
-/
import Derived.Test.YtifiljmiehddfaaDoorIdentPF
import Derived.Maps.Views
namespace Go.Proofs.YtifiljmiehddfaaDoor.NamW
open Go.ChangeShapes Go.WideShapes Go.ChangeAt Go.RowKit Go.Maps Go.WideMaps
open PairW NamP StrW
theorem numD_tidy (l : Ss) : Tidy (numD l) := by
  unfold numD
  generalize l.reverse = r
  induction r with
  | nil => exact tidy_empty
  | cons s r ih => exact ih.put (show WideAt.IsKeyLit (keyL s) from trivial) _
theorem numR_map (r : Ss) : IsMap (numR r) := by
  have := numD_map r.reverse
  unfold numD at this
  rwa [List.reverse_reverse] at this
theorem numR_has (s : ByteArray) : ∀ r : Ss, Maps.has (numR r) (keyL s) = true ↔ s ∈ r
  | [] => ⟨fun h => (by cases h), fun h => (by cases h)⟩
  | t :: r => by
    show Maps.has ((numR r).put (keyL t) _) (keyL s) = true ↔ _
    by_cases e : s = t
    · subst e
      rw [has_put_same (numR_map r) (show WideAt.IsKeyLit (keyL s) from trivial)]
      exact ⟨fun _ => List.mem_cons_self .., fun _ => rfl⟩
    · rw [has_put_other (keyL_ne e), numR_has s r]
      exact ⟨fun h => List.mem_cons_of_mem _ h, fun h => (List.mem_cons.1 h).resolve_left e⟩
theorem numR_size : ∀ r : Ss, (r.Nodup → Maps.size (numR r) = r.length) ∧ (¬ r.Nodup → Maps.size (numR r) < r.length)
  | [] => ⟨fun _ => rfl, fun h => absurd List.nodup_nil h⟩
  | t :: r => by
    obtain ⟨h1, h2⟩ := numR_size r
    have ht : Tidy (numR r) := by
      have := numD_tidy r.reverse
      unfold numD at this
      rwa [List.reverse_reverse] at this
    have hle : Maps.size (numR r) ≤ r.length := by
      by_cases h : r.Nodup
      · exact Nat.le_of_eq (h1 h)
      · exact Nat.le_of_lt (h2 h)
    have hs : Maps.size (numR (t :: r)) = if Maps.has (numR r) (keyL t) then Maps.size (numR r) else Maps.size (numR r) + 1 := size_put ht _
    by_cases e : t ∈ r
    · rw [if_pos ((numR_has t r).2 e)] at hs
      refine ⟨fun h => absurd e (List.nodup_cons.1 h).1, fun _ => ?_⟩
      rw [hs, List.length_cons]
      omega
    · rw [if_neg (fun h => e ((numR_has t r).1 h))] at hs
      refine ⟨fun h => ?_, fun h => ?_⟩
      · rw [hs, h1 (List.nodup_cons.1 h).2]; rfl
      · have := h2 (fun k => h (List.nodup_cons.2 ⟨e, k⟩))
        rw [hs, List.length_cons]
        omega
theorem numD_size (l : Ss) : (l.Nodup → Maps.size (numD l) = l.length) ∧ (¬ l.Nodup → Maps.size (numD l) < l.length) := by
  have := numR_size l.reverse
  rw [List.length_reverse, (List.reverse_perm l).nodup_iff] at this
  exact this
theorem new_two {l : Ss} (hv : l.all vldS = true) (hd : ¬ l.Nodup) : newE l = 7 := by
  unfold newE
  rw [if_pos hv, if_neg hd]
theorem row_zero {w : World} {base : Nat} {e : TypeId} {size : Nat} {v : Value} {n : Nat} {xs : List Value} (h : w.ownsRow base e size v n xs) : w.ownsRow 0 e size v n xs := by
  refine ⟨h.1, h.2.imp id ?_⟩
  rintro ⟨g, cap, cur, h1, _, h2⟩
  exact ⟨g, cap, cur, h1, Nat.zero_le _, h2⟩
set_option maxRecDepth 100000 in
set_option maxHeartbeats 4000000 in
theorem pnew_at (l : Ss) (sv : Value) (f : Int) (w : World) (HP : Hid (Strs w sv l)) (HS : Hid (Short l)) (hlen : l.length ≤ 1000) (H : Hid (newE l = f)) :
    Calls Tryd.prog 16 #[sv] w (NewRet MTab l f w) := by
  have HP0 := HP
  obtain ⟨A, cap, rfl, ha1, ha2, ha⟩ := HP.out
  unfold maxLen at ha2
  have HA := Lib.hid ha
  clear ha HP
  have HTK := Lib.hid (fun k (h : k < l.length) => takeS h)
  have HAM := Lib.hid (fun k (h : k < l.length) => HS.out.at_ h)
  have HB := Lib.hid (fun k (h : k < l.length) (hv : vldS (atS l k) = false) => new_bad h hv)
  have HV := Lib.hid (fun (h : ∀ j, j < l.length → vldS (atS l j) = true) => all_vld h)
  have HTW := Lib.hid (fun hv hd => new_two (l := l) hv hd)
  have HFU := Lib.hid (fun hv hd (h : 512 < l.length) => new_full hv hd h)
  have HOK := Lib.hid (fun hv hd (h : ¬ 512 < l.length) => new_ok hv hd h)
  have HTA := Lib.hid (show l.take l.length = l from List.take_length)
  have HSZ := Lib.hid (numD_size l)
  have HLEN := Lib.hid (show l.length ≤ 100000 by omega)
  rw [H.out] at HB HTW HFU HOK
  obtain ⟨n, hn⟩ : ∃ n, l.length = n := ⟨_, rfl⟩
  rw [hn] at HA ha1 hlen HTK HAM HB HV HFU HOK HTA HSZ HP0 HLEN ⊢
  have HN := Lib.hid hn
  clear hn H
  have hmm := @run_makeMap Tryd.prog
  go_enter Tryd.func16, Tryd.ntmps16
  go_wp2
  have q0 : Own w (w.alloc (.map #[] 0)) := (Own.refl w).alloc _
  have HM0 : Hid ((w.alloc (.map #[] 0)).ownsMap Tryd.prog 9 (plainElem Tryd.prog 3) w.heap.size 0 (numD (l.take 0))) := Lib.hid (World.ownsMap_made w _ _ _)
  obtain ⟨B, hB⟩ : ∃ B, w.heap.size = B := ⟨_, rfl⟩
  have HBB := Lib.hid hB
  rw [hB] at HM0 ⊢
  clear hB hmm
  generalize w.alloc (.map #[] 0) = W0 at *
  go_loopw [10] (fun i wr => ∃ k : Nat, i = .int .i64 k ∧ k ≤ n ∧ Own w wr ∧ wr.ownsMap Tryd.prog 9 (plainElem Tryd.prog 3) B k (numD (l.take k)) ∧ ∀ j, j < k → vldS (atS l j) = true) (fun i _ => n - (intOf i).toNat)
  case atStart => exact ⟨0, rfl, Nat.zero_le _, q0, HM0.out, fun j hj => absurd hj (Nat.not_lt_zero _)⟩
  case round =>
    clear HM0 q0
    obtain ⟨k, rfl, hk, q, hmap, hok⟩ := hrel
    have HOKV := Lib.hid hok
    have HMM := Lib.hid hmap
    clear hok hmap
    by_cases hlt : k < n
    · obtain ⟨b, off, rfl, hc⟩ := HA.out (by omega)
      have e0 := q.cell (hc k hlt)
      clear hc
      have hkn : (k : Int) < n := by omega
      have hxs := HAM.out k hlt
      have hbad := HB.out k hlt
      have htk := HTK.out k hlt
      obtain ⟨x, hx⟩ : ∃ x, atS l k = x := ⟨_, rfl⟩
      rw [hx] at e0 hxs hbad htk
      have HX := Lib.hid hx
      have HXS := Lib.hid hxs
      have HTKK := Lib.hid htk
      have hkey := keyOf_string_mk Tryd.underlying9 hxs
      obtain ⟨tx, htx⟩ : ∃ t, vldS x = t := ⟨_, rfl⟩
      have HVX : Hid (vldB (bs x) = tx) := Lib.hid htx
      cases tx
      · have HF := Lib.hid (hbad htx)
        clear hx hxs hbad htx htk hkey
        go_wp2_with (go_at_call 11; with_reducible refine (pvalid_at x _ _ HXS.out HVX).mono ?_; rintro e w1 ⟨rfl, rfl⟩)
        go_ret2
        exact NewRet.bad HF.out (by decide) q
      · have HT := Lib.hid (show vldS (atS l k) = true by rw [hx]; exact htx)
        have HD := Lib.hid (numD_snoc (l.take k) x)
        have HLK := Lib.hid (show (l.take k).length = k by rw [List.length_take, HN.out]; omega)
        rw [HLK.out] at HD
        have wfn : (Lit.int .i64 (k : Int)).wf = true := WalkArith.wf_i64 ⟨by omega, by omega⟩
        clear hx hxs hbad htx htk
        go_wp2_with (first | (go_at_call 11; with_reducible refine (pvalid_at x _ _ HXS.out HVX).mono ?_; rintro e w1 ⟨rfl, rfl⟩) | (at_mapUpdate; refine wpList_mapUpdate_own _ rfl _ _ _ 50 rfl 9 3 keyS Tryd.underlying50 _ B k _ rfl HMM.out (by unfold maxLen; omega) _ _ _ rfl rfl hkey _ [] (plainElem_int Tryd.underlying3 wfn) ?_; intro w1 hown1 hgrow1))
        go_roundw
        case rel => exact ⟨k + 1, by go_num, hlt, q.grown hgrow1 (fun j hj => by injection hj with hj; rw [← hj, HBB.out]; exact Nat.le_refl _), by rw [HTKK.out, HD.out]; exact hown1, fun j hj => by
            by_cases e : j = k
            · rw [e]; exact HT.out
            · exact HOKV.out j (by omega)⟩
        case measure => simp [intOf]; omega
    · obtain rfl : n = k := by omega
      have HALL := Lib.hid (HV.out HOKV.out)
      have HMM2 := Lib.hid (show wr.ownsMap Tryd.prog 9 (plainElem Tryd.prog 3) B n (numD l) by have := HMM.out; rwa [HTA.out] at this)
      clear hlt hk HMM
      generalize wr = wa at *
      obtain ⟨z, hz⟩ : ∃ z, Maps.size (numD l) = z := ⟨_, rfl⟩
      rw [hz] at HSZ
      have HZ := Lib.hid hz
      clear hz
      by_cases hd : l.Nodup
      · have hzn := HSZ.out.1 hd
        have hzi : ¬ (z : Int) < n := by omega
        by_cases hb : 512 < n
        · have HF := Lib.hid (HFU.out HALL.out hd hb)
          have hbi : (512 : Int) < n := by omega
          clear hd
          go_wp2_with (at_len; refine wpList_len_own _ rfl _ 50 rfl 9 3 Tryd.underlying50 _ B n _ rfl HMM2.out ?_; rw [HZ.out])
          go_ret2
          exact NewRet.bad HF.out (by decide) q
        · have HF := Lib.hid (HOK.out HALL.out hd hb)
          have hbi : ¬ (512 : Int) < n := by omega
          have HND := Lib.hid hd
          clear hd
          have HPA := Lib.hid (HP0.out.own q)
          go_upto_region 13 with (at_len; refine wpList_len_own _ rfl _ 50 rfl 9 3 Tryd.underlying50 _ B n _ rfl HMM2.out ?_; rw [HZ.out])
          go_wp2_with (go_at_call 34; with_reducible refine (clone_to l _ n _ HPA HN HLEN.out).mono ?_; rintro e w1 ⟨A1, cap1, rfl, hrow, hg⟩)
          have g3 : Own w1 (w1.alloc (.cells #[.slice A1 n cap1, .map (some B)] 53)) := (Own.refl w1).alloc _
          have hc0 : (w1.alloc (.cells #[.slice A1 n cap1, .map (some B)] 53)).cell? ⟨w1.heap.size, 0, none⟩ = some (.slice A1 n cap1) := by go_simp
          have hc1 : (w1.alloc (.cells #[.slice A1 n cap1, .map (some B)] 53)).cell? ⟨w1.heap.size, 1, none⟩ = some (.map (some B)) := by go_simp
          have hf0 : (w1.alloc (.cells #[.slice A1 n cap1, .map (some B)] 53)).frozen? ⟨w1.heap.size, 0, none⟩ = false := by go_simp
          have hr4 := row_zero (row_own hrow g3)
          have hm4 := map_same (map_same HMM2.out (hg.block B HMM2.out.lt)) (g3.block B (Nat.lt_of_lt_of_le HMM2.out.lt hg.size))
          have hBl := HMM2.out.lt
          have hs1 := hg.size
          have hs0 := q.size
          have hob : ∀ j, (Value.slice A1 n cap1).ownBlock = some j → wa.heap.size ≤ j ∧ j < w1.heap.size := fun j hj => hrow.lt j hj
          go_ret2
          refine .inr ⟨HF.out, w1.heap.size, fun j => j = w1.heap.size ∨ j = B ∨ (Value.slice A1 n cap1).ownBlock = some j, rfl, (q.trans hg).trans g3, ⟨⟨.slice A1 n cap1, B, hc0, hf0, hc1, ?_, ?_, ?_, ?_, ?_, fun j => Iff.rfl⟩, HS.out, HND.out, by rw [HN.out]; exact hlen, fun s hs => List.all_eq_true.1 HALL.out s hs⟩, fun j hj => ?_⟩
          · rw [HN.out]; exact hr4
          · rw [HN.out]; exact hm4
          · intro e; have := (hob _ e).2; omega
          · intro e; have := (hob _ e).1; omega
          · omega
          · have hb := HBB.out
            rcases hj with rfl | rfl | h
            · omega
            · omega
            · have := (hob j h).1; omega
      · have hzn := HSZ.out.2 hd
        have hzi : (z : Int) < n := by omega
        have HF := Lib.hid (HTW.out HALL.out hd)
        clear hd
        go_wp2_with (at_len; refine wpList_len_own _ rfl _ 50 rfl 9 3 Tryd.underlying50 _ B n _ rfl HMM2.out ?_; rw [HZ.out])
        go_ret2
        exact NewRet.bad HF.out (by decide) q
end Go.Proofs.YtifiljmiehddfaaDoor.NamW
