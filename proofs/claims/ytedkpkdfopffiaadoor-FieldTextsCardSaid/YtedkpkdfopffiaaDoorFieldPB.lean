/-
  Walk of the program of package field: Join. Condition: none.
-/
import Derived.Test.YtedkpkdfopffiaaDoorFieldPA
import Derived.Test.YtedkpkdfopffiaaDoorCells
import Derived.Lib.AppendStr
import Derived.Laws.IdiomStrings
import Derived.Deep.AppendLies
namespace Go.Proofs.YtedkpkdfopffiaaDoor.NamW
open Go.ChangeShapes Go.WideShapes Go.ChangeAt Go.RowKit
open PairW NamP StrW FldP CelW
theorem row_some {w : World} {base n : Nat} {e : TypeId} {v : Value} {xs : List Value} (h : w.ownsRow base e 1 v n xs) (h0 : 0 < n) : ∃ g cap, v = .slice (some ⟨g, 0, none⟩) n cap := by
  rcases h.2 with ⟨_, h2⟩ | ⟨g, cap, cur, rfl, _⟩
  · omega
  · exact ⟨g, cap, rfl⟩
theorem row_grew {w w1 w2 : World} {base n : Nat} {e : TypeId} {v : Value} {xs : List Value} (q : Own w w1) (h : w1.ownsRow base e 1 v n xs) (hg : w1.grownBy w2 v.ownBlock) (hb : w.heap.size ≤ base) : Own w w2 := q.grown hg fun k hk => by
  have := (h.lt k hk).1
  omega
/-- A row of bytes as a string. -/
theorem conv_row {P : Program} {w : World} {base n : Nat} {e0 : TypeId} {v : Value} {b : Bs} (h : w.ownsRow base e0 1 v n (cellsU b)) {src e dst : TypeId} (hs : P.underlying src = some (.slice e)) (he : P.underlying e = some (.int .u8)) (hd : P.underlying dst = some .string) :
    (convert src dst v).run P w = .ok (.string ⟨b.toArray⟩) w := by
  have hl : n = b.length := by have := h.1; rw [cellsU_len] at this; omega
  subst hl
  rcases h.2 with ⟨rfl, h2⟩ | ⟨g, cap, cur, rfl, _⟩
  · obtain rfl := List.eq_nil_of_length_eq_zero h2
    rw [run_convert_bytes_string w src dst e none _ _ hs he hd]
    simp [Conv.bytesToString]
    rfl
  · refine run_convert_bytes_back w src dst e ⟨g, 0, none⟩ cap b hs he hd fun j hj => ?_
    rw [Addr.add_lit, Nat.zero_add]
    exact (World.ownsRow.cellAt h j (by omega)).trans (cellsU_at hj)
theorem str_cells (r : ByteArray) : Lib.strCells r = cellsU (bs r) := rfl
theorem one_step {x : Bs} {r : List Bs} : fieldsE (x :: r) = if oneE x ≠ 0 then oneE x else fieldsE r := by
  rw [fields_step]
  unfold oneE
  by_cases h : 256 < x.length
  · rw [if_pos h, if_pos h, if_pos (by decide)]
  · rw [if_neg h, if_neg h]
    cases okB x with
    | true => rfl
    | false => rfl
theorem one_size {x : ByteArray} (h : oneE (bs x) = 0) : x.size ≤ 256 := by
  unfold oneE at h
  rw [bs_len] at h
  by_cases k : 256 < x.size
  · rw [if_pos k] at h; cases h
  · omega
theorem wr_pos {r : ByteArray} {x : Bs} (h : bs r = writtenB x) : 0 < r.size := by
  rw [← bs_len, h]
  exact List.length_pos_iff.2 (written_ne x)
theorem take_mono (l : Ss) (k : Nat) : (joinB (fl (l.take k))).length ≤ (joinB (fl l)).length := by
  have h := join_mono (fl (l.take k)) (fl (l.drop k))
  have e : fl (l.take k) ++ fl (l.drop k) = fl l := by
    unfold fl
    rw [← List.map_append, List.take_append_drop]
  rwa [e] at h
set_option maxRecDepth 100000 in
set_option maxHeartbeats 4000000 in
theorem pjoin_at (l : Ss) (sv : Value) (f : Int) (w : World) (HP : Hid (Strs w sv l)) (HS : Hid (Sm l)) (hlen : l.length ≤ 10000) (H : Hid (joinE (fl l) = f)) (M : Hid (Mx w)) :
    Calls Tryd.prog 12 #[sv] w fun e w' => ∃ r, e = .returned (.tuple #[.string r, .int .i64 f]) ∧ bs r = joinV (fl l) ∧ Own w w' := by
  obtain ⟨i0, hi, hz0, hz1, hz2⟩ := info_parts (show (Tryd.prog.info? 5).map (fun i => (i.zero, i.size, i.bytes)) = some (some (.int .u8 0), 1, 1) by kernel_rfl)
  have HI := Lib.hid hi
  have HZ0 := Lib.hid hz0
  have HZ1 := Lib.hid hz1
  have HZ2 := Lib.hid hz2
  clear hi hz0 hz1 hz2
  obtain ⟨A, cap, rfl, ha1, ha2, ha⟩ := HP.out
  unfold maxLen at ha2
  have HA := Lib.hid ha
  clear ha HP
  have HAM := Lib.hid (fun k (h : k < l.length) => HS.out.at_ h)
  have HDR := Lib.hid (fun k (h : k < l.length) => fl_drop h)
  have HTK := Lib.hid (fun k (h : k < l.length) => fl_take h)
  have HNI := Lib.hid (fun k (h : k ≤ l.length) => fl_nil_iff (k := k) h)
  have HTA := Lib.hid (show l.take l.length = l from List.take_length)
  have HDA := Lib.hid (show l.drop l.length = [] from List.drop_length)
  have HMO := Lib.hid (fun k => take_mono l k)
  obtain ⟨n, hn⟩ : ∃ n, l.length = n := ⟨_, rfl⟩
  rw [hn] at HA ha1 hlen HAM HDR HTK HNI HTA HDA ⊢
  clear hn HS
  obtain ⟨fe, hfe⟩ : ∃ x, fieldsE (fl l) = x := ⟨_, rfl⟩
  have HFE := Lib.hid hfe
  have HBAD := Lib.hid (fun (h : fe ≠ 0) => show f = fe ∧ joinV (fl l) = [] by
    have e : joinE (fl l) = fe := by unfold joinE; rw [hfe, if_pos h]
    refine ⟨by rw [← H.out, e], ?_⟩
    unfold joinV
    rw [e, if_neg h])
  have HOK := Lib.hid (fun (h : fe = 0) => show f = (if 1024 < (joinB (fl l)).length then 3 else 0) ∧ joinV (fl l) = if 1024 < (joinB (fl l)).length then [] else joinB (fl l) by
    have e : joinE (fl l) = if 1024 < (joinB (fl l)).length then 3 else 0 := by unfold joinE; rw [hfe, h, if_neg (by simp)]
    refine ⟨by rw [← H.out, e], ?_⟩
    unfold joinV
    rw [e]
    split
    · rw [if_neg (by decide)]
    · rw [if_pos rfl])
  clear hfe H
  go_enter Tryd.func12, Tryd.ntmps12
  go_wp2
  go_loop [12] (fun i => ∃ k : Nat, i = .int .i64 k ∧ k ≤ n ∧ fieldsE (fl (l.drop k)) = fe ∧ ∀ j, j < k → (atS l j).size ≤ 256) (fun i => n - (intOf i).toNat)
  case atStart => exact ⟨0, rfl, Nat.zero_le _, HFE.out, fun j hj => absurd hj (Nat.not_lt_zero _)⟩
  case round =>
    obtain ⟨k, rfl, hk, hfk, hsz⟩ := hrel
    have HSZ := Lib.hid hsz
    clear hsz
    by_cases hlt : k < n
    · obtain ⟨b, off, rfl, hc⟩ := HA.out (by omega)
      have e0 := hc k hlt
      clear hc
      have hkn : (k : Int) < n := by omega
      have hxs := HAM.out k hlt
      rw [HDR.out k hlt, one_step] at hfk
      obtain ⟨x, hx⟩ : ∃ x, atS l k = x := ⟨_, rfl⟩
      rw [hx] at e0 hxs hfk
      have HX := Lib.hid hx
      have HXS := Lib.hid hxs
      obtain ⟨g, hg⟩ : ∃ g, oneE (bs x) = g := ⟨_, rfl⟩
      have HG := Lib.hid hg
      rw [hg] at hfk
      clear hx hxs
      by_cases c1 : g = 0
      · subst c1
        rw [if_neg (by decide)] at hfk
        have HFK := Lib.hid hfk
        have HXZ := Lib.hid (one_size hg)
        clear hfk hg
        go_wp2_with (go_at_call 25; with_reducible refine (check_at x _ _ HXS.out HG).mono ?_; rintro e w1 ⟨rfl, rfl⟩)
        refine ⟨⟨k + 1, by go_num, hlt, HFK.out, fun j hj => ?_⟩, by simp [intOf] <;> omega⟩
        by_cases e : j = k
        · rw [e, HX.out]; exact HXZ.out
        · exact HSZ.out j (by omega)
      · rw [if_pos c1] at hfk
        obtain ⟨rfl, hv⟩ := HBAD.out (by rw [← hfk]; exact c1)
        have HV := Lib.hid hv
        have gb : (g != 0) = true := bne_iff_ne.2 c1
        subst hfk
        clear hv hg c1
        go_wp2_with (go_at_call 25; with_reducible refine (check_at x _ _ HXS.out HG).mono ?_; rintro e w1 ⟨rfl, rfl⟩)
        go_ret2
        exact ⟨⟨#[]⟩, rfl, by rw [HV.out], Own.refl _⟩
    · obtain rfl : n = k := by omega
      rw [HDA.out] at hfk
      have h0 : fe = 0 := by rw [← hfk]; rfl
      obtain ⟨hf, hv⟩ := HOK.out h0
      have HF := Lib.hid hf
      have HV := Lib.hid hv
      clear hfk hf hv h0 hlt hk
      go_wp2
      go_loopw [7, 24] (fun v i wr => ∃ (k : Nat) (b : Bs), i = .int .i64 k ∧ k ≤ n ∧ b.length ≤ 1024 ∧ b = joinB (fl (l.take k)) ∧ wr.ownsRow w.heap.size 5 1 v b.length (cellsU b) ∧ Own w wr) (fun _ i _ => n - (intOf i).toNat)
      case atStart => exact ⟨0, [], rfl, Nat.zero_le _, Nat.zero_le _, rfl, World.ownsRow_nil w _ _ _, Own.refl w⟩
      case round =>
        obtain ⟨k, b, rfl, hk, hbl, hb, hrow, q⟩ := hrel
        have HB := Lib.hid hb
        have HROW := Lib.hid hrow
        clear hb hrow
        by_cases hlt : k < n
        · obtain ⟨bk, off, rfl, hc⟩ := HA.out (by omega)
          have e0 := q.cell (hc k hlt)
          clear hc
          have hkn : (k : Int) < n := by omega
          have hxs := HSZ.out k hlt
          have HTKK := Lib.hid (HTK.out k hlt)
          have hni := HNI.out k hk
          have HMM := Lib.hid (HMO.out (k + 1))
          obtain ⟨x, hx⟩ : ∃ x, atS l k = x := ⟨_, rfl⟩
          rw [hx] at e0 hxs HTKK
          have HX1 : Hid (x.size ≤ 1000) := Lib.hid (by omega)
          clear hx
          by_cases h0 : k = 0
          · subst h0
            rw [Nat.add_zero] at e0
            clear hni
            obtain rfl : b = [] := HB.out
            go_upto_region 14 with (fail)
            go_upto_region 15 with (first
              | (go_at_call 26; with_reducible refine (pwritten_at x _ (mxo M q) HX1.out).mono ?_; rintro e w1 ⟨r, rfl, hr, hg⟩; have hrs : r.size ≤ 514 := wr_size hr hxs; have hrp : 0 < r.size := wr_pos hr; have HR := Lib.hid hr; clear hr; have HROW1 := Lib.hid (row_own HROW.out hg); have q1 := q.trans hg; clear hg)
              | (at_builtin; (refine Go.Lib.wpList_append_own_string _ rfl _ _ 48 9 rfl w.heap.size 5 i0 rfl rfl HI.out HZ0.out HZ1.out HZ2.out _ 0 _ rfl HROW1.out r rfl (by unfold maxLen; omega) (by omega) q1.size ?_; intro v2 w2 hown2 hgr2 _; have q2 := row_grew q1 HROW1.out hgr2 (Nat.le_refl _); obtain ⟨g2, cap2, rfl⟩ := row_some hown2 (by omega))))
            have HROW2 := Lib.hid (show w2.ownsRow w.heap.size 5 1 (.slice (some ⟨g2, 0, none⟩) r.size cap2) (bs r).length (cellsU (bs r)) by
              have h := hown2
              rw [Nat.zero_add, str_cells] at h
              rw [bs_len]
              exact h)
            have c1 : ¬ (1024 : Int) < r.size := by omega
            clear hown2 hgr2 HROW1 HROW
            go_wp2
            go_roundw
            case rel => exact ⟨1, bs r, by go_num, hlt, by rw [bs_len]; omega, by rw [HR.out, HTKK.out]; rfl, by rw [bs_len] at HROW2 ⊢; exact HROW2.out, q2⟩
            case measure => simp [intOf]; omega
          · have HN := Lib.hid (show fl (l.take k) ≠ [] from fun e => h0 (hni.1 e))
            have h0i : (0 : Int) < k := by omega
            clear hni
            go_upto_region 13 with (fail)
            have HROW0 := Lib.hid (HROW.out.alloc (.cells #[.int .u8 32] 5))
            have q0 : Own w (wr.alloc (.cells #[.int .u8 32] 5)) := q.alloc _
            clear HROW
            go_upto_region 14 with (at_builtin; refine wpList_append_lies _ rfl _ _ 48 rfl w.heap.size 5 i0 _ 1 1 Tryd.underlying48 HI.out HZ0.out HZ1.out HZ2.out rfl (by omega) _ b.length _ rfl HROW0.out ⟨wr.heap.size, 0, none⟩ 1 1 [.int .u8 32] rfl rfl (World.news_of_block (cs := #[.int .u8 32]) (t := 5) (fr := (0, 0)) (heap_alloc_new wr _)) (by simp [Value.oneCell']) (by omega) (by unfold maxLen; omega) (by omega) q0.size _ rfl ?_; intro g3 cap3 w3 hown3 hgr3 _ _)
            have q3 : Own w w3 := q0.grown hgr3 (fun j hj => (HROW0.out.lt j hj).1)
            have HROW3 := Lib.hid hown3
            clear hown3 hgr3 HROW0
            go_upto_region 15 with (first
              | (go_at_call 26; with_reducible refine (pwritten_at x _ (mxo M q3) HX1.out).mono ?_; rintro e w1 ⟨r, rfl, hr, hg⟩; have hrs : r.size ≤ 514 := wr_size hr hxs; have HR := Lib.hid hr; clear hr; have HROW1 := Lib.hid (row_own HROW3.out hg); have q1 := q3.trans hg; clear hg)
              | (at_builtin; (refine Go.Lib.wpList_append_own_string _ rfl _ _ 48 9 rfl w.heap.size 5 i0 rfl rfl HI.out HZ0.out HZ1.out HZ2.out _ (b.length + 1) _ rfl HROW1.out r rfl (by unfold maxLen; omega) (by omega) q1.size ?_; intro v2 w2 hown2 hgr2 _; have q2 := row_grew q1 HROW1.out hgr2 (Nat.le_refl _); obtain ⟨g2, cap2, rfl⟩ := row_some hown2 (by omega))))
            have HE := Lib.hid (show b ++ 32 :: bs r = joinB (fl (l.take (k + 1))) by rw [HTKK.out, join_snoc, if_neg HN.out, ← HR.out, ← HB.out])
            have HBL := Lib.hid (show (b ++ 32 :: bs r).length = b.length + 1 + r.size by rw [List.length_append, List.length_cons, bs_len]; omega)
            have HROW2 := Lib.hid (show w2.ownsRow w.heap.size 5 1 (.slice (some ⟨g2, 0, none⟩) (b.length + 1 + r.size) cap2) (b ++ 32 :: bs r).length (cellsU (b ++ 32 :: bs r)) by
              rw [HBL.out, show b ++ 32 :: bs r = b ++ [32] ++ bs r by simp, cellsU_app, cellsU_app, ← str_cells]
              exact hown2)
            clear hown2 hgr2 HROW1 HROW3
            by_cases c : 1024 < b.length + 1 + r.size
            · have hm := HMM.out
              rw [← HE.out, HBL.out] at hm
              obtain rfl : f = 3 := by rw [HF.out, if_pos (by omega)]
              have HVV := Lib.hid (show joinV (fl l) = [] by rw [HV.out, if_pos (by omega)])
              have c1 : (1024 : Int) < (b.length : Int) + 1 + r.size := by omega
              clear hm
              go_wp2
              go_ret2
              exact ⟨⟨#[]⟩, rfl, by rw [HVV.out], q2⟩
            · have c1 : ¬ (1024 : Int) < (b.length : Int) + 1 + r.size := by omega
              clear c
              go_wp2
              go_roundw
              case rel => exact ⟨k + 1, b ++ 32 :: bs r, by go_num, hlt, by rw [HBL.out]; omega, HE.out, HROW2.out, q2⟩
              case measure => simp [intOf]; omega
        · obtain rfl : n = k := by omega
          rw [HTA.out] at HB
          have hb := HB.out
          obtain rfl : f = 0 := by rw [HF.out, ← hb, if_neg (by omega)]
          have HVV := Lib.hid (show joinV (fl l) = b by rw [HV.out, ← hb, if_neg (by omega)])
          have c1 := conv_row (P := Tryd.prog) HROW.out (src := 48) (e := 5) (dst := 9) rfl rfl rfl
          obtain ⟨s, hs⟩ : ∃ s : ByteArray, (⟨b.toArray⟩ : ByteArray) = s := ⟨_, rfl⟩
          have HSB := Lib.hid (show bs s = b by rw [← hs])
          rw [hs] at c1
          clear hs hb
          go_wp2
          go_ret2
          exact ⟨s, rfl, by rw [HVV.out, HSB.out], q⟩
end Go.Proofs.YtedkpkdfopffiaaDoor.NamW
