/-
  Walk of New of the specification of package ident: what a call returns for every input. Condition: none.
-/
import Derived.Test.YtifiljmiehddfaaDoorIdentQ
namespace Go.Proofs.YtifiljmiehddfaaDoor.NamW
open Go.ChangeShapes Go.WideShapes Go.ChangeAt Go.RowKit
open PairW NamP StrW
theorem held_take {P : Program} {l : List Oper} {Q : Exit → Act → World → Prop} {md : Region.Mode} {S : World → Prop} {i : Nat} {oi : Oper} {r : List Oper} {v : Value} {fuel : Nat} {listed : Array Bool} {a : Act} {w : World} (hd : l.drop i = oi :: r)
    (hs : Region.noSelect l.toArray = true) (hf : Region.free md l.toArray listed i = true) (hr : (Region.ready md l.toArray listed).contains i = true)
    (hQ : ∀ c a w, Q (.panic c) (a.put oi.dst v) w → Q (.panic c) a w) (hy : YieldsIf P l.toArray S oi v a) (hS : S w)
    (h : wpAnyH P md l.toArray Q S fuel (listed.setIfInBounds i true) (a.put oi.dst v) w) : wpAnyH P md l.toArray Q S (fuel + 1) listed a w :=
  wpAnyH_take (by have := congrArg (·[0]?) hd; simpa [List.getElem?_drop] using this) hs hf hr hQ hy hS h
theorem held_cons {P : Program} {l : List Oper} {Q : Exit → Act → World → Prop} {md : Region.Mode} {S : World → Prop} {fuel : Nat} {listed : Array Bool} {a : Act} {w : World} {i : Nat} {o : Oper} {r : List Oper} {rs : List Nat} (hd : l.drop i = o :: r)
    (h : ∀ K' : Act → World → Prop, Shut (∀ a w, S w → (S w → wpAnyH P md l.toArray Q S fuel (listed.setIfInBounds i true) a w) → K' a w) → if Region.wanted o (yielded l.toArray a.tmps) = true then Oper.wp P o a w K' Q else K' (a.put o.dst undef) w)
    (hs : AllReadyH P md l.toArray Q S fuel listed a w rs) : AllReadyH P md l.toArray Q S fuel listed a w (i :: rs) :=
  AllReadyH.cons (by have := congrArg (·[0]?) hd; simpa [List.getElem?_drop] using this) h hs
set_option maxRecDepth 100000 in
set_option maxHeartbeats 4000000 in
theorem rnew_at (l : Ss) (sv : Value) (f : Int) (w : World) (HP : Hid (Strs w sv l)) (HS : Hid (Short l)) (hlen : l.length ≤ 1000) (H : Hid (newE l = f)) :
    Calls Tryd.prog 20 #[sv] w (NewRet RTab l f w) := by
  obtain ⟨i0, hi, hz0, hz1, hz2⟩ := info_parts (show (Tryd.prog.info? 9).map (fun i => (i.zero, i.size, i.bytes)) = some (some (.string ⟨#[]⟩), 1, 16) by kernel_rfl)
  have HI := Lib.hid hi
  have HZ0 := Lib.hid hz0
  have HZ1 := Lib.hid hz1
  have HZ2 := Lib.hid hz2
  clear hi hz0 hz1 hz2
  obtain ⟨A, cap, rfl, ha1, ha2, ha⟩ := HP.out
  unfold maxLen at ha2
  have HA := Lib.hid ha
  clear ha HP
  have HTK := Lib.hid (fun k (h : k < l.length) => takeS h)
  have HAM := Lib.hid (fun k (h : k < l.length) => HS.out.at_ h)
  have HST := Lib.hid (fun k (s : ByteArray) (h : s ∈ l.take k) => HS.out s (List.mem_of_mem_take h))
  have HB := Lib.hid (fun k (h : k < l.length) (hv : vldS (atS l k) = false) => new_bad h hv)
  have HV := Lib.hid (fun (h : ∀ j, j < l.length → vldS (atS l j) = true) => all_vld h)
  have HTW := Lib.hid (fun k hv (h : k < l.length) hm => new_twice (l := l) (k := k) hv h hm)
  have HND := Lib.hid (fun (h : ∀ j, j < l.length → atS l j ∉ l.take j) => nodup_of h)
  have HFU := Lib.hid (fun hv hd (h : 512 < l.length) => new_full hv hd h)
  have HOK := Lib.hid (fun hv hd (h : ¬ 512 < l.length) => new_ok hv hd h)
  have HTL := Lib.hid (fun k (h : k < l.length) => show (l.take k).length = k by rw [List.length_take]; omega)
  have HTA := Lib.hid (show l.take l.length = l from List.take_length)
  rw [H.out] at HB HTW HFU HOK
  obtain ⟨n, hn⟩ : ∃ n, l.length = n := ⟨_, rfl⟩
  rw [hn] at HA ha1 hlen HTK HAM HB HV HTW HND HFU HOK HTL HTA ⊢
  have HN := Lib.hid hn
  clear hn HS H
  go_enter Tryd.func20, Tryd.ntmps20
  go_wp2
  go_loopw [4] (fun i wr => ∃ k : Nat, i = .int .i64 k ∧ k ≤ n ∧ Own w wr ∧ ∀ j, j < k → vldS (atS l j) = true) (fun i _ => n - (intOf i).toNat)
  case atStart => exact ⟨0, rfl, Nat.zero_le _, Own.refl w, fun j hj => absurd hj (Nat.not_lt_zero _)⟩
  case round =>
    obtain ⟨k, rfl, hk, q, hok⟩ := hrel
    have HOKV := Lib.hid hok
    clear hok
    by_cases hlt : k < n
    · obtain ⟨b, off, rfl, hc⟩ := HA.out (by omega)
      have e0 := q.cell (hc k hlt)
      clear hc
      have hkn : (k : Int) < n := by omega
      have hxs := HAM.out k hlt
      have hbad := HB.out k hlt
      obtain ⟨x, hx⟩ : ∃ x, atS l k = x := ⟨_, rfl⟩
      rw [hx] at e0 hxs hbad
      have HX := Lib.hid hx
      have HXS := Lib.hid hxs
      obtain ⟨tx, htx⟩ : ∃ t, vldS x = t := ⟨_, rfl⟩
      have HVX : Hid (vldB (bs x) = tx) := Lib.hid htx
      cases tx
      · have HF := Lib.hid (hbad htx)
        clear hx hxs hbad htx
        go_wp2_with (go_at_call 12; with_reducible refine (rvalid_at x _ _ HXS.out HVX).mono ?_; rintro e w1 ⟨rfl, rfl⟩)
        go_ret2
        exact NewRet.bad HF.out (by decide) q
      · have HT := Lib.hid (show vldS (atS l k) = true by rw [hx]; exact htx)
        clear hx hxs hbad htx
        go_wp2_with (go_at_call 12; with_reducible refine (rvalid_at x _ _ HXS.out HVX).mono ?_; rintro e w1 ⟨rfl, rfl⟩)
        go_roundw
        case rel => exact ⟨k + 1, by go_num, hlt, q, fun j hj => by
            by_cases e : j = k
            · rw [e]; exact HT.out
            · exact HOKV.out j (by omega)⟩
        case measure => simp [intOf]; omega
    · obtain rfl : n = k := by omega
      have HALL := Lib.hid (HV.out HOKV.out)
      clear hlt hk
      generalize wr = wa at *
      have HT0 : Hid (RTab (wa.alloc (.cells #[.slice none 0 0] 55)) (fun k => k = wa.heap.size) wa.heap.size []) := Lib.hid ⟨⟨.slice none 0 0, by go_simp, by go_simp, World.ownsRow_nil _ _ _ _, by simp [Value.ownBlock], fun k => by simp [Value.ownBlock]⟩, fun s hs => (by cases hs)⟩
      have q1 : Own w (wa.alloc (.cells #[.slice none 0 0] 55)) := q.alloc _
      have hgs := q.size
      go_wp2
      go_loopw [6] (fun i wr => ∃ (k : Nat) (F : Nat → Prop), i = .int .i64 k ∧ k ≤ n ∧ Own w wr ∧ RTab wr F wa.heap.size (l.take k) ∧ (∀ j, F j → w.heap.size ≤ j) ∧ ∀ j, j < k → atS l j ∉ l.take j) (fun i _ => n - (intOf i).toNat)
      case atStart => exact ⟨0, _, rfl, Nat.zero_le _, q1, HT0.out, fun j hj => by rw [hj]; exact hgs, fun j hj => absurd hj (Nat.not_lt_zero _)⟩
      case round =>
        obtain ⟨k, F, rfl, hk, q, hT, hF, hno⟩ := hrel
        have HNO := Lib.hid hno
        have HFF := Lib.hid hF
        clear hno hF
        by_cases hlt : k < n
        · obtain ⟨b, off, rfl, hc⟩ := HA.out (by omega)
          have e0 := q.cell (hc k hlt)
          have hbw : b < w.heap.size := block_lt_of_cell (hc k hlt)
          clear hc
          have hkn : (k : Int) < n := by omega
          have hxs := HAM.out k hlt
          have htk := HTK.out k hlt
          have htl := HTL.out k hlt
          obtain ⟨x, hx⟩ : ∃ x, atS l k = x := ⟨_, rfl⟩
          rw [hx] at e0 hxs htk
          have HX := Lib.hid hx
          have HXS := Lib.hid hxs
          have HTKK := Lib.hid htk
          clear hx hxs htk
          obtain ⟨v, h1, hfz, h3, h4, h5⟩ := hT.some
          have hsh := hT.short
          rw [htl] at h3
          have hps := strs_of_row (by rw [htl]; exact h3)
          obtain ⟨B, cb, hv, _, _, _⟩ := hps
          rw [htl] at hv
          subst hv
          have HPT := Lib.hid (strs_row h3 htl)
          have HROW := Lib.hid h3
          have HNE := Lib.hid h4
          have HF5 := Lib.hid h5
          have HSH := Lib.hid hsh
          clear h3 h4 h5 hsh hT htl
          obtain ⟨r, hr⟩ : ∃ r, findI x (l.take k) = r := ⟨_, rfl⟩
          have HR := Lib.hid hr
          have hneg := find_neg (s := x) (l := l.take k)
          rw [hr] at hneg
          have HNG := Lib.hid hneg
          clear hr hneg
          have c0 : ∀ z : After wr, z.w.cell? ⟨b, off + k, none⟩ = some (.string x) := fun z => z.o.cell e0
          have c1 : ∀ z : After wr, z.w.cell? ⟨wa.heap.size, 0, none⟩ = some (.slice B k cb) := fun z => z.o.cell h1
          go_upto_region 10 with (fail)
          refine region_after wr (by kernel_rfl) (by kernel_rfl) ?_
          repeat (first | go_big_quiet_step ((go_at_call 36; with_reducible refine (find_at (l.take k) (.slice B k cb) x r _ (Lib.hid (HPT.out.own (After.o _))) HR).mono ?_; rintro e wq ⟨rfl, hgq⟩; exact ⟨rfl, ⟨wq, (After.o _).trans hgq⟩, rfl⟩)) | quiet_step ((go_at_call 36; with_reducible refine (find_at (l.take k) (.slice B k cb) x r _ (Lib.hid (HPT.out.own (After.o _))) HR).mono ?_; rintro e wq ⟨rfl, hgq⟩; exact ⟨rfl, ⟨wq, (After.o _).trans hgq⟩, rfl⟩)))
          refine wpQuiet_nil ?_
          rintro _ ⟨z, rfl⟩
          have d4 := z.o
          generalize z.w = w5 at *
          clear c0 c1
          by_cases cr : 0 ≤ r
          · have HF := Lib.hid (HTW.out k HALL.out hlt (Classical.byContradiction fun h => by
              rw [HX.out] at h
              have := HNG.out.2 h
              omega))
            go_wp2
            go_ret2
            exact NewRet.bad HF.out (by decide) (q.trans d4)
          · have HNI := Lib.hid (HNG.out.1 (by omega))
            have cr2 : ¬ (0 : Int) ≤ r := cr
            clear cr
            have hgl := block_lt_of_cell h1
            replace hfz : w5.frozen? _ = _ := frozen_kept d4 h1 hfz
            replace h1 := d4.cell h1
            replace e0 := d4.cell e0
            have HROW5 := Lib.hid (row_own HROW.out d4)
            replace q := q.trans d4
            have hsz5 := d4.size
            have hgl5 : wa.heap.size < w5.heap.size := Nat.lt_of_lt_of_le hgl hsz5
            clear HPT HROW d4
            have hb5' : b < w.heap.size := hbw
            have o5 : Own w5 (w5.alloc (.cells #[.string x] 9)) := (Own.refl w5).alloc _
            have k1 := o5.cell h1
            have k2 := o5.cell e0
            have k3 : (w5.alloc (.cells #[.string x] 9)).frozen? ⟨wa.heap.size, 0, none⟩ = false := frozen_kept o5 h1 hfz
            have hg5 := block_lt_of_cell k1
            have hb5 := block_lt_of_cell k2
            clear o5
            have hbF := HF5.out b
            have hbw2 : ¬ F b := fun h => by have := HFF.out b h; omega
            have hbne : ∀ {w0 w1 : World} (_ : w0.grownBy w1 (Value.slice B k cb).ownBlock), some b ≠ (Value.slice B k cb).ownBlock := fun _ e => hbw2 (hbF.2 (.inr e.symm))
            clear hbF
            go_upto_region 12 with (fail)
            refine wp_region_noPanic ?_
            refine wp_region_held_drew (S := (fun w' => w'.frozen? ⟨wa.heap.size, 0, none⟩ = false ∧ w'.cell? ⟨b, off + k, none⟩ = some (.string x))) (by kernel_rfl) ?_ (fun hHeld => ?_)
            · (try dsimp only); first | exact ⟨hfz, e0⟩ | exact ⟨k3, k2⟩ | exact ⟨hq4, hx4⟩ | exact ⟨hz4, hy4⟩
            refine held_take (i := 0) (v := ?_) rfl (by kernel_rfl) (by kernel_rfl) (by kernel_rfl) (fun _ _ _ h => h) (Or.inl ⟨by rfl, ?_⟩) (by assumption) ?_
            rotate_left 1
            · (intro w hSw; (try dsimp only at hSw); go_simp) <;> with_reducible rfl
            try simp only [Act.put, List.setIfInBounds_toArray, List.set_cons_zero, List.set_cons_succ]
            refine held_take (i := 1) (v := ?_) rfl (by kernel_rfl) (by kernel_rfl) (by kernel_rfl) (fun _ _ _ h => h) (Or.inl ⟨by rfl, ?_⟩) (by assumption) ?_
            rotate_left 1
            · (intro w hSw; (try dsimp only at hSw); go_simp) <;> with_reducible rfl
            try simp only [Act.put, List.setIfInBounds_toArray, List.set_cons_zero, List.set_cons_succ]
            refine held_take (i := 2) (v := ?_) rfl (by kernel_rfl) (by kernel_rfl) (by kernel_rfl) (fun _ _ _ h => h) (Or.inl ⟨by rfl, ?_⟩) (by assumption) ?_
            rotate_left 1
            · (intro w hSw; (try dsimp only at hSw); go_simp) <;> with_reducible rfl
            try simp only [Act.put, List.setIfInBounds_toArray, List.set_cons_zero, List.set_cons_succ]
            refine held_take (i := 3) (v := ?_) rfl (by kernel_rfl) (by kernel_rfl) (by kernel_rfl) (fun _ _ _ h => h) (Or.inl ⟨by rfl, ?_⟩) (by assumption) ?_
            rotate_left 1
            · (intro w hSw; (try dsimp only at hSw); go_simp) <;> with_reducible rfl
            try simp only [Act.put, List.setIfInBounds_toArray, List.set_cons_zero, List.set_cons_succ]
            refine held_take (i := 5) (v := ?_) rfl (by kernel_rfl) (by kernel_rfl) (by kernel_rfl) (fun _ _ _ h => h) (Or.inl ⟨by rfl, ?_⟩) (by assumption) ?_
            rotate_left 1
            · (intro w hSw; (try dsimp only at hSw); go_simp) <;> with_reducible rfl
            try simp only [Act.put, List.setIfInBounds_toArray, List.set_cons_zero, List.set_cons_succ]
            refine held_take (i := 6) (v := ?_) rfl (by kernel_rfl) (by kernel_rfl) (by kernel_rfl) (fun _ _ _ h => h) (Or.inl ⟨by rfl, ?_⟩) (by assumption) ?_
            rotate_left 1
            · (intro w hSw; (try dsimp only at hSw); go_simp) <;> with_reducible rfl
            try simp only [Act.put, List.setIfInBounds_toArray, List.set_cons_zero, List.set_cons_succ]
            refine held_take (i := 7) (v := ?_) rfl (by kernel_rfl) (by kernel_rfl) (by kernel_rfl) (fun _ _ _ h => h) (Or.inl ⟨by rfl, ?_⟩) (by assumption) ?_
            rotate_left 1
            · (intro w hSw; (try dsimp only at hSw); go_simp) <;> with_reducible rfl
            try simp only [Act.put, List.setIfInBounds_toArray, List.set_cons_zero, List.set_cons_succ]
            refine held_take (i := 8) (v := ?_) rfl (by kernel_rfl) (by kernel_rfl) (by kernel_rfl) (fun _ _ _ h => h) (Or.inl ⟨by rfl, ?_⟩) (by assumption) ?_
            rotate_left 1
            · (intro w hSw; (try dsimp only at hSw); go_simp) <;> with_reducible rfl
            try simp only [Act.put, List.setIfInBounds_toArray, List.set_cons_zero, List.set_cons_succ]
            refine wpAnyH_ready (rs := [4, 9]) (by kernel_rfl) (by simp) ?_
            refine held_cons rfl (fun K hK => ?_) (held_cons rfl (fun K hK => ?_) AllReadyH.nil)
            ·
              go_simp
              refine hK.out _ _ ?_ (fun hHeld => ?_)
              · (try dsimp only); first | exact ⟨hfz, e0⟩ | exact ⟨k3, k2⟩ | exact ⟨hq4, hx4⟩ | exact ⟨hz4, hy4⟩
              clear hK K
              try simp only [Act.put, List.setIfInBounds_toArray, List.set_cons_zero, List.set_cons_succ]
              refine wpAnyH_ready (rs := [9]) (by kernel_rfl) (by simp) ?_
              refine held_cons rfl (fun K hK => ?_) AllReadyH.nil
              go_simp
              refine hK.out _ _ ?_ (fun hHeld => ?_)
              · (try dsimp only); first | exact ⟨hfz, e0⟩ | exact ⟨k3, k2⟩ | exact ⟨hq4, hx4⟩ | exact ⟨hz4, hy4⟩
              clear hK K
              try simp only [Act.put, List.setIfInBounds_toArray, List.set_cons_zero, List.set_cons_succ]
              refine wpAnyH_ready (rs := [10]) (by kernel_rfl) (by simp) ?_
              refine held_cons rfl (fun K hK => ?_) AllReadyH.nil
              (refine step_append_lies _ (by rfl) _ _ _ (by rfl) 0 9 i0 _ 1 16 Tryd.underlying25 HI.out HZ0.out HZ1.out HZ2.out rfl (by omega) _ _ _ (by rfl) ((HROW5.out.alloc _).drew) ⟨w5.heap.size, 0, none⟩ 1 1 [.string x] (by rfl) (by rfl) (World.news_of_block (cs := #[.string x]) (t := 9) (fr := (0, 0)) (heap_alloc_new w5 _)) (by simp [Value.oneCell']) (by omega) (by unfold maxLen; first | omega | (simp <;> omega)) (by first | omega | (simp <;> omega)) (Nat.zero_le _) (w5.heap.size + 1) (by simp) ?_; intro gg cap4 w4 hown1 hgrow hat hlt4; have hq4 : w4.frozen? ⟨wa.heap.size, 0, none⟩ = false := (World.grownBy.frozen_far hgrow ⟨wa.heap.size, 0, none⟩ hg5 (fun e => HNE.out e.symm)).trans k3; have hc4 : w4.cell? ⟨wa.heap.size, 0, none⟩ = some (.slice B k cb) := (World.grownBy.cell_far hgrow ⟨wa.heap.size, 0, none⟩ hg5 (fun e => HNE.out e.symm)).trans k1; have hx4 : w4.cell? ⟨b, off + k, none⟩ = some (.string x) := (World.grownBy.cell_far hgrow ⟨b, off + k, none⟩ hb5 (hbne hgrow)).trans k2; have hy4 : (w4.setCell ⟨wa.heap.size, 0, none⟩ (.slice (some ⟨gg, 0, none⟩) (k + 1) cap4)).cell? ⟨b, off + k, none⟩ = some (.string x) := (World.cell?_setCell_other w4 _ _ _ (by intro e; injection e with e; omega)).trans hx4; have hz4 : (w4.setCell ⟨wa.heap.size, 0, none⟩ (.slice (some ⟨gg, 0, none⟩) (k + 1) cap4)).frozen? ⟨wa.heap.size, 0, none⟩ = false := by go_simp)
              refine hK.out _ _ ?_ (fun hHeld => ?_)
              · (try dsimp only); first | exact ⟨hfz, e0⟩ | exact ⟨k3, k2⟩ | exact ⟨hq4, hx4⟩ | exact ⟨hz4, hy4⟩
              clear hK K
              try simp only [Act.put, List.setIfInBounds_toArray, List.set_cons_zero, List.set_cons_succ]
              refine held_take (i := 11) (v := ?_) rfl (by kernel_rfl) (by kernel_rfl) (by kernel_rfl) (fun _ _ _ h => h) (Or.inl ⟨by rfl, ?_⟩) (by assumption) ?_
              rotate_left 1
              · (intro w hSw; (try dsimp only at hSw); go_simp) <;> with_reducible rfl
              try simp only [Act.put, List.setIfInBounds_toArray, List.set_cons_zero, List.set_cons_succ]
              refine held_take (i := 12) (v := ?_) rfl (by kernel_rfl) (by kernel_rfl) (by kernel_rfl) (fun _ _ _ h => h) (Or.inl ⟨by rfl, ?_⟩) (by assumption) ?_
              rotate_left 1
              · (intro w hSw; (try dsimp only at hSw); go_simp) <;> with_reducible rfl
              try simp only [Act.put, List.setIfInBounds_toArray, List.set_cons_zero, List.set_cons_succ]
              refine wpAnyH_ready (rs := [13]) (by kernel_rfl) (by simp) ?_
              refine held_cons rfl (fun K hK => ?_) AllReadyH.nil
              go_simp
              refine hK.out _ _ ?_ (fun hHeld => ?_)
              · (try dsimp only); first | exact ⟨hfz, e0⟩ | exact ⟨k3, k2⟩ | exact ⟨hq4, hx4⟩ | exact ⟨hz4, hy4⟩
              clear hK K
              try simp only [Act.put, List.setIfInBounds_toArray, List.set_cons_zero, List.set_cons_succ]
              refine wpAnyH_done (by kernel_rfl) ?_ _
              refine NoPanic.normal ?_
              have hsz6 : (w5.alloc (.cells #[.string x] 9)).heap.size = w5.heap.size + 1 := by first | go_simp | simp
              have hgg : wa.heap.size ≠ gg := fun e => by
                rcases hat with h | h
                · exact HNE.out (by rw [h, e])
                · omega
              have hw5 := q.size
              have hgw : w.heap.size ≤ gg := by
                rcases hat with h | h
                · exact HFF.out gg ((HF5.out gg).2 (.inr h))
                · omega
              have HOW : Hid (Own w (w4.setCell ⟨wa.heap.size, 0, none⟩ (.slice (some ⟨gg, 0, none⟩) (k + 1) cap4))) := Lib.hid ((((q.alloc _).drew).grown hgrow (fun j hj => HFF.out j ((HF5.out j).2 (.inr hj)))).setCell hgs _)
              have HRW := Lib.hid (row_set hown1 (p := ⟨wa.heap.size, 0, none⟩) hgg (.slice (some ⟨gg, 0, none⟩) (k + 1) cap4))
              have HCE := Lib.hid (show (w4.setCell ⟨wa.heap.size, 0, none⟩ (.slice (some ⟨gg, 0, none⟩) (k + 1) cap4)).cell? ⟨wa.heap.size, 0, none⟩ = some (.slice (some ⟨gg, 0, none⟩) (k + 1) cap4) by go_simp)
              have HFZ := Lib.hid hz4
              have HGG := Lib.hid hgg
              have HGW := Lib.hid hgw
              have hgsw := hgs
              clear hown1 hgrow hat hq4 hc4 hx4 hy4 hz4 hgg hgw hsz6 k1 k2 k3 h1 e0 hfz
              go_wp2
              go_roundw
              case rel =>
                refine ⟨k + 1, fun j => j = wa.heap.size ∨ j = gg, by go_num, hlt, HOW.out, ⟨⟨_, HCE.out, HFZ.out, ?_, ?_, fun j => ?_⟩, ?_⟩, fun j hj => ?_, fun j hj => ?_⟩
                · rw [HTKK.out, List.length_append, HTL.out k hlt, cellsS_snoc]; exact HRW.out
                · intro e; simp [Value.ownBlock] at e; exact HGG.out e.symm
                · simp [Value.ownBlock, eq_comm]
                · rw [HTKK.out]; exact HSH.out.snoc HXS.out
                · rcases hj with rfl | rfl
                  · exact hgsw
                  · exact HGW.out
                · by_cases e : j = k
                  · rw [e, HX.out]; exact HNI.out
                  · exact HNO.out j (by omega)
              case measure => simp [intOf]; omega
            ·
              go_simp
              refine hK.out _ _ ?_ (fun hHeld => ?_)
              · (try dsimp only); first | exact ⟨hfz, e0⟩ | exact ⟨k3, k2⟩ | exact ⟨hq4, hx4⟩ | exact ⟨hz4, hy4⟩
              clear hK K
              try simp only [Act.put, List.setIfInBounds_toArray, List.set_cons_zero, List.set_cons_succ]
              refine wpAnyH_ready (rs := [4]) (by kernel_rfl) (by simp) ?_
              refine held_cons rfl (fun K hK => ?_) AllReadyH.nil
              go_simp
              refine hK.out _ _ ?_ (fun hHeld => ?_)
              · (try dsimp only); first | exact ⟨hfz, e0⟩ | exact ⟨k3, k2⟩ | exact ⟨hq4, hx4⟩ | exact ⟨hz4, hy4⟩
              clear hK K
              try simp only [Act.put, List.setIfInBounds_toArray, List.set_cons_zero, List.set_cons_succ]
              refine wpAnyH_ready (rs := [10]) (by kernel_rfl) (by simp) ?_
              refine held_cons rfl (fun K hK => ?_) AllReadyH.nil
              (refine step_append_lies _ (by rfl) _ _ _ (by rfl) 0 9 i0 _ 1 16 Tryd.underlying25 HI.out HZ0.out HZ1.out HZ2.out rfl (by omega) _ _ _ (by rfl) ((HROW5.out.alloc _).drew) ⟨w5.heap.size, 0, none⟩ 1 1 [.string x] (by rfl) (by rfl) (World.news_of_block (cs := #[.string x]) (t := 9) (fr := (0, 0)) (heap_alloc_new w5 _)) (by simp [Value.oneCell']) (by omega) (by unfold maxLen; first | omega | (simp <;> omega)) (by first | omega | (simp <;> omega)) (Nat.zero_le _) (w5.heap.size + 1) (by simp) ?_; intro gg cap4 w4 hown1 hgrow hat hlt4; have hq4 : w4.frozen? ⟨wa.heap.size, 0, none⟩ = false := (World.grownBy.frozen_far hgrow ⟨wa.heap.size, 0, none⟩ hg5 (fun e => HNE.out e.symm)).trans k3; have hc4 : w4.cell? ⟨wa.heap.size, 0, none⟩ = some (.slice B k cb) := (World.grownBy.cell_far hgrow ⟨wa.heap.size, 0, none⟩ hg5 (fun e => HNE.out e.symm)).trans k1; have hx4 : w4.cell? ⟨b, off + k, none⟩ = some (.string x) := (World.grownBy.cell_far hgrow ⟨b, off + k, none⟩ hb5 (hbne hgrow)).trans k2; have hy4 : (w4.setCell ⟨wa.heap.size, 0, none⟩ (.slice (some ⟨gg, 0, none⟩) (k + 1) cap4)).cell? ⟨b, off + k, none⟩ = some (.string x) := (World.cell?_setCell_other w4 _ _ _ (by intro e; injection e with e; omega)).trans hx4; have hz4 : (w4.setCell ⟨wa.heap.size, 0, none⟩ (.slice (some ⟨gg, 0, none⟩) (k + 1) cap4)).frozen? ⟨wa.heap.size, 0, none⟩ = false := by go_simp)
              refine hK.out _ _ ?_ (fun hHeld => ?_)
              · (try dsimp only); first | exact ⟨hfz, e0⟩ | exact ⟨k3, k2⟩ | exact ⟨hq4, hx4⟩ | exact ⟨hz4, hy4⟩
              clear hK K
              try simp only [Act.put, List.setIfInBounds_toArray, List.set_cons_zero, List.set_cons_succ]
              refine held_take (i := 11) (v := ?_) rfl (by kernel_rfl) (by kernel_rfl) (by kernel_rfl) (fun _ _ _ h => h) (Or.inl ⟨by rfl, ?_⟩) (by assumption) ?_
              rotate_left 1
              · (intro w hSw; (try dsimp only at hSw); go_simp) <;> with_reducible rfl
              try simp only [Act.put, List.setIfInBounds_toArray, List.set_cons_zero, List.set_cons_succ]
              refine held_take (i := 12) (v := ?_) rfl (by kernel_rfl) (by kernel_rfl) (by kernel_rfl) (fun _ _ _ h => h) (Or.inl ⟨by rfl, ?_⟩) (by assumption) ?_
              rotate_left 1
              · (intro w hSw; (try dsimp only at hSw); go_simp) <;> with_reducible rfl
              try simp only [Act.put, List.setIfInBounds_toArray, List.set_cons_zero, List.set_cons_succ]
              refine wpAnyH_ready (rs := [13]) (by kernel_rfl) (by simp) ?_
              refine held_cons rfl (fun K hK => ?_) AllReadyH.nil
              go_simp
              refine hK.out _ _ ?_ (fun hHeld => ?_)
              · (try dsimp only); first | exact ⟨hfz, e0⟩ | exact ⟨k3, k2⟩ | exact ⟨hq4, hx4⟩ | exact ⟨hz4, hy4⟩
              clear hK K
              try simp only [Act.put, List.setIfInBounds_toArray, List.set_cons_zero, List.set_cons_succ]
              refine wpAnyH_done (by kernel_rfl) ?_ _
              refine NoPanic.normal ?_
              have hsz6 : (w5.alloc (.cells #[.string x] 9)).heap.size = w5.heap.size + 1 := by first | go_simp | simp
              have hgg : wa.heap.size ≠ gg := fun e => by
                rcases hat with h | h
                · exact HNE.out (by rw [h, e])
                · omega
              have hw5 := q.size
              have hgw : w.heap.size ≤ gg := by
                rcases hat with h | h
                · exact HFF.out gg ((HF5.out gg).2 (.inr h))
                · omega
              have HOW : Hid (Own w (w4.setCell ⟨wa.heap.size, 0, none⟩ (.slice (some ⟨gg, 0, none⟩) (k + 1) cap4))) := Lib.hid ((((q.alloc _).drew).grown hgrow (fun j hj => HFF.out j ((HF5.out j).2 (.inr hj)))).setCell hgs _)
              have HRW := Lib.hid (row_set hown1 (p := ⟨wa.heap.size, 0, none⟩) hgg (.slice (some ⟨gg, 0, none⟩) (k + 1) cap4))
              have HCE := Lib.hid (show (w4.setCell ⟨wa.heap.size, 0, none⟩ (.slice (some ⟨gg, 0, none⟩) (k + 1) cap4)).cell? ⟨wa.heap.size, 0, none⟩ = some (.slice (some ⟨gg, 0, none⟩) (k + 1) cap4) by go_simp)
              have HFZ := Lib.hid hz4
              have HGG := Lib.hid hgg
              have HGW := Lib.hid hgw
              have hgsw := hgs
              clear hown1 hgrow hat hq4 hc4 hx4 hy4 hz4 hgg hgw hsz6 k1 k2 k3 h1 e0 hfz
              go_wp2
              go_roundw
              case rel =>
                refine ⟨k + 1, fun j => j = wa.heap.size ∨ j = gg, by go_num, hlt, HOW.out, ⟨⟨_, HCE.out, HFZ.out, ?_, ?_, fun j => ?_⟩, ?_⟩, fun j hj => ?_, fun j hj => ?_⟩
                · rw [HTKK.out, List.length_append, HTL.out k hlt, cellsS_snoc]; exact HRW.out
                · intro e; simp [Value.ownBlock] at e; exact HGG.out e.symm
                · simp [Value.ownBlock, eq_comm]
                · rw [HTKK.out]; exact HSH.out.snoc HXS.out
                · rcases hj with rfl | rfl
                  · exact hgsw
                  · exact HGW.out
                · by_cases e : j = k
                  · rw [e, HX.out]; exact HNI.out
                  · exact HNO.out j (by omega)
              case measure => simp [intOf]; omega
        · obtain rfl : n = k := by omega
          have HD := Lib.hid (HND.out HNO.out)
          rw [HTA.out] at hT
          by_cases c : 512 < n
          · have HF := Lib.hid (HFU.out HALL.out HD.out c)
            go_wp2
            go_ret2
            exact NewRet.bad HF.out (by decide) q
          · have HF := Lib.hid (HOK.out HALL.out HD.out (by omega))
            go_wp2
            go_ret2
            exact .inr ⟨HF.out, _, F, rfl, q, hT, HFF.out⟩
end Go.Proofs.YtifiljmiehddfaaDoor.NamW
