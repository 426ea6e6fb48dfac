/-
  Walks of the program's tables (a slice of names and a map from names to numbers): Index, Name, Add. Condition: none.
-/
import Derived.Test.YtifiljmiehddfaaDoorIdentQ
import Derived.Test.YtifiljmiehddfaaDoorIdentPV
import Derived.Test.YtifiljmiehddfaaDoorMapNums
import Derived.Maps.OwnOps
import Derived.Maps.OwnSet
import Derived.StringKeys
namespace Go.Proofs.YtifiljmiehddfaaDoor.NamW
open Go.ChangeShapes Go.WideShapes Go.ChangeAt Go.RowKit Go.Maps Go.WideMaps
open PairW NamP StrW
theorem keyS : Keyed Tryd.prog 9 := string_keyed Tryd.underlying9
theorem zeroI (w : World) : (zeroValue 3).run Tryd.prog w = .ok (.int .i64 0) w := by kernel_rfl
/-- What a table of the program is: a struct of a slice and a map. -/
structure MTab (w : World) (F : Nat → Prop) (g : Nat) (l : Ss) : Prop where
  some : ∃ v b, w.cell? ⟨g, 0, none⟩ = some v ∧ w.frozen? ⟨g, 0, none⟩ = false ∧ w.cell? ⟨g, 1, none⟩ = some (.map (some b)) ∧ w.ownsRow 0 9 1 v l.length (cellsS l) ∧
    w.ownsMap Tryd.prog 9 (plainElem Tryd.prog 3) b l.length (numD l) ∧ v.ownBlock ≠ some g ∧ v.ownBlock ≠ some b ∧ b ≠ g ∧ ∀ k, F k ↔ k = g ∨ k = b ∨ v.ownBlock = some k
  short : Short l
  once : l.Nodup
  few : l.length ≤ 1000
  named : ∀ s ∈ l, vldS s = true
theorem map_same {w w' : World} {b n : Nat} {D : DataW Unit} {P : Program} {k : TypeId} {R : Value → Option (DataW Unit × List MemPlace)} (h : w.ownsMap P k R b n D) (hs : w'.heap[b]? = w.heap[b]?) : w'.ownsMap P k R b n D := by
  obtain ⟨es, clock, hb, r⟩ := h
  exact ⟨es, clock, hs.trans hb, r⟩
theorem MTab.keep {w w' : World} {F : Nat → Prop} {g : Nat} {l : Ss} (h : MTab w F g l) (hs : ∀ k, F k → w'.heap[k]? = w.heap[k]?) : MTab w' F g l := by
  obtain ⟨v, b, h1, h2, h3, h4, h5, h6, h7, h8, h9⟩ := h.some
  have hg := hs g ((h9 g).2 (.inl rfl))
  have hb := hs b ((h9 b).2 (.inr (.inl rfl)))
  exact ⟨⟨v, b, (World.cell?_of_block (w := w) (a := ⟨g, 0, none⟩) hg).trans h1, (World.frozen?_of_block (w := w) (a := ⟨g, 0, none⟩) hg).trans h2, (World.cell?_of_block (w := w) (a := ⟨g, 1, none⟩) hg).trans h3,
    row_same h4 fun k hk => hs k ((h9 k).2 (.inr (.inr hk))), map_same h5 hb, h6, h7, h8, h9⟩, h.short, h.once, h.few, h.named⟩
theorem MTab.lt {w : World} {F : Nat → Prop} {g : Nat} {l : Ss} (h : MTab w F g l) {k : Nat} (hk : F k) : k < w.heap.size := by
  obtain ⟨v, b, h1, h2, h3, h4, h5, h6, h7, h8, h9⟩ := h.some
  rcases (h9 k).1 hk with rfl | rfl | e
  · exact block_lt_of_cell h1
  · exact h5.lt
  · exact (h4.lt k e).2
theorem MTab.chg {w w' : World} {F G : Nat → Prop} {g : Nat} {l : Ss} (h : MTab w F g l) (hg : Chg G w w') (hd : ∀ k, F k → ¬ G k) : MTab w' F g l := h.keep fun k hk => hg.block k (h.lt hk) (hd k hk)
theorem numL_inj {a b : Int} (h : numL a = numL b) : a = b := by
  injection h with h
  injection h
set_option maxRecDepth 100000 in
theorem pindex_at (l : Ss) (s : ByteArray) (g : Nat) (F : Nat → Prop) (i : Int) (t : Bool) (w : World) (hs : s.size ≤ maxLen) (HT : Hid (MTab w F g l)) (H : Hid (idxV l s = i ∧ decide (0 ≤ findI s l) = t)) :
    Calls Tryd.prog 18 #[.pointer (some ⟨g, 0, none⟩), .string s] w fun e w' => e = .returned (.tuple #[.int .i64 i, .bool t]) ∧ Own w w' := by
  obtain ⟨v, b, h1, h2, h3, h4, h5, h6, h7, h8, h9⟩ := HT.out.some
  have hlook := numD_look s _ l rfl HT.out.once
  have hkey := keyOf_string_mk Tryd.underlying9 hs
  have HL1 := Lib.hid (hlook.1.trans H.out.2)
  have HL2 := Lib.hid (hlook.2.trans (congrArg numL H.out.1))
  have HMM := Lib.hid h5
  clear hlook h2 h4 h5 h6 h7 h8 h9 H HT
  go_enter Tryd.func18, Tryd.ntmps18
  go_wp2_with (first
    | (at_lookup; refine wpList_lookup_own_ok_int _ rfl _ _ 50 rfl 9 3 .i64 keyS Tryd.underlying50 Tryd.underlying3 (zeroI _) b _ _ rfl HMM.out _ _ rfl hkey ?_; intro c hat hwc; rw [HL2.out] at hat; replace hat := numL_inj hat; subst hat; rw [HL1.out])
    | go_in)
  go_ret2
  exact ⟨rfl, Own.refl w⟩
theorem pindex_nil (s : ByteArray) (w : World) : Calls Tryd.prog 18 #[.pointer none, .string s] w fun e w' => e = .returned (.tuple #[.int .i64 0, .bool false]) ∧ Own w w' := by
  go_enter Tryd.func18, Tryd.ntmps18
  go_wp2
  go_ret2
  exact ⟨rfl, Own.refl w⟩
set_option maxRecDepth 100000 in
theorem pname_at (l : Ss) (i : Int) (g : Nat) (F : Nat → Prop) (s : ByteArray) (f : Int) (w : World) (HT : Hid (MTab w F g l)) (H : Hid (nameV l i = s ∧ nameE l i = f)) :
    Calls Tryd.prog 17 #[.pointer (some ⟨g, 0, none⟩), .int .i64 i] w fun e w' => e = .returned (.tuple #[.string s, .int .i64 f]) ∧ Own w w' := by
  obtain ⟨v, bm, h1, _, _, h3, _⟩ := HT.out.some
  obtain ⟨rfl, rfl⟩ := H.out
  unfold nameV nameE
  obtain ⟨A, cap, rfl, a1, a2, a3⟩ := strs_of_row h3
  unfold maxLen at a2
  clear h3 H HT
  obtain ⟨n, hn⟩ : ∃ n, l.length = n := ⟨_, rfl⟩
  rw [hn] at a1 a3 h1
  rw [hn]
  clear hn
  by_cases c0 : i < 0
  · rw [if_neg (by omega), if_neg (by omega)]
    go_enter Tryd.func17, Tryd.ntmps17
    go_wp2
    go_ret2
    exact ⟨rfl, Own.refl w⟩
  · by_cases c1 : i < n
    · rw [if_pos ⟨by omega, c1⟩, if_pos ⟨by omega, c1⟩]
      obtain ⟨k, rfl⟩ : ∃ k : Nat, i = k := ⟨i.toNat, by omega⟩
      have hk : k < n := by omega
      obtain ⟨b, off, rfl, hc⟩ := a3 (by omega)
      have e0 := hc k hk
      have c2 : ¬ (n : Int) ≤ k := by omega
      rw [Int.toNat_natCast]
      clear hc a3
      go_enter Tryd.func17, Tryd.ntmps17
      go_wp2
      go_ret2
      exact ⟨rfl, Own.refl w⟩
    · rw [if_neg (by omega), if_neg (by omega)]
      have c2 : (n : Int) ≤ i := by omega
      clear a3
      go_enter Tryd.func17, Tryd.ntmps17
      go_wp2
      go_ret2
      exact ⟨rfl, Own.refl w⟩
theorem pname_nil (i : Int) (w : World) : Calls Tryd.prog 17 #[.pointer none, .int .i64 i] w fun e w' => e = .returned (.tuple #[.string ⟨#[]⟩, .int .i64 10]) ∧ Own w w' := by
  go_enter Tryd.func17, Tryd.ntmps17
  go_wp2
  go_ret2
  exact ⟨rfl, Own.refl w⟩
theorem padd_nil (s : ByteArray) (w : World) : Calls Tryd.prog 23 #[.pointer none, .string s] w fun e w' => e = .returned (.tuple #[.int .i64 0, .int .i64 10]) ∧ Own w w' := by
  go_enter Tryd.func23, Tryd.ntmps23
  go_wp2
  go_ret2
  exact ⟨rfl, Own.refl w⟩
set_option maxRecDepth 100000 in
theorem padd_bad (l : Ss) (s : ByteArray) (g : Nat) (F : Nat → Prop) (f : Int) (w : World) (hsz : s.size ≤ maxLen) (HT : Hid (MTab w F g l)) (H : Hid (addE l s = f)) (hf : f ≠ 0) :
    Calls Tryd.prog 23 #[.pointer (some ⟨g, 0, none⟩), .string s] w fun e w' => e = .returned (.tuple #[.int .i64 0, .int .i64 f]) ∧ Own w w' := by
  have hs := Lib.hid hsz
  obtain ⟨v, b, h1, h2, hm, h3, h5, _, _, _, _⟩ := HT.out.some
  obtain ⟨A, cap, rfl, _, _, _⟩ := strs_of_row h3
  have hlook := numD_look s _ l rfl HT.out.once
  have hkey := keyOf_string_mk Tryd.underlying9 hsz
  have he := H.out
  unfold addE at he
  obtain ⟨r, hr⟩ : ∃ r, findI s l = r := ⟨_, rfl⟩
  rw [hr] at hlook
  obtain ⟨q, hq⟩ : ∃ q, (if r < 0 then 0 else r) = q := ⟨_, rfl⟩
  rw [hq] at hlook
  obtain ⟨tv, htv⟩ : ∃ t, vldS s = t := ⟨_, rfl⟩
  have HV : Hid (vldB (bs s) = tv) := Lib.hid htv
  have HMM := Lib.hid h5
  have HL2 := Lib.hid hlook.2
  have hl1 := hlook.1
  rw [htv, hr] at he
  clear hr htv h3 H HT hsz h5 h2 hlook hq
  obtain ⟨n, hn⟩ : ∃ n, l.length = n := ⟨_, rfl⟩
  rw [hn] at he h1 HMM
  clear hn
  cases tv
  · obtain rfl : 8 = f := he
    clear hl1
    go_enter Tryd.func23, Tryd.ntmps23
    go_wp2_with (go_at_call 11; with_reducible refine (pvalid_at s _ _ hs.out HV).mono ?_; rintro e w1 ⟨rfl, rfl⟩)
    go_ret2
    exact ⟨rfl, Own.refl w⟩
  · rw [if_pos rfl] at he
    by_cases c : 0 ≤ r
    · rw [if_pos c] at he
      subst he
      have HL1 := Lib.hid (hl1.trans (decide_eq_true c))
      clear hl1
      go_enter Tryd.func23, Tryd.ntmps23
      go_wp2_with (first | (go_at_call 11; with_reducible refine (pvalid_at s _ _ hs.out HV).mono ?_; rintro e w1 ⟨rfl, rfl⟩) | (at_lookup; refine wpList_lookup_own_ok_int _ rfl _ _ 50 rfl 9 3 .i64 keyS Tryd.underlying50 Tryd.underlying3 (zeroI _) b _ _ rfl HMM.out _ _ rfl hkey ?_; intro c hat hwc; rw [HL2.out] at hat; replace hat := numL_inj hat; subst hat; rw [HL1.out]))
      go_ret2
      exact ⟨rfl, Own.refl w⟩
    · rw [if_neg c] at he
      by_cases d : 512 ≤ n
      · rw [if_pos d] at he
        subst he
        have d1 : (512 : Int) ≤ n := by omega
        have HL1 := Lib.hid (hl1.trans (decide_eq_false c))
        clear hl1
        go_enter Tryd.func23, Tryd.ntmps23
        go_wp2_with (first | (go_at_call 11; with_reducible refine (pvalid_at s _ _ hs.out HV).mono ?_; rintro e w1 ⟨rfl, rfl⟩) | (at_lookup; refine wpList_lookup_own_ok_int _ rfl _ _ 50 rfl 9 3 .i64 keyS Tryd.underlying50 Tryd.underlying3 (zeroI _) b _ _ rfl HMM.out _ _ rfl hkey ?_; intro c hat hwc; rw [HL2.out] at hat; replace hat := numL_inj hat; subst hat; rw [HL1.out]))
        go_ret2
        exact ⟨rfl, Own.refl w⟩
      · rw [if_neg d] at he
        exact absurd he.symm hf
set_option maxRecDepth 100000 in
set_option maxHeartbeats 2000000 in
theorem padd_ok (l : Ss) (s : ByteArray) (g : Nat) (F : Nat → Prop) (w : World) (hsz : s.size ≤ maxLen) (HT : Hid (MTab w F g l)) (H : Hid (addE l s = 0)) :
    Calls Tryd.prog 23 #[.pointer (some ⟨g, 0, none⟩), .string s] w fun e w' => e = .returned (.tuple #[.int .i64 l.length, .int .i64 0]) ∧ Chg F w w' ∧ ∃ F', MTab w' F' g (l ++ [s]) ∧ ∀ k, F' k → F k ∨ w.heap.size ≤ k := by
  have hs := Lib.hid hsz
  obtain ⟨i0, hi, hz0, hz1, hz2⟩ := info_parts (show (Tryd.prog.info? 9).map (fun i => (i.zero, i.size, i.bytes)) = some (some (.string ⟨#[]⟩), 1, 16) by kernel_rfl)
  have HI := Lib.hid hi
  have HZ0 := Lib.hid hz0
  have HZ1 := Lib.hid hz1
  have HZ2 := Lib.hid hz2
  clear hi hz0 hz1 hz2
  obtain ⟨v, b, h1, hfz, hm, h3, h5, h6, h7, h8, h9⟩ := HT.out.some
  have HSH := Lib.hid (HT.out.short.snoc hsz)
  have HNA := Lib.hid HT.out.named
  obtain ⟨⟨A, cap⟩, rfl⟩ : ∃ p : Option Addr × Nat, v = .slice p.1 l.length p.2 := by
    obtain ⟨A, cap, e, _⟩ := strs_of_row h3
    exact ⟨(A, cap), e⟩
  have hlook := numD_look s _ l rfl HT.out.once
  have hkey := keyOf_string_mk Tryd.underlying9 hsz
  have he := H.out
  unfold addE at he
  obtain ⟨tv, htv⟩ : ∃ t, vldS s = t := ⟨_, rfl⟩
  rw [htv] at he
  obtain rfl : true = tv := by
    cases tv
    · cases he
    · rfl
  have HV : Hid (vldB (bs s) = true) := Lib.hid htv
  rw [if_pos rfl] at he
  have c : ¬ 0 ≤ findI s l := fun c => by rw [if_pos c] at he; cases he
  rw [if_neg c] at he
  have d : ¬ 512 ≤ l.length := fun d => by rw [if_pos d] at he; cases he
  rw [decide_eq_false c, if_pos (by omega)] at hlook
  have HON := Lib.hid (show (l ++ [s]).Nodup from List.nodup_append.2 ⟨HT.out.once, by simp, fun a ha b hb e => by
    obtain rfl := List.mem_singleton.1 hb
    exact find_neg.1 (by omega) (e ▸ ha)⟩)
  have HL1 := Lib.hid hlook.1
  have HL2 := Lib.hid hlook.2
  have HD := Lib.hid (numD_snoc l s)
  have hgl : g < w.heap.size := block_lt_of_cell h1
  have hbl : b < w.heap.size := h5.lt
  have HL := Lib.hid (cellsS_snoc l s)
  have HF := Lib.hid h9
  have HROW := Lib.hid h3
  have HMM := Lib.hid h5
  clear htv H HT hsz he h3 h5 h9 c hlook
  obtain ⟨n, hn⟩ : ∃ n, l.length = n := ⟨_, rfl⟩
  have HN := Lib.hid (show (l ++ [s]).length = n + 1 by rw [List.length_append, hn]; rfl)
  rw [hn] at h1 d HROW h6 h7 HF HD HMM
  rw [hn]
  clear hn
  simp only at h1 HROW h6 h7 HF
  have d1 : ¬ (512 : Int) ≤ n := by omega
  have wfn : (Lit.int .i64 (n : Int)).wf = true := WalkArith.wf_i64 ⟨by omega, by omega⟩
  go_enter Tryd.func23, Tryd.ntmps23
  go_upto_region 11 with (first | (go_at_call 11; with_reducible refine (pvalid_at s _ _ hs.out HV).mono ?_; rintro e w1 ⟨rfl, rfl⟩) | (at_lookup; refine wpList_lookup_own_ok_int _ rfl _ _ 50 rfl 9 3 .i64 keyS Tryd.underlying50 Tryd.underlying3 (zeroI _) b _ _ rfl HMM.out _ _ rfl hkey ?_; intro c hat hwc; rw [HL2.out] at hat; replace hat := numL_inj hat; subst hat; rw [HL1.out]))
  have g2 : Own w (w.alloc (.cells #[.string s] 9)) := (Own.refl w).alloc _
  have HROW1 := Lib.hid (row_own HROW.out g2)
  have h1b := g2.cell h1
  have hm1b := g2.cell hm
  have hfz2 : (w.alloc (.cells #[.string s] 9)).frozen? ⟨g, 0, none⟩ = false := frozen_kept g2 h1 hfz
  have HMB := Lib.hid (HMM.out.alloc (.cells #[.string s] 9))
  go_wp2_with (at_builtin; refine wpList_append_lies _ rfl _ _ 25 rfl 0 9 i0 _ 1 16 Tryd.underlying25 HI.out HZ0.out HZ1.out HZ2.out rfl (by omega) _ _ _ rfl HROW1.out ⟨w.heap.size, 0, none⟩ 1 1 [.string s] rfl rfl (World.news_of_block (cs := #[.string s]) (t := 9) (fr := (0, 0)) (heap_alloc_new w _)) (by simp [Value.oneCell']) (by omega) (by unfold maxLen; omega) (by omega) (Nat.zero_le _) _ rfl ?_)
  intro g1 cap1 w4 hown hgr hat hlt4
  have hsz : (w.alloc (.cells #[.string s] 9)).heap.size = w.heap.size + 1 := by first | go_simp | simp
  have hg1 : g < (w.alloc (.cells #[.string s] 9)).heap.size := by omega
  have h4 : w4.cell? ⟨g, 0, none⟩ = some (.slice A n cap) := (World.grownBy.cell_far hgr ⟨g, 0, none⟩ hg1 (fun e => h6 e.symm)).trans h1b
  have hf4 : w4.frozen? ⟨g, 0, none⟩ = false := (World.grownBy.frozen_far hgr ⟨g, 0, none⟩ hg1 (fun e => h6 e.symm)).trans hfz2
  have hm4 : w4.cell? ⟨g, 1, none⟩ = some (.map (some b)) := (World.grownBy.cell_far hgr ⟨g, 1, none⟩ hg1 (fun e => h6 e.symm)).trans hm1b
  have HM4 := Lib.hid ((HMB.out.kept hgr (fun e => h7 e.symm)).setCell h8 (.slice (some ⟨g1, 0, none⟩) (n + 1) cap1) (a := ⟨g, 0, none⟩))
  have hne : g ≠ g1 := fun e => by
    rcases hat with k | k
    · exact h6 (by rw [k, e])
    · omega
  have hnb : b ≠ g1 := fun e => by
    rcases hat with k | k
    · exact h7 (by rw [k, e])
    · omega
  have HCH : Hid (Chg F w w4) := Lib.hid ((Chg.of_own g2).grown hgr fun k hk => (HF.out k).2 (.inr (.inr hk)))
  have HFG := Lib.hid ((HF.out g).2 (.inl rfl))
  have HFB := Lib.hid ((HF.out b).2 (.inr (.inl rfl)))
  have HIN := Lib.hid (show F g1 ∨ w.heap.size ≤ g1 from by
    rcases hat with k | k
    · exact .inl ((HF.out g1).2 (.inr (.inr k)))
    · exact .inr (by omega))
  have HROW4 := Lib.hid (row_set hown (p := ⟨g, 0, none⟩) hne (.slice (some ⟨g1, 0, none⟩) (n + 1) cap1))
  have hcell : (w4.setCell ⟨g, 0, none⟩ (.slice (some ⟨g1, 0, none⟩) (n + 1) cap1)).cell? ⟨g, 0, none⟩ = some (.slice (some ⟨g1, 0, none⟩) (n + 1) cap1) := by go_simp
  have hcell1 : (w4.setCell ⟨g, 0, none⟩ (.slice (some ⟨g1, 0, none⟩) (n + 1) cap1)).cell? ⟨g, 1, none⟩ = some (.map (some b)) := (World.cell?_setCell_other w4 _ _ _ (by intro e; injection e with _ e; omega)).trans hm4
  have hfro : (w4.setCell ⟨g, 0, none⟩ (.slice (some ⟨g1, 0, none⟩) (n + 1) cap1)).frozen? ⟨g, 0, none⟩ = false := by go_simp
  have HCE := Lib.hid hcell
  have HFR := Lib.hid hfro
  have HCH5 := Lib.hid (HCH.out.setCell HFG.out (p := ⟨g, 0, none⟩) (.slice (some ⟨g1, 0, none⟩) (n + 1) cap1))
  have HN1 := Lib.hid hne
  have HN2 := Lib.hid hnb
  have HN3 := Lib.hid h8
  have HD2 := Lib.hid d
  have HG4 : Hid (g < (w4.setCell ⟨g, 0, none⟩ (.slice (some ⟨g1, 0, none⟩) (n + 1) cap1)).heap.size) := Lib.hid (block_lt_of_cell hcell)
  have HCE1 := Lib.hid hcell1
  clear hown hgr hat hcell hfro h1b hm1b hfz2 hfz h1 HROW1 HMB g2 hg1 hsz hne hnb hm4 h6 h7 h8 d HMM HROW
  go_wp2_with (at_mapUpdate; refine wpList_mapUpdate_own _ rfl _ _ _ 50 rfl 9 3 keyS Tryd.underlying50 _ b n _ rfl HM4.out (by unfold maxLen; omega) _ _ _ rfl rfl hkey _ [] (plainElem_int Tryd.underlying3 wfn) ?_; intro w6 hown6 hgrow6)
  have hgb : some g ≠ some b := fun e => HN3.out (by injection e with e; exact e.symm)
  have HC6 := Lib.hid ((World.grownBy.cell_far hgrow6 ⟨g, 0, none⟩ HG4.out hgb).trans HCE.out)
  have HF6 := Lib.hid ((World.grownBy.frozen_far hgrow6 ⟨g, 0, none⟩ HG4.out hgb).trans HFR.out)
  have HM6 := Lib.hid ((World.grownBy.cell_far hgrow6 ⟨g, 1, none⟩ HG4.out hgb).trans HCE1.out)
  have HCH6 := Lib.hid (HCH5.out.grown hgrow6 fun k hk => (HF.out k).2 (.inr (.inl (by injection hk with hk; exact hk.symm))))
  have HROW6 := Lib.hid (row_same HROW4.out fun k hk => hgrow6.block k (HROW4.out.lt k hk).2 (fun e => HN2.out (by simp [Value.ownBlock] at hk; injection e with e; rw [← e]; exact hk.symm)))
  have HO6 := Lib.hid hown6
  clear hown6 hgrow6 hgb
  go_wp2
  go_ret2
  refine ⟨rfl, HCH6.out, fun k => k = g ∨ k = b ∨ k = g1, ⟨⟨_, b, HC6.out, HF6.out, HM6.out, ?_, ?_, ?_, ?_, HN3.out, fun k => ?_⟩, HSH.out, HON.out, ?_, fun x hx => ?_⟩, fun k hk => ?_⟩
  · rw [HN.out, HL.out]; exact HROW6.out
  · rw [HN.out, HD.out]; exact HO6.out
  · intro e; simp [Value.ownBlock] at e; exact HN1.out e.symm
  · intro e; simp [Value.ownBlock] at e; exact HN2.out e.symm
  · simp [Value.ownBlock, eq_comm]
  · rw [HN.out]; have := HD2.out; omega
  · rcases List.mem_append.1 hx with k | k
    · exact HNA.out x k
    · rw [List.mem_singleton.1 k]; exact HV.out
  · rcases hk with rfl | rfl | rfl
    · exact .inl HFG.out
    · exact .inl HFB.out
    · exact HIN.out
end Go.Proofs.YtifiljmiehddfaaDoor.NamW
