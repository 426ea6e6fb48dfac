/-
  Walks of the specification's table of package ident: Index, Name, Sorted, Add: what a call returns for every input. Condition: none.
-/
import Derived.Test.YtifiljmiehddfaaDoorIdentD
namespace Go.Proofs.YtifiljmiehddfaaDoor.NamW
open Go.ChangeShapes Go.WideShapes Go.ChangeAt Go.RowKit
open PairW NamP StrW
/-- Nothing that was there has turned but blocks of F. -/
structure Chg (F : Nat → Prop) (w w' : World) : Prop where
  os : w'.os = w.os
  output : w'.output = w.output
  size : w.heap.size ≤ w'.heap.size
  block : ∀ k, k < w.heap.size → ¬ F k → w'.heap[k]? = w.heap[k]?
theorem Chg.refl (F : Nat → Prop) (w : World) : Chg F w w := ⟨rfl, rfl, Nat.le_refl _, fun _ _ _ => rfl⟩
theorem Chg.of_own {F : Nat → Prop} {w w' : World} (h : Own w w') : Chg F w w' := ⟨h.os, h.output, h.size, fun k hk _ => h.block k hk⟩
theorem Chg.trans {F : Nat → Prop} {a b c : World} (h : Chg F a b) (k : Chg F b c) : Chg F a c :=
  ⟨k.os.trans h.os, k.output.trans h.output, Nat.le_trans h.size k.size, fun i hi hn => (k.block i (Nat.lt_of_lt_of_le hi h.size) hn).trans (h.block i hi hn)⟩
theorem Chg.mono {F G : Nat → Prop} {w w' : World} (h : Chg F w w') (hs : ∀ k, F k → k < w.heap.size → G k) : Chg G w w' := ⟨h.os, h.output, h.size, fun k hk hn => h.block k hk fun hf => hn (hs k hf hk)⟩
theorem Chg.own {F : Nat → Prop} {w w1 w2 : World} (h : Chg F w1 w2) (g : Own w w1) (hF : ∀ k, F k → w.heap.size ≤ k) : Own w w2 :=
  ⟨h.os.trans g.os, h.output.trans g.output, Nat.le_trans g.size h.size, fun k hk => (h.block k (Nat.lt_of_lt_of_le hk g.size) (fun hf => by have := hF k hf; omega)).trans (g.block k hk)⟩
theorem Chg.setCell {F : Nat → Prop} {a w : World} (h : Chg F a w) {p : Addr} (hp : F p.block) (u : Value) : Chg F a (w.setCell p u) :=
  ⟨h.os, h.output, by simpa [World.setCell] using h.size, fun k hk hn => (Below.heap_setCell w p u k (by intro e; exact hn (e ▸ hp))).trans (h.block k hk hn)⟩
theorem Chg.grown {F : Nat → Prop} {a w w' : World} (h : Chg F a w) {row : Option Nat} (hg : w.grownBy w' row) (hr : ∀ k, row = some k → F k) : Chg F a w' :=
  ⟨hg.os.trans h.os, hg.output.trans h.output, Nat.le_trans h.size hg.size, fun k hk hn => (hg.block k (Nat.lt_of_lt_of_le hk h.size) (fun e => hn (hr k e.symm))).trans (h.block k hk hn)⟩
/-- The table at block g, whose memory lies in blocks of F, has the names l. -/
structure RTab (w : World) (F : Nat → Prop) (g : Nat) (l : Ss) : Prop where
  some : ∃ v, w.cell? ⟨g, 0, none⟩ = some v ∧ w.frozen? ⟨g, 0, none⟩ = false ∧ w.ownsRow 0 9 1 v l.length (cellsS l) ∧ v.ownBlock ≠ some g ∧ ∀ k, F k ↔ k = g ∨ v.ownBlock = some k
  short : Short l
theorem row_same {w w' : World} {base : Nat} {e : TypeId} {size : Nat} {v : Value} {n : Nat} {xs : List Value} (h : w.ownsRow base e size v n xs) (hs : ∀ k, v.ownBlock = some k → w'.heap[k]? = w.heap[k]?) : w'.ownsRow base e size v n xs := by
  refine ⟨h.1, h.2.imp id ?_⟩
  rintro ⟨g, cap, cur, rfl, h2, h3, h4⟩
  exact ⟨g, cap, cur, rfl, h2, (hs g (by simp [Value.ownBlock])).trans h3, h4⟩
theorem RTab.keep {w w' : World} {F : Nat → Prop} {g : Nat} {l : Ss} (h : RTab w F g l) (hs : ∀ k, F k → w'.heap[k]? = w.heap[k]?) : RTab w' F g l := by
  obtain ⟨v, h1, h2, h3, h4, h5⟩ := h.some
  have hg := hs g ((h5 g).2 (.inl rfl))
  exact ⟨⟨v, (World.cell?_of_block (w := w) (a := ⟨g, 0, none⟩) hg).trans h1, (World.frozen?_of_block (w := w) (a := ⟨g, 0, none⟩) hg).trans h2, row_same h3 fun k hk => hs k ((h5 k).2 (.inr hk)), h4, h5⟩, h.short⟩
theorem RTab.lt {w : World} {F : Nat → Prop} {g : Nat} {l : Ss} (h : RTab w F g l) {k : Nat} (hk : F k) : k < w.heap.size := by
  obtain ⟨v, h1, h2, h3, h4, h5⟩ := h.some
  rcases (h5 k).1 hk with rfl | e
  · exact block_lt_of_cell h1
  · exact (h3.lt k e).2
theorem RTab.own {w w' : World} {F : Nat → Prop} {g : Nat} {l : Ss} (h : RTab w F g l) (hg : Own w w') : RTab w' F g l := h.keep fun k hk => hg.block k (h.lt hk)
theorem RTab.chg {w w' : World} {F G : Nat → Prop} {g : Nat} {l : Ss} (h : RTab w F g l) (hg : Chg G w w') (hd : ∀ k, F k → ¬ G k) : RTab w' F g l := h.keep fun k hk => hg.block k (h.lt hk) (hd k hk)
def idxV (l : Ss) (s : ByteArray) : Int := if findI s l < 0 then 0 else findI s l
def nameV (l : Ss) (i : Int) : ByteArray := if 0 ≤ i ∧ i < l.length then atS l i.toNat else ⟨#[]⟩
def nameE (l : Ss) (i : Int) : Int := if 0 ≤ i ∧ i < l.length then 0 else 6
def addE (l : Ss) (s : ByteArray) : Int := if vldS s = true then (if 0 ≤ findI s l then 7 else if 512 ≤ l.length then 3 else 0) else 8
set_option maxRecDepth 100000 in
theorem rindex_at (l : Ss) (s : ByteArray) (g : Nat) (F : Nat → Prop) (i : Int) (t : Bool) (w : World) (HT : Hid (RTab w F g l)) (H : Hid (idxV l s = i ∧ decide (0 ≤ findI s l) = t)) :
    Calls Tryd.prog 21 #[.pointer (some ⟨g, 0, none⟩), .string s] w fun e w' => e = .returned (.tuple #[.int .i64 i, .bool t]) ∧ Own w w' := by
  obtain ⟨v, h1, _, h3, _, _⟩ := HT.out.some
  have HP := Lib.hid (strs_of_row h3)
  obtain ⟨rfl, rfl⟩ := H.out
  unfold idxV
  obtain ⟨r, hr⟩ : ∃ r, findI s l = r := ⟨_, rfl⟩
  have HR := Lib.hid hr
  rw [hr]
  clear hr h3 H
  by_cases c : r < 0
  · rw [if_pos c, decide_eq_false (by omega)]
    go_enter Tryd.func21, Tryd.ntmps21
    go_wp2_with (go_at_call 36; with_reducible refine (find_at l v s r _ HP HR).mono ?_; rintro e w1 ⟨rfl, hg⟩)
    go_ret2
    exact ⟨rfl, hg⟩
  · rw [if_neg c, decide_eq_true (by omega)]
    go_enter Tryd.func21, Tryd.ntmps21
    go_wp2_with (go_at_call 36; with_reducible refine (find_at l v s r _ HP HR).mono ?_; rintro e w1 ⟨rfl, hg⟩)
    go_ret2
    exact ⟨rfl, hg⟩
set_option maxRecDepth 100000 in
theorem rsorted_at (l : Ss) (g : Nat) (F : Nat → Prop) (w : World) (HT : Hid (RTab w F g l)) (hn : l.length ≤ 1000) :
    Calls Tryd.prog 27 #[.pointer (some ⟨g, 0, none⟩)] w fun e w' => ∃ v, e = .returned v ∧ w'.ownsRow w.heap.size 9 1 v l.length (cellsS (sortS l)) ∧ Own w w' := by
  obtain ⟨v, h1, _, h3, _, _⟩ := HT.out.some
  have HP := Lib.hid (strs_of_row h3)
  have HS := Lib.hid HT.out.short
  clear h3
  go_enter Tryd.func27, Tryd.ntmps27
  go_wp2_with (go_at_call 38; with_reducible refine (rsort_at l v _ HP HS hn).mono ?_; rintro e w1 ⟨v2, rfl, hr, hg⟩)
  go_ret
  exact ⟨v2, rfl, hr, hg⟩
set_option maxRecDepth 100000 in
theorem rname_at (l : Ss) (i : Int) (g : Nat) (F : Nat → Prop) (s : ByteArray) (f : Int) (w : World) (HT : Hid (RTab w F g l)) (H : Hid (nameV l i = s ∧ nameE l i = f)) :
    Calls Tryd.prog 22 #[.pointer (some ⟨g, 0, none⟩), .int .i64 i] w fun e w' => e = .returned (.tuple #[.string s, .int .i64 f]) ∧ Own w w' := by
  obtain ⟨v, h1, _, h3, _, _⟩ := HT.out.some
  obtain ⟨rfl, rfl⟩ := H.out
  unfold nameV nameE
  obtain ⟨A, cap, rfl, a1, a2, a3⟩ := strs_of_row h3
  unfold maxLen at a2
  clear h3 H HT
  obtain ⟨n, hn⟩ : ∃ n, l.length = n := ⟨_, rfl⟩
  rw [hn] at a1 a3 h1
  rw [hn]
  clear hn
  by_cases c0 : i < 0
  · rw [if_neg (by omega), if_neg (by omega)]
    go_enter Tryd.func22, Tryd.ntmps22
    go_wp2
    go_ret2
    exact ⟨rfl, Own.refl w⟩
  · by_cases c1 : i < n
    · rw [if_pos ⟨by omega, c1⟩, if_pos ⟨by omega, c1⟩]
      obtain ⟨k, rfl⟩ : ∃ k : Nat, i = k := ⟨i.toNat, by omega⟩
      have hk : k < n := by omega
      obtain ⟨b, off, rfl, hc⟩ := a3 (by omega)
      have e0 := hc k hk
      have c2 : ¬ (n : Int) ≤ k := by omega
      rw [Int.toNat_natCast]
      clear hc a3
      go_enter Tryd.func22, Tryd.ntmps22
      go_wp2
      go_ret2
      exact ⟨rfl, Own.refl w⟩
    · rw [if_neg (by omega), if_neg (by omega)]
      have c2 : (n : Int) ≤ i := by omega
      clear a3
      go_enter Tryd.func22, Tryd.ntmps22
      go_wp2
      go_ret2
      exact ⟨rfl, Own.refl w⟩
set_option maxRecDepth 100000 in
theorem radd_bad (l : Ss) (s : ByteArray) (g : Nat) (F : Nat → Prop) (f : Int) (w : World) (hsz : s.size ≤ maxLen) (HT : Hid (RTab w F g l)) (H : Hid (addE l s = f)) (hf : f ≠ 0) :
    Calls Tryd.prog 24 #[.pointer (some ⟨g, 0, none⟩), .string s] w fun e w' => e = .returned (.tuple #[.int .i64 0, .int .i64 f]) ∧ Own w w' := by
  have hs := Lib.hid hsz
  obtain ⟨v, h1, _, h3, _, _⟩ := HT.out.some
  have HP := Lib.hid (strs_of_row h3)
  obtain ⟨A, cap, rfl, _, _, _⟩ := strs_of_row h3
  have he := H.out
  unfold addE at he
  obtain ⟨r, hr⟩ : ∃ r, findI s l = r := ⟨_, rfl⟩
  have HR := Lib.hid hr
  obtain ⟨tv, htv⟩ : ∃ t, vldS s = t := ⟨_, rfl⟩
  have HV : Hid (vldB (bs s) = tv) := Lib.hid htv
  rw [htv, hr] at he
  clear hr htv h3 H HT hsz
  obtain ⟨n, hn⟩ : ∃ n, l.length = n := ⟨_, rfl⟩
  rw [hn] at he HP h1
  clear hn
  cases tv
  · obtain rfl : 8 = f := he
    go_enter Tryd.func24, Tryd.ntmps24
    go_wp2_with (go_at_call 12; with_reducible refine (rvalid_at s _ _ hs.out HV).mono ?_; rintro e w1 ⟨rfl, rfl⟩)
    go_ret2
    exact ⟨rfl, Own.refl w⟩
  · rw [if_pos rfl] at he
    by_cases c : 0 ≤ r
    · rw [if_pos c] at he
      subst he
      go_enter Tryd.func24, Tryd.ntmps24
      go_wp2_with (first | (go_at_call 12; with_reducible refine (rvalid_at s _ _ hs.out HV).mono ?_; rintro e w1 ⟨rfl, rfl⟩) | (go_at_call 36; with_reducible refine (find_at l (.slice A n cap) s r _ HP HR).mono ?_; rintro e w1 ⟨rfl, hg⟩; replace h1 := hg.cell h1))
      go_ret2
      exact ⟨rfl, hg⟩
    · rw [if_neg c] at he
      by_cases d : 512 ≤ n
      · rw [if_pos d] at he
        subst he
        have d1 : (512 : Int) ≤ n := by omega
        go_enter Tryd.func24, Tryd.ntmps24
        go_wp2_with (first | (go_at_call 12; with_reducible refine (rvalid_at s _ _ hs.out HV).mono ?_; rintro e w1 ⟨rfl, rfl⟩) | (go_at_call 36; with_reducible refine (find_at l (.slice A n cap) s r _ HP HR).mono ?_; rintro e w1 ⟨rfl, hg⟩; replace h1 := hg.cell h1))
        go_ret2
        exact ⟨rfl, hg⟩
      · rw [if_neg d] at he
        exact absurd he.symm hf
set_option maxRecDepth 100000 in
set_option maxHeartbeats 2000000 in
theorem radd_ok (l : Ss) (s : ByteArray) (g : Nat) (F : Nat → Prop) (w : World) (hsz : s.size ≤ maxLen) (HT : Hid (RTab w F g l)) (H : Hid (addE l s = 0)) :
    Calls Tryd.prog 24 #[.pointer (some ⟨g, 0, none⟩), .string s] w fun e w' => e = .returned (.tuple #[.int .i64 l.length, .int .i64 0]) ∧ Chg F w w' ∧ ∃ F', RTab w' F' g (l ++ [s]) ∧ ∀ k, F' k → F k ∨ w.heap.size ≤ k := by
  have hs := Lib.hid hsz
  obtain ⟨i0, hi, hz0, hz1, hz2⟩ := info_parts (show (Tryd.prog.info? 9).map (fun i => (i.zero, i.size, i.bytes)) = some (some (.string ⟨#[]⟩), 1, 16) by kernel_rfl)
  have HI := Lib.hid hi
  have HZ0 := Lib.hid hz0
  have HZ1 := Lib.hid hz1
  have HZ2 := Lib.hid hz2
  clear hi hz0 hz1 hz2
  obtain ⟨v, h1, hfz, h3, h4, h5⟩ := HT.out.some
  have HP := Lib.hid (strs_of_row h3)
  have HSH := Lib.hid (HT.out.short.snoc hsz)
  obtain ⟨⟨A, cap⟩, rfl⟩ : ∃ p : Option Addr × Nat, v = .slice p.1 l.length p.2 := by
    obtain ⟨A, cap, e, _⟩ := strs_of_row h3
    exact ⟨(A, cap), e⟩
  have he := H.out
  unfold addE at he
  obtain ⟨r, hr⟩ : ∃ r, findI s l = r := ⟨_, rfl⟩
  have HR := Lib.hid hr
  obtain ⟨tv, htv⟩ : ∃ t, vldS s = t := ⟨_, rfl⟩
  rw [htv, hr] at he
  have hgl : g < w.heap.size := block_lt_of_cell h1
  obtain rfl : true = tv := by
    cases tv
    · cases he
    · rfl
  have HV : Hid (vldB (bs s) = true) := Lib.hid htv
  rw [if_pos rfl] at he
  have c : ¬ 0 ≤ r := fun c => by rw [if_pos c] at he; cases he
  rw [if_neg c] at he
  have d : ¬ 512 ≤ l.length := fun d => by rw [if_pos d] at he; cases he
  have HL := Lib.hid (cellsS_snoc l s)
  have HF := Lib.hid h5
  have HNE := Lib.hid h4
  have HROW := Lib.hid h3
  clear hr htv H HT hsz he h3 h4 h5
  obtain ⟨n, hn⟩ : ∃ n, l.length = n := ⟨_, rfl⟩
  have HN := Lib.hid (show (l ++ [s]).length = n + 1 by rw [List.length_append, hn]; rfl)
  rw [hn] at HP h1 d HROW HNE HF
  rw [hn]
  clear hn
  simp only at HP h1 HROW HNE HF
  have d1 : ¬ (512 : Int) ≤ n := by omega
  have i1 : IntKind.i64.wrap (((n + 1 : Nat) : Int) - 1) = (n : Int) := by rw [show ((n + 1 : Nat) : Int) - 1 = (n : Int) by omega]; exact IntWalk.i64_in _ (by omega)
  have i1b : IntKind.i64.wrap ((n : Int) + 1 - 1) = (n : Int) := by rw [show (n : Int) + 1 - 1 = (n : Int) by omega]; exact IntWalk.i64_in _ (by omega)
  go_enter Tryd.func24, Tryd.ntmps24
  go_upto_region 9 with (first | (go_at_call 12; with_reducible refine (rvalid_at s _ _ hs.out HV).mono ?_; rintro e w1 ⟨rfl, rfl⟩) | (go_at_call 36; with_reducible refine (find_at l (.slice A n cap) s r _ HP HR).mono ?_; rintro e w1 ⟨rfl, hg⟩; replace hfz : w1.frozen? _ = _ := frozen_kept hg h1 hfz; replace h1 := hg.cell h1))
  have g2 : Own w1 (w1.alloc (.cells #[.string s] 9)) := (Own.refl w1).alloc _
  have HROW1 := Lib.hid (row_own HROW.out (hg.trans g2))
  have h1b := g2.cell h1
  have hfz2 : (w1.alloc (.cells #[.string s] 9)).frozen? ⟨g, 0, none⟩ = false := frozen_kept g2 h1 hfz
  go_wp2_with (at_builtin; refine wpList_append_lies _ rfl _ _ 25 rfl 0 9 i0 _ 1 16 Tryd.underlying25 HI.out HZ0.out HZ1.out HZ2.out rfl (by omega) _ _ _ rfl HROW1.out ⟨w1.heap.size, 0, none⟩ 1 1 [.string s] rfl rfl (World.news_of_block (cs := #[.string s]) (t := 9) (fr := (0, 0)) (heap_alloc_new w1 _)) (by simp [Value.oneCell']) (by omega) (by unfold maxLen; omega) (by omega) (Nat.zero_le _) _ rfl ?_)
  intro g1 cap1 w4 hown hgr hat hlt4
  have hsz : (w1.alloc (.cells #[.string s] 9)).heap.size = w1.heap.size + 1 := by first | go_simp | simp
  have hg1 : g < (w1.alloc (.cells #[.string s] 9)).heap.size := Nat.lt_of_lt_of_le hgl (Nat.le_trans hg.size g2.size)
  have h4 : w4.cell? ⟨g, 0, none⟩ = some (.slice A n cap) := (World.grownBy.cell_far hgr ⟨g, 0, none⟩ hg1 (fun e => HNE.out e.symm)).trans h1b
  have hf4 : w4.frozen? ⟨g, 0, none⟩ = false := (World.grownBy.frozen_far hgr ⟨g, 0, none⟩ hg1 (fun e => HNE.out e.symm)).trans hfz2
  have hne : g ≠ g1 := fun e => by
    rcases hat with k | k
    · exact HNE.out (by rw [k, e])
    · omega
  have HCH : Hid (Chg F w w4) := Lib.hid (((Chg.of_own hg).trans (Chg.of_own g2)).grown hgr fun k hk => (HF.out k).2 (.inr hk))
  have HFG := Lib.hid ((HF.out g).2 (.inl rfl))
  have HIN := Lib.hid (show F g1 ∨ w.heap.size ≤ g1 from by
    rcases hat with k | k
    · exact .inl ((HF.out g1).2 (.inr k))
    · exact .inr (by have := hg.size; omega))
  have HROW4 := Lib.hid (row_set hown (p := ⟨g, 0, none⟩) hne (.slice (some ⟨g1, 0, none⟩) (n + 1) cap1))
  have hcell : (w4.setCell ⟨g, 0, none⟩ (.slice (some ⟨g1, 0, none⟩) (n + 1) cap1)).cell? ⟨g, 0, none⟩ = some (.slice (some ⟨g1, 0, none⟩) (n + 1) cap1) := by go_simp
  have hfro : (w4.setCell ⟨g, 0, none⟩ (.slice (some ⟨g1, 0, none⟩) (n + 1) cap1)).frozen? ⟨g, 0, none⟩ = false := by go_simp
  have HCE := Lib.hid hcell
  have HFR := Lib.hid hfro
  have HN1 := Lib.hid hne
  clear hown hgr hat hcell hfro h1b hfz2 hfz h1 HROW1 g2 hg1 hsz hne
  go_wp2
  go_ret2
  refine ⟨rfl, HCH.out.setCell HFG.out _, fun k => k = g ∨ k = g1, ⟨⟨_, HCE.out, HFR.out, ?_, ?_, fun k => ?_⟩, HSH.out⟩, fun k hk => ?_⟩
  · rw [HN.out, HL.out]; exact HROW4.out
  · intro e; simp [Value.ownBlock] at e; exact HN1.out e.symm
  · simp [Value.ownBlock, eq_comm]
  · rcases hk with rfl | rfl
    · exact .inl HFG.out
    · exact HIN.out
end Go.Proofs.YtifiljmiehddfaaDoor.NamW
