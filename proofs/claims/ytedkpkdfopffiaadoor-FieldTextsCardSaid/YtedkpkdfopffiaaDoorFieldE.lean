/-
  Walk of the specification of package field: Split. Condition: none.
-/
import Derived.Test.YtedkpkdfopffiaaDoorFieldD
import Derived.Deep.AppendLies
namespace Go.Proofs.YtedkpkdfopffiaaDoor.NamW
open Go.ChangeShapes Go.WideShapes Go.ChangeAt Go.RowKit
open PairW NamP StrW FldP
theorem undbl_fst : ∀ (n : Nat) {s x r : Bs}, s.length ≤ n → undbl s = some (x, r) → x.length ≤ s.length
  | _, [], _, _, _, h => by cases h
  | 0, _ :: _, _, _, hn, _ => by simp at hn
  | n + 1, c :: s, x, r, hn, h => by
    by_cases e : c = 39
    · subst e
      cases s with
      | nil =>
        rw [undbl, if_pos rfl] at h
        injection h with h
        injection h with h _
        rw [← h]; simp
      | cons d s =>
        rw [undbl_q] at h
        by_cases e2 : d = 39
        · rw [if_pos e2, Option.map_eq_some_iff] at h
          obtain ⟨p, h1, h2⟩ := h
          injection h2 with h2 _
          have := undbl_fst n (r := p.2) (x := p.1) (by simp at hn ⊢; omega) h1
          rw [← h2]
          simp
          omega
        · rw [if_neg e2] at h
          injection h with h
          injection h with h _
          rw [← h]; simp
    · rw [undbl_c e, Option.map_eq_some_iff] at h
      obtain ⟨p, h1, h2⟩ := h
      injection h2 with h2 _
      have := undbl_fst n (r := p.2) (x := p.1) (by simp at hn ⊢; omega) h1
      rw [← h2]
      simp
      omega
theorem takeB_fst {s x r : Bs} (h : takeB s = some (x, r)) : x.length ≤ s.length := by
  cases s with
  | nil => cases h
  | cons c s =>
    change (if c = 39 then undbl s else if c = 32 then none else some ((c :: s).takeWhile _, (c :: s).dropWhile _)) = _ at h
    by_cases e : c = 39
    · rw [if_pos e] at h
      have := undbl_fst _ (Nat.le_refl _) h
      simp
      omega
    · rw [if_neg e] at h
      by_cases e2 : c = 32
      · rw [if_pos e2] at h; cases h
      · rw [if_neg e2] at h
        injection h with h
        injection h with h1 h2
        rw [← h1]
        exact (List.takeWhile_sublist ..).length_le
/-- What has been cut from a line, and what is left of it. -/
def CutL (s : ByteArray) (l : Ss) (r : ByteArray) : Prop := cutB (bs s) = (cutB (bs r)).map (fl l ++ ·)
theorem CutL.start (s : ByteArray) : CutL s [] s := by
  unfold CutL
  cases cutB (bs s) <;> rfl
theorem CutL.stop {s r : ByteArray} {l : Ss} (h : CutL s l r) (hr : ¬ 0 < r.size) : cutB (bs s) = some (fl l) := by
  unfold CutL at h
  have e : bs r = [] := List.eq_nil_of_length_eq_zero (by rw [bs_len]; omega)
  rw [h, e, cut_nil]
  simp
theorem bs_ne {r : ByteArray} (h : 0 < r.size) : bs r ≠ [] := fun e => by
  have := bs_len r
  rw [e, List.length_nil] at this
  omega
theorem CutL.no {s r : ByteArray} {l : Ss} (h : CutL s l r) (hr : 0 < r.size) (ht : takeB (bs r) = none) : cutB (bs s) = none := by
  unfold CutL at h
  rw [h, cut_none (bs_ne hr) ht]
  rfl
theorem CutL.step {s r x q : ByteArray} {l : Ss} {n : Nat} (h : CutL s l r) (hr : 0 < r.size) (ht : takeB (bs r) = some (bs x, (bs r).drop n)) (hq : bs q = ((bs r).drop n).tail) : CutL s (l ++ [x]) q := by
  unfold CutL at *
  rw [h, cut_step (bs_ne hr) ht, ← hq, Option.map_map]
  congr 1
  funext p
  unfold fl
  simp
theorem split_no {s : ByteArray} (h1 : s.size ≤ 1024) (h : cutB (bs s) = none) : splitE (bs s) = 2 ∧ splitV (bs s) = [] := by
  have hr : splitR (bs s) = none := by unfold splitR; rw [h]
  have he : splitE (bs s) = 2 := by
    unfold splitE
    rw [if_neg (by rw [bs_len]; omega), hr]
    rfl
  exact ⟨he, by unfold splitV; rw [he, if_neg (by decide)]⟩
theorem split_full {s : ByteArray} (h : 1024 < s.size) : splitE (bs s) = 3 ∧ splitV (bs s) = [] := by
  have he : splitE (bs s) = 3 := by unfold splitE; rw [if_pos (by rw [bs_len]; exact h)]
  exact ⟨he, by unfold splitV; rw [he, if_neg (by decide)]⟩
theorem split_some {s : ByteArray} {L : List Bs} (h1 : s.size ≤ 1024) (h : cutB (bs s) = some L) :
    (joinE L = 0 ∧ joinB L = bs s → splitE (bs s) = 0 ∧ splitV (bs s) = L) ∧ (¬ (joinE L = 0 ∧ joinB L = bs s) → splitE (bs s) = 2 ∧ splitV (bs s) = []) := by
  have hl : ¬ 1024 < (bs s).length := by rw [bs_len]; omega
  constructor
  · intro c
    have hr : splitR (bs s) = some L := by
      unfold splitR
      rw [h]
      show (if _ then _ else _) = _
      rw [if_pos c]
    have he : splitE (bs s) = 0 := by unfold splitE; rw [if_neg hl, hr]; rfl
    exact ⟨he, by unfold splitV; rw [he, if_pos rfl, hr]; rfl⟩
  · intro c
    have hr : splitR (bs s) = none := by
      unfold splitR
      rw [h]
      show (if _ then _ else _) = _
      rw [if_neg c]
    have he : splitE (bs s) = 2 := by unfold splitE; rw [if_neg hl, hr]; rfl
    exact ⟨he, by unfold splitV; rw [he, if_neg (by decide)]⟩
theorem strs_row {w : World} {base n : Nat} {e : TypeId} {sv : Value} {l : Ss} (h : w.ownsRow base e 1 sv n (cellsS l)) (hn : l.length = n) : Strs w sv l := by
  subst hn
  exact strs_of_row h
set_option maxRecDepth 100000 in
set_option maxHeartbeats 4000000 in
theorem rsplit_at (s : ByteArray) (f : Int) (w : World) (hs : s.size ≤ 100000) (H : Hid (splitE (bs s) = f)) :
    Calls Tryd.prog 15 #[.string s] w fun e w' => ∃ l v, e = .returned (.tuple #[v, .int .i64 f]) ∧ w'.ownsRow w.heap.size 9 1 v l.length (cellsS l) ∧ fl l = splitV (bs s) ∧ Short l ∧ Own w w' := by
  obtain ⟨i0, hi, hz0, hz1, hz2⟩ := info_parts (show (Tryd.prog.info? 9).map (fun i => (i.zero, i.size, i.bytes)) = some (some (.string ⟨#[]⟩), 1, 16) by kernel_rfl)
  have HI := Lib.hid hi
  have HZ0 := Lib.hid hz0
  have HZ1 := Lib.hid hz1
  have HZ2 := Lib.hid hz2
  clear hi hz0 hz1 hz2
  have HNIL : Hid (∀ w' : World, Own w w' → splitV (bs s) = [] → ∃ l v, (.returned (.tuple #[.slice none 0 0, .int .i64 f]) : Ending) = .returned (.tuple #[v, .int .i64 f]) ∧ w'.ownsRow w.heap.size 9 1 v l.length (cellsS l) ∧ fl l = splitV (bs s) ∧ Short l ∧ Own w w') :=
    Lib.hid fun w' hg hv => ⟨[], _, rfl, World.ownsRow_nil _ _ _ _, hv.symm, fun s hs => (by cases hs), hg⟩
  by_cases hb : 1024 < s.size
  · have hbi : (1024 : Int) < s.size := by omega
    obtain ⟨h1, h2⟩ := split_full hb
    obtain rfl : 3 = f := by rw [← H.out, h1]
    have HV := Lib.hid h2
    clear h1 h2 H
    go_enter Tryd.func15, Tryd.ntmps15
    go_wp2
    go_ret2
    exact HNIL.out _ (Own.refl w) HV.out
  · have hbi : ¬ (1024 : Int) < s.size := by omega
    have HCL := Lib.hid (CutL.start s)
    have HNO := Lib.hid (split_no (s := s) (by omega))
    have HSO := Lib.hid (fun L => split_some (s := s) (L := L) (by omega))
    go_enter Tryd.func15, Tryd.ntmps15
    go_wp2
    clear hbi
    go_loopw [4, 5] (fun v q wr => ∃ (l : Ss) (r : ByteArray), q = .string r ∧ CutL s l r ∧ l.length + r.size ≤ s.size ∧ Short l ∧ Own w wr ∧ wr.ownsRow w.heap.size 9 1 v l.length (cellsS l)) (fun _ q _ => match q with | .string q => q.size | _ => 0)
    case atStart => exact ⟨[], s, rfl, HCL.out, by simp, fun s hs => (by cases hs), Own.refl w, World.ownsRow_nil w _ _ _⟩
    case round =>
      obtain ⟨l, r, rfl, hcl, hlr, hsh, q, hrow⟩ := hrel
      have HC := Lib.hid hcl
      have HSH := Lib.hid hsh
      have HROW := Lib.hid hrow
      have HSN := Lib.hid (fun x => cellsS_snoc l x)
      have HLN := Lib.hid (fun x : ByteArray => show (l ++ [x]).length = l.length + 1 by simp)
      clear hcl hsh hrow
      by_cases h0 : 0 < r.size
      · have hne : r.toList.isEmpty = false := nonempty_at h0
        have HR1 : Hid (r.size ≤ 100000) := Lib.hid (by omega)
        generalize wr = wa at *
        go_upto_region 7 with (go_at_call 30; with_reducible refine (take_walk r _ HR1.out).mono ?_; rintro e w1 ⟨x, n, rfl, ht, rfl⟩)
        rcases ht with ⟨ht, rfl⟩ | ⟨ht, hn0, hn⟩
        · obtain ⟨h1, h2⟩ := HNO.out (HC.out.no h0 ht)
          obtain rfl : 2 = f := by rw [← H.out, h1]
          have HV := Lib.hid h2
          clear h1 h2 H ht
          go_wp2
          go_ret2
          exact HNIL.out _ q HV.out
        · have hxl : x.size ≤ maxLen := by
            have := takeB_fst ht
            rw [bs_len, bs_len] at this
            unfold maxLen
            omega
          have HXS := Lib.hid (show Short (l ++ [x]) from HSH.out.snoc hxl)
          have hni : ((n : Int) == 0) = false := beq_eq_false_iff_ne.2 (by omega)
          have hnz : ¬ (n : Int) = 0 := by omega
          have hn1 : (0 : Int) ≤ n := by omega
          have hn2 : (n : Int) ≤ r.size := by omega
          have hq1 : bs (r.extract n r.size) = (bs r).drop n := by rw [bs_extract, List.take_of_length_le (by rw [List.length_drop, bs_len]; omega)]
          have hz1 : (r.extract n r.size).size = r.size - n := by rw [ByteArray.size_extract]; omega
          obtain ⟨q1, hq⟩ : ∃ q1, r.extract n r.size = q1 := ⟨_, rfl⟩
          rw [hq] at hq1 hz1
          have HTK := Lib.hid ht
          have HQ1 := Lib.hid hq1
          have HSZ := Lib.hid (show l.length + r.size ≤ s.size from hlr)
          clear ht hq1 hxl
          have g2 : Own w (wa.alloc (.cells #[.string x] 9)) := q.alloc _
          have HROW1 := Lib.hid (HROW.out.alloc (.cells #[.string x] 9))
          have hls : l.length ≤ 100000 := by omega
          go_upto_region 10 with (at_builtin; refine wpList_append_lies _ rfl _ _ 22 rfl w.heap.size 9 i0 _ 1 16 Tryd.underlying22 HI.out HZ0.out HZ1.out HZ2.out rfl (by omega) _ _ _ rfl HROW1.out ⟨wa.heap.size, 0, none⟩ 1 1 [.string x] rfl rfl (World.news_of_block (cs := #[.string x]) (t := 9) (fr := (0, 0)) (heap_alloc_new wa _)) (by simp [Value.oneCell']) (by omega) (by unfold maxLen; omega) (by omega) g2.size _ rfl ?_; intro g gcap w4 hown hgr hat hlt4)
          have hO : Own w w4 := g2.grown hgr (fun j hj => (HROW1.out.lt j hj).1)
          have HR4 := Lib.hid (show w4.ownsRow w.heap.size 9 1 (.slice (some ⟨g, 0, none⟩) (l.length + 1) gcap) (l ++ [x]).length (cellsS (l ++ [x])) by
            rw [HSN.out, HLN.out]; exact hown)
          clear hown hgr hat HROW HROW1 q g2
          by_cases h2 : 0 < q1.size
          · have hne2 : q1.toList.isEmpty = false := nonempty_at h2
            have h2i : (1 : Int) ≤ q1.size := by omega
            have HC2 := Lib.hid (HC.out.step (q := q1.extract 1 q1.size) h0 HTK.out (by rw [bs_extract, List.take_of_length_le (by rw [List.length_drop, bs_len]; exact Nat.le_refl _), HQ1.out, List.drop_one]))
            have hz2 : (q1.extract 1 q1.size).size = q1.size - 1 := by rw [ByteArray.size_extract]; omega
            have HZ2' := Lib.hid hz2
            have HZQ := Lib.hid hz1
            clear hz2 hz1
            go_wp2
            refine ⟨⟨l ++ [x], _, rfl, HC2.out, ?_, HXS.out, hO, HR4.out⟩, ?_⟩
            · rw [HLN.out, HZ2'.out, HZQ.out]; have := HSZ.out; omega
            · show (q1.extract 1 q1.size).size < r.size
              rw [HZ2'.out, HZQ.out]
              omega
          · have hne2 : q1.toList.isEmpty = true := empty_at h2
            have HC2 := Lib.hid (HC.out.step (q := q1) h0 HTK.out (by
              have e : bs q1 = [] := List.eq_nil_of_length_eq_zero (by rw [bs_len]; omega)
              rw [← HQ1.out, e]
              rfl))
            go_wp2
            refine ⟨⟨l ++ [x], _, rfl, HC2.out, ?_, HXS.out, hO, HR4.out⟩, ?_⟩
            · rw [HLN.out]; have := HSZ.out; omega
            · show q1.size < r.size
              omega
      · have hne : r.toList.isEmpty = true := empty_at h0
        have hcut := HC.out.stop h0
        obtain ⟨y1, y2⟩ := HSO.out _ hcut
        have HY1 := Lib.hid y1
        have HY2 := Lib.hid y2
        have HP := Lib.hid (strs_row HROW.out rfl)
        have HLS : Hid (l.length ≤ 10000) := Lib.hid (by omega)
        obtain ⟨jf, hjf⟩ : ∃ x, joinE (fl l) = x := ⟨_, rfl⟩
        have HJF := Lib.hid hjf
        clear hcut y1 y2 hjf
        generalize wr = wa at *
        go_upto_region 14 with (go_at_call 13; refine (rjoin_at l _ jf _ HP HSH HLS.out HJF).mono ?_; rintro e w1 ⟨j, rfl, hj, rfl⟩)
        by_cases c0 : jf = 0
        · subst c0
          have hjv : joinV (fl l) = joinB (fl l) := by unfold joinV; rw [HJF.out, if_pos rfl]
          rw [hjv] at hj
          by_cases c1 : j = s
          · subst c1
            have cc := str_eq (rfl : j = j)
            obtain ⟨e1, e2⟩ := HY1.out ⟨HJF.out, hj.symm⟩
            obtain rfl : 0 = f := by rw [← H.out, e1]
            have HV := Lib.hid e2
            clear e1 e2 H hj hjv
            go_wp2
            go_ret2
            exact ⟨l, _, rfl, HROW.out, HV.out.symm, HSH.out, q⟩
          · have cc := str_ne c1
            obtain ⟨e1, e2⟩ := HY2.out (fun k => c1 (bytes_inj (by show bs j = bs s; rw [hj]; exact k.2)))
            obtain rfl : 2 = f := by rw [← H.out, e1]
            have HV := Lib.hid e2
            clear e1 e2 H hj hjv c1
            go_wp2
            go_ret2
            exact HNIL.out _ q HV.out
        · obtain ⟨e1, e2⟩ := HY2.out (fun k => c0 (by rw [← HJF.out]; exact k.1))
          obtain rfl : 2 = f := by rw [← H.out, e1]
          have HV := Lib.hid e2
          have c0i : (jf == 0) = false := beq_eq_false_iff_ne.2 c0
          clear e1 e2 H hj
          go_wp2
          go_ret2
          exact HNIL.out _ q HV.out
end Go.Proofs.YtedkpkdfopffiaaDoor.NamW
