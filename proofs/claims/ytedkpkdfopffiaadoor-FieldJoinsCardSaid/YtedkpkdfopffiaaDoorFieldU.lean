/-
  Walk of the specification of package field: Lines: what a call returns for every input. Condition: none.
-/
import Derived.Test.YtedkpkdfopffiaaDoorFieldT
namespace Go.Proofs.YtedkpkdfopffiaaDoor.NamW
open Go.ChangeShapes Go.WideShapes Go.ChangeAt Go.RowKit
open PairW NamP StrW FldP
theorem last_at {s : ByteArray} (h : 0 < s.size) : (bs s).getLast? = some s[s.size - 1] := by
  rw [List.getLast?_eq_getElem?, bs_len, List.getElem?_eq_getElem (by rw [bs_len]; omega)]
  rfl
theorem bs_nth {s : ByteArray} {k : Nat} (h : k < s.size) : (bs s)[k]'(by rw [bs_len]; exact h) = s[k] := rfl
theorem form_yes {s : ByteArray} (h : 0 < s.size) (h1 : s[s.size - 1].toNat ≠ 10) : bs s ≠ [] ∧ (bs s).getLast? ≠ some 10 := by
  refine ⟨bs_ne h, ?_⟩
  rw [last_at h]
  intro e
  injection e with e
  exact h1 (by rw [e]; rfl)
theorem form_no {s : ByteArray} (h : 0 < s.size) (h1 : s[s.size - 1].toNat = 10) : ¬ (bs s ≠ [] ∧ (bs s).getLast? ≠ some 10) := fun e => e.2 (by rw [last_at h, show s[s.size - 1] = 10 from UInt8.toNat_inj.1 h1])
theorem form_none {s : ByteArray} (h : ¬ 0 < s.size) : ¬ (bs s ≠ [] ∧ (bs s).getLast? ≠ some 10) := fun e => e.1 (List.eq_nil_of_length_eq_zero (by rw [bs_len]; omega))
theorem passed_none {s : ByteArray} (h : ¬ 0 < s.size) : passed (bs s) = true := by
  have e : bs s = [] := List.eq_nil_of_length_eq_zero (by rw [bs_len]; omega)
  rw [e]; rfl
theorem passed_at {s : ByteArray} (h : 0 < s.size) : passed (bs s) = decide (s[0].toNat = 37) := by
  unfold passed
  rw [head_at h, decide_eq_false (bs_ne h), Bool.false_or]
  refine decide_eq_decide.2 ⟨fun e => by injection e with e; rw [e]; rfl, fun e => by rw [show s[0] = 37 from UInt8.toNat_inj.1 e]⟩
set_option maxRecDepth 100000 in
set_option maxHeartbeats 4000000 in
theorem rlines_at (s : ByteArray) (f : Int) (w : World) (hs : s.size ≤ 100000) (H : Hid (linesE (bs s) = f)) :
    Calls Tryd.prog 18 #[.string s] w fun e w' => ∃ L v, e = .returned (.tuple #[v, .int .i64 f]) ∧ Lns w' v L ∧ L.map fl = linesV (bs s) ∧ Own w w' := by
  obtain ⟨i0, hi, hz0, hz1, hz2⟩ := info_parts (show (Tryd.prog.info? 22).map (fun i => (i.zero, i.size, i.bytes)) = some (some (.slice none 0 0), 1, 24) by kernel_rfl)
  have HI := Lib.hid hi
  have HZ0 := Lib.hid hz0
  have HZ1 := Lib.hid hz1
  have HZ2 := Lib.hid hz2
  clear hi hz0 hz1 hz2
  have HNIL : Hid (∀ w' : World, Own w w' → linesV (bs s) = [] → ∃ L v, (.returned (.tuple #[.slice none 0 0, .int .i64 f]) : Ending) = .returned (.tuple #[v, .int .i64 f]) ∧ Lns w' v L ∧ L.map fl = linesV (bs s) ∧ Own w w') :=
    Lib.hid fun w' hg hv => ⟨[], _, rfl, ⟨none, 0, rfl, Nat.le_refl _, Nat.zero_le _, fun h => absurd h (by simp)⟩, hv.symm, hg⟩
  by_cases h0 : 0 < s.size
  · have i3 : IntKind.i64.wrap ((s.size : Int) - 1) = (s.size : Int) - 1 := IntWalk.i64_in _ (by omega)
    have k3 : 0 ≤ (s.size : Int) - 1 := by omega
    have k4 : ((s.size : Int) - 1).toNat = s.size - 1 := by omega
    have k5 : s.size - 1 < s.size := by omega
    have k6 : (s.size : Int) - 1 < s.size := by omega
    have hne := nonempty_at h0
    by_cases hl : s[s.size - 1].toNat = 10
    · have c1 : ((s[s.size - 1].toNat : Int) != 10) = false := bne_eq_false_iff_eq.2 (by omega)
      have HT := Lib.hid (form_no h0 hl)
      clear hl
      go_enter Tryd.func18, Tryd.ntmps18
      go_wp2
      go_loopw [4, 5, 6] (fun v a i wr => ∃ (k a' : Nat) (L : List Ss) (xs : List Value), a = .int .i64 a' ∧ i = .int .i64 k ∧ a' ≤ k ∧ k ≤ s.size ∧ Own w wr ∧ wr.ownsRow w.heap.size 22 1 v L.length xs ∧ RowsL wr xs L ∧ L.length ≤ k ∧ DoneL (bs s) a' k L ∧ ∀ sv ∈ xs, ∀ b, sv.ownBlock = some b → b < wr.heap.size ∧ v.ownBlock ≠ some b) (fun _ _ i _ => s.size - (intOf i).toNat)
      case atStart => exact ⟨0, 0, [], [], rfl, rfl, Nat.le_refl _, Nat.zero_le _, Own.refl w, World.ownsRow_nil w _ _ _, RowsL.nil w, Nat.zero_le _, DoneL.start _, fun sv hs => (by cases hs)⟩
      case round =>
        obtain ⟨k, a, L, xs, rfl, rfl, hak, hk, q, hrow, hrl, hll, hdone, hdj⟩ := hrel
        have HDJ := Lib.hid hdj
        have HROW := Lib.hid hrow
        have HRL := Lib.hid hrl
        have HLL := Lib.hid hll
        have HAK := Lib.hid hak
        clear hrow hrl hll hdj
        by_cases hlt : k < s.size
        · have hki : (k : Int) < s.size := by omega
          by_cases c : s[k].toNat = 10
          · have c1 : ((s[k].toNat : Int) != 10) = false := bne_eq_false_iff_eq.2 (by omega)
            have hkl : k < (bs s).length := by rw [bs_len]; exact hlt
            have hc : (bs s)[k] = 10 := UInt8.toNat_inj.1 c
            have hx := ext_at (s := s) a k (by omega)
            obtain ⟨ln, hln⟩ : ∃ ln, s.extract a k = ln := ⟨_, rfl⟩
            rw [hln] at hx
            have HPASS := Lib.hid (fun hp => hdone.pass hkl hc hp)
            have HTAKE := Lib.hid (fun l hp he hl => hdone.take (l := l) hkl hc hp he hl)
            have HBAD := Lib.hid (fun hp he => hdone.bad HT.out hkl hc hp he)
            rw [← hx.1] at HPASS HTAKE HBAD
            have HLS := Lib.hid (show ln.size ≤ 100000 by omega)
            have ai : (a : Int) ≤ k := by omega
            have i1 : IntKind.i64.wrap ((k : Int) + 1) = (k : Int) + 1 := IntWalk.i64_in _ (by omega)
            clear c hc hx hdone hkl
            by_cases hz : 0 < ln.size
            · have hze := nonempty_at hz
              have hzp := passed_at hz
              by_cases p : ln[0].toNat = 37
              · have p1 : ((ln[0].toNat : Int) == 37) = true := beq_iff_eq.2 (by omega)
                have HD := Lib.hid (HPASS.out (by rw [hzp, decide_eq_true p]))
                clear hzp p
                go_wp2
                go_roundw
                case rel => exact ⟨k + 1, k + 1, L, xs, by go_num, by go_num, Nat.le_refl _, hlt, q, HROW.out, HRL.out, Nat.le_succ_of_le HLL.out, HD.out, HDJ.out⟩
                case measure => simp [intOf]; omega
              · have p1 : ((ln[0].toNat : Int) == 37) = false := beq_eq_false_iff_ne.2 (by omega)
                have HNP := Lib.hid (show passed (bs ln) = false by rw [hzp, decide_eq_false p])
                obtain ⟨g, hg⟩ : ∃ g, splitE (bs ln) = g := ⟨_, rfl⟩
                have HG := Lib.hid hg
                clear hzp p hg
                by_cases g0 : g = 0
                · subst g0
                  go_upto_region 15 with (go_at_call 15; with_reducible refine (rsplit_at ln 0 _ HLS.out HG).mono ?_; rintro e w1 ⟨l, lv, rfl, hrl, hfl, _, hg1⟩; obtain ⟨lA, lc, rfl⟩ := row_slice hrl)
                  have HD := Lib.hid (HTAKE.out l HNP.out HG.out hfl)
                  have HSL := Lib.hid (strs_of_row hrl)
                  have q1 : Own w (w1.alloc (.cells #[.slice lA l.length lc] 22)) := (q.trans hg1).alloc _
                  have HROW1 := Lib.hid ((row_own HROW.out hg1).alloc (.cells #[.slice lA l.length lc] 22))
                  have HRL1 := Lib.hid ((HRL.out.own hg1).own ((Own.refl w1).alloc (.cells #[.slice lA l.length lc] 22)))
                  have HSL1 := Lib.hid (HSL.out.own ((Own.refl w1).alloc (.cells #[.slice lA l.length lc] 22)))
                  have HLB := Lib.hid (fun b (h : (Value.slice lA l.length lc).ownBlock = some b) => hrl.lt b h)
                  have HOB := Lib.hid (fun b (h : u4.ownBlock = some b) => HROW.out.lt b h)
                  have hw1 := hg1.size
                  have hsz : (w1.alloc (.cells #[.slice lA l.length lc] 22)).heap.size = w1.heap.size + 1 := by first | go_simp | simp
                  have hll := HLL.out
                  clear HROW HRL hrl HSL q
                  go_wp2_with (at_builtin; refine wpList_append_lies _ rfl _ _ 34 rfl w.heap.size 22 i0 _ 1 24 Tryd.underlying34 HI.out HZ0.out HZ1.out HZ2.out rfl (by omega) _ _ _ rfl HROW1.out ⟨w1.heap.size, 0, none⟩ 1 1 [.slice lA l.length lc] rfl rfl (World.news_of_block (cs := #[.slice lA l.length lc]) (t := 22) (fr := (0, 0)) (heap_alloc_new w1 _)) (by simp [Value.oneCell']) (by omega) (by unfold maxLen; omega) (by omega) q1.size _ rfl ?_)
                  intro gg cap4 w4 hown hgr hat hlt4
                  have hO : Own w w4 := q1.grown hgr (fun j hj => (HROW1.out.lt j hj).1)
                  have hne1 : ∀ sv ∈ xs, ∀ b, sv.ownBlock = some b → u4.ownBlock ≠ some b := fun sv hs b hb => (HDJ.out sv hs b hb).2
                  have hne2 : ∀ b, (Value.slice lA l.length lc).ownBlock = some b → u4.ownBlock ≠ some b := fun b hb e => by
                    have := (HLB.out b hb).1
                    have := (HOB.out b e).2
                    omega
                  have HRL4 := Lib.hid ((HRL1.out.grown hgr hne1).snoc (strs_grown HSL1.out hgr hne2))
                  have HDJ4 : Hid (∀ sv ∈ xs ++ [.slice lA l.length lc], ∀ b, sv.ownBlock = some b → b < w4.heap.size ∧ (Value.slice (some ⟨gg, 0, none⟩) (L.length + 1) cap4).ownBlock ≠ some b) := Lib.hid fun sv hs b hb => by
                    have h4 := hgr.size
                    rcases List.mem_append.1 hs with k | k
                    · obtain ⟨h1, h2⟩ := HDJ.out sv k b hb
                      refine ⟨by omega, fun e => ?_⟩
                      injection e with e
                      have e : gg = b := e
                      rcases hat with k | k
                      · exact h2 (by rw [k, e])
                      · omega
                    · obtain rfl := List.mem_singleton.1 k
                      have h1 := HLB.out b hb
                      refine ⟨by omega, fun e => ?_⟩
                      injection e with e
                      have e : gg = b := e
                      rcases hat with k | k
                      · exact hne2 b hb (by rw [k, e])
                      · omega
                  have HROW4 := Lib.hid hown
                  have HLEN := Lib.hid (show (L ++ [l]).length = L.length + 1 by rw [List.length_append]; rfl)
                  clear hown hgr hat HROW1 HRL1 HSL1 HLB HOB hw1 hsz hne1 hne2 HDJ
                  go_wp2
                  go_roundw
                  case rel => exact ⟨k + 1, k + 1, L ++ [l], xs ++ [.slice lA l.length lc], by go_num, by go_num, Nat.le_refl _, hlt, hO, by rw [HLEN.out]; exact HROW4.out, HRL4.out, by rw [HLEN.out]; omega, HD.out, HDJ4.out⟩
                  case measure => simp [intOf]; omega
                · have hb := HBAD.out HNP.out (by rw [HG.out]; exact g0)
                  obtain rfl : g = f := by rw [← HG.out, ← hb.1, H.out]
                  have HV := Lib.hid hb.2
                  have gb : (g != 0) = true := bne_iff_ne.2 g0
                  clear hb
                  go_wp2_with (go_at_call 15; with_reducible refine (rsplit_at ln g _ HLS.out HG).mono ?_; rintro e w1 ⟨l, lv, rfl, hrl, hfl, _, hg1⟩)
                  go_ret2
                  exact HNIL.out _ (q.trans hg1) HV.out
            · have hze := empty_at hz
              have HD := Lib.hid (HPASS.out (passed_none hz))
              go_wp2
              go_roundw
              case rel => exact ⟨k + 1, k + 1, L, xs, by go_num, by go_num, Nat.le_refl _, hlt, q, HROW.out, HRL.out, Nat.le_succ_of_le HLL.out, HD.out, HDJ.out⟩
              case measure => simp [intOf]; omega
          · have c1 : ((s[k].toNat : Int) != 10) = true := bne_iff_ne.2 (by omega)
            have hkl : k < (bs s).length := by rw [bs_len]; exact hlt
            have HD := Lib.hid (hdone.byte hak hkl (fun e => c (by rw [← bs_nth hlt, e]; rfl)))
            clear c hdone hkl
            go_wp2
            go_roundw
            case rel => exact ⟨k + 1, a, L, xs, rfl, by go_num, Nat.le_succ_of_le HAK.out, hlt, q, HROW.out, HRL.out, Nat.le_succ_of_le HLL.out, HD.out, HDJ.out⟩
            case measure => simp [intOf]; omega
        · obtain rfl : k = s.size := by omega
          have hstop := DoneL.stop (by rw [bs_len]; exact hdone) HT.out
          obtain rfl : 0 = f := by rw [← H.out, hstop.1]
          have HV := Lib.hid hstop.2
          clear hstop hdone
          go_wp2
          go_ret2
          exact ⟨L, _, rfl, (lns_of_row HROW.out HRL.out).1, HV.out.symm, q⟩
    · have c1 : ((s[s.size - 1].toNat : Int) != 10) = true := bne_iff_ne.2 (by omega)
      have hf := lines_form (form_yes h0 hl)
      obtain rfl : 2 = f := by rw [← H.out, hf.1]
      have HV := Lib.hid hf.2
      clear hl hf
      go_enter Tryd.func18, Tryd.ntmps18
      go_wp2
      go_ret2
      exact HNIL.out _ (Own.refl w) HV.out
  · obtain rfl : s = ⟨#[]⟩ := bytes_inj (List.eq_nil_of_length_eq_zero (by rw [bs_len]; omega))
    have hstop : linesE [] = 0 ∧ linesV [] = [] := ⟨rfl, rfl⟩
    obtain rfl : 0 = f := H.out
    clear H h0
    go_enter Tryd.func18, Tryd.ntmps18
    go_wp2
    refine wp_loop_rounds 1 ?_
    rw [rounds_succ]
    go_wp2
    go_ret2
    exact HNIL.out _ (Own.refl w) hstop.2
end Go.Proofs.YtedkpkdfopffiaaDoor.NamW
