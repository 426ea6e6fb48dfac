/-
  Walk of the law IdentFull. Condition: none.
-/
import Derived.Test.YtifiljmiehddfaaDoorIdentL6
import Derived.Deep.AppendLies
namespace Go.Proofs.YtifiljmiehddfaaDoor.NamW
open Go.ChangeShapes Go.WideShapes Go.ChangeAt Go.RowKit
open PairW NamP StrW
open Go.Lib (decDigits)
def nmS (i : Nat) : ByteArray := ⟨#[110]⟩ ++ decS i
theorem bs_nm (i : Nat) : bs (nmS i) = 110 :: decDigits i := by unfold nmS; rw [bs_append, bs_dec]; rfl
def lst (N : Nat) : Ss := (List.range N).map nmS
theorem lst_len (N : Nat) : (lst N).length = N := by unfold lst; simp
theorem lst_succ (k : Nat) : lst (k + 1) = lst k ++ [nmS k] := by unfold lst; rw [List.range_succ, List.map_append]; rfl
theorem lst_mem {N : Nat} {x : ByteArray} (h : x ∈ lst N) : ∃ i, i < N ∧ x = nmS i := by
  obtain ⟨i, hi, rfl⟩ := List.mem_map.1 h
  exact ⟨i, List.mem_range.1 hi, rfl⟩
theorem nm_len {i : Nat} (h : i < 4294967296) : (decDigits i).length ≤ 10 := dec_len 9 i (by omega)
theorem nm_vld {i : Nat} (h : i < 4294967296) : vldS (nmS i) = true := by
  show vldB (bs (nmS i)) = true
  rw [bs_nm]
  exact vld_num (dec_val i).1 (by have := nm_len h; omega)
theorem nm_size {i : Nat} (h : i < 4294967296) : (nmS i).size ≤ maxLen := by
  rw [show (nmS i).size = (bs (nmS i)).length from (bs_len _).symm, bs_nm]
  have := nm_len h
  unfold maxLen
  simp
  omega
theorem lst_short {N : Nat} (h : N ≤ 1000) : Short (lst N) := fun s hs => by
  obtain ⟨i, hi, rfl⟩ := lst_mem hs
  exact nm_size (by omega)
theorem lst_vld {N : Nat} (h : N ≤ 1000) : (lst N).all vldS = true := List.all_eq_true.2 fun s hs => by
  obtain ⟨i, hi, rfl⟩ := lst_mem hs
  exact nm_vld (by omega)
theorem nm_inj {i j : Nat} (h : nmS i = nmS j) : i = j := by
  have := congrArg bs h
  rw [bs_nm, bs_nm] at this
  injection this with _ h2
  exact dec_inj h2
theorem lst_nodup (N : Nat) : (lst N).Nodup := by
  unfold lst
  refine List.pairwise_map.2 (List.Pairwise.imp (fun {a b} h e => h (nm_inj e)) (List.nodup_range (n := N)))
theorem new_lst {N : Nat} (h : N ≤ 1000) : newE (lst N) = if 512 < N then 3 else 0 := by
  unfold newE
  rw [if_pos (lst_vld h), if_pos (lst_nodup N), lst_len]
abbrev zz : ByteArray := ⟨#[122]⟩
theorem add_lst (N : Nat) : addE (lst N) zz = if 512 ≤ N then 3 else 0 := by
  unfold addE
  have hn : zz ∉ lst N := fun h => by
    obtain ⟨i, _, e⟩ := lst_mem h
    have := congrArg bs e
    rw [bs_nm] at this
    exact absurd this (by unfold bs; simp)
  have := find_neg.2 hn
  rw [if_pos (show vldS zz = true by decide), if_neg (by omega), lst_len]
theorem new_no {T : World → (Nat → Prop) → Nat → Ss → Prop} {l : Ss} {w w' : World} {e : Ending} (h : NewRet T l 3 w e w') : e = .returned (.tuple #[.pointer none, .int .i64 3]) ∧ Own w w' := by
  rcases h with ⟨_, h1, h2⟩ | ⟨h, _⟩
  · exact ⟨h1, h2⟩
  · exact absurd h (by decide)
set_option maxRecDepth 100000 in
set_option maxHeartbeats 4000000 in
theorem IdentFull_walk {T : World → (Nat → Prop) → Nat → Ss → Prop} (C : IdentC T) (D : IdentA T) (E : IdentN) (n : Nat) (s : ByteArray) (w : World) (hs : s.size ≤ maxLen) (HT : Hid (PowTab w)) :
    Calls Tryd.prog 10 #[.int .u8 n, .string s] w fun e w' => e = .returned (.bool true) ∧ Own w w' := by
  obtain ⟨i0, hi, hz0, hz1, hz2⟩ := info_parts (show (Tryd.prog.info? 9).map (fun i => (i.zero, i.size, i.bytes)) = some (some (.string ⟨#[]⟩), 1, 16) by kernel_rfl)
  have HI := Lib.hid hi
  have HZ0 := Lib.hid hz0
  have HZ1 := Lib.hid hz1
  have HZ2 := Lib.hid hz2
  clear hi hz0 hz1 hz2
  have HSZ := Lib.hid hs
  clear hs
  obtain ⟨r, hr⟩ : ∃ r : Nat, (n : Int) % 5 = (r : Int) := ⟨n % 5, by omega⟩
  have hr4 : r ≤ 4 := by omega
  have k1 : IntKind.i64.wrap (510 + (r : Int)) = 510 + r := IntWalk.i64_in _ (by omega)
  have HSH := Lib.hid (lst_short (N := 510 + r) (by omega))
  have HNEW := Lib.hid (new_lst (N := 510 + r) (by omega))
  have HADD := Lib.hid (add_lst (510 + r))
  have HLL := Lib.hid (lst_len (510 + r))
  have HR4 := Lib.hid hr4
  clear hr4
  go_enter Tryd.func10, Tryd.ntmps10
  go_wp2
  go_loopw [5, 6] (fun v i wr => ∃ k : Nat, i = .int .i64 k ∧ k ≤ 510 + r ∧ Own w wr ∧ wr.ownsRow w.heap.size 9 1 v k (cellsS (lst k))) (fun _ i _ => 510 + r - (intOf i).toNat)
  case atStart => exact ⟨0, rfl, Nat.zero_le _, Own.refl w, World.ownsRow_nil w _ _ _⟩
  case round =>
    obtain ⟨k, rfl, hk, q, hrow⟩ := hrel
    have HROW := Lib.hid hrow
    clear hrow
    have hr4 := HR4.out
    by_cases hlt : k < 510 + r
    · have hkn : (k : Int) < 510 + (r : Int) := by omega
      have hdk := dec_size (n := k) (by omega)
      obtain ⟨d, hd⟩ : ∃ d, decS k = d := ⟨_, rfl⟩
      have HD := Lib.hid hd
      obtain ⟨x, hx⟩ : ∃ x, (⟨#[110]⟩ ++ d : ByteArray) = x := ⟨_, rfl⟩
      have HNM := Lib.hid (show nmS k = x by unfold nmS; rw [hd]; exact hx)
      rw [hd] at hdk
      clear hd
      have n1 : ¬ (9223372036854775807 < 1 + d.size) := by omega
      clear hdk
      generalize wr = wa at *
      go_wp2_with (first
        | (go_at_call 19; with_reducible refine (itoa_at k d _ (by omega) (Lib.hid (HT.out.own q)) HD).mono ?_; rintro e w1 ⟨rfl, hg⟩; have q1 := q.trans hg; have HROW1 := Lib.hid ((row_own HROW.out hg).alloc (.cells #[.string x] 9)); clear hg)
        | (at_builtin; refine wpList_append_lies _ rfl _ _ 25 rfl w.heap.size 9 i0 _ 1 16 Tryd.underlying25 HI.out HZ0.out HZ1.out HZ2.out rfl (by omega) _ _ _ rfl HROW1.out ⟨w1.heap.size, 0, none⟩ 1 1 [.string x] rfl rfl (World.news_of_block (cs := #[.string x]) (t := 9) (fr := (0, 0)) (heap_alloc_new w1 _)) (by simp [Value.oneCell']) (by omega) (by unfold maxLen; omega) (by omega) (q1.alloc _).size _ rfl ?_))
      intro g gcap w4 hown hgr hat hlt4
      have g2 : Own w (w1.alloc (.cells #[.string x] 9)) := q1.alloc _
      have hO : Own w w4 := g2.grown hgr (fun j hj => (HROW1.out.lt j hj).1)
      have HR5 := Lib.hid (show w4.ownsRow w.heap.size 9 1 (.slice (some ⟨g, 0, none⟩) (k + 1) gcap) (k + 1) (cellsS (lst (k + 1))) by
        rw [lst_succ, HNM.out, cellsS_snoc]; exact hown)
      clear hown hgr hat HROW HROW1 q g2
      go_wp2
      go_roundw
      case rel => exact ⟨k + 1, by go_num, hlt, hO, HR5.out⟩
      case measure => simp [intOf]; omega
    · obtain rfl : k = 510 + r := by omega
      have hps := strs_row HROW.out HLL.out
      obtain ⟨A, cap, rfl, hc1, hc2, _⟩ := hps
      rw [HLL.out] at HROW hc1 ⊢
      have HPS := Lib.hid (strs_row HROW.out HLL.out)
      clear HROW
      generalize wr = wa at *
      have g := q
      clear q hk hlt
      obtain ⟨L, hL⟩ : ∃ L, lst (510 + r) = L := ⟨_, rfl⟩
      rw [hL] at HPS HSH HNEW HADD HLL
      clear hL
      by_cases c1 : 512 < 510 + r
      · have hN : (512 : Int) < 510 + (r : Int) := by omega
        rw [if_pos c1] at HNEW
        go_upto_region 7 with (go_at_call 16; with_reducible refine (C.new L (.slice A (510 + r) cap) 3 _ HPS HSH (by rw [HLL.out]; have := HR4.out; omega) HNEW).mono ?_; rintro e w5 hnr; obtain ⟨rfl, hg⟩ := new_no hnr; replace g := g.trans hg; clear hg hnr)
        go_wp2_with (first
          | (go_at_call 23; with_reducible refine (E.add s _ HSZ.out).mono ?_; rintro e w5 ⟨rfl, hg⟩; replace g := g.trans hg; clear hg)
          | (go_at_call 18; with_reducible refine (E.index s _ HSZ.out).mono ?_; rintro e w5 ⟨rfl, hg⟩; replace g := g.trans hg; clear hg)
          | (go_at_call 17; with_reducible refine (E.name 0 _).mono ?_; rintro e w5 ⟨rfl, hg⟩; replace g := g.trans hg; clear hg)
          | (go_at_call 26; with_reducible refine (E.sorted _).mono ?_; rintro e w5 ⟨As, cs, rfl, hg⟩; replace g := g.trans hg; clear hg)
          | (go_at_call 13; refine (awake_any C _).mono ?_; rintro e w5 ⟨rfl, hg⟩; replace g := g.trans hg; clear hg))
        go_ret
        exact ⟨rfl, g⟩
      · have hN : ¬ (512 : Int) < 510 + (r : Int) := by omega
        rw [if_neg c1] at HNEW
        go_upto_region 7 with (go_at_call 16; with_reducible refine (C.new L (.slice A (510 + r) cap) 0 _ HPS HSH (by rw [HLL.out]; have := HR4.out; omega) HNEW).mono ?_; rintro e w5 hnr; obtain ⟨gt, F, rfl, hg, hT, hF⟩ := hnr.ok; have HTT := Lib.hid hT; have HFF := Lib.hid hF; have HG := Lib.hid g; replace g := g.trans hg; clear hg hnr hT hF)
        by_cases c2 : 512 ≤ 510 + r
        · have hN2 : (510 : Int) + (r : Int) = 512 := by omega
          rw [if_pos c2] at HADD
          go_upto_region 13 with (go_at_call 23; with_reducible refine (D.bad L zz gt F 3 _ (by unfold maxLen; decide) HTT HADD (by decide)).mono ?_; rintro e w6 ⟨rfl, hg⟩; replace g := g.trans hg; clear hg)
          go_wp2_with (first
            | (go_at_call 23; with_reducible refine (E.add s _ HSZ.out).mono ?_; rintro e w5 ⟨rfl, hg⟩; replace g := g.trans hg; clear hg)
            | (go_at_call 18; with_reducible refine (E.index s _ HSZ.out).mono ?_; rintro e w5 ⟨rfl, hg⟩; replace g := g.trans hg; clear hg)
            | (go_at_call 17; with_reducible refine (E.name 0 _).mono ?_; rintro e w5 ⟨rfl, hg⟩; replace g := g.trans hg; clear hg)
            | (go_at_call 26; with_reducible refine (E.sorted _).mono ?_; rintro e w5 ⟨As, cs, rfl, hg⟩; replace g := g.trans hg; clear hg)
            | (go_at_call 13; refine (awake_any C _).mono ?_; rintro e w5 ⟨rfl, hg⟩; replace g := g.trans hg; clear hg))
          go_ret
          exact ⟨rfl, g⟩
        · have hN2 : ¬ (510 : Int) + (r : Int) = 512 := by omega
          have hN3 : (510 : Int) + (r : Int) < 512 := by omega
          rw [if_neg c2] at HADD
          have HLI : Hid ((L.length : Int) = 510 + (r : Int)) := Lib.hid (by rw [HLL.out]; omega)
          go_upto_region 13 with (go_at_call 23; with_reducible refine (D.ok L zz gt F _ (by unfold maxLen; decide) HTT HADD).mono ?_; rintro e w6 ⟨rfl, hg, F2, hT2, hF2⟩; have hg' := hg.own g (fun j hj => Nat.le_trans HG.out.size (HFF.out j hj)); replace g := hg'; clear hg hg' hT2 hF2)
          have HLI' := HLI.out
          go_wp2_with (first
            | (go_at_call 23; with_reducible refine (E.add s _ HSZ.out).mono ?_; rintro e w5 ⟨rfl, hg⟩; replace g := g.trans hg; clear hg)
            | (go_at_call 18; with_reducible refine (E.index s _ HSZ.out).mono ?_; rintro e w5 ⟨rfl, hg⟩; replace g := g.trans hg; clear hg)
            | (go_at_call 17; with_reducible refine (E.name 0 _).mono ?_; rintro e w5 ⟨rfl, hg⟩; replace g := g.trans hg; clear hg)
            | (go_at_call 26; with_reducible refine (E.sorted _).mono ?_; rintro e w5 ⟨As, cs, rfl, hg⟩; replace g := g.trans hg; clear hg)
            | (go_at_call 13; refine (awake_any C _).mono ?_; rintro e w5 ⟨rfl, hg⟩; replace g := g.trans hg; clear hg))
          go_ret
          exact ⟨rfl, g⟩
end Go.Proofs.YtifiljmiehddfaaDoor.NamW
