/-
  Walk of the program's Sorted: the names copied, and sorted by the library with the program's compare. Condition: none.
-/
import Derived.Test.YtifiljmiehddfaaDoorIdentPD
import Derived.Test.YtifiljmiehddfaaDoorIdentPF
import Derived.Test.YtifiljmiehddfaaDoorIdentD
import Derived.Test.YtifiljmiehddfaaDoorSortRows
import Derived.Test.YtifiljmiehddfaaDoorSortFShelf
namespace Go.Proofs.YtifiljmiehddfaaDoor.NamW
open Go.ChangeShapes Go.WideShapes Go.ChangeAt Go.RowKit Go.Maps Go.WideMaps
open PairW NamP StrW SorR
open Go.Sort (SWO PermIn SortedIn)
/-- A name. -/
abbrev Nm := {s : ByteArray // vldS s = true}
instance : Inhabited Nm := ⟨⟨⟨#[97]⟩, by decide⟩⟩
def encN (x : Nm) : Value := .string x.1
def nms (l : Ss) (h : ∀ s ∈ l, vldS s = true) : List Nm := l.attach.map fun s => ⟨s.1, h s.1 s.2⟩
theorem nms_val (l : Ss) (h : ∀ s ∈ l, vldS s = true) : (nms l h).map (·.1) = l := by
  unfold nms
  rw [List.map_map]
  exact List.attach_map_subtype_val l
theorem nms_len (l : Ss) (h : ∀ s ∈ l, vldS s = true) : (nms l h).length = l.length := by
  unfold nms
  rw [List.length_map, List.length_attach]
theorem enc_cells (l : List Nm) : l.map encN = cellsS (l.map (·.1)) := by
  unfold cellsS
  rw [List.map_map]
  rfl
def cfN (x y : Nm) : Int := ordL (bs x.1) (bs y.1)
theorem lt_less (x y : Nm) : ltOf cfN x y = lessS x.1 y.1 := ord_vld x.2 y.2
theorem lt_total (x y : Nm) (h : ltOf cfN x y = false) (k : ltOf cfN y x = false) : x = y := by
  rw [lt_less] at h k
  refine Subtype.ext (Classical.byContradiction fun e => ?_)
  have := lessS_total x.2 y.2 e
  rw [h, k] at this
  cases this
theorem lt_swo : SWO (ltOf cfN) where
  irrefl x := by rw [lt_less]; exact lessS_irrefl _
  trans x y z h k := by
    rw [lt_less] at h k ⊢
    exact lessS_trans h k
  ntrans x y z h k := by
    by_cases e : x = y
    · rw [e]; exact k
    · by_cases f : y = z
      · rw [← f]; exact h
      · rw [lt_less] at h k ⊢
        have h1 : lessS y.1 x.1 = true := by rw [lessS_total x.2 y.2 (fun q => e (Subtype.ext q)), h]; rfl
        have h2 : lessS z.1 y.1 = true := by rw [lessS_total y.2 z.2 (fun q => f (Subtype.ext q)), k]; rfl
        exact lessS_asymm (lessS_trans h2 h1)
theorem vld_short {s : ByteArray} (h : vldS s = true) : s.size ≤ maxLen := by
  have := ((vldB_iff _).1 h).2.1
  rw [show s.data.toList.length = s.size from bs_len s] at this
  unfold maxLen
  omega
theorem cmp_lays (blk off size : Nat) (w : World) : CmpLays1 Tryd.prog 32 #[] encN cfN blk off size w := fun m os dk hs x y => by
  refine (compare_at x.1 y.1 _ _ (vld_short x.2) (vld_short y.2) (Lib.hid rfl)).mono ?_
  rintro e w' ⟨rfl, q, os', rfl⟩
  exact ⟨rfl, q, os', rfl⟩
/-- What the library makes of the names of a row. -/
theorem sorted_list {l : Ss} {h : ∀ s ∈ l, vldS s = true} (hd : l.Nodup) {d' : Array Nm} (hp : PermIn 0 (nms l h).toArray.size (nms l h).toArray d') (hs : SortedIn (ltOf cfN) 0 (nms l h).toArray.size d') : d'.size = l.length ∧ d'.toList.map (·.1) = sortS l := by
  obtain ⟨h1, _, h3⟩ := hp
  have hz : (nms l h).toArray.size = l.length := by rw [List.size_toArray, nms_len]
  rw [hz] at h1 h3 hs
  have e1 : d'.extract 0 l.length = d' := by rw [← h1]; exact Array.extract_size
  have e2 : (nms l h).toArray.extract 0 l.length = (nms l h).toArray := by
    rw [← hz]; exact Array.extract_size
  rw [e1, e2] at h3
  have hperm : (d'.toList.map (·.1)).Perm l := by
    have := h3.map (fun x : Nm => x.1)
    rw [show (nms l h).toArray.toList = nms l h from rfl, nms_val] at this
    exact this
  refine ⟨h1, sort_unique h hd ?_ hperm⟩
  unfold Asc
  rw [List.pairwise_map]
  refine List.pairwise_iff_getElem.2 fun i j hi hj hij => ?_
  rw [Array.length_toList, h1] at hi hj
  have k := hs i j (Nat.zero_le _) hij hj
  rw [getElem!_pos d' j (by omega), getElem!_pos d' i (by omega), lt_less] at k
  rw [Array.getElem_toList, Array.getElem_toList]
  have hn : (d'.toList.map (fun x : Nm => x.1)).Nodup := hperm.nodup_iff.2 hd
  have hne : d'[j].1 ≠ d'[i].1 := fun e => by
    have := List.pairwise_iff_getElem.1 hn i j (by rw [List.length_map, Array.length_toList]; omega) (by rw [List.length_map, Array.length_toList]; omega) hij
    rw [List.getElem_map, List.getElem_map, Array.getElem_toList, Array.getElem_toList] at this
    exact this e.symm
  rw [lessS_total d'[j].2 d'[i].2 hne, k]
  rfl
theorem psorted_nil (w : World) : Calls Tryd.prog 26 #[.pointer none] w fun e w' => ∃ A cap, e = .returned (.slice A 0 cap) ∧ Own w w' := by
  go_enter Tryd.func26, Tryd.ntmps26
  go_wp2
  go_ret
  exact ⟨_, _, rfl, Own.refl w⟩
theorem sort_to (l : Ss) (A : Option Addr) (n cap base : Nat) (w : World) (HR : Hid (w.ownsRow base 9 1 (.slice A n cap) n (cellsS l))) (HN : Hid (∀ s ∈ l, vldS s = true)) (HD : Hid l.Nodup) (hl : l.length = n) (hn : n ≤ 1000) :
    Calls Tryd.prog 37 #[.slice A n cap, .func (.func 32) #[] #[]] w fun e w' => e = .returned (.tuple #[]) ∧ w'.ownsRow base 9 1 (.slice A n cap) n (cellsS (sortS l)) ∧ w.grownBy w' (Value.slice A n cap).ownBlock := by
  have hR := HR.out
  by_cases h0 : n = 0
  · subst h0
    obtain rfl := List.eq_nil_of_length_eq_zero hl
    refine (AnyF.slices_SortFunc_none (P := Tryd.prog) (ρ := Tryd.sortS_ren) { Tryd.sortS with } A cap _ w).mono ?_
    rintro e w' ⟨rfl, rfl⟩
    exact ⟨rfl, hR, World.grownBy.refl _ _⟩
  · rcases hR.2 with ⟨_, h⟩ | ⟨g, gcap, cur, hv, hg1, hg2, hg3, hg4, hg5, hg6⟩
    · exact absurd h h0
    · injection hv with e1 e2 e3
      subst e1
      subst e3
      have hgl : g < w.heap.size := (Array.getElem?_eq_some_iff.1 hg2).1
      have hlen : (nms l HN.out).length = n := by rw [nms_len, hl]
      have hho := row_holds (c := encN) (xs := nms l HN.out) hg2 (by rw [hlen, enc_cells, nms_val]; simpa using hg6)
      have hsz : (nms l HN.out).toArray.size = n := by rw [List.size_toArray, hlen]
      have hs := Any.slices_SortFunc Tryd.sortS encN (fun _ => rfl) cfN lt_swo 32 #[] g 0 cap (nms l HN.out).toArray w (enters_of Tryd.func32 (by kernel_rfl) rfl) (cmp_lays _ _ _ _) hho hgl (by rw [hsz]; omega)
      rw [hsz] at hs
      refine hs.mono ?_
      rintro e w' ⟨rfl, d', nn, os, hp, hso, rfl⟩
      have hq := sorted_list (h := HN.out) HD.out (by rw [hsz]; exact hp) (by rw [hsz]; exact hso)
      have hrow := sorted_row (c := encN) (w := w) (n := nn) (os := os) (base := base) (cap := cap) (m := n) d' (by rw [hq.1, hl]) hg1 hg2 hg3 hg4 hg5
      rw [enc_cells, hq.2] at hrow
      exact ⟨rfl, hrow, sorted_grown d'⟩
set_option maxRecDepth 100000 in
theorem psorted_at (l : Ss) (g n : Nat) (F : Nat → Prop) (w : World) (HT : Hid (MTab w F g l)) (hn : l.length = n) (hk : n ≤ 1000) :
    Calls Tryd.prog 26 #[.pointer (some ⟨g, 0, none⟩)] w fun e w' => ∃ A cap, e = .returned (.slice A n cap) ∧ w'.ownsRow w.heap.size 9 1 (.slice A n cap) n (cellsS (sortS l)) ∧ Own w w' := by
  obtain ⟨v, bm, h1, _, _, h3, _⟩ := HT.out.some
  have HP := Lib.hid (strs_of_row h3)
  have HN := Lib.hid HT.out.named
  have HD := Lib.hid HT.out.once
  have HL := Lib.hid (show l.length ≤ 100000 by omega)
  have HLN := Lib.hid hn
  have HK := Lib.hid hk
  clear h3 HT hn hk
  go_enter Tryd.func26, Tryd.ntmps26
  go_upto_region 4 with (go_at_call 34; with_reducible refine (clone_at l v _ HP HL.out).mono ?_; rintro e w1 ⟨v1, rfl, hrow, hg⟩)
  obtain ⟨A, cap, rfl, _⟩ := strs_of_row hrow
  rw [HLN.out] at hrow
  have HROW := Lib.hid hrow
  obtain ⟨n', hn'⟩ : ∃ k, l.length = k := ⟨_, rfl⟩
  rw [hn']
  obtain rfl : n' = n := hn'.symm.trans HLN.out
  clear hrow hn'
  go_wp2_with (go_at_call 37; with_reducible refine (sort_to l A _ cap _ _ HROW HN HD HLN.out HK.out).mono ?_; rintro e w2 ⟨rfl, hr2, hg2⟩)
  go_ret
  refine ⟨A, cap, rfl, hr2, hg.grown hg2 fun k hk => ?_⟩
  exact (HROW.out.lt k hk).1
end Go.Proofs.YtifiljmiehddfaaDoor.NamW
