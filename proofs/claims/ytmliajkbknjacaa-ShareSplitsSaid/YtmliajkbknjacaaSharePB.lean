/-
  Walk of the program's ranked of package share: indices in the order of remainders. Condition: none.
-/
import Derived.Test.YtmliajkbknjacaaSharePA
import Derived.OwnWalk
namespace Go.Proofs.Ytmliajkbknjacaa.ShaW
open Go.ChangeShapes Go.WideShapes Go.ChangeAt Go.RowKit
open PairW CelW MchW ShaP StaP StaW
open AsgP (su su_zero su_succ su_congr su_lsu lsu_perm perm_of)
/-- The order in which units are given out. -/
def ltR (R : Nat → Int) (x y : Nat) : Prop := prec R x y = true
theorem befR (R : Nat → Int) : Bef (ltR R) (cfR R) where
  trans x y z h1 h2 := by
    unfold ltR at *
    rw [prec_iff] at *
    omega
  total x y h := by
    unfold ltR
    rw [prec_iff, prec_iff]
    omega
  says x y h := by
    unfold ltR
    rw [prec_iff]
    unfold cfR
    by_cases e : R y < R x
    · rw [if_pos e]; omega
    · rw [if_neg e]
      by_cases e2 : R x < R y
      · rw [if_pos e2]; omega
      · rw [if_neg e2]; omega
/-- The indices so far. -/
def idT (i : Nat) : Nat → Nat := fun k => if k < i then k else 0
/-- The indices in their order: one after the other, and so many before each. -/
theorem rank_bef {R : Nat → Int} {n : Nat} {E : Nat → Nat} (h : Mg (ltR R) 0 n (idT n) E) : (∀ k, k < n → E k < n) ∧ (∀ k, k < n → bef R n (E k) = k) := by
  have hlt : ∀ k, k < n → E k < n := fun k hk => h.rch.all (P := fun x => x < n) (fun j _ hj => by unfold idT; rw [if_pos hj]; exact hj) k (Nat.zero_le _) hk
  have hinj : ∀ i j, i < n → j < n → E i = E j → i = j := h.rch.inj (Nat.le_refl _) fun i j hi hj e => by
    unfold idT at e
    rw [if_pos hi, if_pos hj] at e
    exact e
  refine ⟨hlt, fun k hk => ?_⟩
  have hA : ((List.range n).map E).Perm (List.range n) := by
    refine perm_of _ _ ?_ (fun a ha => ?_) (by rw [List.length_map])
    · rw [List.Nodup, List.pairwise_map]
      refine List.Pairwise.imp_of_mem ?_ (List.nodup_range (n := n))
      intro a b ha hb hne e
      exact hne (hinj a b (List.mem_range.1 ha) (List.mem_range.1 hb) e)
    · obtain ⟨i, hi, rfl⟩ := List.mem_map.1 ha
      exact List.mem_range.2 (hlt i (List.mem_range.1 hi))
  have e1 : su (fun m => if prec R (E m) (E k) = true then (1 : Int) else 0) n = su (fun m : Nat => if (m : Int) < k then 1 else 0) n := su_congr fun m hm => by
    try dsimp only
    rcases Nat.lt_trichotomy m k with q | q | q
    · have : prec R (E m) (E k) = true := h.srt m k (Nat.zero_le _) q hk
      rw [if_pos this, if_pos (by omega)]
    · subst q
      rw [if_neg (by rw [prec_iff]; omega), if_neg (by omega)]
    · have := prec_iff.1 (h.srt k m (Nat.zero_le _) q hm)
      rw [if_neg (by rw [prec_iff]; omega), if_neg (by omega)]
  have e2 := lsu_perm (hA.map fun j : Nat => if prec R j (E k) = true then (1 : Int) else 0)
  rw [List.map_map] at e2
  have e3 : su (fun m => if prec R (E m) (E k) = true then (1 : Int) else 0) n = bef R n (E k) := by
    rw [su_lsu]
    refine Eq.trans e2 ?_
    rw [← su_lsu]
    rfl
  rw [← e3, e1, su_first k (by omega), if_pos (by omega)]
set_option maxRecDepth 100000 in
set_option maxHeartbeats 4000000 in
theorem pranked_at (R : Nat → Int) (g n c : Nat) (w : World) (HR : Hid (∀ k, k < n → w.cell? ⟨g, k, none⟩ = some (.int .i64 (R k)))) (hn0 : 0 < n) (hn : n ≤ 1000000) :
    Calls Try.prog 19 #[.slice (some ⟨g, 0, none⟩) n c, .func (.func 20) #[] #[]] w fun e w' => ∃ g2 c2 E, e = .returned (.slice (some ⟨g2, 0, none⟩) n c2) ∧ w.heap.size ≤ g2 ∧ Rd w' g2 g2 n c2 E ∧ Mg (ltR R) 0 n (idT n) E ∧ Own w w' := by
  obtain ⟨i0, hi, hz0, hz1, hz2⟩ := info_parts (show (Try.prog.info? 3).map (fun i => (i.zero, i.size, i.bytes)) = some (some (.int .i64 0), 1, 8) by kernel_rfl)
  have HI := Lib.hid hi
  have HZ0 := Lib.hid hz0
  have HZ1 := Lib.hid hz1
  have HBY := Lib.hid (show i0.bytes * n ≤ 281474976710656 by rw [hz2]; omega)
  have HMX := Lib.hid (show n ≤ maxLen by unfold maxLen; omega)
  have HZL := Lib.hid (show (madeCells (Value.int .i64 0).cells (n * 1)).toList = rowV (idT 0) n by
    rw [Nat.mul_one]
    show (madeCells #[Value.int .i64 0] n).toList = _
    rw [toList_madeCells_one]
    refine List.ext_getElem? fun k => ?_
    by_cases hk : k < n
    · rw [rowV_at hk, List.getElem?_replicate, if_pos hk]
      unfold idT
      rw [if_neg (Nat.not_lt_zero _)]
      rfl
    · rw [List.getElem?_eq_none (by rw [List.length_replicate]; omega), List.getElem?_eq_none (by rw [rowV_len]; omega)])
  clear hi hz0 hz1 hz2
  have hg0 : g < w.heap.size := block_lt_of_cell (HR.out 0 hn0)
  go_enter Try.func19, Try.ntmps19
  go_wp2_with (at_make; refine wpList_make_full _ rfl _ _ 22 rfl (w.heap.size + 2) 3 i0 (.int .i64 0) 1 Try.underlying22 HI.out HZ0.out HZ1.out _ _ _ _ n rfl rfl rfl rfl HBY.out HMX.out (by simp) ?_; intro w3 hown3 hg3)
  have q0 : Own w w3 := (((Own.refl w).alloc _).alloc _).grown hg3 (by simp)
  have b0 : w3.cell? ⟨w.heap.size, 0, none⟩ = some (.slice (some ⟨g, 0, none⟩) n c) := (((Own.refl _).alloc _).grown (a := w.alloc (.cells #[.slice (some ⟨g, 0, none⟩) n c] 22)) hg3 (by simp)).cell (by go_simp)
  have b1 : w3.cell? ⟨w.heap.size + 1, 0, none⟩ = some (.func (.func 20) #[] #[]) := ((Own.refl _).grown hg3 (by simp)).cell (by go_simp)
  have hR3 : Rd w3 (w.heap.size + 2) (w.heap.size + 1 + 1) n n (idT 0) := by
    rw [HZL.out] at hown3
    simpa using hown3
  have hsz : w.heap.size + 1 + 1 < w3.heap.size := hR3.bounds.2.1
  obtain ⟨gb, hgb⟩ : ∃ gb, w.heap.size + 1 + 1 = gb := ⟨_, rfl⟩
  have hcmp : Cmps 32 #[.pointer (some ⟨w.heap.size + 1, 0, none⟩), .pointer (some ⟨w.heap.size, 0, none⟩)] (cfR R) n w3 gb := fun x y v w' hx hy hv hG => by
    have old : ∀ (b k : Nat) (u : Value), b < w3.heap.size → b ≠ gb → w3.cell? ⟨b, k, none⟩ = some u → w'.cell? ⟨b, k, none⟩ = some u := fun b k u h1 h2 h3 => by
      rw [World.cell?_of_block (w := w3) (hG.block b h1 h2)]; exact h3
    exact pleast_at R g n c (w.heap.size + 1) w.heap.size x y v w' hx hy (Lib.hid hv) (old _ _ _ (by omega) (by omega) b1) (old _ _ _ (by omega) (by omega) b0) (Lib.hid fun k hk => old _ _ _ (by omega) (by omega) (q0.cell (HR.out k hk)))
  have HCMP := Lib.hid hcmp
  have HQ0 := Lib.hid q0
  rw [hgb] at hR3
  have HR3 := Lib.hid hR3
  have hgbl : w.heap.size ≤ gb := by omega
  simp only [hgb]
  clear hcmp q0 b0 b1 hown3 hg3 hR3 hsz hgb
  have eg : ∀ args w, (callFunc 32 args).run Try.prog w = .ok (.enter 32 args) w := enters_of Try.func32 (by kernel_rfl) rfl
  have HEG := Lib.hid eg
  clear eg
  go_loopw [6, 12] (fun _ x wr => ∃ i : Nat, x = .int .i64 (i : Int) ∧ i ≤ n ∧ Rd wr gb gb n n (idT i) ∧ Gr w3 wr gb) (fun _ x _ => n - (intOf x).toNat)
  case atStart => exact ⟨0, rfl, Nat.zero_le _, HR3.out, Gr.refl _ _⟩
  case round =>
    obtain ⟨i, rfl, hi, hr, hG⟩ := hrel
    by_cases hlt : i < n
    · obtain ⟨c0, f0⟩ := hr.at hlt
      have HS := Lib.hid (hr.put (E := idT (i + 1)) i i fun k => by
        unfold idT
        by_cases e : k = i
        · rw [if_pos e, if_pos (by omega), e]
        · rw [if_neg e]
          by_cases e2 : k < i
          · rw [if_pos e2, if_pos (by omega)]
          · rw [if_neg e2, if_neg (by omega)])
      have HG := Lib.hid hG
      have l0 : (i : Int) < n := by omega
      clear hr hG
      go_wp2
      go_roundw
      case rel => exact ⟨i + 1, by go_num, hlt, HS.out, HG.out.set i _⟩
      case measure => simp [intOf]; omega
    · obtain rfl : i = n := by omega
      have hcall := sortStable_at _ _ HEG.out (Lib.hid (befR R)) _ gb i i _ wr (Lib.hid hr) (Lib.hid (HCMP.out.next hG)) hn (Lib.hid fun p q h1 h2 => by unfold idT; rw [if_pos (by omega), if_pos h2]; exact h1) (Lib.hid fun k _ h2 => by unfold idT; rw [if_pos h2]; exact h2)
      have HCALL := Lib.hid hcall
      have HG := Lib.hid hG
      clear hcall hr hG
      go_wp2_with (go_at_call 31; refine HCALL.out.mono ?_; rintro e w5 ⟨rfl, hx, hz⟩; have HX := Lib.hid hx; have HZ := Lib.hid hz; clear hx hz)
      go_ret
      obtain ⟨E, f1, f2⟩ := HX.out
      exact ⟨gb, i, E, rfl, hgbl, f1, f2, (HG.out.trans HZ.out).own HQ0.out hgbl⟩
end Go.Proofs.Ytmliajkbknjacaa.ShaW
