/-
  Walks of the program of package balance: parts. Condition: none.
-/
import Derived.Test.YtighpjhipgobiaaDoorBalancePlain
import Derived.Test.YtighpjhipgobiaaDoorJointsPC
import Derived.Test.YtighpjhipgobiaaDoorBuildPB
import Derived.Test.YtighpjhipgobiaaDoorGeoBase
import Derived.Test.YtighpjhipgobiaaDoorRegMore
import Derived.Test.YtighpjhipgobiaaDoorRowBase
import Derived.Deep.AppendLies
import Derived.Lib.SmallJoins
namespace Go.Proofs.YtighpjhipgobiaaDoor.BalW
open Go.ChangeShapes Go.WideShapes Go.ChangeAt Go.RowKit
open PairW AimP AimW BlkW PrtW PstP PstW JntP JntW RegD BalP
theorem infoM : (Tryd.prog.info? 22).map (·.size) = some 4 := by kernel_rfl
theorem infoPr : (Tryd.prog.info? 102).map (·.size) = some 7 := by kernel_rfl
theorem infoPt : (Tryd.prog.info? 26).map (·.size) = some 2 := by kernel_rfl
theorem infoPs : (Tryd.prog.info? 98).map (·.size) = some 1 := by kernel_rfl
theorem info_all {P : Program} {t : TypeId} {z : Value} {a b : Nat} (h : (P.info? t).map (fun i => (i.zero, i.size, i.bytes)) = some (some z, a, b)) : ∃ i, P.info? t = some i ∧ i.zero = some z ∧ i.size = a ∧ i.bytes = b := by
  cases e : P.info? t with
  | none => rw [e] at h; cases h
  | some i =>
    rw [e] at h
    simp at h
    exact ⟨i, rfl, h.1, h.2.1, h.2.2⟩
theorem bld_pt (a b c d e f m : Int) : Tryd.prog.built 102 [(0, .agg #[.int .i64 a, .int .i64 b, .int .i64 c]), (1, .agg #[.int .i64 d, .int .i64 e, .int .i64 f]), (2, .int .i64 m)] = some (#[.int .i64 a, .int .i64 b, .int .i64 c, .int .i64 d, .int .i64 e, .int .i64 f, .int .i64 m]) := by kernel_rfl
theorem own_geo {w w' : World} (h : GeoW.Own w w') : Own w w' := ⟨h.os, h.output, h.size, h.block⟩
theorem bmass_at (b : Vl) (v c : Int) (w : World) (HBT : Hid (BuiW.Tab w)) (H : Hid (BuiP.masV b = v ∧ BuiP.chk b = c)) :
    Calls Tryd.prog 48 #[.agg (cz 15 b)] w fun r w' => r = .returned (.tuple #[.int .i64 v, .int .i64 c]) ∧ Own w w' := BuiW.pmass_at b v c w HBT H
theorem bnear_at (x y u v m n r : Int) (t : Bool) (c : Int) (w : World) (H : Hid (GeoP.nrV (x, y) (u, v) (m, n) r = t ∧ GeoP.nrE (x, y) (u, v) (m, n) r = c)) :
    Calls Tryd.prog 66 #[.agg #[.int .i64 x, .int .i64 y], .agg #[.int .i64 u, .int .i64 v], .agg #[.int .i64 m, .int .i64 n], .int .i64 r] w fun e w' => e = .returned (.tuple #[.bool t, .int .i64 c]) ∧ Own w w' :=
  (GeoW.pnear_at (x, y) (u, v) (m, n) r t c w H).mono fun _ _ h => ⟨h.1, own_geo h.2⟩
theorem row_own {w w' : World} {base : Nat} {e : TypeId} {size : Nat} {v : Value} {n : Nat} {xs : List Value} (h : w.ownsRow base e size v n xs) (q : Own w w') : w'.ownsRow base e size v n xs := by
  refine ⟨h.1, ?_⟩
  rcases h.2 with h | ⟨g, cap, cur, h1, h2, h3, h4⟩
  · exact .inl h
  · exact .inr ⟨g, cap, cur, h1, h2, (q.block g (Array.getElem?_eq_some_iff.1 h3).1).trans h3, h4⟩
/-- A block that is not the row's stays. -/
theorem blk_grown {w w' : World} {B : Nat} {cs : Array Value} {T : TypeId} {row : Option Nat} (h : Blk w B cs T) (hg : w.grownBy w' row) (hne : row ≠ some B) : Blk w' B cs T := (hg.block B h.lt (fun e => hne e.symm)).trans h
/-! ### The parts of a body -/
def pfr (k : Nat) : Nat := [0, 3, 15, 9, 18, 12].getD k 0
def pto (k : Nat) : Nat := [3, 6, 21, 27, 24, 30].getD k 0
def pmk (k : Nat) : Nat := [0, 1, 2, 3, 2, 3].getD k 0
/-- The seven numbers of part k, one part after the other. -/
def pa (b j : Vl) : Vl := fun i => if i % 7 < 3 then j (pfr (i / 7) + i % 7) else if i % 7 < 6 then j (pto (i / 7) + (i % 7 - 3)) else b (11 + pmk (i / 7))
theorem pa_at (b j : Vl) (k : Nat) : (pa b j (k * 7) = j (pfr k) ∧ pa b j (k * 7 + 1) = j (pfr k + 1) ∧ pa b j (k * 7 + 2) = j (pfr k + 2)) ∧ (pa b j (k * 7 + 3) = j (pto k) ∧ pa b j (k * 7 + 4) = j (pto k + 1) ∧ pa b j (k * 7 + 5) = j (pto k + 2)) ∧ pa b j (k * 7 + 6) = b (11 + pmk k) := by
  have d : ∀ i, i < 7 → (k * 7 + i) / 7 = k ∧ (k * 7 + i) % 7 = i := fun i hi => by omega
  unfold pa
  refine ⟨⟨?_, ?_, ?_⟩, ⟨?_, ?_, ?_⟩, ?_⟩
  · have := d 0 (by omega); rw [Nat.add_zero] at this; rw [this.1, this.2]; rfl
  · rw [(d 1 (by omega)).1, (d 1 (by omega)).2]; rfl
  · rw [(d 2 (by omega)).1, (d 2 (by omega)).2]; rfl
  · rw [(d 3 (by omega)).1, (d 3 (by omega)).2]; rfl
  · rw [(d 4 (by omega)).1, (d 4 (by omega)).2]; rfl
  · rw [(d 5 (by omega)).1, (d 5 (by omega)).2]; rfl
  · rw [(d 6 (by omega)).1, (d 6 (by omega)).2]; rfl
def xs (b j : Vl) (k : Nat) : List Value := (cz (14 + 14 * k) (pa b j)).toList
theorem xs_len (b j : Vl) (k : Nat) : (BalW.xs b j k).length = (2 + 2 * k) * 7 := by
  unfold BalW.xs; rw [Array.length_toList, cz_size]; omega
theorem xs_0 (b j : Vl) : BalW.xs b j 0 = [.int .i64 (j 0), .int .i64 (j 1), .int .i64 (j 2), .int .i64 (j 3), .int .i64 (j 4), .int .i64 (j 5), .int .i64 (b 11), .int .i64 (j 3), .int .i64 (j 4), .int .i64 (j 5), .int .i64 (j 6), .int .i64 (j 7), .int .i64 (j 8), .int .i64 (b 12)] := rfl
/-- The fourteen numbers of both parts of side k. -/
def news (b j : Vl) (k : Nat) : List Value := [.int .i64 (j (15 + k * 3)), .int .i64 (j (15 + k * 3 + 1)), .int .i64 (j (15 + k * 3 + 2)), .int .i64 (j (21 + k * 3)), .int .i64 (j (21 + k * 3 + 1)), .int .i64 (j (21 + k * 3 + 2)), .int .i64 (b 13),
  .int .i64 (j (9 + k * 3)), .int .i64 (j (9 + k * 3 + 1)), .int .i64 (j (9 + k * 3 + 2)), .int .i64 (j (27 + k * 3)), .int .i64 (j (27 + k * 3 + 1)), .int .i64 (j (27 + k * 3 + 2)), .int .i64 (b 14)]
theorem xs_next (b j : Vl) {k : Nat} (hk : k < 2) : BalW.xs b j k ++ news b j k = BalW.xs b j (k + 1) := by
  have t : k = 0 ∨ k = 1 := by omega
  rcases t with rfl | rfl <;> rfl
theorem xs_one (b j : Vl) (k : Nat) : ∀ u ∈ news b j k, u.oneCell' = true := by
  intro u hu
  simp [news] at hu
  rcases hu with rfl | rfl | rfl | rfl | rfl | rfl | rfl | rfl | rfl | rfl | rfl | rfl | rfl | rfl <;> rfl
/-- What stands beside the row of parts: the joints, the masses. -/
def PX (w : World) (G J M : Nat) (b j : Vl) : World → Prop := fun w1 => Own w w1 ∧ G ≤ w1.heap.size ∧ Blk w1 J (cz 33 j) 59 ∧ Blk w1 M (cz 4 (fun i => b (11 + i))) 22
theorem px_own {w : World} {G J M : Nat} {b j : Vl} {w1 w2 : World} (h : PX w G J M b j w1) (g : Own w1 w2) : PX w G J M b j w2 := ⟨h.1.trans g, Nat.le_trans h.2.1 g.size, h.2.2.1.own g, h.2.2.2.own g⟩
theorem px_grown {w : World} {G J M : Nat} {b j : Vl} {w1 w2 : World} {v : Value} {n : Nat} {ys : List Value} (h : PX w G J M b j w1) (hr : w1.ownsRow G 102 7 v n ys) (hg : w1.grownBy w2 v.ownBlock) (hw : w.heap.size ≤ G) (hJ : J < G) (hM : M < G) : PX w G J M b j w2 := by
  have hb : ∀ k, v.ownBlock = some k → G ≤ k := fun k hk => (hr.lt k hk).1
  refine ⟨h.1.grown hg fun k hk => Nat.le_trans hw (hb k hk), Nat.le_trans h.2.1 hg.size, blk_grown h.2.2.1 hg fun e => ?_, blk_grown h.2.2.2 hg fun e => ?_⟩
  · have := hb _ e; omega
  · have := hb _ e; omega
def Row2 (G : Nat) (ys : List Value) (n : Nat) (v1 : Value) (w1 : World) : Prop := ∃ g2 c2, v1 = .slice (some ⟨g2, 0, none⟩) n c2 ∧ w1.ownsRow G 102 7 (.slice (some ⟨g2, 0, none⟩) n c2) n ys
theorem row2_own {G : Nat} {ys : List Value} {n : Nat} {v1 : Value} {w1 w2 : World} (h : Row2 G ys n v1 w1) (g : Own w1 w2) : Row2 G ys n v1 w2 := by
  obtain ⟨g2, c2, h1, h2⟩ := h
  exact ⟨g2, c2, h1, row_own h2 g⟩
theorem px_stg {w : World} {G J M n n2 : Nat} {b j : Vl} {v : Value} {ys y2 : List Value} {zs : Array Value} :
    RegD.Stg (PX w G J M b j) (fun w1 => PX w G J M b j w1 ∧ w1.ownsRow G 102 7 v n ys) (fun v1 w1 => PX w G J M b j w1 ∧ w1.ownsRow G 102 7 v n ys ∧ ∃ E, v1 = .slice (some ⟨E, 0, none⟩) 2 2 ∧ Blk w1 E zs 102)
      (fun v1 w1 => PX w G J M b j w1 ∧ Row2 G y2 n2 v1 w1) :=
  ⟨fun h => h.1, fun h => h.1, fun h => h.1, fun h g => ⟨px_own h.1 g, row_own h.2 g⟩, fun ⟨h1, h2, E, h3, h4⟩ g => ⟨px_own h1 g, row_own h2 g, E, h3, h4.own g⟩, fun h g => ⟨px_own h.1 g, row2_own h.2 g⟩⟩
set_option maxRecDepth 100000 in
set_option maxHeartbeats 2000000 in
theorem bparts_at (b j : Vl) (w : World) :
    Calls Tryd.prog 49 #[.agg (cz 15 b), .agg (cz 33 j)] w fun r w' => ∃ g c, r = .returned (.slice (some ⟨g, 0, none⟩) 6 c) ∧ w.heap.size ≤ g ∧ (∀ i, i < 42 → w'.cell? ⟨g, i, none⟩ = some (.int .i64 (pa b j i))) ∧ Own w w' := by
  obtain ⟨i0, hi, hz0, hz1, hz2⟩ := info_all (show (Tryd.prog.info? 102).map (fun i => (i.zero, i.size, i.bytes)) = some (some (.agg #[.int .i64 0, .int .i64 0, .int .i64 0, .int .i64 0, .int .i64 0, .int .i64 0, .int .i64 0]), 7, 56) by kernel_rfl)
  have HI := Lib.hid hi
  have HZ0 := Lib.hid hz0
  have HZ1 := Lib.hid hz1
  have HZ2 := Lib.hid hz2
  clear hi hz0 hz1 hz2
  go_enter Tryd.func49, Tryd.ntmps49
  go_upto_region 1 with (fail)
  obtain ⟨W0, B, J, hW, hJ, hB, hb1, hj1, g0, hB0, hJ0, -⟩ := two_new w (cz 15 b) 24 (cz 33 j) 59
  rw [hW, hJ, hB]
  have HB := Lib.hid hb1
  have HJ := Lib.hid hj1
  clear hW hJ hB hb1 hj1
  go_upto_region 2 with (first | ((with_reducible show wpList _ _ _ (⟨_, .load 22 (.tmp 8), _, _, _, none⟩ :: _) _ _); refine wpList_load_part rfl 22 (.tmp 8) rfl B (11) rfl 4 HB.out (by omega) (#[.int .i64 (b 11), .int .i64 (b 12), .int .i64 (b 13), .int .i64 (b 14)]) rfl _ Tryd.underlying22 rfl infoM ?_) | ((with_reducible show wpList _ _ _ (⟨_, .store 22 (.tmp 5) (.tmp 9), _, _, _, none⟩ :: _) _ _); refine wpList_store_row rfl 22 (.tmp 5) (.tmp 9) rfl _ (cz 4 (fun i => b (11 + i))) rfl rfl 22 _ (heap_new _ _) infoM rfl (cz_one _ _) ?_; rw [World.setRow_alloc_new]))
  obtain ⟨w1, M, hW, hBq, hb, hg, Mg⟩ := blk_new W0 (cz 4 (fun i => b (11 + i))) 22
  rw [hW, hBq]
  have HM := Lib.hid hb
  replace g0 := g0.trans hg
  replace HB := Lib.hid (HB.out.own hg)
  replace HJ := Lib.hid (HJ.out.own hg)
  clear hW hBq hb hg
  clear HB
  have m0 : w1.cell? ⟨M, 0, none⟩ = some (.int .i64 (b 11)) := blk_num HM.out (i := 0) (by omega)
  have m1 : w1.cell? ⟨M, 1, none⟩ = some (.int .i64 (b 12)) := blk_num HM.out (i := 1) (by omega)
  go_upto_region 3 with (first | ((with_reducible show wpList _ _ _ (⟨_, .load 56 (.tmp 10), _, _, _, none⟩ :: _) _ _); refine wpList_load_part rfl 56 (.tmp 10) rfl J (0) rfl 3 HJ.out (by omega) (#[.int .i64 (j 0), .int .i64 (j 1), .int .i64 (j 2)]) rfl _ Tryd.underlying56 rfl infoV ?_) | ((with_reducible show wpList _ _ _ (⟨_, .load 56 (.tmp 12), _, _, _, none⟩ :: _) _ _); refine wpList_load_part rfl 56 (.tmp 12) rfl J (3) rfl 3 HJ.out (by omega) (#[.int .i64 (j 3), .int .i64 (j 4), .int .i64 (j 5)]) rfl _ Tryd.underlying56 rfl infoV ?_) | ((with_reducible show wpList _ _ _ (⟨_, .load 56 (.tmp 17), _, _, _, none⟩ :: _) _ _); refine wpList_load_part rfl 56 (.tmp 17) rfl J (3) rfl 3 HJ.out (by omega) (#[.int .i64 (j 3), .int .i64 (j 4), .int .i64 (j 5)]) rfl _ Tryd.underlying56 rfl infoV ?_) | ((with_reducible show wpList _ _ _ (⟨_, .load 56 (.tmp 19), _, _, _, none⟩ :: _) _ _); refine wpList_load_part rfl 56 (.tmp 19) rfl J (6) rfl 3 HJ.out (by omega) (#[.int .i64 (j 6), .int .i64 (j 7), .int .i64 (j 8)]) rfl _ Tryd.underlying56 rfl infoV ?_) | ((with_reducible show wpList _ _ _ (⟨_, .build 102 _, _, _, _, _⟩ :: _) _ _); refine wpList_build_as rfl 102 [(0, .tmp 11), (1, .tmp 13), (2, .tmp 15)] rfl [(0, .agg #[.int .i64 (j 0), .int .i64 (j 1), .int .i64 (j 2)]), (1, .agg #[.int .i64 (j 3), .int .i64 (j 4), .int .i64 (j 5)]), (2, .int .i64 (b 11))] rfl (#[.int .i64 (j 0), .int .i64 (j 1), .int .i64 (j 2), .int .i64 (j 3), .int .i64 (j 4), .int .i64 (j 5), .int .i64 (b 11)]) (bld_pt _ _ _ _ _ _ _) ?_) | ((with_reducible show wpList _ _ _ (⟨_, .build 102 _, _, _, _, _⟩ :: _) _ _); refine wpList_build_as rfl 102 [(0, .tmp 18), (1, .tmp 20), (2, .tmp 22)] rfl [(0, .agg #[.int .i64 (j 3), .int .i64 (j 4), .int .i64 (j 5)]), (1, .agg #[.int .i64 (j 6), .int .i64 (j 7), .int .i64 (j 8)]), (2, .int .i64 (b 12))] rfl (#[.int .i64 (j 3), .int .i64 (j 4), .int .i64 (j 5), .int .i64 (j 6), .int .i64 (j 7), .int .i64 (j 8), .int .i64 (b 12)]) (bld_pt _ _ _ _ _ _ _) ?_))
  clear m0 m1
  obtain ⟨w2, G, hW2, hG2, he2, hg2, hG0⟩ := blk_new w1 (#[.int .i64 (j 0), .int .i64 (j 1), .int .i64 (j 2), .int .i64 (j 3), .int .i64 (j 4), .int .i64 (j 5), .int .i64 (b 11), .int .i64 (j 3), .int .i64 (j 4), .int .i64 (j 5), .int .i64 (j 6), .int .i64 (j 7), .int .i64 (j 8), .int .i64 (b 12)]) 102
  have hwG : w.heap.size ≤ G := Nat.le_trans g0.size hG0
  have hJG : J < G := Nat.lt_of_lt_of_le HJ.out.lt hG0
  have hMG : M < G := Nat.lt_of_lt_of_le HM.out.lt hG0
  have hrow : w2.ownsRow G 102 7 (.slice (some ⟨G, 0, none⟩) 2 2) 2 (BalW.xs b j 0) := ⟨rfl, .inr ⟨G, 2, _, rfl, Nat.le_refl _, he2, Nat.le_refl _, by decide, rfl, rfl⟩⟩
  have hw2 : G ≤ w2.heap.size := Nat.le_of_lt he2.lt
  rw [hW2, hG2]
  have HROW := Lib.hid hrow
  replace g0 := g0.trans hg2
  replace HJ := Lib.hid (HJ.out.own hg2)
  replace HM := Lib.hid (HM.out.own hg2)
  clear hW2 hG2 he2 hg2 hG0 hrow Mg
  go_wp2
  go_loopw [6, 25] (fun a vi wr => ∃ k : Nat, vi = .int .i64 (k : Int) ∧ k ≤ 2 ∧ PX w G J M b j wr ∧ ∃ g c, a = .slice (some ⟨g, 0, none⟩) (2 + 2 * k) c ∧ wr.ownsRow G 102 7 (.slice (some ⟨g, 0, none⟩) (2 + 2 * k) c) (2 + 2 * k) (BalW.xs b j k)) (fun _ vi _ => 2 - (intOf vi).toNat)
  case atStart => exact ⟨0, rfl, by omega, ⟨g0, hw2, HJ.out, HM.out⟩, G, 2, rfl, HROW.out⟩
  case round =>
    clear g0 hw2 HJ HM HROW
    obtain ⟨k, rfl, hk, ⟨g0, hwr, hj1, hm1⟩, ga, c0, rfl, hrow⟩ := hrel
    have HJ := Lib.hid hj1
    have HM := Lib.hid hm1
    have HROW := Lib.hid hrow
    clear hj1 hm1 hrow
    by_cases hlt : k < 2
    · have hkn : (k : Int) < 2 := by omega
      obtain ⟨A0, hA0⟩ : ∃ A, some (⟨ga, 0, none⟩ : Addr) = A := ⟨_, rfl⟩
      rw [hA0] at HROW ⊢
      clear hA0
      go_upto_region 6 with (fail)
      refine RegD.region_dutyL [28, 29, 30, 31, 32, 33, 34, 35, 36, 37, 38, 39, 40, 41, 42, 43, 44, 45, 46, 47, 48, 49, 50, 51, 52] 23 24 51 52 (RegI.upd (RegI.upd (RegI.upd (RegI.upd (RegI.upd (RegI.upd (RegI.upd (RegI.upd (RegI.upd (RegI.upd (RegI.upd (RegI.upd (RegI.upd (RegI.upd (RegI.upd (RegI.upd (RegI.upd (RegI.upd (RegI.upd (RegI.upd (RegI.upd (RegI.upd (RegI.upd (fun _ => undef) 28 (.slice A0 (2 + 2 * k) c0)) 29 (.int .i64 (k : Int))) 30 (.pointer (some ⟨J, 15, none⟩))) 31 (.pointer (some ⟨J, 15 + k * 3, none⟩))) 32 (.agg #[.int .i64 (j (15 + k * 3)), .int .i64 (j (15 + k * 3 + 1)), .int .i64 (j (15 + k * 3 + 2))])) 33 (.int .i64 (k : Int))) 34 (.pointer (some ⟨J, 21, none⟩))) 35 (.pointer (some ⟨J, 21 + k * 3, none⟩))) 36 (.agg #[.int .i64 (j (21 + k * 3)), .int .i64 (j (21 + k * 3 + 1)), .int .i64 (j (21 + k * 3 + 2))])) 37 (.pointer (some ⟨M, 2, none⟩))) 38 (.int .i64 (b 13))) 39 (.agg #[.int .i64 (j (15 + k * 3)), .int .i64 (j (15 + k * 3 + 1)), .int .i64 (j (15 + k * 3 + 2)), .int .i64 (j (21 + k * 3)), .int .i64 (j (21 + k * 3 + 1)), .int .i64 (j (21 + k * 3 + 2)), .int .i64 (b 13)])) 40 (.int .i64 (k : Int))) 41 (.pointer (some ⟨J, 9, none⟩))) 42 (.pointer (some ⟨J, 9 + k * 3, none⟩))) 43 (.agg #[.int .i64 (j (9 + k * 3)), .int .i64 (j (9 + k * 3 + 1)), .int .i64 (j (9 + k * 3 + 2))])) 44 (.int .i64 (k : Int))) 45 (.pointer (some ⟨J, 27, none⟩))) 46 (.pointer (some ⟨J, 27 + k * 3, none⟩))) 47 (.agg #[.int .i64 (j (27 + k * 3)), .int .i64 (j (27 + k * 3 + 1)), .int .i64 (j (27 + k * 3 + 2))])) 48 (.pointer (some ⟨M, 3, none⟩))) 49 (.int .i64 (b 14))) 50 (.agg #[.int .i64 (j (9 + k * 3)), .int .i64 (j (9 + k * 3 + 1)), .int .i64 (j (9 + k * 3 + 2)), .int .i64 (j (27 + k * 3)), .int .i64 (j (27 + k * 3 + 1)), .int .i64 (j (27 + k * 3 + 2)), .int .i64 (b 14)])) (PX w G J M b j) (fun w1 => PX w G J M b j w1 ∧ w1.ownsRow G 102 7 (.slice A0 (2 + 2 * k) c0) (2 + 2 * k) (BalW.xs b j k)) (fun v1 w1 => PX w G J M b j w1 ∧ w1.ownsRow G 102 7 (.slice A0 (2 + 2 * k) c0) (2 + 2 * k) (BalW.xs b j k) ∧ ∃ E, v1 = .slice (some ⟨E, 0, none⟩) 2 2 ∧ Blk w1 E #[.int .i64 (j (15 + k * 3)), .int .i64 (j (15 + k * 3 + 1)), .int .i64 (j (15 + k * 3 + 2)), .int .i64 (j (21 + k * 3)), .int .i64 (j (21 + k * 3 + 1)), .int .i64 (j (21 + k * 3 + 2)), .int .i64 (b 13), .int .i64 (j (9 + k * 3)), .int .i64 (j (9 + k * 3 + 1)), .int .i64 (j (9 + k * 3 + 2)), .int .i64 (j (27 + k * 3)), .int .i64 (j (27 + k * 3 + 1)), .int .i64 (j (27 + k * 3 + 2)), .int .i64 (b 14)] 102) (fun v1 w1 => PX w G J M b j w1 ∧ Row2 G (BalW.xs b j (k + 1)) (2 + 2 * k + 2) v1 w1) (by kernel_rfl) (by kernel_rfl) (by decide) (by intro d hd; simp at hd; simp; omega) (px_stg) (⟨⟨g0.drew, hwr, HJ.out, HM.out⟩, HROW.out⟩) ?_
      simp only [RegD.FF, RegI.FX, RegI.upd, List.foldl_cons, List.foldl_nil, List.mem_cons, List.not_mem_nil, if_true, if_false, Nat.reduceEqDiff, or_false, or_true]
      simp only [List.setIfInBounds_toArray, List.set_cons_succ, List.set_cons_zero]
      refine And.intro ?hs1 ?he1
      case hs1 =>
        refine And.intro ?s1_0 (And.intro ?s1_1 (And.intro ?s1_2 (And.intro ?s1_3 (And.intro ?s1_4 (And.intro ?s1_5 (And.intro ?s1_6 (And.intro ?s1_7 (And.intro ?s1_8 (And.intro ?s1_9 (And.intro ?s1_10 (And.intro ?s1_11 (And.intro ?s1_12 (And.intro ?s1_13 (And.intro ?s1_14 (And.intro ?s1_15 (And.intro ?s1_16 (And.intro ?s1_17 (And.intro ?s1_18 (And.intro ?s1_19 (And.intro ?s1_20 (And.intro ?s1_21 (And.intro ?s1_22 (And.intro ?s1_23 (And.intro ?s1_24 (trivial)))))))))))))))))))))))))
        case s1_0 =>
          refine RegD.stepS_det (by decide) (by decide) (by decide) (fun u w1 hX => ?_)
          clear hX
          go_wp2
          exact ⟨rfl, rfl, rfl, Own.refl _⟩
        case s1_1 =>
          refine RegD.stepS_det (by decide) (by decide) (by decide) (fun u w1 hX => ?_)
          clear hX
          go_wp2
          exact ⟨rfl, rfl, rfl, Own.refl _⟩
        case s1_2 =>
          refine RegD.stepS_det (by decide) (by decide) (by decide) (fun u w1 hX => ?_)
          clear hX
          go_wp2
          exact ⟨rfl, rfl, rfl, Own.refl _⟩
        case s1_3 =>
          refine RegD.stepS_det (by decide) (by decide) (by decide) (fun u w1 hX => ?_)
          clear hX
          go_wp2
          exact ⟨rfl, rfl, rfl, Own.refl _⟩
        case s1_4 =>
          refine RegD.stepS_det (by decide) (by decide) (by decide) (fun u w1 hX => ?_)
          have HB9 := Lib.hid (hX.2.2.1)
          clear hX
          go_wp2_with ((with_reducible show wpList _ _ _ (⟨_, .load 56 (.tmp 31), _, _, _, none⟩ :: _) _ _); refine wpList_load_part rfl 56 (.tmp 31) rfl J (15 + k * 3) rfl 3 HB9.out (by omega) (#[.int .i64 (j (15 + k * 3)), .int .i64 (j (15 + k * 3 + 1)), .int .i64 (j (15 + k * 3 + 2))]) rfl _ Tryd.underlying56 rfl infoV ?_)
          exact ⟨rfl, rfl, rfl, Own.refl _⟩
        case s1_5 =>
          refine RegD.stepS_det (by decide) (by decide) (by decide) (fun u w1 hX => ?_)
          clear hX
          go_wp2
          exact ⟨rfl, rfl, rfl, Own.refl _⟩
        case s1_6 =>
          refine RegD.stepS_det (by decide) (by decide) (by decide) (fun u w1 hX => ?_)
          clear hX
          go_wp2
          exact ⟨rfl, rfl, rfl, Own.refl _⟩
        case s1_7 =>
          refine RegD.stepS_det (by decide) (by decide) (by decide) (fun u w1 hX => ?_)
          clear hX
          go_wp2
          exact ⟨rfl, rfl, rfl, Own.refl _⟩
        case s1_8 =>
          refine RegD.stepS_det (by decide) (by decide) (by decide) (fun u w1 hX => ?_)
          have HB9 := Lib.hid (hX.2.2.1)
          clear hX
          go_wp2_with ((with_reducible show wpList _ _ _ (⟨_, .load 56 (.tmp 35), _, _, _, none⟩ :: _) _ _); refine wpList_load_part rfl 56 (.tmp 35) rfl J (21 + k * 3) rfl 3 HB9.out (by omega) (#[.int .i64 (j (21 + k * 3)), .int .i64 (j (21 + k * 3 + 1)), .int .i64 (j (21 + k * 3 + 2))]) rfl _ Tryd.underlying56 rfl infoV ?_)
          exact ⟨rfl, rfl, rfl, Own.refl _⟩
        case s1_9 =>
          refine RegD.stepS_det (by decide) (by decide) (by decide) (fun u w1 hX => ?_)
          clear hX
          go_wp2
          exact ⟨rfl, rfl, rfl, Own.refl _⟩
        case s1_10 =>
          refine RegD.stepS_det (by decide) (by decide) (by decide) (fun u w1 hX => ?_)
          have kk := blk_num (hX.2.2.2) (i := 2) (by omega)
          clear hX
          go_wp2
          exact ⟨rfl, rfl, rfl, Own.refl _⟩
        case s1_11 =>
          refine RegD.stepS_det (by decide) (by decide) (by decide) (fun u w1 hX => ?_)
          clear hX
          go_wp2_with ((with_reducible show wpList _ _ _ (⟨_, .build 102 _, _, _, _, _⟩ :: _) _ _); refine wpList_build_as rfl 102 [(0, .tmp 32), (1, .tmp 36), (2, .tmp 38)] rfl [(0, .agg #[.int .i64 (j (15 + k * 3)), .int .i64 (j (15 + k * 3 + 1)), .int .i64 (j (15 + k * 3 + 2))]), (1, .agg #[.int .i64 (j (21 + k * 3)), .int .i64 (j (21 + k * 3 + 1)), .int .i64 (j (21 + k * 3 + 2))]), (2, .int .i64 (b 13))] rfl (#[.int .i64 (j (15 + k * 3)), .int .i64 (j (15 + k * 3 + 1)), .int .i64 (j (15 + k * 3 + 2)), .int .i64 (j (21 + k * 3)), .int .i64 (j (21 + k * 3 + 1)), .int .i64 (j (21 + k * 3 + 2)), .int .i64 (b 13)]) (bld_pt _ _ _ _ _ _ _) ?_)
          exact ⟨rfl, rfl, rfl, Own.refl _⟩
        case s1_12 =>
          refine RegD.stepS_det (by decide) (by decide) (by decide) (fun u w1 hX => ?_)
          clear hX
          go_wp2
          exact ⟨rfl, rfl, rfl, Own.refl _⟩
        case s1_13 =>
          refine RegD.stepS_det (by decide) (by decide) (by decide) (fun u w1 hX => ?_)
          clear hX
          go_wp2
          exact ⟨rfl, rfl, rfl, Own.refl _⟩
        case s1_14 =>
          refine RegD.stepS_det (by decide) (by decide) (by decide) (fun u w1 hX => ?_)
          clear hX
          go_wp2
          exact ⟨rfl, rfl, rfl, Own.refl _⟩
        case s1_15 =>
          refine RegD.stepS_det (by decide) (by decide) (by decide) (fun u w1 hX => ?_)
          have HB9 := Lib.hid (hX.2.2.1)
          clear hX
          go_wp2_with ((with_reducible show wpList _ _ _ (⟨_, .load 56 (.tmp 42), _, _, _, none⟩ :: _) _ _); refine wpList_load_part rfl 56 (.tmp 42) rfl J (9 + k * 3) rfl 3 HB9.out (by omega) (#[.int .i64 (j (9 + k * 3)), .int .i64 (j (9 + k * 3 + 1)), .int .i64 (j (9 + k * 3 + 2))]) rfl _ Tryd.underlying56 rfl infoV ?_)
          exact ⟨rfl, rfl, rfl, Own.refl _⟩
        case s1_16 =>
          refine RegD.stepS_det (by decide) (by decide) (by decide) (fun u w1 hX => ?_)
          clear hX
          go_wp2
          exact ⟨rfl, rfl, rfl, Own.refl _⟩
        case s1_17 =>
          refine RegD.stepS_det (by decide) (by decide) (by decide) (fun u w1 hX => ?_)
          clear hX
          go_wp2
          exact ⟨rfl, rfl, rfl, Own.refl _⟩
        case s1_18 =>
          refine RegD.stepS_det (by decide) (by decide) (by decide) (fun u w1 hX => ?_)
          clear hX
          go_wp2
          exact ⟨rfl, rfl, rfl, Own.refl _⟩
        case s1_19 =>
          refine RegD.stepS_det (by decide) (by decide) (by decide) (fun u w1 hX => ?_)
          have HB9 := Lib.hid (hX.2.2.1)
          clear hX
          go_wp2_with ((with_reducible show wpList _ _ _ (⟨_, .load 56 (.tmp 46), _, _, _, none⟩ :: _) _ _); refine wpList_load_part rfl 56 (.tmp 46) rfl J (27 + k * 3) rfl 3 HB9.out (by omega) (#[.int .i64 (j (27 + k * 3)), .int .i64 (j (27 + k * 3 + 1)), .int .i64 (j (27 + k * 3 + 2))]) rfl _ Tryd.underlying56 rfl infoV ?_)
          exact ⟨rfl, rfl, rfl, Own.refl _⟩
        case s1_20 =>
          refine RegD.stepS_det (by decide) (by decide) (by decide) (fun u w1 hX => ?_)
          clear hX
          go_wp2
          exact ⟨rfl, rfl, rfl, Own.refl _⟩
        case s1_21 =>
          refine RegD.stepS_det (by decide) (by decide) (by decide) (fun u w1 hX => ?_)
          have kk := blk_num (hX.2.2.2) (i := 3) (by omega)
          clear hX
          go_wp2
          exact ⟨rfl, rfl, rfl, Own.refl _⟩
        case s1_22 =>
          refine RegD.stepS_det (by decide) (by decide) (by decide) (fun u w1 hX => ?_)
          clear hX
          go_wp2_with ((with_reducible show wpList _ _ _ (⟨_, .build 102 _, _, _, _, _⟩ :: _) _ _); refine wpList_build_as rfl 102 [(0, .tmp 43), (1, .tmp 47), (2, .tmp 49)] rfl [(0, .agg #[.int .i64 (j (9 + k * 3)), .int .i64 (j (9 + k * 3 + 1)), .int .i64 (j (9 + k * 3 + 2))]), (1, .agg #[.int .i64 (j (27 + k * 3)), .int .i64 (j (27 + k * 3 + 1)), .int .i64 (j (27 + k * 3 + 2))]), (2, .int .i64 (b 14))] rfl (#[.int .i64 (j (9 + k * 3)), .int .i64 (j (9 + k * 3 + 1)), .int .i64 (j (9 + k * 3 + 2)), .int .i64 (j (27 + k * 3)), .int .i64 (j (27 + k * 3 + 1)), .int .i64 (j (27 + k * 3 + 2)), .int .i64 (b 14)]) (bld_pt _ _ _ _ _ _ _) ?_)
          exact ⟨rfl, rfl, rfl, Own.refl _⟩
        case s1_23 =>
          refine RegD.stepS_1 rfl (fun u w1 hR => ?_)
          obtain ⟨hX, hrow⟩ := hR
          have HX := Lib.hid hX
          have HROW := Lib.hid hrow
          clear hX hrow
          go_wp2
          have g := (Own.refl w1).alloc (.cells (#[.int .i64 (j (15 + k * 3)), .int .i64 (j (15 + k * 3 + 1)), .int .i64 (j (15 + k * 3 + 2)), .int .i64 (j (21 + k * 3)), .int .i64 (j (21 + k * 3 + 1)), .int .i64 (j (21 + k * 3 + 2)), .int .i64 (b 13), .int .i64 (j (9 + k * 3)), .int .i64 (j (9 + k * 3 + 1)), .int .i64 (j (9 + k * 3 + 2)), .int .i64 (j (27 + k * 3)), .int .i64 (j (27 + k * 3 + 1)), .int .i64 (j (27 + k * 3 + 2)), .int .i64 (b 14)]) 102)
          exact ⟨rfl, rfl, px_own HX.out g, row_own HROW.out g, w1.heap.size, rfl, Blk.new w1 _ _⟩
        case s1_24 =>
          refine RegD.stepS_2 (by decide) rfl (by kernel_rfl) (fun u w1 hR => ?_)
          obtain ⟨hX, hrow, E, hu, he⟩ := hR
          have HX := Lib.hid hX
          have HROW := Lib.hid hrow
          have HE := Lib.hid (World.news_of_block he)
          have hG1 : G ≤ w1.heap.size := hX.2.1
          simp only [hu]
          clear hX hrow he hu
          go_wp2_with (at_builtin; refine RowA.wpList_append_row_any w1 rfl _ _ 98 rfl G 102 i0 (.agg #[.int .i64 0, .int .i64 0, .int .i64 0, .int .i64 0, .int .i64 0, .int .i64 0, .int .i64 0]) 7 56 Tryd.underlying98 HI.out HZ0.out HZ1.out HZ2.out rfl (by decide) (.slice A0 (2 + 2 * k) c0) (2 + 2 * k) (BalW.xs b j k) rfl HROW.out (some ⟨E, 0, none⟩) 2 2 (news b j k) rfl rfl (fun _ => ⟨_, rfl, HE.out⟩) (xs_one b j k) (by unfold maxLen; omega) (by omega) hG1 ?_; intro v2 w2 h2 h3 _h4; have HROW2 := Lib.hid h2; have HGR := Lib.hid h3; clear h2 h3 _h4)
          rw [xs_next b j hlt] at HROW2
          obtain ⟨g2, c2, rfl⟩ := Joins.ownsRow_form HROW2.out (by omega)
          exact ⟨rfl, rfl, px_grown HX.out HROW.out HGR.out hwG hJG hMG, g2, c2, rfl, HROW2.out⟩
      intro u w9 hR
      obtain ⟨hX, g2, c2, hu, hrow2⟩ := hR
      simp only [hu]
      clear HROW HJ HM g0 hwr hu
      have HX := Lib.hid hX
      have HROW := Lib.hid hrow2
      clear hX hrow2
      change wpList _ _ _ [⟨_, _, _, _, _, _⟩] _ _
      go_wp2
      go_roundw
      case rel => exact ⟨k + 1, by go_num, hlt, HX.out, g2, c2, by rw [show 2 + 2 * (k + 1) = 2 + 2 * k + 2 by omega], by rw [show 2 + 2 * (k + 1) = 2 + 2 * k + 2 by omega]; exact HROW.out⟩
      case measure => simp [intOf]; omega
    · obtain rfl : k = 2 := by omega
      go_wp2
      go_ret
      refine ⟨ga, c0, rfl, Nat.le_trans hwG (HROW.out.lt ga rfl).1, fun i hi => ?_, g0⟩
      have := HROW.out.cellAt i (by omega)
      rw [this]
      show (cz 42 (pa b j)).toList[i]? = _
      rw [Array.getElem?_toList, cz_at hi]
end Go.Proofs.YtighpjhipgobiaaDoor.BalW
