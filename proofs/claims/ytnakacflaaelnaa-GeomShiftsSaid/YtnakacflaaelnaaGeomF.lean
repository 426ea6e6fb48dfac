/-
  Walk of Hull of the specification of package geom. Condition: none.
-/
import Derived.Test.YtnakacflaaelnaaGeomE
import Derived.OwnWalk
import Derived.Laws.OwnMore
namespace Go.Proofs.Ytnakacflaaelnaa.GeoW
open Go.ChangeShapes Go.WideShapes Go.ChangeAt Go.RowKit
open NumP NumW GeoP

/-- The slice value sv holds the points of l; its address is asked for where there is a point. -/
def Pts (w : World) (sv : Value) (l : List Pt) : Prop :=
  ∃ (A : Option Addr) (cap : Nat), sv = .slice A l.length cap ∧ l.length ≤ cap ∧ cap ≤ maxLen ∧
    (0 < l.length → ∃ b off : Nat, A = some ⟨b, off, none⟩ ∧ ∀ i, i < l.length → w.cell? ⟨b, off + i * 2, none⟩ = some (.int .i64 (at' l i).1) ∧ w.cell? ⟨b, off + i * 2 + 1, none⟩ = some (.int .i64 (at' l i).2))
theorem Pts.own {w w' : World} {sv : Value} {l : List Pt} (h : Pts w sv l) (hg : Own w w') : Pts w' sv l := by
  obtain ⟨A, cap, h1, h2, h3, h4⟩ := h
  refine ⟨A, cap, h1, h2, h3, fun h0 => ?_⟩
  obtain ⟨b, off, h5, h6⟩ := h4 h0
  exact ⟨b, off, h5, fun i hi => ⟨hg.cell (h6 i hi).1, hg.cell (h6 i hi).2⟩⟩
theorem pts_nil (w : World) : Pts w (.slice none 0 0) [] := ⟨none, 0, rfl, Nat.le_refl _, Nat.zero_le _, fun h => absurd h (by simp)⟩
/-- The cells of a list of points. -/
def cellsP (l : List Pt) : List Value := l.flatMap fun p => [.int .i64 p.1, .int .i64 p.2]
theorem cellsP_len (l : List Pt) : (cellsP l).length = l.length * 2 := by
  induction l with
  | nil => rfl
  | cons a l ih => show ([_, _] ++ cellsP l).length = _; rw [List.length_append, ih]; simp; omega
theorem cellsP_snoc (l : List Pt) (p : Pt) : cellsP (l ++ [p]) = cellsP l ++ [.int .i64 p.1, .int .i64 p.2] := by
  unfold cellsP; rw [List.flatMap_append]; simp
theorem cellsP_at : ∀ (l : List Pt) (i : Nat), i < l.length → (cellsP l)[i * 2]? = some (.int .i64 (at' l i).1) ∧ (cellsP l)[i * 2 + 1]? = some (.int .i64 (at' l i).2)
  | [], i, h => by simp at h
  | a :: l, 0, _ => ⟨rfl, rfl⟩
  | a :: l, i + 1, h => by
    have := cellsP_at l i (by simpa using h)
    show (_ :: _ :: cellsP l)[(i + 1) * 2]? = _ ∧ (_ :: _ :: cellsP l)[(i + 1) * 2 + 1]? = _
    rw [show (i + 1) * 2 = i * 2 + 1 + 1 by omega]
    simp only [List.getElem?_cons_succ]
    exact this
theorem pts_of_row {w : World} {base : Nat} {e : TypeId} {sv : Value} {l : List Pt} (h : w.ownsRow base e 2 sv l.length (cellsP l)) : Pts w sv l := by
  rcases h.2 with ⟨h1, h2⟩ | ⟨g, cap, cur, rfl, hb, hh, hn, hm, hs, ht⟩
  · obtain rfl := List.eq_nil_of_length_eq_zero h2
    rw [h1]
    exact pts_nil w
  · refine ⟨_, cap, rfl, hn, hm, fun _ => ⟨g, 0, rfl, fun i hi => ?_⟩⟩
    have hc := cellsP_at l i hi
    rw [Nat.zero_add]
    have a0 := World.ownsRow.cellAt h (i * 2) (by omega)
    have a1 := World.ownsRow.cellAt h (i * 2 + 1) (by omega)
    exact ⟨a0.trans hc.1, a1.trans hc.2⟩
theorem all_upto {l : List Pt} (h : ∀ i, i < l.length → okP (at' l i) = true) : ∀ q ∈ l, okP q = true := by
  intro q hq
  obtain ⟨i, hi, e⟩ := List.mem_iff_getElem.1 hq
  have := h i hi
  unfold at' at this
  rw [List.getD_eq_getElem?_getD, List.getElem?_eq_getElem hi, Option.getD_some, e] at this
  exact this
theorem hullE_big {l : List Pt} (h : 16 < l.length) : hullE l = 3 ∧ hullL l = [] := by
  have e : hullE l = 3 := by unfold hullE; rw [if_pos h]
  exact ⟨e, by unfold hullL; rw [e]; rfl⟩
theorem hullE_bad {l : List Pt} {i : Nat} (h : l.length ≤ 16) (hi : i < l.length) (hb : okP (at' l i) = false) : hullE l = 1 ∧ hullL l = [] := by
  have e : hullE l = 1 := by
    unfold hullE
    rw [if_neg (by omega), if_neg]
    intro h2
    have := List.all_eq_true.1 h2 _ (at_mem hi)
    rw [hb] at this
    simp at this
  exact ⟨e, by unfold hullL; rw [e]; rfl⟩
theorem hullE_good {l : List Pt} (h : l.length ≤ 16) (hb : ∀ i, i < l.length → okP (at' l i) = true) : hullE l = 0 ∧ hullL l = hull l := by
  have e : hullE l = 0 := (hullE_zero l).2 ⟨h, all_upto hb⟩
  exact ⟨e, by unfold hullL; rw [if_pos e]⟩
/-- The first corner, found in the order of the list. -/
theorem low_step {l : List Pt} {k : Nat} (h : k < l.length) (f : Pt) : (l.take (k + 1)).foldl lstep f = lstep ((l.take k).foldl lstep f) (at' l k) := by
  rw [take_at h, List.foldl_append]
  rfl
theorem low_all {l : List Pt} (h : 0 < l.length) : (l.take l.length).foldl lstep (at' l 0) = low l := by
  rw [List.take_length]
  cases l with
  | nil => simp at h
  | cons a l => rfl
/-- The corners up to number k. -/
def walkP (l : List Pt) (k : Nat) : List Pt := (List.range k).map (itn l)
theorem walkP_len (l : List Pt) (k : Nat) : (walkP l k).length = k := by unfold walkP; simp
theorem walkP_succ (l : List Pt) (k : Nat) : walkP l (k + 1) = walkP l k ++ [itn l k] := by unfold walkP; rw [List.range_succ, List.map_append]; rfl
theorem walkP_hull {l : List Pt} (h : l ≠ []) : walkP l (period l) = hull l := (hull_ne h).symm
def lenOf : Value → Nat | .slice _ n _ => n | _ => 0
theorem held4 {wr wc w1 : World} {a0 a1 a2 a3 : Addr} {v0 v1 v2 v3 : Value} (hg : Own wc w1) (h : wc.cell? a0 = some v0 ∧ wc.cell? a1 = some v1 ∧ wc.cell? a2 = some v2 ∧ wc.cell? a3 = some v3 ∧ Own wr wc) :
    w1.cell? a0 = some v0 ∧ w1.cell? a1 = some v1 ∧ w1.cell? a2 = some v2 ∧ w1.cell? a3 = some v3 ∧ Own wr w1 :=
  ⟨hg.cell h.1, hg.cell h.2.1, hg.cell h.2.2.1, hg.cell h.2.2.2.1, h.2.2.2.2.trans hg⟩
theorem row_own {w w' : World} {base : Nat} {e : TypeId} {size : Nat} {v : Value} {n : Nat} {xs : List Value} (h : w.ownsRow base e size v n xs) (hg : Own w w') : w'.ownsRow base e size v n xs := by
  refine ⟨h.1, h.2.imp id ?_⟩
  rintro ⟨g, cap, cur, h1, h2, h3, h4⟩
  refine ⟨g, cap, cur, h1, h2, ?_, h4⟩
  have hlt : g < w.heap.size := by
    rcases Nat.lt_or_ge g w.heap.size with x | x
    · exact x
    · rw [Array.getElem?_eq_none x] at h3; cases h3
  rw [hg.block g hlt]
  exact h3
theorem row_set {w : World} {base : Nat} {e : TypeId} {size : Nat} {g cap n : Nat} {xs : List Value} (h : w.ownsRow base e size (.slice (some ⟨g, 0, none⟩) n cap) n xs) {p : Addr} (hp : p.block ≠ g) (u : Value) : (w.setCell p u).ownsRow base e size (.slice (some ⟨g, 0, none⟩) n cap) n xs := by
  refine ⟨h.1, h.2.imp id ?_⟩
  rintro ⟨g', cap', cur, h1, h2, h3, h4⟩
  refine ⟨g', cap', cur, h1, h2, ?_, h4⟩
  have e : g = g' := by injection h1 with h1; injection h1 with h1; injection h1
  rw [Below.heap_setCell _ _ _ _ (by omega)]
  exact h3
theorem row_form {w : World} {base : Nat} {e : TypeId} {size : Nat} {v : Value} {n : Nat} {xs : List Value} (h : w.ownsRow base e size v n xs) (hn : 0 < n) : ∃ g cap, v = .slice (some ⟨g, 0, none⟩) n cap ∧ base ≤ g ∧ g < w.heap.size := by
  rcases h.2 with ⟨_, h1⟩ | ⟨g, cap, cur, h1, h2, h3, _⟩
  · omega
  · refine ⟨g, cap, h1, h2, ?_⟩
    rcases Nat.lt_or_ge g w.heap.size with x | x
    · exact x
    · rw [Array.getElem?_eq_none x] at h3; cases h3
theorem pt_new (w : World) (a b : Int) (t : TypeId) : (w.alloc (.cells #[.int .i64 a, .int .i64 b] t)).cell? ⟨w.heap.size, 0, none⟩ = some (.int .i64 a) ∧ (w.alloc (.cells #[.int .i64 a, .int .i64 b] t)).cell? ⟨w.heap.size, 1, none⟩ = some (.int .i64 b) ∧
    (w.alloc (.cells #[.int .i64 a, .int .i64 b] t)).frozen? ⟨w.heap.size, 0, none⟩ = false ∧ (w.alloc (.cells #[.int .i64 a, .int .i64 b] t)).frozen? ⟨w.heap.size, 1, none⟩ = false :=
  ⟨by go_simp, by go_simp, by go_simp, by go_simp⟩
/-- What Hull leaves. -/
def HullRet (l : List Pt) (w : World) (e : Ending) (w' : World) : Prop := ∃ sv, e = .returned (.tuple #[sv, .int .i64 (hullE l)]) ∧ Pts w' sv (hullL l) ∧ Own w w'
theorem hull_done {l m : List Pt} {w w' : World} {sv : Value} (h : hullE l = 0 ∧ hullL l = m) (hp : Pts w' sv m) (hg : Own w w') : HullRet l w (.returned (.tuple #[sv, .int .i64 0])) w' :=
  ⟨sv, by rw [h.1], by rw [h.2]; exact hp, hg⟩
theorem hull_nothing {l : List Pt} {w w' : World} {f : Int} (h : hullE l = f ∧ hullL l = []) (hg : Own w w') : HullRet l w (.returned (.tuple #[.slice none 0 0, .int .i64 f])) w' :=
  ⟨_, by rw [h.1], by rw [h.2]; exact pts_nil w', hg⟩
theorem rnext_at (l : List Pt) (c d : Pt) (n b off cap : Nat) (w : World) (HL : Hid (l.length = n)) (hn : n ≤ 16) (hcap : n ≤ cap) (HC : Hid (okP c = true ∧ (∀ q ∈ l, okP q = true) ∧ nxt l c = d))
    (HA : Hid (∀ i, i < n → w.cell? ⟨b, off + i * 2, none⟩ = some (.int .i64 (at' l i).1) ∧ w.cell? ⟨b, off + i * 2 + 1, none⟩ = some (.int .i64 (at' l i).2))) :
    Calls Try.prog 45 #[.slice (some ⟨b, off, none⟩) n cap, .agg #[.int .i64 c.1, .int .i64 c.2]] w fun e w' => e = .returned (.agg #[.int .i64 d.1, .int .i64 d.2]) ∧ Own w w' := by
  obtain ⟨h1, h2, rfl⟩ := HC.out
  obtain rfl := HL.out
  exact rnext_core l c b off cap w hn hcap h1 h2 (fun i hi => (HA.out i hi).1) (fun i hi => (HA.out i hi).2)
theorem rhull_nil (A : Option Addr) (cap : Nat) (w : World) :
    Calls Try.prog 21 #[.slice A 0 cap] w (HullRet [] w) := by
  have H := Lib.hid (show hullE [] = 0 ∧ hullL [] = [] from ⟨rfl, rfl⟩)
  go_enter Try.func21, Try.ntmps21
  go_wp2
  go_loopw [4] (fun i wr => i = .int .i64 0 ∧ wr = w) (fun i _ => 0)
  case atStart => exact ⟨rfl, rfl⟩
  case round =>
    obtain ⟨rfl, rfl⟩ := hrel
    go_wp2
    go_ret2
    exact hull_nothing H.out (Own.refl _)
set_option maxHeartbeats 400000 in
theorem rhull_big (l : List Pt) (A : Option Addr) (cap : Nat) (w : World) (hn : 16 < l.length) :
    Calls Try.prog 21 #[.slice A l.length cap] w (HullRet l w) := by
  have H := Lib.hid (hullE_big hn)
  go_enter Try.func21, Try.ntmps21
  go_wp2
  go_ret2
  exact hull_nothing H.out (Own.refl _)
set_option maxRecDepth 100000 in
set_option maxHeartbeats 8000000 in
theorem rhull_core (l : List Pt) (b off cap : Nat) (w : World) (hn : l.length ≤ 16) (hcap : l.length ≤ cap)
    (h0 : ∀ i, i < l.length → w.cell? ⟨b, off + i * 2, none⟩ = some (.int .i64 (at' l i).1)) (h1 : ∀ i, i < l.length → w.cell? ⟨b, off + i * 2 + 1, none⟩ = some (.int .i64 (at' l i).2)) :
    Calls Try.prog 21 #[.slice (some ⟨b, off, none⟩) l.length cap] w (HullRet l w) := by
  obtain ⟨i0, hi, hz0, hz1, hz2⟩ := info_parts (show (Try.prog.info? 23).map (fun i => (i.zero, i.size, i.bytes)) = some (some (.agg #[.int .i64 0, .int .i64 0]), 2, 16) by kernel_rfl)
  have HI := Lib.hid hi
  have HZ0 := Lib.hid hz0
  have HZ1 := Lib.hid hz1
  have HZ2 := Lib.hid hz2
  clear hi hz0 hz1 hz2
  have H0 := Lib.hid h0
  have H1 := Lib.hid h1
  clear h0 h1
  obtain ⟨n, hl⟩ : ∃ n, l.length = n := ⟨_, rfl⟩
  have hn2 := hn
  rw [hl] at hn hcap H0 H1 ⊢
  have HL := Lib.hid hl
  have HN := Lib.hid hn2
  clear hl hn2
  go_enter Try.func21, Try.ntmps21
  go_wp2
  go_loopw [4] (fun i wr => ∃ k : Nat, i = .int .i64 k ∧ k ≤ n ∧ Own w wr ∧ ∀ j, j < k → okP (at' l j) = true) (fun i _ => n - (intOf i).toNat)
  case atStart => exact ⟨0, rfl, Nat.zero_le _, Own.refl w, fun j hj => absurd hj (Nat.not_lt_zero _)⟩
  case round =>
    obtain ⟨k, rfl, hk, g0, hok⟩ := hrel
    have HOK := Lib.hid hok
    clear hok
    by_cases hlt : k < n
    · obtain ⟨t, ht⟩ : ∃ t, okP (at' l k) = t := ⟨_, rfl⟩
      have e0 := g0.cell (H0.out k hlt)
      have e1 := g0.cell (H1.out k hlt)
      obtain ⟨p, hp⟩ : ∃ p, at' l k = p := ⟨_, rfl⟩
      have HT := Lib.hid ht
      rw [hp] at e0 e1 ht
      have HP := Lib.hid ht
      clear hp ht
      obtain ⟨px, py⟩ := p
      simp only at e0 e1
      cases t
      · have HR := Lib.hid (hullE_bad HN.out (by rw [HL.out]; exact hlt) HT.out)
        go_wp2_with (go_at_call 31; refine (rvalid_at (px, py) false _ HP).mono ?_; rintro e w1 ⟨rfl, hg⟩; replace g0 : Own w w1 := g0.trans hg; clear hg)
        go_ret2
        exact hull_nothing HR.out g0
      · go_wp2_with (go_at_call 31; refine (rvalid_at (px, py) true _ HP).mono ?_; rintro e w1 ⟨rfl, hg⟩; replace g0 : Own w w1 := g0.trans hg; clear hg)
        go_roundw
        case rel => exact ⟨k + 1, by go_num, hlt, g0, fun j hj => by
            by_cases e : j = k
            · rw [e]; exact HT.out
            · exact HOK.out j (by omega)⟩
        case measure => simp [intOf]; omega
    · obtain rfl : k = n := by omega
      clear hk hlt
      have HG := Lib.hid (hullE_good HN.out (by rw [HL.out]; exact HOK.out))
      have HALL := Lib.hid (all_upto (l := l) (by rw [HL.out]; exact HOK.out))
      by_cases hz : k = 0
      · subst hz
        have HNIL := Lib.hid (show hullE l = 0 ∧ hullL l = [] from ⟨HG.out.1, by rw [HG.out.2, List.eq_nil_of_length_eq_zero HL.out]; rfl⟩)
        go_wp2
        go_ret2
        exact hull_nothing HNIL.out g0
      have hpos : 0 < k := Nat.pos_of_ne_zero hz
      have hz2 : ((k : Int) == 0) = false := beq_eq_false_iff_ne.2 (by omega)
      clear hz
      have e0 := g0.cell (H0.out 0 hpos)
      have e1 := g0.cell (H1.out 0 hpos)
      rw [Nat.zero_mul, Nat.add_zero] at e0
      rw [Nat.zero_mul, Nat.add_zero] at e1
      obtain ⟨p, hp⟩ : ∃ p, at' l 0 = p := ⟨_, rfl⟩
      rw [hp] at e0 e1
      have HP0 := Lib.hid hp
      clear hp
      obtain ⟨px, py⟩ := p
      simp only at e0 e1
      have hlow := low_all (l := l) (by rw [HL.out]; exact hpos)
      rw [HL.out, HP0.out] at hlow
      have hst := fun j (h : j < k) => low_step (l := l) (by rw [HL.out]; exact h) (px, py)
      have HLOW := Lib.hid hlow
      have HST := Lib.hid hst
      clear hlow hst
      go_wp2
      have y0 : (wr.alloc (.cells #[.int .i64 px, .int .i64 py] 23)).cell? ⟨wr.heap.size, 0, none⟩ = some (.int .i64 px) := by go_simp
      have y1 : (wr.alloc (.cells #[.int .i64 px, .int .i64 py] 23)).cell? ⟨wr.heap.size, 1, none⟩ = some (.int .i64 py) := by go_simp
      have z0 : (wr.alloc (.cells #[.int .i64 px, .int .i64 py] 23)).frozen? ⟨wr.heap.size, 0, none⟩ = false := by go_simp
      have z1 : (wr.alloc (.cells #[.int .i64 px, .int .i64 py] 23)).frozen? ⟨wr.heap.size, 1, none⟩ = false := by go_simp
      have g1 : Own w (wr.alloc (.cells #[.int .i64 px, .int .i64 py] 23)) := g0.alloc _
      have hB := g0.size
      clear g0 e0 e1
      generalize wr.alloc (.cells #[.int .i64 px, .int .i64 py] 23) = wb at *
      generalize wr.heap.size = B at *
      go_loopw [6] (fun i wx => ∃ j : Nat, i = .int .i64 j ∧ j ≤ k ∧ Own w wx ∧ wx.cell? ⟨B, 0, none⟩ = some (.int .i64 ((l.take j).foldl lstep (px, py)).1) ∧ wx.cell? ⟨B, 1, none⟩ = some (.int .i64 ((l.take j).foldl lstep (px, py)).2) ∧ wx.frozen? ⟨B, 0, none⟩ = false ∧ wx.frozen? ⟨B, 1, none⟩ = false) (fun i _ => k - (intOf i).toNat)
      case atStart => exact ⟨0, rfl, Nat.zero_le _, g1, y0, y1, z0, z1⟩
      case round =>
        clear g1 y0 y1 z0 z1
        obtain ⟨j, rfl, hj, g0, y0, y1, z0, z1⟩ := hrel
        by_cases hlt : j < k
        · have st := HST.out j hlt
          have e0 := g0.cell (H0.out j hlt)
          have e1 := g0.cell (H1.out j hlt)
          obtain ⟨⟨qx, qy⟩, hq⟩ : ∃ p, at' l j = p := ⟨_, rfl⟩
          obtain ⟨⟨fx, fy⟩, hf⟩ : ∃ p, (l.take j).foldl lstep (px, py) = p := ⟨_, rfl⟩
          rw [hq] at e0 e1 st
          rw [hf] at y0 y1 st
          simp only at e0 e1 y0 y1
          clear hq hf
          obtain ⟨t, ht⟩ : ∃ t, before (qx, qy) (fx, fy) = t := ⟨_, rfl⟩
          have HT := Lib.hid ht
          unfold lstep at st
          rw [ht] at st
          change (l.take (j + 1)).foldl lstep (px, py) = _ at st
          have HS := Lib.hid st
          clear st ht
          go_upto_region 14 with (fail)
          have f0 := Own.refl wr
          have f1 := (Own.refl wr).drew
          go_region_held3 (fun w' => w'.cell? ⟨b, off + j * 2, none⟩ = some (.int .i64 qx) ∧ w'.cell? ⟨b, off + j * 2 + 1, none⟩ = some (.int .i64 qy) ∧ w'.cell? ⟨B, 0, none⟩ = some (.int .i64 fx) ∧ w'.cell? ⟨B, 1, none⟩ = some (.int .i64 fy) ∧ Own wr w') (go_keep)
            ((go_at_call 44; refine (rbefore_at (qx, qy) (fx, fy) t _ HT).mono ?_; rintro e w1 ⟨rfl, hg⟩; obtain ⟨c0, c1, c2, c3, c4⟩ := held4 hg (by with_reducible assumption); clear hg))
          replace z0 : w1.frozen? _ = _ := frozen_kept c4 y0 z0
          replace z1 : w1.frozen? _ = _ := frozen_kept c4 y1 z1
          replace g0 := g0.trans c4
          clear y0 y1 e0 e1 f0 f1 c4
          cases t
          all_goals
            go_wp2
            go_roundw
            case rel =>
              refine ⟨j + 1, by go_num, hlt, by repeat (first | exact g0 | refine Own.setCell ?_ (by simp; try omega) _), ?_⟩
              rw [HS.out]
              exact ⟨by go_simp, by go_simp, by go_simp, by go_simp⟩
            case measure => simp [intOf]; omega
        · obtain rfl : j = k := by omega
          clear hj hlt
          rw [HLOW.out] at y0 y1
          have hne : l ≠ [] := fun e => by have := HL.out; rw [e] at this; simp at this; omega
          have HPS := Lib.hid (period_spec hne HALL.out)
          have HIT := Lib.hid (fun i => (itn_ok hne HALL.out i).1)
          have HWP := Lib.hid (walkP_hull hne)
          clear hne
          obtain ⟨⟨lx, ly⟩, hlo⟩ : ∃ p, low l = p := ⟨_, rfl⟩
          obtain ⟨⟨cx, cy⟩, hc1⟩ : ∃ p, itn l 1 = p := ⟨_, rfl⟩
          rw [hlo] at y0 y1
          simp only at y0 y1
          have HLO := Lib.hid hlo
          have HC1 := Lib.hid hc1
          clear hlo hc1
          have HX1 := Lib.hid (show okP (lx, ly) = true ∧ (∀ q ∈ l, okP q = true) ∧ nxt l (lx, ly) = (cx, cy) from ⟨HALL.out _ (by rw [← HLO.out]; exact HIT.out 0), HALL.out, by rw [← HLO.out, ← HC1.out]; rfl⟩)
          have hBw : B < wr.heap.size := block_lt_of_cell y0
          go_upto_region 17 with (fail)
          have hrow : cellsP (walkP l 1) = [.int .i64 lx, .int .i64 ly] := by show [Value.int .i64 (low l).1, .int .i64 (low l).2] = _; rw [HLO.out]
          have r1 : (wr.alloc (.cells #[.int .i64 lx, .int .i64 ly] 23)).ownsRow (B + 1) 23 2 (.slice (some ⟨wr.heap.size, 0, none⟩) 1 1) 1 (cellsP (walkP l 1)) := by rw [hrow]; exact World.ownsRow_lit wr #[.int .i64 lx, .int .i64 ly] 1 (by omega) (by decide) rfl
          clear hrow
          have q0 : Own wr (wr.alloc (.cells #[.int .i64 lx, .int .i64 ly] 23)) := (Own.refl wr).alloc _
          replace y0 := q0.cell y0
          replace y1 := q0.cell y1
          replace g0 := g0.trans q0
          clear z0 z1 q0
          have hGB : B + 1 ≤ wr.heap.size := hBw
          have hGw : wr.heap.size < (wr.alloc (.cells #[.int .i64 lx, .int .i64 ly] 23)).heap.size := by simp
          generalize wr.alloc (.cells #[.int .i64 lx, .int .i64 ly] 23) = wc at *
          generalize wr.heap.size = G at *
          have HA := Lib.hid (show ∀ i, i < j → wc.cell? ⟨b, off + i * 2, none⟩ = some (.int .i64 (at' l i).1) ∧ wc.cell? ⟨b, off + i * 2 + 1, none⟩ = some (.int .i64 (at' l i).2) from fun i hi => ⟨g0.cell (H0.out i hi), g0.cell (H1.out i hi)⟩)
          have R1 := Lib.hid r1
          clear r1
          go_wp2_with (go_at_call 45; refine (rnext_at l (lx, ly) (cx, cy) j b off cap wc HL hn hcap HX1 HA).mono ?_; rintro e w1 ⟨rfl, hg⟩; replace y0 := hg.cell y0; replace y1 := hg.cell y1; replace R1 := Lib.hid (row_own R1.out hg); replace g0 := g0.trans hg; have hG2 : G < w1.heap.size := Nat.lt_of_lt_of_le hGw hg.size; clear hg HA hGw)
          obtain ⟨x0, x1, z0, z1⟩ := pt_new w1 cx cy 23
          have q0 : Own w1 (w1.alloc (.cells #[.int .i64 cx, .int .i64 cy] 23)) := (Own.refl w1).alloc _
          have hBC : B < w1.heap.size := by omega
          replace y0 := q0.cell y0
          replace y1 := q0.cell y1
          replace R1 := Lib.hid (row_own R1.out q0)
          replace g0 := g0.trans q0
          clear q0
          generalize w1.alloc (.cells #[.int .i64 cx, .int .i64 cy] 23) = wd at *
          generalize w1.heap.size = C at *
          go_loopw [7, 8] (fun o cp wx => ∃ k3 bc g cap3 : Nat, 1 ≤ k3 ∧ k3 ≤ period l ∧ cp = .pointer (some ⟨bc, 0, none⟩) ∧ o = .slice (some ⟨g, 0, none⟩) k3 cap3 ∧ Hid (wx.ownsRow (B + 1) 23 2 (.slice (some ⟨g, 0, none⟩) k3 cap3) k3 (cellsP (walkP l k3))) ∧ g ≠ bc ∧ B < bc ∧ B < g ∧
              wx.cell? ⟨B, 0, none⟩ = some (.int .i64 lx) ∧ wx.cell? ⟨B, 1, none⟩ = some (.int .i64 ly) ∧ wx.cell? ⟨bc, 0, none⟩ = some (.int .i64 (itn l k3).1) ∧ wx.cell? ⟨bc, 1, none⟩ = some (.int .i64 (itn l k3).2) ∧ wx.frozen? ⟨bc, 0, none⟩ = false ∧ wx.frozen? ⟨bc, 1, none⟩ = false ∧ Own w wx) (fun o _ _ => period l - lenOf o)
          case atStart => exact ⟨1, C, G, 1, Nat.le_refl _, HPS.out.1, rfl, rfl, R1, by omega, hBC, by omega, y0, y1, by rw [HC1.out]; exact x0, by rw [HC1.out]; exact x1, z0, z1, g0⟩
          case round =>
            clear x0 x1 y0 y1 z0 z1 g0 R1
            obtain ⟨k3, bc, g, cap3, h1, h2, rfl, rfl, row, hne, hbc, hbg, y0, y1, x0, x1, z0, z1, g0⟩ := hrel
            by_cases h3 : k3 < period l
            · have hd := HPS.out.2.2.2 k3 (by omega) h3
              have hok := HALL.out _ (HIT.out k3)
              obtain ⟨⟨dx, dy⟩, hd2⟩ : ∃ p, itn l (k3 + 1) = p := ⟨_, rfl⟩
              have hnx : nxt l (itn l k3) = (dx, dy) := hd2
              have hws := walkP_succ l k3
              have hk16 : k3 ≤ 16 := by have := HPS.out.2.1; have := HL.out; omega
              obtain ⟨⟨ex, ey⟩, he⟩ : ∃ p, itn l k3 = p := ⟨_, rfl⟩
              rw [he] at x0 x1 hok hnx hd hws
              simp only at x0 x1
              rw [HLO.out] at hd
              have hb1 := ptB_no hd
              have HX := Lib.hid (show okP (ex, ey) = true ∧ (∀ q ∈ l, okP q = true) ∧ nxt l (ex, ey) = (dx, dy) from ⟨hok, HALL.out, hnx⟩)
              have HW := Lib.hid (show cellsP (walkP l (k3 + 1)) = cellsP (walkP l k3) ++ [.int .i64 ex, .int .i64 ey] by rw [hws, cellsP_snoc])
              have HD2 := Lib.hid hd2
              clear hd hok hnx hws he hd2
              go_upto_region 20 with (fail)
              go_wp2_with (at_builtin; refine wpList_append_own _ rfl _ _ 41 rfl (B + 1) 23 i0 (.agg #[.int .i64 0, .int .i64 0]) 2 16 Try.underlying41 HI.out HZ0.out HZ1.out HZ2.out rfl (by decide) _ _ _ rfl (row.out.alloc _) ⟨wr.heap.size, 0, none⟩ 1 1 [.int .i64 ex, .int .i64 ey] rfl rfl ?c1 ?c2 ?c3 ?c4 ?c5 ?_)
              case c1 =>
                intro i u hi
                match i, hi with
                | 0, hi => simp at hi; subst hi; simp [Addr.add]
                | 1, hi => simp at hi; subst hi; simp [Addr.add]
              case c2 => intro u hu; simp at hu; rcases hu with rfl | rfl <;> rfl
              case c3 => unfold maxLen; omega
              case c4 => omega
              case c5 => have : B < wr.heap.size := block_lt_of_cell y0; simp; omega
              intro v1 w1 hown hgrow _
              have q0 : Own wr (wr.alloc (.cells #[.int .i64 ex, .int .i64 ey] 23)) := (Own.refl wr).alloc _
              obtain ⟨g2, cap2, rfl, hg2, hg3⟩ := row_form hown (by omega)
              replace y0 := hgrow.cell (q0.cell y0) (by simp [Value.ownBlock]; omega)
              replace y1 := hgrow.cell (q0.cell y1) (by simp [Value.ownBlock]; omega)
              replace x0 := hgrow.cell (q0.cell x0) (by simp [Value.ownBlock]; omega)
              replace x1 := hgrow.cell (q0.cell x1) (by simp [Value.ownBlock]; omega)
              have hgw := g0.size
              replace g0 : Own w w1 := (g0.trans q0).grown hgrow (by intro i hi; simp [Value.ownBlock] at hi; omega)
              rw [← HW.out] at hown
              have R2 := Lib.hid hown
              clear hown hgrow q0 row z0 z1
              go_upto_region 19 with (fail)
              obtain ⟨x2, x3, z2, z3⟩ := pt_new w1 ex ey 23
              have q0 : Own w1 (w1.alloc (.cells #[.int .i64 ex, .int .i64 ey] 23)) := (Own.refl w1).alloc _
              have hBC : B < w1.heap.size := block_lt_of_cell y0
              replace y0 := q0.cell y0
              replace y1 := q0.cell y1
              replace R2 := Lib.hid (row_own R2.out q0)
              replace g0 := g0.trans q0
              clear q0 x0 x1
              generalize w1.alloc (.cells #[.int .i64 ex, .int .i64 ey] 23) = wd at *
              generalize w1.heap.size = C at *
              have HA := Lib.hid (show ∀ i, i < j → wd.cell? ⟨b, off + i * 2, none⟩ = some (.int .i64 (at' l i).1) ∧ wd.cell? ⟨b, off + i * 2 + 1, none⟩ = some (.int .i64 (at' l i).2) from fun i hi => ⟨g0.cell (H0.out i hi), g0.cell (H1.out i hi)⟩)
              go_wp2_with (go_at_call 45; refine (rnext_at l (ex, ey) (dx, dy) j b off cap wd HL hn hcap HX HA).mono ?_; rintro e w2 ⟨rfl, hg⟩; replace z2 : w2.frozen? _ = _ := frozen_kept hg x2 z2; replace z3 : w2.frozen? _ = _ := frozen_kept hg x3 z3; replace y0 := hg.cell y0; replace y1 := hg.cell y1; replace x2 := hg.cell x2; replace x3 := hg.cell x3; replace R2 := Lib.hid (row_own R2.out hg); replace g0 := g0.trans hg; clear hg HA)
              go_roundw
              case rel =>
                refine ⟨k3 + 1, C, g2, cap2, by omega, by omega, rfl, rfl, Lib.hid (row_set (row_set R2.out (by simp; omega) _) (by simp; omega) _), by omega, hBC, by omega, ?_⟩
                rw [HD2.out]
                exact ⟨by go_simp, by go_simp, by go_simp, by go_simp, by go_simp, by go_simp, (g0.setCell (by simp; omega) _).setCell (by simp; omega) _⟩
              case measure => simp [lenOf]; omega
            · obtain rfl : k3 = period l := by omega
              have hpe := HPS.out.2.2.1
              rw [hpe, HLO.out] at x0 x1
              clear hpe
              simp only at x0 x1
              have hb1 : ptB lx ly lx ly = true := ptB_yes rfl
              go_wp2
              go_ret2
              exact hull_done HG.out (by rw [← HWP.out]; exact pts_of_row (by rw [walkP_len]; exact row.out)) g0
theorem rhull_at (l : List Pt) (sv : Value) (w : World) (H : Hid (Pts w sv l)) :
    Calls Try.prog 21 #[sv] w (HullRet l w) := by
  obtain ⟨A, cap, rfl, h1, _, h2⟩ := H.out
  by_cases h : 16 < l.length
  · exact rhull_big l A cap w h
  · by_cases h0 : 0 < l.length
    · obtain ⟨b, off, rfl, h3⟩ := h2 h0
      exact rhull_core l b off cap w (by omega) h1 (fun i hi => (h3 i hi).1) (fun i hi => (h3 i hi).2)
    · obtain rfl := List.eq_nil_of_length_eq_zero (show l.length = 0 by omega)
      exact rhull_nil A cap w
end Go.Proofs.Ytnakacflaaelnaa.GeoW
