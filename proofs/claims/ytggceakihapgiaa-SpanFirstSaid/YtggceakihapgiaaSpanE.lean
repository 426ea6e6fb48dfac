/-
  Walks of two, Norm, Union, Common, Minus, Total and Free of the specification of package span: what a call returns for every input. Condition: none.
-/
import Derived.Test.YtggceakihapgiaaSpanD
namespace Go.Proofs.Ytggceakihapgiaa.SpaW
open Go.ChangeShapes Go.WideShapes Go.ChangeAt Go.RowKit
open PairW SpaP

def setE (a b : List Sp) (op : Int) : Int := if chkE a = 0 then (if chkE b = 0 then (if 128 < (setsL a b op).length then 3 else 0) else chkE b) else chkE a
def setV (a b : List Sp) (op : Int) : List Sp := if setE a b op = 0 then setsL a b op else []
/-- A list of spans in memory that is the call's own. -/
def Fresh (w w' : World) (sv : Value) (l : List Sp) : Prop := w'.ownsRow w.heap.size 36 2 sv l.length (cellsP l)
theorem Fresh.pts {w w' : World} {sv : Value} {l : List Sp} (h : Fresh w w' sv l) : Pts w' sv l := pts_of_row (base := w.heap.size) (e := 36) h
theorem Fresh.base {w0 w w' : World} {sv : Value} {l : List Sp} (h : Fresh w w' sv l) (hb : w0.heap.size ≤ w.heap.size) : Fresh w0 w' sv l := by
  refine ⟨h.1, h.2.imp id ?_⟩
  rintro ⟨g, cap, cur, h1, h2, h3⟩
  exact ⟨g, cap, cur, h1, by omega, h3⟩
theorem Fresh.base' {w : World} {b0 b : Nat} {e : TypeId} {z : Nat} {sv : Value} {n : Nat} {xs : List Value} (h : w.ownsRow b e z sv n xs) (hb : b0 < b) : w.ownsRow (b0 + 1) e z sv n xs := by
  refine ⟨h.1, h.2.imp id ?_⟩
  rintro ⟨g, cap, cur, h1, h2, h3⟩
  exact ⟨g, cap, cur, h1, by omega, h3⟩
theorem Fresh.own {w w1 w2 : World} {sv : Value} {l : List Sp} (h : Fresh w w1 sv l) (hg : Own w1 w2) : Fresh w w2 sv l := row_own h hg
theorem fresh_nil (w w' : World) : Fresh w w' (.slice none 0 0) [] := World.ownsRow_nil w' _ _ _
/-- What a function of sets leaves. -/
def SetRet (v : List Sp) (f : Int) (w : World) (e : Ending) (w' : World) : Prop := ∃ sv, e = .returned (.tuple #[sv, .int .i64 f]) ∧ Fresh w w' sv v ∧ Own w w'
theorem set_a {a b : List Sp} {op f : Int} (h : chkE a = f) (hf : f ≠ 0) : setE a b op = f ∧ setV a b op = [] := by
  have e : setE a b op = f := by unfold setE; rw [if_neg (by rw [h]; exact hf), h]
  exact ⟨e, by unfold setV; rw [e, if_neg hf]⟩
theorem set_b {a b : List Sp} {op f : Int} (ha : chkE a = 0) (h : chkE b = f) (hf : f ≠ 0) : setE a b op = f ∧ setV a b op = [] := by
  have e : setE a b op = f := by unfold setE; rw [if_pos ha, if_neg (by rw [h]; exact hf), h]
  exact ⟨e, by unfold setV; rw [e, if_neg hf]⟩
theorem set_full {a b : List Sp} {op : Int} (ha : chkE a = 0) (hb : chkE b = 0) (h : 128 < (setsL a b op).length) : setE a b op = 3 ∧ setV a b op = [] := by
  have e : setE a b op = 3 := by unfold setE; rw [if_pos ha, if_pos hb, if_pos h]
  exact ⟨e, by unfold setV; rw [e]; rfl⟩
theorem set_ok {a b : List Sp} {op : Int} (ha : chkE a = 0) (hb : chkE b = 0) (h : ¬ 128 < (setsL a b op).length) : setE a b op = 0 ∧ setV a b op = setsL a b op := by
  have e : setE a b op = 0 := by unfold setE; rw [if_pos ha, if_pos hb, if_neg h]
  exact ⟨e, by unfold setV; rw [if_pos e]⟩
theorem set_ret {v : List Sp} {f : Int} {w w' : World} {sv : Value} {e2 : Int} {m : List Sp} (h : f = e2 ∧ v = m) (hp : Fresh w w' sv m) (hg : Own w w') : SetRet v f w (.returned (.tuple #[sv, .int .i64 e2])) w' := ⟨sv, by rw [h.1], by rw [h.2]; exact hp, hg⟩
theorem row_shape {w : World} {base : Nat} {e : TypeId} {size : Nat} {v : Value} {n : Nat} {xs : List Value} (h : w.ownsRow base e size v n xs) : ∃ p : Option Addr × Nat, v = .slice p.1 n p.2 := by
  rcases h.2 with ⟨h1, h2⟩ | ⟨g, cap, cur, h1, _⟩
  · exact ⟨(none, 0), by rw [h1, h2]⟩
  · exact ⟨(some ⟨g, 0, none⟩, cap), h1⟩
set_option maxRecDepth 100000 in
set_option maxHeartbeats 2000000 in
theorem rtwo_at (a b v : List Sp) (f : Int) (sa sb : Value) (op : Int) (w : World) (H : Hid (setE a b op = f ∧ setV a b op = v)) (hop : op = 0 ∨ op = 1 ∨ op = 2) (HA : Hid (Pts w sa a)) (HB : Hid (Pts w sb b)) :
    Calls Try.prog 35 #[sa, sb, .int .i64 op] w (SetRet v f w) := by
  obtain ⟨rfl, rfl⟩ := H.out
  clear H
  obtain ⟨ea, hea⟩ : ∃ e, chkE a = e := ⟨_, rfl⟩
  obtain ⟨eb, heb⟩ : ∃ e, chkE b = e := ⟨_, rfl⟩
  have HEA := Lib.hid hea
  have HEB := Lib.hid heb
  by_cases ha : ea = 0
  · subst ha
    by_cases hb : eb = 0
    · subst hb
      have hza := (chkE_zero a).1 hea
      have hzb := (chkE_zero b).1 heb
      have HOK := Lib.hid (show ∀ s ∈ a ++ b, okS s = true from fun s hs => by
        rcases List.mem_append.1 hs with k | k
        · exact hza.2 s k
        · exact hzb.2 s k)
      have hn : a.length + b.length ≤ 300 := by omega
      obtain ⟨R, hR⟩ : ∃ R, setsL a b op = R := ⟨_, rfl⟩
      have HR := Lib.hid hR
      by_cases h : 128 < R.length
      · have HV := Lib.hid (set_full hea heb (op := op) (by rw [hR]; exact h))
        clear hza hzb hea heb hR
        go_enter Try.func35, Try.ntmps35
        go_upto_region 8 with (first | (go_at_call 13; (first | (with_reducible refine (rcheck_at a _ _ _ HA HEA).mono ?_; rintro e w1 ⟨rfl, g0⟩) | (with_reducible refine (rcheck_at b _ _ _ (Lib.hid (HB.out.own g0)) HEB).mono ?_; rintro e w2 ⟨rfl, hg⟩; replace g0 := g0.trans hg; clear hg))) | (go_at_call 40; refine (rsets_at a b R _ _ op _ HR hop (Lib.hid (HA.out.own g0)) (Lib.hid (HB.out.own g0)) hn HOK).mono ?_; rintro e w3 ⟨s3, rfl, hs, hg⟩; have hf := Fresh.base (w0 := w) hs g0.size; replace g0 := g0.trans hg; clear hg))
        rcases row_shape hs with ⟨sc, rfl⟩
        go_wp2
        go_ret2
        exact set_ret HV.out (fresh_nil _ _) g0
      · have HV := Lib.hid (set_ok hea heb (op := op) (by rw [hR]; exact h))
        rw [hR] at HV
        clear hza hzb hea heb hR
        go_enter Try.func35, Try.ntmps35
        go_upto_region 8 with (first | (go_at_call 13; (first | (with_reducible refine (rcheck_at a _ _ _ HA HEA).mono ?_; rintro e w1 ⟨rfl, g0⟩) | (with_reducible refine (rcheck_at b _ _ _ (Lib.hid (HB.out.own g0)) HEB).mono ?_; rintro e w2 ⟨rfl, hg⟩; replace g0 := g0.trans hg; clear hg))) | (go_at_call 40; refine (rsets_at a b R _ _ op _ HR hop (Lib.hid (HA.out.own g0)) (Lib.hid (HB.out.own g0)) hn HOK).mono ?_; rintro e w3 ⟨s3, rfl, hs, hg⟩; have hf := Fresh.base (w0 := w) hs g0.size; replace g0 := g0.trans hg; clear hg))
        rcases row_shape hs with ⟨sc, rfl⟩
        go_wp2
        go_ret2
        exact set_ret HV.out hf g0
    · have HV := Lib.hid (set_b (op := op) hea heb hb)
      have hne : (eb != 0) = true := bne_iff_ne.2 hb
      clear hea heb hb
      go_enter Try.func35, Try.ntmps35
      go_wp2_with (first | (go_at_call 13; (first | (with_reducible refine (rcheck_at a _ _ _ HA HEA).mono ?_; rintro e w1 ⟨rfl, g0⟩) | (with_reducible refine (rcheck_at b _ _ _ (Lib.hid (HB.out.own g0)) HEB).mono ?_; rintro e w2 ⟨rfl, hg⟩; replace g0 := g0.trans hg; clear hg))) | (go_at_call 40; refine (rsets_at a b R _ _ op _ HR hop (Lib.hid (HA.out.own g0)) (Lib.hid (HB.out.own g0)) hn HOK).mono ?_; rintro e w3 ⟨s3, rfl, hs, hg⟩; have hf := Fresh.base (w0 := w) hs g0.size; replace g0 := g0.trans hg; clear hg))
      go_ret2
      exact set_ret HV.out (fresh_nil _ _) g0
  · have HV := Lib.hid (set_a (b := b) (op := op) hea ha)
    have hne : (ea != 0) = true := bne_iff_ne.2 ha
    clear hea heb ha
    go_enter Try.func35, Try.ntmps35
    go_wp2_with (first | (go_at_call 13; (first | (with_reducible refine (rcheck_at a _ _ _ HA HEA).mono ?_; rintro e w1 ⟨rfl, g0⟩) | (with_reducible refine (rcheck_at b _ _ _ (Lib.hid (HB.out.own g0)) HEB).mono ?_; rintro e w2 ⟨rfl, hg⟩; replace g0 := g0.trans hg; clear hg))) | (go_at_call 40; refine (rsets_at a b R _ _ op _ HR hop (Lib.hid (HA.out.own g0)) (Lib.hid (HB.out.own g0)) hn HOK).mono ?_; rintro e w3 ⟨s3, rfl, hs, hg⟩; have hf := Fresh.base (w0 := w) hs g0.size; replace g0 := g0.trans hg; clear hg))
    go_ret2
    exact set_ret HV.out (fresh_nil _ _) g0
theorem rnorm_at (a v : List Sp) (f : Int) (sa : Value) (w : World) (H : Hid (setE a [] 0 = f ∧ setV a [] 0 = v)) (HA : Hid (Pts w sa a)) :
    Calls Try.prog 18 #[sa] w (SetRet v f w) := by
  go_enter Try.func18, Try.ntmps18
  go_wp2_with (go_at_call 35; refine (rtwo_at a [] v f _ _ 0 _ H (.inl rfl) HA (Lib.hid (pts_nil w))).mono ?_; rintro e w1 ⟨sv, rfl, hf, g0⟩)
  go_ret2
  exact ⟨sv, rfl, hf, g0⟩
theorem runion_at (a b v : List Sp) (f : Int) (sa sb : Value) (w : World) (H : Hid (setE a b 0 = f ∧ setV a b 0 = v)) (HA : Hid (Pts w sa a)) (HB : Hid (Pts w sb b)) :
    Calls Try.prog 23 #[sa, sb] w (SetRet v f w) := by
  go_enter Try.func23, Try.ntmps23
  go_wp2_with (go_at_call 35; refine (rtwo_at a b v f _ _ 0 _ H (.inl rfl) HA HB).mono ?_; rintro e w1 ⟨sv, rfl, hf, g0⟩)
  go_ret2
  exact ⟨sv, rfl, hf, g0⟩
theorem rcommon_at (a b v : List Sp) (f : Int) (sa sb : Value) (w : World) (H : Hid (setE a b 1 = f ∧ setV a b 1 = v)) (HA : Hid (Pts w sa a)) (HB : Hid (Pts w sb b)) :
    Calls Try.prog 25 #[sa, sb] w (SetRet v f w) := by
  go_enter Try.func25, Try.ntmps25
  go_wp2_with (go_at_call 35; refine (rtwo_at a b v f _ _ 1 _ H (.inr (.inl rfl)) HA HB).mono ?_; rintro e w1 ⟨sv, rfl, hf, g0⟩)
  go_ret2
  exact ⟨sv, rfl, hf, g0⟩
theorem rminus_at (a b v : List Sp) (f : Int) (sa sb : Value) (w : World) (H : Hid (setE a b 2 = f ∧ setV a b 2 = v)) (HA : Hid (Pts w sa a)) (HB : Hid (Pts w sb b)) :
    Calls Try.prog 27 #[sa, sb] w (SetRet v f w) := by
  go_enter Try.func27, Try.ntmps27
  go_wp2_with (go_at_call 35; refine (rtwo_at a b v f _ _ 2 _ H (.inr (.inr rfl)) HA HB).mono ?_; rintro e w1 ⟨sv, rfl, hf, g0⟩)
  go_ret2
  exact ⟨sv, rfl, hf, g0⟩
theorem setV_ok (a b : List Sp) (op : Int) : (∀ s ∈ setV a b op, okS s = true) ∧ (setV a b op).length ≤ 128 := by
  unfold setV
  by_cases h : setE a b op = 0
  · rw [if_pos h]
    unfold setE at h
    by_cases ha : chkE a = 0
    · rw [if_pos ha] at h
      by_cases hb : chkE b = 0
      · rw [if_pos hb] at h
        by_cases hl : 128 < (setsL a b op).length
        · rw [if_pos hl] at h; omega
        · exact ⟨fun s hs => (sets_ok ((chkE_zero a).1 ha).2 ((chkE_zero b).1 hb).2 s hs).1, by omega⟩
      · rw [if_neg hb] at h; exact absurd h hb
    · rw [if_neg ha] at h; exact absurd h ha
  · rw [if_neg h]; exact ⟨fun s hs => (by cases hs), by simp⟩
theorem sumL_bd : ∀ {l : List Sp}, (∀ s ∈ l, okS s = true) → 0 ≤ sumL l ∧ sumL l ≤ l.length * 65536
  | [], _ => ⟨Int.le_refl _, Int.le_refl _⟩
  | s :: l, h => by
    have a := (okS_iff s).1 (h s (List.mem_cons_self ..))
    have b := sumL_bd (l := l) fun t ht => h t (List.mem_cons_of_mem _ ht)
    rw [sumL_cons]
    simp only [List.length_cons]
    omega
theorem sumL_take {l : List Sp} {k : Nat} (h : k < l.length) : sumL (l.take (k + 1)) = sumL (l.take k) + (at' l k).2 - (at' l k).1 := by
  unfold sumL
  rw [take_at h, List.foldl_append]
  rfl
set_option maxRecDepth 100000 in
set_option maxHeartbeats 2000000 in
theorem rtotal_at (a : List Sp) (t f : Int) (sa : Value) (w : World) (H : Hid (sumL (setV a [] 0) = t ∧ setE a [] 0 = f)) (HA : Hid (Pts w sa a)) :
    Calls Try.prog 20 #[sa] w fun e w' => e = .returned (.tuple #[.int .i64 t, .int .i64 f]) ∧ Own w w' := by
  have HK := Lib.hid (setV_ok a [] 0)
  obtain ⟨v, hv⟩ : ∃ v, setV a [] 0 = v := ⟨_, rfl⟩
  rw [hv] at HK
  have HN := Lib.hid (And.intro H.out.2 hv)
  have HT := Lib.hid (show sumL (v.take v.length) = t by rw [List.take_length, ← hv]; exact H.out.1)
  have HS := Lib.hid (fun k (h : k < v.length) => sumL_take h)
  have HB := Lib.hid (fun k => sumL_bd (l := v.take k) (fun s hs => HK.out.1 s (List.mem_of_mem_take hs)))
  have HO := Lib.hid (fun k (h : k < v.length) => (okS_iff _).1 (HK.out.1 _ (at_mem h)))
  have hn := HK.out.2
  clear hv H
  obtain ⟨n, hnn⟩ : ∃ n, v.length = n := ⟨_, rfl⟩
  rw [hnn] at HT HS HO hn
  have HL := Lib.hid hnn
  clear hnn
  go_enter Try.func20, Try.ntmps20
  go_upto_region 2 with (go_at_call 18; refine (rnorm_at a v f _ _ HN HA).mono ?_; rintro e w1 ⟨sv, rfl, hf, g0⟩)
  obtain ⟨A, cap, hsv, hc1, hc2, hop⟩ := hf.pts.open
  unfold maxLen at hc2
  rw [HL.out] at hc1 hop hsv
  subst hsv
  have HC := Lib.hid hop
  clear hop hf HN HA
  go_wp2
  go_loopw [6, 7] (fun s i wr => ∃ k : Nat, i = .int .i64 k ∧ s = .int .i64 (sumL (v.take k)) ∧ k ≤ n ∧ Own w1 wr) (fun _ i _ => n - (intOf i).toNat)
  case atStart => exact ⟨0, rfl, rfl, Nat.zero_le _, Own.refl w1⟩
  case round =>
    obtain ⟨k, rfl, rfl, hk, q0⟩ := hrel
    by_cases hlt : k < n
    · obtain ⟨b, off, rfl, hcell⟩ := HC.out (by omega)
      have e0 := q0.cell (hcell k hlt).1
      have e1 := q0.cell (hcell k hlt).2
      clear hcell
      have hs := HS.out k hlt
      have ho := HO.out k hlt
      have hb := HB.out k
      have hlen : (v.take k).length ≤ 128 := by rw [List.length_take]; omega
      obtain ⟨⟨x, y⟩, hp⟩ : ∃ p, at' v k = p := ⟨_, rfl⟩
      obtain ⟨sm, hsm⟩ : ∃ s, sumL (v.take k) = s := ⟨_, rfl⟩
      rw [hp] at e0 e1 hs ho
      rw [hsm] at hs hb
      rw [hsm]
      simp only at e0 e1 hs ho
      have HSS := Lib.hid hs
      clear hp hsm hs
      have i1 : IntKind.i64.wrap (sm + y) = sm + y := IntWalk.i64_in _ (by omega)
      have i2 : IntKind.i64.wrap (sm + y - x) = sm + y - x := IntWalk.i64_in _ (by omega)
      clear hb ho hlen
      go_upto_region 6 with (fail)
      go_quiet (fail)
      clear i1 i2
      go_wp2
      go_roundw
      case rel => exact ⟨k + 1, by go_num, by rw [HSS.out], hlt, q0.drewN _⟩
      case measure => simp [intOf]; omega
    · obtain rfl : k = n := by omega
      have ht := HT.out
      rw [ht]
      go_wp2
      go_ret2
      exact ⟨rfl, g0.trans q0⟩
def firstFit (n : Int) : List Sp → Option Int
  | [] => none
  | s :: r => if n ≤ s.2 - s.1 then some s.1 else firstFit n r
def askOk (n most : Int) : Bool := decide (1 ≤ n) && decide (n ≤ 65536) && decide (0 ≤ most) && decide (most ≤ 65536)
theorem askOk_iff (n most : Int) : askOk n most = true ↔ (1 ≤ n ∧ n ≤ 65536) ∧ 0 ≤ most ∧ most ≤ 65536 := by
  unfold askOk
  rw [Bool.and_eq_true, Bool.and_eq_true, Bool.and_eq_true, decide_eq_true_eq, decide_eq_true_eq, decide_eq_true_eq, decide_eq_true_eq, and_assoc]
def freeE (l : List Sp) (n most : Int) : Int := if chkE l = 0 then (if askOk n most = true then (match firstFit n (setsL [(0, most)] l 2) with | some _ => 0 | none => 6) else 1) else chkE l
def freeV (l : List Sp) (n most : Int) : Sp := if freeE l n most = 0 then (match firstFit n (setsL [(0, most)] l 2) with | some x => (x, x + n) | none => (0, 0)) else (0, 0)
theorem fit_hit {n : Int} : ∀ {l : List Sp} {k : Nat}, k < l.length → (∀ j, j < k → ¬ n ≤ (at' l j).2 - (at' l j).1) → n ≤ (at' l k).2 - (at' l k).1 → firstFit n l = some (at' l k).1
  | [], _, h, _, _ => by simp at h
  | s :: r, 0, _, _, h => by
    unfold firstFit
    exact if_pos h
  | s :: r, k + 1, hk, hn, h => by
    unfold firstFit
    have h0 : ¬ n ≤ s.2 - s.1 := hn 0 (by omega)
    rw [if_neg h0]
    exact fit_hit (l := r) (k := k) (by simpa using hk) (fun j hj => hn (j + 1) (by omega)) h
theorem fit_none {n : Int} : ∀ {l : List Sp}, (∀ j, j < l.length → ¬ n ≤ (at' l j).2 - (at' l j).1) → firstFit n l = none
  | [], _ => rfl
  | s :: r, h => by
    unfold firstFit
    have h0 : ¬ n ≤ s.2 - s.1 := h 0 (by simp)
    rw [if_neg h0]
    exact fit_none fun j hj => h (j + 1) (by simp; omega)
theorem free_a {l : List Sp} {n most f : Int} (h : chkE l = f) (hf : f ≠ 0) : freeE l n most = f ∧ freeV l n most = (0, 0) := by
  have e : freeE l n most = f := by unfold freeE; rw [if_neg (by rw [h]; exact hf), h]
  exact ⟨e, by unfold freeV; rw [e, if_neg hf]⟩
theorem free_b {l : List Sp} {n most : Int} (h : chkE l = 0) (hf : askOk n most = false) : freeE l n most = 1 ∧ freeV l n most = (0, 0) := by
  have e : freeE l n most = 1 := by unfold freeE; rw [if_pos h, if_neg (by rw [hf]; simp)]
  exact ⟨e, by unfold freeV; rw [e]; rfl⟩
theorem free_c {l : List Sp} {n most : Int} (h : chkE l = 0) (hf : askOk n most = true) (hn : firstFit n (setsL [(0, most)] l 2) = none) : freeE l n most = 6 ∧ freeV l n most = (0, 0) := by
  have e : freeE l n most = 6 := by unfold freeE; rw [if_pos h, if_pos hf, hn]
  exact ⟨e, by unfold freeV; rw [e]; rfl⟩
theorem free_d {l : List Sp} {n most x : Int} (h : chkE l = 0) (hf : askOk n most = true) (hn : firstFit n (setsL [(0, most)] l 2) = some x) : freeE l n most = 0 ∧ freeV l n most = (x, x + n) := by
  have e : freeE l n most = 0 := by unfold freeE; rw [if_pos h, if_pos hf, hn]
  exact ⟨e, by unfold freeV; rw [if_pos e, hn]⟩
theorem one_pts {w : World} {B : Nat} {a b : Int} (h0 : w.cell? ⟨B, 0, none⟩ = some (.int .i64 a)) (h1 : w.cell? ⟨B, 1, none⟩ = some (.int .i64 b)) : Pts w (.slice (some ⟨B, 0, none⟩) 1 1) [(a, b)] := by
  refine ⟨_, 1, rfl, Nat.le_refl _, by unfold maxLen; omega, fun _ => ⟨B, 0, rfl, fun i hi => ?_⟩⟩
  obtain rfl : i = 0 := by simpa using hi
  exact ⟨h0, h1⟩
theorem free_le {l : List Sp} {most : Int} (h1 : ∀ s ∈ [((0, most) : Sp)], okS s = true) (h2 : ∀ s ∈ l, okS s = true) (_ : 0 ≤ most) : ∀ s ∈ setsL [(0, most)] l 2, s.2 ≤ most := by
  intro s hs
  have ho := (sets_ok (op := 2) h1 h2 s hs).2
  have hz := (sets_spec 2 h1 h2).2.1 (s.2 - 1)
  have : hasB (setsL [(0, most)] l 2) (s.2 - 1) = true := (has_iff _ _).2 ⟨s, hs, by omega, by omega⟩
  rw [this] at hz
  have hq : hasB [((0, most) : Sp)] (s.2 - 1) = true := by
    cases g : hasB [((0, most) : Sp)] (s.2 - 1) with
    | true => rfl
    | false => rw [g] at hz; simp [opB] at hz
  obtain ⟨t, ht, a1, a2⟩ := (has_iff _ _).1 hq
  rw [List.mem_singleton.1 ht] at a2
  simp only at a2
  omega
theorem free_ret {v : Sp} {f : Int} {e : Int} {x y : Int} (h : f = e ∧ v = (x, y)) : Ending.returned (.tuple #[.agg #[.int .i64 x, .int .i64 y], .int .i64 e]) = .returned (.tuple #[.agg #[.int .i64 v.1, .int .i64 v.2], .int .i64 f]) := by rw [h.1, h.2]
set_option maxRecDepth 100000 in
set_option maxHeartbeats 4000000 in
theorem rfree_at (l : List Sp) (n most : Int) (v : Sp) (f : Int) (sl : Value) (w : World) (H : Hid (freeE l n most = f ∧ freeV l n most = v)) (HA : Hid (Pts w sl l)) :
    Calls Try.prog 30 #[sl, .int .i64 n, .int .i64 most] w fun e w' => e = .returned (.tuple #[.agg #[.int .i64 v.1, .int .i64 v.2], .int .i64 f]) ∧ Own w w' := by
  obtain ⟨rfl, rfl⟩ := H.out
  clear H
  obtain ⟨e, he⟩ : ∃ e, chkE l = e := ⟨_, rfl⟩
  have HE := Lib.hid he
  obtain ⟨z, z0, z1, z2⟩ := pt_new w 0 0 36
  have g0 : Own w (w.alloc (.cells #[.int .i64 0, .int .i64 0] 36)) := (Own.refl w).alloc _
  by_cases h0 : e = 0
  · subst h0
    cases ht : askOk n most with
    | false =>
      have HV := Lib.hid (free_b he ht)
      have hno : n < 1 ∨ ¬ n < 1 ∧ 65536 < n ∨ ¬ n < 1 ∧ ¬ 65536 < n ∧ most < 0 ∨ ¬ n < 1 ∧ ¬ 65536 < n ∧ ¬ most < 0 ∧ 65536 < most := by
        have := mt (askOk_iff n most).2 (by rw [ht]; simp)
        omega
      clear he ht
      go_enter Try.func30, Try.ntmps30
      go_upto_region 1 with (fail)
      generalize w.alloc (.cells #[.int .i64 0, .int .i64 0] 36) = W0 at *
      go_upto_region 4 with (go_at_call 13; refine (rcheck_at l _ _ _ (Lib.hid (HA.out.own g0)) HE).mono ?_; rintro e w1 ⟨rfl, hg⟩; replace z1 : w1.frozen? _ = _ := frozen_kept hg z z1; replace z2 : w1.frozen? _ = _ := frozen_kept hg z0 z2; replace z := hg.cell z; replace z0 := hg.cell z0; replace g0 := g0.trans hg; clear hg)
      rcases hno with h | ⟨h, h1⟩ | ⟨h, h1, h2⟩ | ⟨h, h1, h2, h3⟩
      all_goals
        go_wp2
        exact bodyPost_ret (v := .tuple #[.agg #[.int .i64 0, .int .i64 0], .int .i64 1]) (by simp [results, Try.results30, go_sem, z, z0]) rfl ⟨free_ret HV.out, (g0.setCell (by simp) _).setCell (by simp) _⟩
    | true =>
      have hao := (askOk_iff n most).1 ht
      have hz := (chkE_zero l).1 he
      obtain ⟨hao1, hao2⟩ := hao
      obtain ⟨R, hR⟩ : ∃ R, setsL [(0, most)] l 2 = R := ⟨_, rfl⟩
      have hok1 : ∀ s ∈ [((0, most) : Sp)], okS s = true := fun s hs => by rw [List.mem_singleton.1 hs]; exact (okS_iff _).2 ⟨Int.le_refl _, by simp only; omega, by simp only; omega⟩
      have HSO := Lib.hid (show ∀ s ∈ R, okS s = true ∧ s.1 < s.2 from by rw [← hR]; exact sets_ok hok1 hz.2)
      have HLE := Lib.hid (show ∀ s ∈ R, s.2 ≤ most from by rw [← hR]; exact free_le hok1 hz.2 hao2.1)
      have HRR := Lib.hid hR
      have HN0 := Lib.hid (show firstFit n R = none → freeE l n most = 6 ∧ freeV l n most = (0, 0) from fun h => free_c he ht (by rw [hR]; exact h))
      have HN1 := Lib.hid (show ∀ x, firstFit n R = some x → freeE l n most = 0 ∧ freeV l n most = (x, x + n) from fun x h => free_d he ht (by rw [hR]; exact h))
      have HOK := Lib.hid (show ∀ s ∈ [((0, most) : Sp)] ++ l, okS s = true from fun s hs => by
        rcases List.mem_append.1 hs with k | k
        · exact hok1 s k
        · exact hz.2 s k)
      have hlen : [((0, most) : Sp)].length + l.length ≤ 300 := by have := hz.1; simp; omega
      clear he ht hz hR hok1
      obtain ⟨fe, hfe⟩ : ∃ e, freeE l n most = e := ⟨_, rfl⟩
      obtain ⟨fv, hfv⟩ : ∃ e, freeV l n most = e := ⟨_, rfl⟩
      rw [hfe, hfv] at HN0 HN1
      rw [hfe, hfv]
      clear hfe hfv
      have d1 : ¬ n < 1 := by omega
      have d2 : ¬ 65536 < n := by omega
      have d3 : ¬ most < 0 := by omega
      have d4 : ¬ 65536 < most := by omega
      go_enter Try.func30, Try.ntmps30
      go_upto_region 1 with (fail)
      have hzs : w.heap.size < (w.alloc (.cells #[.int .i64 0, .int .i64 0] 36)).heap.size := by first | go_simp | simp
      generalize w.alloc (.cells #[.int .i64 0, .int .i64 0] 36) = W0 at *
      go_upto_region 6 with (go_at_call 13; refine (rcheck_at l _ _ _ (Lib.hid (HA.out.own g0)) HE).mono ?_; rintro e w1 ⟨rfl, hg⟩; replace z1 : w1.frozen? _ = _ := frozen_kept hg z z1; replace z2 : w1.frozen? _ = _ := frozen_kept hg z0 z2; replace z := hg.cell z; replace z0 := hg.cell z0; replace g0 := g0.trans hg; replace hzs := Nat.lt_of_lt_of_le hzs hg.size; clear hg)
      go_upto_region 7 with (go_at_call 40; refine (rsets_at [(0, most)] l R _ _ 2 _ HRR (.inr (.inr rfl)) (Lib.hid (one_pts (by go_simp) (by go_simp))) (Lib.hid (HA.out.own (g0.alloc _))) hlen HOK).mono ?_; rintro e w2 ⟨sr, rfl, hrow, hg0⟩; replace hrow := Fresh.base' hrow (Nat.lt_of_lt_of_le hzs ((Own.refl _).alloc _).size); have hg := ((Own.refl _).alloc _).trans hg0; clear hg0; replace z1 : w2.frozen? _ = _ := frozen_kept hg z z1; replace z2 : w2.frozen? _ = _ := frozen_kept hg z0 z2; replace z := hg.cell z; replace z0 := hg.cell z0; replace g0 := g0.trans hg; clear hg)
      have HG : Hid (0 < R.length → ∃ g cap, sr = Value.slice (some ⟨g, 0, none⟩) R.length cap ∧ w.heap.size < g) := Lib.hid (fun h0 => by obtain ⟨g, cap, h1, h2, _⟩ := row_form hrow h0; exact ⟨g, cap, h1, h2⟩)
      obtain ⟨A, cap, hsv, hc1, hc2, hop⟩ := (pts_of_row hrow).open
      unfold maxLen at hc2
      have HFH := Lib.hid (fun k => fit_hit (n := n) (l := R) (k := k))
      have HFN := Lib.hid (fit_none (n := n) (l := R))
      have HOA := Lib.hid (fun k (h : k < R.length) => And.intro (HSO.out _ (at_mem h)) (HLE.out _ (at_mem h)))
      obtain ⟨m, hm⟩ : ∃ m, R.length = m := ⟨_, rfl⟩
      rw [hm] at hc1 hop HFH HFN HOA hsv HG
      subst hsv
      have HC := Lib.hid hop
      clear hop hrow hm hlen HOK HSO HLE HRR HA HE d1 d2 d3 d4
      go_wp2
      go_loopw [10] (fun i wr => ∃ k : Nat, i = .int .i64 k ∧ k ≤ m ∧ Own w2 wr ∧ ∀ j, j < k → ¬ n ≤ (at' R j).2 - (at' R j).1) (fun i _ => m - (intOf i).toNat)
      case atStart => exact ⟨0, rfl, Nat.zero_le _, Own.refl w2, fun j hj => absurd hj (Nat.not_lt_zero _)⟩
      case round =>
        obtain ⟨k, rfl, hk, q0, hno⟩ := hrel
        have HNO := Lib.hid hno
        clear hno
        by_cases hlt : k < m
        · obtain ⟨b, off, rfl, hcell⟩ := HC.out (by omega)
          have hbn : w.heap.size < b := by
            obtain ⟨g, c', h1, h2⟩ := HG.out (by omega)
            cases h1
            exact h2
          have ne1 : ¬ b = w.heap.size := by omega
          have ne2 : ¬ w.heap.size = b := by omega
          clear hbn
          have e0 := q0.cell (hcell k hlt).1
          have e1 := q0.cell (hcell k hlt).2
          clear hcell
          obtain ⟨⟨ho1, ho2⟩, ho3⟩ := HOA.out k hlt
          replace ho1 := (okS_iff _).1 ho1
          obtain ⟨⟨x, y⟩, hp⟩ : ∃ p, at' R k = p := ⟨_, rfl⟩
          have HP2 := Lib.hid hp
          rw [hp] at e0 e1 ho1 ho2 ho3
          simp only at e0 e1 ho1 ho2 ho3
          clear hp
          have i1 : IntKind.i64.wrap (y - x) = y - x := IntWalk.i64_in _ (by omega)
          have i2 : IntKind.i64.wrap (x + n) = x + n := IntWalk.i64_in _ (by omega)
          by_cases c : n ≤ y - x
          · have HV := Lib.hid (HN1.out x (by have := HFH.out k hlt (fun j hj => Int.not_le.1 (HNO.out j hj)) (by rw [HP2.out]; exact c); rw [HP2.out] at this; exact this))
            have cd : decide (n ≤ y - x) = true := decide_eq_true c
            go_upto_region 10 with (fail)
            go_quiet (fail)
            replace e0 : (wr.drewN nq).cell? _ = _ := e0
            replace e1 : (wr.drewN nq).cell? _ = _ := e1
            have q2 : Own w2 (wr.drewN nq) := q0.drewN nq
            generalize wr.drewN nq = w5 at *
            replace z1 : w5.frozen? _ = _ := frozen_kept q2 z z1
            replace z2 : w5.frozen? _ = _ := frozen_kept q2 z0 z2
            replace z := q2.cell z
            replace z0 := q2.cell z0
            replace g0 := g0.trans q2
            clear q0 q2 HFH HFN HOA HNO
            go_upto_region 11 with (fail)
            go_region_held3 (fun w' => w'.cell? ⟨b, off + k * 2, none⟩ = some (.int .i64 x) ∧ w'.cell? ⟨b, off + k * 2 + 1, none⟩ = some (.int .i64 y)) (go_keep) (fail)
            all_goals
              go_wp2
              exact bodyPost_ret (v := .tuple #[.agg #[.int .i64 x, .int .i64 (x + n)], .int .i64 0]) (by simp [results, Try.results30, go_sem, z, z0]) rfl ⟨free_ret HV.out, ((g0.setCell (by simp) _).setCell (by simp) _).drew⟩
          · have cd : decide (n ≤ y - x) = false := decide_eq_false c
            go_upto_region 10 with (fail)
            go_quiet (fail)
            clear i1 i2
            go_wp2
            go_roundw
            case rel => exact ⟨k + 1, by go_num, hlt, q0.drewN _, fun j hj => by
                by_cases e : j = k
                · rw [e, HP2.out]; exact c
                · exact HNO.out j (by omega)⟩
            case measure => simp [intOf]; omega
        · obtain rfl : k = m := by omega
          have HV := Lib.hid (HN0.out (HFN.out (fun j hj => Int.not_le.1 (HNO.out j hj))))
          replace z1 : wr.frozen? _ = _ := frozen_kept q0 z z1
          replace z2 : wr.frozen? _ = _ := frozen_kept q0 z0 z2
          replace z := q0.cell z
          replace z0 := q0.cell z0
          replace g0 := g0.trans q0
          go_wp2
          exact bodyPost_ret (v := .tuple #[.agg #[.int .i64 0, .int .i64 0], .int .i64 6]) (by simp [results, Try.results30, go_sem, z, z0]) rfl ⟨free_ret HV.out, (g0.setCell (by simp) _).setCell (by simp) _⟩
  · have HV := Lib.hid (free_a (n := n) (most := most) he h0)
    have hne : (e != 0) = true := bne_iff_ne.2 h0
    clear he h0
    go_enter Try.func30, Try.ntmps30
    go_upto_region 1 with (fail)
    generalize w.alloc (.cells #[.int .i64 0, .int .i64 0] 36) = W0 at *
    go_wp2_with (go_at_call 13; refine (rcheck_at l _ _ _ (Lib.hid (HA.out.own g0)) HE).mono ?_; rintro e w1 ⟨rfl, hg⟩; replace z1 : w1.frozen? _ = _ := frozen_kept hg z z1; replace z2 : w1.frozen? _ = _ := frozen_kept hg z0 z2; replace z := hg.cell z; replace z0 := hg.cell z0; replace g0 := g0.trans hg; clear hg)
    exact bodyPost_ret (v := .tuple #[.agg #[.int .i64 0, .int .i64 0], .int .i64 e]) (by simp [results, Try.results30, go_sem, z, z0]) rfl ⟨free_ret HV.out, (g0.setCell (by simp) _).setCell (by simp) _⟩
end Go.Proofs.Ytggceakihapgiaa.SpaW
