/-
  Walk of insert of the specification of package span: an ascending list with one more number. Condition: the list is ascending.
-/
import Derived.Test.YtggceakihapgiaaSpanA
import Derived.Test.YtggceakihapgiaaRegInv
import Derived.BigCall
import Derived.Deep.CutBlock
namespace Go.Proofs.Ytggceakihapgiaa.SpaW
open Go.ChangeShapes Go.WideShapes Go.ChangeAt Go.RowKit
open PairW SpaP

/-- The slice value sv holds the integers of l. -/
def Ints (w : World) (sv : Value) (l : List Int) : Prop :=
  ∃ (A : Option Addr) (cap : Nat), sv = .slice A l.length cap ∧ l.length ≤ cap ∧ cap ≤ maxLen ∧ (0 < l.length → ∃ b off : Nat, A = some ⟨b, off, none⟩ ∧ ∀ i, i < l.length → w.cell? ⟨b, off + i, none⟩ = some (.int .i64 (l.getD i 0)))
theorem Ints.own {w w' : World} {sv : Value} {l : List Int} (h : Ints w sv l) (hg : Own w w') : Ints w' sv l := by
  obtain ⟨A, cap, h1, h2, h3, h4⟩ := h
  refine ⟨A, cap, h1, h2, h3, fun h0 => ?_⟩
  obtain ⟨b, off, h5, h6⟩ := h4 h0
  exact ⟨b, off, h5, fun i hi => hg.cell (h6 i hi)⟩
theorem Ints.open {w : World} {sv : Value} {l : List Int} (h : Ints w sv l) : ∃ (A : Option Addr) (cap : Nat), sv = .slice A l.length cap ∧ l.length ≤ cap ∧ cap ≤ maxLen ∧ (0 < l.length → ∃ b off : Nat, A = some ⟨b, off, none⟩ ∧ ∀ i, i < l.length → w.cell? ⟨b, off + i, none⟩ = some (.int .i64 (l.getD i 0))) := h
def nums (l : List Int) : List Value := l.map fun z => .int .i64 z
theorem nums_append (l m : List Int) : nums (l ++ m) = nums l ++ nums m := by unfold nums; simp
theorem nums_len (l : List Int) : (nums l).length = l.length := by unfold nums; simp
theorem nums_one (l : List Int) : ∀ u ∈ nums l, u.oneCell' = true := by
  intro u hu
  obtain ⟨z, _, rfl⟩ := List.mem_map.1 hu
  rfl
theorem nums_get {l : List Int} {j : Nat} {u : Value} (h : (nums l)[j]? = some u) : j < l.length ∧ u = .int .i64 (l.getD j 0) := by
  unfold nums at h
  rw [List.getElem?_map] at h
  cases g : l[j]? with
  | none => rw [g] at h; cases h
  | some z =>
    rw [g] at h
    injection h with h
    refine ⟨(List.getElem?_eq_some_iff.1 g).1, ?_⟩
    rw [← h, List.getD_eq_getElem?_getD, g]
    rfl
theorem slice_lo (A : Option Addr) (k cap : Nat) : ∃ A', sliced A 0 k cap 1 = .slice A' k cap ∧ (0 < k → A' = A) := by
  refine ⟨A, ?_, fun _ => rfl⟩
  cases A <;> simp [sliced, Addr.add]
theorem slice_hi (A : Option Addr) {k n cap : Nat} (h1 : n ≤ cap) (h2 : k ≤ n) : ∃ A' c', sliced A k n cap 1 = .slice A' (n - k) c' ∧ (0 < n - k → A' = A.map (·.add k)) := by
  refine ⟨if cap = k then A else A.map (·.add (k * 1)), cap - k, rfl, fun h => ?_⟩
  rw [if_neg (by omega), Nat.mul_one]
theorem fresh_block {W : World} {B n c : Nat} (h : B < W.heap.size) : (Value.slice (some ⟨W.heap.size, 0, none⟩) n c).ownBlock ≠ some B := by
  intro e
  simp [Value.ownBlock] at e
  omega
theorem block_ne {W : World} {v v2 : Value} {B : Nat} (h : v2.ownBlock = v.ownBlock ∨ v2.ownBlock = some W.heap.size) (hn : v.ownBlock ≠ some B) (hB : B < W.heap.size) : v2.ownBlock ≠ some B := by
  intro e
  rcases h with h | h
  · exact hn (by rw [← h]; exact e)
  · rw [e] at h; injection h with h; omega
theorem own_ne {W : World} {base size : Nat} {e : TypeId} {v : Value} {n : Nat} {xs : List Value} (h : W.ownsRow base e size v n xs) : v.ownBlock ≠ some W.heap.size := by
  intro g
  have := (h.lt _ g).2
  omega
theorem run_append_nil_empty (P : Program) (w : World) (t ty e : TypeId) (i : TypeInfo) (ht : P.underlying t = some (.slice e)) (hi : P.info? e = some i) (A : Option Addr) (c : Nat) :
    (Builtin.append_ #[t, t] ty #[.slice none 0 0, .slice A 0 c]).run P w = .ok (.slice none 0 0) w := by
  cases A <;> simp [Builtin.append_, run_underlying ht, sizeOf, typeInfo, hi, Builtin.lenOf, Builtin.firstCells, loadCells, loadCellsFrom]
/-- 'append' to a row that the call owns, whatever the shape of what is appended. -/
theorem run_append_row_any {P : Program} (w : World) (base : Nat) (t ty e : TypeId) (i : TypeInfo) (z : Value) (size bytes : Nat) (ht : P.underlying t = some (.slice e)) (hi : P.info? e = some i) (hz : i.zero = some z)
    (hsize : i.size = size) (hby : i.bytes = bytes) (hzs : z.cells.size = size) (hsz : 0 < size) (v : Value) (n : Nat) (xs : List Value) (hown : w.ownsRow base e size v n xs)
    (ao : Option Addr) (m c : Nat) (news : List Value) (hl : news.length = m * size) (hao : 0 < m → ∃ ad, ao = some ad ∧ ∀ j u, news[j]? = some u → w.cell? (ad.add j) = some u) (h1 : ∀ u ∈ news, u.oneCell' = true)
    (h63 : n + m ≤ maxLen) (hbytes : (n + m) * bytes ≤ 140737488355328) (hbase : base ≤ w.heap.size) :
    ∃ v' w', (Builtin.append_ #[t, t] ty #[v, .slice ao m c]).run P w = .ok v' w' ∧ w'.ownsRow base e size v' (n + m) (xs ++ news) ∧ w.grownBy w' v.ownBlock ∧ (v'.ownBlock = v.ownBlock ∨ v'.ownBlock = some w.heap.size) := by
  by_cases hm : m = 0
  · subst hm
    obtain rfl : news = [] := List.eq_nil_of_length_eq_zero (by simpa using hl)
    rw [Nat.add_zero, List.append_nil]
    refine ⟨v, w, ?_, hown, ⟨rfl, rfl, rfl, Nat.le_refl _, fun _ _ _ => rfl⟩, .inl rfl⟩
    rcases hown.2 with ⟨rfl, rfl⟩ | ⟨g, cap, cur, rfl, _, _, hn, _⟩
    · exact run_append_nil_empty P w t ty e i ht hi ao c
    · exact run_append_empty_geo w t ty e i ht hi g n cap ao c hn
  · obtain ⟨ad, rfl, hc⟩ := hao (by omega)
    obtain ⟨v', w', r1, r2, r3, _, r5⟩ := run_append_own_at (P := P) w base t ty e i z size bytes ht hi hz hsize hby hzs hsz v n xs hown ad m c news hl hc h1 h63 hbytes hbase
    exact ⟨v', w', r1, r2, r3, r5⟩
theorem ints_of_row {w : World} {base : Nat} {e : TypeId} {sv : Value} {n : Nat} {l : List Int} (hn : l.length = n) (h : w.ownsRow base e 1 sv n (nums l)) : Ints w sv l := by
  subst hn
  rcases h.2 with ⟨h1, h2⟩ | ⟨g, cap, cur, rfl, hb, hh, hn, hm, hs, ht⟩
  · exact ⟨none, 0, by rw [h1, h2], by omega, Nat.zero_le _, fun h => by omega⟩
  · refine ⟨_, cap, rfl, hn, hm, fun _ => ⟨g, 0, rfl, fun i hi => ?_⟩⟩
    have a0 := World.ownsRow.cellAt h i (by omega)
    rw [Nat.zero_add]
    refine a0.trans ?_
    unfold nums
    rw [List.getElem?_map, List.getElem?_eq_getElem hi, List.getD_eq_getElem?_getD, List.getElem?_eq_getElem hi]
    rfl
set_option maxRecDepth 100000 in
set_option maxHeartbeats 8000000 in
theorem rinsert_at (xx b : Int) (l : List Int) (sv : Value) (w : World) (HP : Hid (Ints w sv l)) (hlen : l.length ≤ 1000000) (HASC : Hid (AscFrom b l)) :
    Calls Try.prog 48 #[sv, .int .i64 xx] w fun e w' => ∃ s', e = .returned s' ∧ Ints w' s' (insL xx l) ∧ Own w w' := by
  obtain ⟨i0, hi, hz0, hz1, hz2⟩ := info_parts (show (Try.prog.info? 3).map (fun i => (i.zero, i.size, i.bytes)) = some (some (.int .i64 0), 1, 8) by kernel_rfl)
  have HI := Lib.hid hi
  have HZ0 := Lib.hid hz0
  have HZ1 := Lib.hid hz1
  have HZ2 := Lib.hid hz2
  clear hi hz0 hz1 hz2
  obtain ⟨A, cap, rfl, ha1, ha2, ha⟩ := HP.out.open
  unfold maxLen at ha2
  have HAT := Lib.hid (fun k => insL_at xx l b k HASC.out)
  have HPN := Lib.hid HP.out
  obtain ⟨n, hn⟩ : ∃ n, l.length = n := ⟨_, rfl⟩
  rw [hn] at ha ha1 hlen HPN
  have HA := Lib.hid ha
  have HN := Lib.hid hn
  clear HP ha
  rw [hn]
  clear hn
  go_enter Try.func48, Try.ntmps48
  go_upto_block 0 with fail
  go_cut [5] from 8 to 20 (fun s5 wx => ∃ k : Nat, s5 = .int .i64 k ∧ k ≤ n ∧ Own w wx ∧ (∀ j, k ≤ j → j < n → xx ≤ l.getD j 0) ∧ ∀ j, j + 1 = k → l.getD j 0 < xx)
  case first =>
    go_wp2_with fail
    go_loopw [5] (fun i wr => ∃ k : Nat, i = .int .i64 k ∧ k ≤ n ∧ Own w wr ∧ ∀ j, k ≤ j → j < n → xx ≤ l.getD j 0) (fun i _ => (intOf i).toNat)
    case atStart => exact ⟨n, rfl, Nat.le_refl _, Own.refl w, fun j hj hj2 => absurd hj2 (by omega)⟩
    case round =>
      obtain ⟨k, rfl, hk, g0, hge⟩ := hrel
      have HGE := Lib.hid hge
      clear hge
      by_cases h0 : k = 0
      · subst h0
        go_wp2
        go_meet
        exact ⟨0, rfl, hk, g0, HGE.out, fun j hj => by omega⟩
      have hk0 : (0 : Int) < k := by omega
      have hkd : decide ((0 : Int) < k) = true := decide_eq_true hk0
      obtain ⟨bb, off, rfl, hc⟩ := HA.out (by omega)
      have e0 := g0.cell (hc (k - 1) (by omega))
      obtain ⟨y, hy⟩ : ∃ y, l.getD (k - 1) 0 = y := ⟨_, rfl⟩
      have HY := Lib.hid hy
      rw [hy] at e0
      clear hy hc
      have i1 : IntKind.i64.wrap ((k : Int) - 1) = (k : Int) - 1 := IntWalk.i64_in _ (by omega)
      have i2 : 0 ≤ (k : Int) - 1 := by omega
      have i3 : ((k : Int) - 1).toNat = k - 1 := by omega
      have i4 : (k : Int) - 1 < n := by omega
      by_cases c : xx ≤ y
      · have cd : decide (xx ≤ y) = true := decide_eq_true c
        go_wp2
        go_roundw
        case rel => exact ⟨k - 1, by congr 1; omega, by omega, g0, fun j hj hj2 => by
            by_cases e : j = k - 1
            · rw [e, HY.out]; exact c
            · exact HGE.out j (by omega) hj2⟩
        case measure => simp [intOf]; omega
      · have cd : decide (xx ≤ y) = false := decide_eq_false c
        go_wp2
        go_meet
        exact ⟨k, rfl, hk, g0, HGE.out, fun j hj => by rw [show j = k - 1 by omega, HY.out]; omega⟩
  case rest =>
    obtain ⟨k, rfl, hk, g0, hge, hlt⟩ := hcut
    have hbel : ∀ j, j < k → l.getD j 0 < xx := fun j hj => by
      by_cases e : j + 1 = k
      · exact hlt j e
      · have h1 := hlt (k - 1) (by omega)
        have h2 := asc_lt HASC.out (i := j) (j := k - 1) (by omega) (by rw [HN.out]; omega)
        omega
    have hat := HAT.out k (by rw [HN.out]; exact hk) hbel (fun j hj hj2 => hge j hj (by rw [← HN.out]; exact hj2))
    rw [HN.out] at hat
    clear HAT hge hlt hbel HASC
    by_cases hc : k < n ∧ l.getD k 0 = xx
    · rw [if_pos hc] at hat
      have HR := Lib.hid hat
      obtain ⟨c1, c2⟩ := hc
      obtain ⟨bb, off, rfl, hcell⟩ := HA.out (by omega)
      have e0 := g0.cell (hcell k c1)
      rw [c2] at e0
      have k1 : (k : Int) < n := by omega
      have kd : decide ((k : Int) < n) = true := decide_eq_true k1
      clear c2 hat hcell
      go_wp2
      go_ret
      exact ⟨_, rfl, by rw [HR.out]; exact HPN.out.own g0, g0⟩
    · rw [if_neg hc] at hat
      have HR := Lib.hid hat
      clear hat
      have hpre : ∀ (Z : Prop), (k < n → ∀ y, l.getD k 0 = y → (y == xx) = false → Z) → (¬ k < n → Z) → Z := fun Z h1 h2 => by
        by_cases g : k < n
        · exact h1 g _ rfl (beq_eq_false_iff_ne.2 (fun e => hc ⟨g, e⟩))
        · exact h2 g
      clear hc
      go_upto_region 4 with (fail)
      go_cut [32] from 21 to 33 (fun s32 wx => s32 = .bool false ∧ wx = wc)
      case first =>
        by_cases g : k < n
        · obtain ⟨bb, off, rfl, hcell⟩ := HA.out (by omega)
          have e0 := g0.cell (hcell k g)
          refine hpre _ (fun _ y hy hb => ?_) (fun h => absurd g h)
          rw [hy] at e0
          have k1 : (k : Int) < n := by omega
          have kd : decide ((k : Int) < n) = true := decide_eq_true k1
          clear hpre hcell
          go_wp2
          go_meet
          exact ⟨rfl, rfl⟩
        · have k1 : ¬ (k : Int) < n := by omega
          have kd : decide ((k : Int) < n) = false := decide_eq_false k1
          clear hpre
          go_wp2
          go_meet
          exact ⟨rfl, rfl⟩
      case rest =>
        obtain ⟨rfl, rfl⟩ := hcut
        clear hpre
        have hO2 := g0
        have HLN := Lib.hid (show (nums (l.take k)).length = k * 1 ∧ (nums (l.drop k)).length = (n - k) * 1 from ⟨by rw [nums_len, List.length_take, HN.out]; omega, by rw [nums_len, List.length_drop, HN.out]; omega⟩)
        have hlow : ∀ {W : World} {A' : Option Addr}, Own wc W → A' = A → 0 < k → ∃ ad, A' = some ad ∧ ∀ j u, (nums (l.take k))[j]? = some u → W.cell? (ad.add j) = some u := fun hO hA h => by
          subst hA
          obtain ⟨bb, off, rfl, hcell⟩ := HA.out (by omega)
          refine ⟨_, rfl, fun j u hu => ?_⟩
          obtain ⟨h1, rfl⟩ := nums_get hu
          rw [List.length_take, HN.out] at h1
          have := hO.cell (hO2.cell (hcell j (by omega)))
          rw [show (l.take k).getD j 0 = l.getD j 0 by rw [List.getD_eq_getElem?_getD, List.getD_eq_getElem?_getD, List.getElem?_take_of_lt (by omega)]]
          have ea : (⟨bb, off, none⟩ : Addr).add j = ⟨bb, off + j, none⟩ := by by_cases h0 : j = 0 <;> simp [Addr.add, h0]
          rw [ea]
          exact this
        have hhigh : ∀ {W : World} {A' : Option Addr}, Own wc W → A' = A.map (·.add k) → 0 < n - k → ∃ ad, A' = some ad ∧ ∀ j u, (nums (l.drop k))[j]? = some u → W.cell? (ad.add j) = some u := fun hO hA h => by
          subst hA
          obtain ⟨bb, off, rfl, hcell⟩ := HA.out (by omega)
          refine ⟨_, rfl, fun j u hu => ?_⟩
          obtain ⟨h1, rfl⟩ := nums_get hu
          rw [List.length_drop, HN.out] at h1
          have := hO.cell (hO2.cell (hcell (k + j) (by omega)))
          rw [show (l.drop k).getD j 0 = l.getD (k + j) 0 by rw [List.getD_eq_getElem?_getD, List.getD_eq_getElem?_getD, List.getElem?_drop]]
          have ea : ((⟨bb, off, none⟩ : Addr).add k).add j = ⟨bb, off + (k + j), none⟩ := by by_cases h0 : k = 0 <;> by_cases h1 : j = 0 <;> simp [Addr.add, h0, h1] <;> omega
          rw [ea]
          exact this
        have hone : ∀ {W : World} {B : Nat}, W.cell? ⟨B, 0, none⟩ = some (.int .i64 xx) → ∃ ad, (some (⟨B, 0, none⟩ : Addr)) = some ad ∧ ∀ j u, (nums [xx])[j]? = some u → W.cell? (ad.add j) = some u := fun h => by
          refine ⟨_, rfl, fun j u hu => ?_⟩
          obtain ⟨h1, rfl⟩ := nums_get hu
          have : j = 0 := by simpa using h1
          subst this
          exact h
        have kc1 : ¬ cap < k := by omega
        have kc2 : ¬ n < k := by omega
        have kc3 : (k : Int) ≤ cap := by omega
        have kc4 : (k : Int) ≤ n := by omega
        go_upto_region 6 with (fail)
        refine RegI.wp_gen ?_
        intro AA hAA
        have HAct := Lib.hid hAA
        have e0 : (AA.tmps[0]?).getD undef = .slice A n cap := by rw [hAA]; rfl
        have e1 : (AA.tmps[1]?).getD undef = .int .i64 xx := by rw [hAA]; rfl
        have e5 : (AA.tmps[5]?).getD undef = .int .i64 k := by rw [hAA]; rfl
        have hsz : AA.tmps.size = 46 := by rw [hAA]; rfl
        clear hAA
        refine RegI.region_slots [34, 35, 36, 37, 38, 39, 40, 41, 42, 43, 44, 45, 4] (fun L x W => Own wc W ∧ (L.getD 0 false = true → L.getD 4 false = false → W.ownsRow wc.heap.size 3 1 (x 34) 0 []) ∧ (L.getD 1 false = true → x 35 = .slice A n cap) ∧ (L.getD 2 false = true → x 36 = .int .i64 k) ∧ (L.getD 3 false = true → ∃ A', x 37 = .slice A' k cap ∧ (0 < k → A' = A)) ∧ (L.getD 4 false = true → L.getD 7 false = false → W.ownsRow wc.heap.size 3 1 (x 38) k (nums (l.take k))) ∧ (L.getD 5 false = true → x 39 = .int .i64 xx) ∧ (L.getD 6 false = true → L.getD 7 false = false → ∃ B : Nat, x 40 = .slice (some ⟨B, 0, none⟩) 1 1 ∧ B < W.heap.size ∧ wc.heap.size ≤ B ∧ W.cell? ⟨B, 0, none⟩ = some (.int .i64 xx) ∧ (L.getD 0 false = true → L.getD 4 false = false → (x 34).ownBlock ≠ some B) ∧ (L.getD 4 false = true → (x 38).ownBlock ≠ some B)) ∧ (L.getD 7 false = true → L.getD 4 false = true ∧ L.getD 6 false = true ∧ (L.getD 11 false = false → W.ownsRow wc.heap.size 3 1 (x 41) (k + 1) (nums (l.take k ++ [xx])))) ∧ (L.getD 8 false = true → x 42 = .slice A n cap) ∧ (L.getD 9 false = true → x 43 = .int .i64 k) ∧ (L.getD 10 false = true → ∃ A' c', x 44 = .slice A' (n - k) c' ∧ (0 < n - k → A' = A.map (·.add k))) ∧ (L.getD 11 false = true → L.getD 7 false = true ∧ W.ownsRow wc.heap.size 3 1 (x 45) (n + 1) (nums (l.take k ++ xx :: l.drop k))) ∧ (L.getD 12 false = true → x 4 = x 45 ∧ L.getD 11 false = true)) (by kernel_rfl) (by kernel_rfl) ?h0 ?hs ?he
        case h0 => exact ⟨(Own.refl wc).drew, fun h => (RegI.rep_false h).elim, fun h => (RegI.rep_false h).elim, fun h => (RegI.rep_false h).elim, fun h => (RegI.rep_false h).elim, fun h => (RegI.rep_false h).elim, fun h => (RegI.rep_false h).elim, fun h => (RegI.rep_false h).elim, fun h => (RegI.rep_false h).elim, fun h => (RegI.rep_false h).elim, fun h => (RegI.rep_false h).elim, fun h => (RegI.rep_false h).elim, fun h => (RegI.rep_false h).elim, fun h => (RegI.rep_false h).elim⟩
        case he =>
          rintro L x W ⟨hO, f0, f1, f2, f3, f4, f5, f6, f7, f8, f9, f10, f11, f12⟩ hall
          have h12 := (f12 (hall 12 (by decide))).1
          have h11 := (f11 (hall 11 (by decide))).2
          rw [← h12] at h11
          clear f0 f1 f2 f3 f4 f5 f6 f7 f8 f9 f10 f11 f12 hall h12
          obtain ⟨sr, hsr⟩ : ∃ s, x 4 = s := ⟨_, rfl⟩
          rw [hsr] at h11
          rw [HAct.out]
          clear HAct e0 e1 e5 hsz
          simp only [RegI.FX, List.foldl_cons, List.foldl_nil, hsr]
          go_simp
          go_wp2
          go_ret
          exact ⟨sr, rfl, by rw [HR.out]; exact ints_of_row (by simp; have := HN.out; omega) h11, hO2.trans hO⟩
        case hs =>
          refine And.intro ?s0 (And.intro ?s1 (And.intro ?s2 (And.intro ?s3 (And.intro ?s4 (And.intro ?s5 (And.intro ?s6 (And.intro ?s7 (And.intro ?s8 (And.intro ?s9 (And.intro ?s10 (And.intro ?s11 (And.intro ?s12 (trivial)))))))))))))
          case s0 =>
            refine RegI.step_value rfl rfl rfl (by decide) ?_
            rintro L x W ⟨hO, f0, f1, f2, f3, f4, f5, f6, f7, f8, f9, f10, f11, f12⟩ hr hu
            have hg : Own W (W.alloc (.cells #[] 3)) := (Own.refl W).alloc _
            refine ⟨.slice (some ⟨W.heap.size, 0, none⟩) 0 0, W.alloc (.cells #[] 3), ?_, hO.trans hg, fun _ _ => World.ownsRow_made W #[] 0 hO.size (Nat.zero_le _) rfl, fun h => f1 (RegI.gd_ne (by decide) h), fun h => f2 (RegI.gd_ne (by decide) h), fun h => f3 (RegI.gd_ne (by decide) h), fun h h2 => row_own (f4 (RegI.gd_ne (by decide) h) (RegI.gd_off h2)) hg, fun h => f5 (RegI.gd_ne (by decide) h), fun h h2 => by obtain ⟨B, b1, b2, b3, b4, b5, b6⟩ := f6 (RegI.gd_ne (by decide) h) (RegI.gd_off h2); exact ⟨B, b1, Nat.lt_of_lt_of_le b2 hg.size, b3, hg.cell b4, fun _ _ => fresh_block b2, fun h3 => b6 (RegI.gd_ne (by decide) h3)⟩, fun h => ⟨RegI.gd_keep (f7 (RegI.gd_ne (by decide) h)).1, RegI.gd_keep (f7 (RegI.gd_ne (by decide) h)).2.1, fun h2 => row_own ((f7 (RegI.gd_ne (by decide) h)).2.2 (RegI.gd_off h2)) hg⟩, fun h => f8 (RegI.gd_ne (by decide) h), fun h => f9 (RegI.gd_ne (by decide) h), fun h => f10 (RegI.gd_ne (by decide) h), fun h => ⟨RegI.gd_keep (f11 (RegI.gd_ne (by decide) h)).1, row_own (f11 (RegI.gd_ne (by decide) h)).2 hg⟩, fun h => ⟨(f12 (RegI.gd_ne (by decide) h)).1, RegI.gd_keep (f12 (RegI.gd_ne (by decide) h)).2⟩⟩
            clear f0 f1 f2 f3 f4 f5 f6 f7 f8 f9 f10 f11 f12 hr hu hO
            go_simp
          case s1 =>
            refine RegI.step_value rfl rfl rfl (by decide) ?_
            rintro L x W ⟨hO, f0, f1, f2, f3, f4, f5, f6, f7, f8, f9, f10, f11, f12⟩ hr hu
            have v0 : ((RegI.FX AA _ x).tmps[0]?).getD undef = _ := (RegI.fx_outG (D := [34, 35, 36, 37, 38, 39, 40, 41, 42, 43, 44, 45, 4]) (by decide)).trans e0
            refine ⟨.slice A n cap, W, ?_, hO, fun h h2 => f0 (RegI.gd_ne (by decide) h) (RegI.gd_off h2), fun _ => rfl, fun h => f2 (RegI.gd_ne (by decide) h), fun h => f3 (RegI.gd_ne (by decide) h), fun h h2 => f4 (RegI.gd_ne (by decide) h) (RegI.gd_off h2), fun h => f5 (RegI.gd_ne (by decide) h), fun h h2 => by obtain ⟨B, b1, b2, b3, b4, b5, b6⟩ := f6 (RegI.gd_ne (by decide) h) (RegI.gd_off h2); exact ⟨B, b1, b2, b3, b4, fun h3 h4 => b5 (RegI.gd_ne (by decide) h3) (RegI.gd_off h4), fun h3 => b6 (RegI.gd_ne (by decide) h3)⟩, fun h => ⟨RegI.gd_keep (f7 (RegI.gd_ne (by decide) h)).1, RegI.gd_keep (f7 (RegI.gd_ne (by decide) h)).2.1, fun h2 => (f7 (RegI.gd_ne (by decide) h)).2.2 (RegI.gd_off h2)⟩, fun h => f8 (RegI.gd_ne (by decide) h), fun h => f9 (RegI.gd_ne (by decide) h), fun h => f10 (RegI.gd_ne (by decide) h), fun h => ⟨RegI.gd_keep (f11 (RegI.gd_ne (by decide) h)).1, (f11 (RegI.gd_ne (by decide) h)).2⟩, fun h => ⟨(f12 (RegI.gd_ne (by decide) h)).1, RegI.gd_keep (f12 (RegI.gd_ne (by decide) h)).2⟩⟩
            clear f0 f1 f2 f3 f4 f5 f6 f7 f8 f9 f10 f11 f12 hr hu hO
            go_simp
          case s2 =>
            refine RegI.step_value rfl rfl rfl (by decide) ?_
            rintro L x W ⟨hO, f0, f1, f2, f3, f4, f5, f6, f7, f8, f9, f10, f11, f12⟩ hr hu
            have v5 : ((RegI.FX AA _ x).tmps[5]?).getD undef = _ := (RegI.fx_outG (D := [34, 35, 36, 37, 38, 39, 40, 41, 42, 43, 44, 45, 4]) (by decide)).trans e5
            refine ⟨.int .i64 k, W, ?_, hO, fun h h2 => f0 (RegI.gd_ne (by decide) h) (RegI.gd_off h2), fun h => f1 (RegI.gd_ne (by decide) h), fun _ => rfl, fun h => f3 (RegI.gd_ne (by decide) h), fun h h2 => f4 (RegI.gd_ne (by decide) h) (RegI.gd_off h2), fun h => f5 (RegI.gd_ne (by decide) h), fun h h2 => by obtain ⟨B, b1, b2, b3, b4, b5, b6⟩ := f6 (RegI.gd_ne (by decide) h) (RegI.gd_off h2); exact ⟨B, b1, b2, b3, b4, fun h3 h4 => b5 (RegI.gd_ne (by decide) h3) (RegI.gd_off h4), fun h3 => b6 (RegI.gd_ne (by decide) h3)⟩, fun h => ⟨RegI.gd_keep (f7 (RegI.gd_ne (by decide) h)).1, RegI.gd_keep (f7 (RegI.gd_ne (by decide) h)).2.1, fun h2 => (f7 (RegI.gd_ne (by decide) h)).2.2 (RegI.gd_off h2)⟩, fun h => f8 (RegI.gd_ne (by decide) h), fun h => f9 (RegI.gd_ne (by decide) h), fun h => f10 (RegI.gd_ne (by decide) h), fun h => ⟨RegI.gd_keep (f11 (RegI.gd_ne (by decide) h)).1, (f11 (RegI.gd_ne (by decide) h)).2⟩, fun h => ⟨(f12 (RegI.gd_ne (by decide) h)).1, RegI.gd_keep (f12 (RegI.gd_ne (by decide) h)).2⟩⟩
            clear f0 f1 f2 f3 f4 f5 f6 f7 f8 f9 f10 f11 f12 hr hu hO
            go_simp
          case s3 =>
            refine RegI.step_value rfl rfl rfl (by decide) ?_
            rintro L x W ⟨hO, f0, f1, f2, f3, f4, f5, f6, f7, f8, f9, f10, f11, f12⟩ hr hu
            have l1 := hr { on := 1, ground := .data } (by simp) rfl
            have v35 : ((RegI.FX AA _ x).tmps[35]?).getD undef = _ := (RegI.fx_inG (D := [34, 35, 36, 37, 38, 39, 40, 41, 42, 43, 44, 45, 4]) (by decide) (by rw [hsz]; decide)).trans (f1 l1)
            have l2 := hr { on := 2, ground := .data } (by simp) rfl
            have v36 : ((RegI.FX AA _ x).tmps[36]?).getD undef = _ := (RegI.fx_inG (D := [34, 35, 36, 37, 38, 39, 40, 41, 42, 43, 44, 45, 4]) (by decide) (by rw [hsz]; decide)).trans (f2 l2)
            refine ⟨sliced A 0 k cap 1, W, ?_, hO, fun h h2 => f0 (RegI.gd_ne (by decide) h) (RegI.gd_off h2), fun h => f1 (RegI.gd_ne (by decide) h), fun h => f2 (RegI.gd_ne (by decide) h), fun _ => slice_lo A k cap, fun h h2 => f4 (RegI.gd_ne (by decide) h) (RegI.gd_off h2), fun h => f5 (RegI.gd_ne (by decide) h), fun h h2 => by obtain ⟨B, b1, b2, b3, b4, b5, b6⟩ := f6 (RegI.gd_ne (by decide) h) (RegI.gd_off h2); exact ⟨B, b1, b2, b3, b4, fun h3 h4 => b5 (RegI.gd_ne (by decide) h3) (RegI.gd_off h4), fun h3 => b6 (RegI.gd_ne (by decide) h3)⟩, fun h => ⟨RegI.gd_keep (f7 (RegI.gd_ne (by decide) h)).1, RegI.gd_keep (f7 (RegI.gd_ne (by decide) h)).2.1, fun h2 => (f7 (RegI.gd_ne (by decide) h)).2.2 (RegI.gd_off h2)⟩, fun h => f8 (RegI.gd_ne (by decide) h), fun h => f9 (RegI.gd_ne (by decide) h), fun h => f10 (RegI.gd_ne (by decide) h), fun h => ⟨RegI.gd_keep (f11 (RegI.gd_ne (by decide) h)).1, (f11 (RegI.gd_ne (by decide) h)).2⟩, fun h => ⟨(f12 (RegI.gd_ne (by decide) h)).1, RegI.gd_keep (f12 (RegI.gd_ne (by decide) h)).2⟩⟩
            clear f0 f1 f2 f3 f4 f5 f6 f7 f8 f9 f10 f11 f12 hr hu hO
            go_simp
          case s4 =>
            refine RegI.step_value rfl rfl rfl (by decide) ?_
            rintro L x W ⟨hO, f0, f1, f2, f3, f4, f5, f6, f7, f8, f9, f10, f11, f12⟩ hr hu
            have l0 := hr { on := 0, ground := .data } (by simp) rfl
            have v34 : (RegI.FX AA [34, 35, 36, 37, 38, 39, 40, 41, 42, 43, 44, 45, 4] x).eval (.tmp 34) = x 34 := RegI.fx_in (D := [34, 35, 36, 37, 38, 39, 40, 41, 42, 43, 44, 45, 4]) (by decide) (by rw [hsz]; decide)
            have l3 := hr { on := 3, ground := .data } (by simp) rfl
            have v37 : (RegI.FX AA [34, 35, 36, 37, 38, 39, 40, 41, 42, 43, 44, 45, 4] x).eval (.tmp 37) = x 37 := RegI.fx_in (D := [34, 35, 36, 37, 38, 39, 40, 41, 42, 43, 44, 45, 4]) (by decide) (by rw [hsz]; decide)
            obtain ⟨A', hx37, hA'⟩ := f3 l3
            obtain ⟨v2, W2, hrun, hown, hgr, hat⟩ := run_append_row_any (P := Try.prog) W wc.heap.size 52 52 3 i0 (.int .i64 0) 1 8 Try.underlying52 HI.out HZ0.out HZ1.out HZ2.out rfl (by decide) (x 34) 0 [] (f0 l0 (RegI.gd_un hu)) A' k cap (nums (l.take k)) HLN.out.1 (fun h => hlow hO (hA' h) h) (nums_one _) (by unfold maxLen; omega) (by omega) hO.size
            refine ⟨v2, W2, ?_, hO.grown hgr (fun j hj => ((f0 l0 (RegI.gd_un hu)).lt j hj).1), fun _ h2 => (RegI.gd_yes hu h2).elim, fun h => f1 (RegI.gd_ne (by decide) h), fun h => f2 (RegI.gd_ne (by decide) h), fun h => f3 (RegI.gd_ne (by decide) h), fun _ _ => by have h := hown; rw [Nat.zero_add, List.nil_append] at h; exact h, fun h => f5 (RegI.gd_ne (by decide) h), fun h h2 => by obtain ⟨B, b1, b2, b3, b4, b5, b6⟩ := f6 (RegI.gd_ne (by decide) h) (RegI.gd_off h2); exact ⟨B, b1, Nat.lt_of_lt_of_le b2 hgr.size, b3, hgr.cell b4 (fun e => b5 l0 (RegI.gd_un hu) e.symm), fun _ h4 => (RegI.gd_yes hu h4).elim, fun _ => block_ne hat (b5 l0 (RegI.gd_un hu)) b2⟩, fun h => (RegI.gd_no hu (f7 (RegI.gd_ne (by decide) h)).1).elim, fun h => f8 (RegI.gd_ne (by decide) h), fun h => f9 (RegI.gd_ne (by decide) h), fun h => f10 (RegI.gd_ne (by decide) h), fun h => (RegI.gd_no hu (f7 (f11 (RegI.gd_ne (by decide) h)).1).1).elim, fun h => ⟨(f12 (RegI.gd_ne (by decide) h)).1, RegI.gd_keep (f12 (RegI.gd_ne (by decide) h)).2⟩⟩
            unfold execOp
            simp only [resolve, invoke, builtin, Sem.run_bind, Sem.run_pure, Result.andThen_ok, List.map_toArray, List.map_cons, List.map_nil, v34, v37, hx37, hrun]
          case s5 =>
            refine RegI.step_value rfl rfl rfl (by decide) ?_
            rintro L x W ⟨hO, f0, f1, f2, f3, f4, f5, f6, f7, f8, f9, f10, f11, f12⟩ hr hu
            have v1 : ((RegI.FX AA _ x).tmps[1]?).getD undef = _ := (RegI.fx_outG (D := [34, 35, 36, 37, 38, 39, 40, 41, 42, 43, 44, 45, 4]) (by decide)).trans e1
            refine ⟨.int .i64 xx, W, ?_, hO, fun h h2 => f0 (RegI.gd_ne (by decide) h) (RegI.gd_off h2), fun h => f1 (RegI.gd_ne (by decide) h), fun h => f2 (RegI.gd_ne (by decide) h), fun h => f3 (RegI.gd_ne (by decide) h), fun h h2 => f4 (RegI.gd_ne (by decide) h) (RegI.gd_off h2), fun _ => rfl, fun h h2 => by obtain ⟨B, b1, b2, b3, b4, b5, b6⟩ := f6 (RegI.gd_ne (by decide) h) (RegI.gd_off h2); exact ⟨B, b1, b2, b3, b4, fun h3 h4 => b5 (RegI.gd_ne (by decide) h3) (RegI.gd_off h4), fun h3 => b6 (RegI.gd_ne (by decide) h3)⟩, fun h => ⟨RegI.gd_keep (f7 (RegI.gd_ne (by decide) h)).1, RegI.gd_keep (f7 (RegI.gd_ne (by decide) h)).2.1, fun h2 => (f7 (RegI.gd_ne (by decide) h)).2.2 (RegI.gd_off h2)⟩, fun h => f8 (RegI.gd_ne (by decide) h), fun h => f9 (RegI.gd_ne (by decide) h), fun h => f10 (RegI.gd_ne (by decide) h), fun h => ⟨RegI.gd_keep (f11 (RegI.gd_ne (by decide) h)).1, (f11 (RegI.gd_ne (by decide) h)).2⟩, fun h => ⟨(f12 (RegI.gd_ne (by decide) h)).1, RegI.gd_keep (f12 (RegI.gd_ne (by decide) h)).2⟩⟩
            clear f0 f1 f2 f3 f4 f5 f6 f7 f8 f9 f10 f11 f12 hr hu hO
            go_simp
          case s6 =>
            refine RegI.step_value rfl rfl rfl (by decide) ?_
            rintro L x W ⟨hO, f0, f1, f2, f3, f4, f5, f6, f7, f8, f9, f10, f11, f12⟩ hr hu
            have l5 := hr { on := 5, ground := .data } (by simp) rfl
            have v39 : ((RegI.FX AA _ x).tmps[39]?).getD undef = _ := (RegI.fx_inG (D := [34, 35, 36, 37, 38, 39, 40, 41, 42, 43, 44, 45, 4]) (by decide) (by rw [hsz]; decide)).trans (f5 l5)
            have hg : Own W (W.alloc (.cells #[.int .i64 xx] 3)) := (Own.refl W).alloc _
            refine ⟨.slice (some ⟨W.heap.size, 0, none⟩) 1 1, W.alloc (.cells #[.int .i64 xx] 3), ?_, hO.trans hg, fun h h2 => row_own (f0 (RegI.gd_ne (by decide) h) (RegI.gd_off h2)) hg, fun h => f1 (RegI.gd_ne (by decide) h), fun h => f2 (RegI.gd_ne (by decide) h), fun h => f3 (RegI.gd_ne (by decide) h), fun h h2 => row_own (f4 (RegI.gd_ne (by decide) h) (RegI.gd_off h2)) hg, fun h => f5 (RegI.gd_ne (by decide) h), fun _ h2 => ⟨W.heap.size, rfl, by simp, hO.size, by go_simp, fun h3 h4 => own_ne (f0 (RegI.gd_ne (by decide) h3) (RegI.gd_off h4)), fun h3 => own_ne (f4 (RegI.gd_ne (by decide) h3) (RegI.gd_off h2))⟩, fun h => (RegI.gd_no hu (f7 (RegI.gd_ne (by decide) h)).2.1).elim, fun h => f8 (RegI.gd_ne (by decide) h), fun h => f9 (RegI.gd_ne (by decide) h), fun h => f10 (RegI.gd_ne (by decide) h), fun h => ⟨RegI.gd_keep (f11 (RegI.gd_ne (by decide) h)).1, row_own (f11 (RegI.gd_ne (by decide) h)).2 hg⟩, fun h => ⟨(f12 (RegI.gd_ne (by decide) h)).1, RegI.gd_keep (f12 (RegI.gd_ne (by decide) h)).2⟩⟩
            clear f0 f1 f2 f3 f4 f5 f6 f7 f8 f9 f10 f11 f12 hr hu hO
            go_simp
          case s7 =>
            refine RegI.step_value rfl rfl rfl (by decide) ?_
            rintro L x W ⟨hO, f0, f1, f2, f3, f4, f5, f6, f7, f8, f9, f10, f11, f12⟩ hr hu
            have l4 := hr { on := 4, ground := .data } (by simp) rfl
            have v38 : (RegI.FX AA [34, 35, 36, 37, 38, 39, 40, 41, 42, 43, 44, 45, 4] x).eval (.tmp 38) = x 38 := RegI.fx_in (D := [34, 35, 36, 37, 38, 39, 40, 41, 42, 43, 44, 45, 4]) (by decide) (by rw [hsz]; decide)
            have l6 := hr { on := 6, ground := .data } (by simp) rfl
            have v40 : (RegI.FX AA [34, 35, 36, 37, 38, 39, 40, 41, 42, 43, 44, 45, 4] x).eval (.tmp 40) = x 40 := RegI.fx_in (D := [34, 35, 36, 37, 38, 39, 40, 41, 42, 43, 44, 45, 4]) (by decide) (by rw [hsz]; decide)
            obtain ⟨B, hx40, b2, b3, b4, _, b6⟩ := f6 l6 (RegI.gd_un hu)
            obtain ⟨v2, W2, hrun, hown, hgr, hat⟩ := run_append_row_any (P := Try.prog) W wc.heap.size 52 52 3 i0 (.int .i64 0) 1 8 Try.underlying52 HI.out HZ0.out HZ1.out HZ2.out rfl (by decide) (x 38) k (nums (l.take k)) (f4 l4 (RegI.gd_un hu)) (some ⟨B, 0, none⟩) 1 1 (nums [xx]) rfl (fun _ => hone b4) (nums_one _) (by unfold maxLen; omega) (by omega) hO.size
            refine ⟨v2, W2, ?_, hO.grown hgr (fun j hj => ((f4 l4 (RegI.gd_un hu)).lt j hj).1), fun h h2 => (RegI.gd_clash l4 (RegI.gd_off h2)).elim, fun h => f1 (RegI.gd_ne (by decide) h), fun h => f2 (RegI.gd_ne (by decide) h), fun h => f3 (RegI.gd_ne (by decide) h), fun _ h2 => (RegI.gd_yes hu h2).elim, fun h => f5 (RegI.gd_ne (by decide) h), fun _ h2 => (RegI.gd_yes hu h2).elim, fun _ => ⟨RegI.gd_keep l4, RegI.gd_keep l6, fun _ => by rw [nums_append]; exact hown⟩, fun h => f8 (RegI.gd_ne (by decide) h), fun h => f9 (RegI.gd_ne (by decide) h), fun h => f10 (RegI.gd_ne (by decide) h), fun h => (RegI.gd_no hu (f11 (RegI.gd_ne (by decide) h)).1).elim, fun h => ⟨(f12 (RegI.gd_ne (by decide) h)).1, RegI.gd_keep (f12 (RegI.gd_ne (by decide) h)).2⟩⟩
            unfold execOp
            simp only [resolve, invoke, builtin, Sem.run_bind, Sem.run_pure, Result.andThen_ok, List.map_toArray, List.map_cons, List.map_nil, v38, v40, hx40, hrun]
          case s8 =>
            refine RegI.step_value rfl rfl rfl (by decide) ?_
            rintro L x W ⟨hO, f0, f1, f2, f3, f4, f5, f6, f7, f8, f9, f10, f11, f12⟩ hr hu
            have v0 : ((RegI.FX AA _ x).tmps[0]?).getD undef = _ := (RegI.fx_outG (D := [34, 35, 36, 37, 38, 39, 40, 41, 42, 43, 44, 45, 4]) (by decide)).trans e0
            refine ⟨.slice A n cap, W, ?_, hO, fun h h2 => f0 (RegI.gd_ne (by decide) h) (RegI.gd_off h2), fun h => f1 (RegI.gd_ne (by decide) h), fun h => f2 (RegI.gd_ne (by decide) h), fun h => f3 (RegI.gd_ne (by decide) h), fun h h2 => f4 (RegI.gd_ne (by decide) h) (RegI.gd_off h2), fun h => f5 (RegI.gd_ne (by decide) h), fun h h2 => by obtain ⟨B, b1, b2, b3, b4, b5, b6⟩ := f6 (RegI.gd_ne (by decide) h) (RegI.gd_off h2); exact ⟨B, b1, b2, b3, b4, fun h3 h4 => b5 (RegI.gd_ne (by decide) h3) (RegI.gd_off h4), fun h3 => b6 (RegI.gd_ne (by decide) h3)⟩, fun h => ⟨RegI.gd_keep (f7 (RegI.gd_ne (by decide) h)).1, RegI.gd_keep (f7 (RegI.gd_ne (by decide) h)).2.1, fun h2 => (f7 (RegI.gd_ne (by decide) h)).2.2 (RegI.gd_off h2)⟩, fun _ => rfl, fun h => f9 (RegI.gd_ne (by decide) h), fun h => f10 (RegI.gd_ne (by decide) h), fun h => ⟨RegI.gd_keep (f11 (RegI.gd_ne (by decide) h)).1, (f11 (RegI.gd_ne (by decide) h)).2⟩, fun h => ⟨(f12 (RegI.gd_ne (by decide) h)).1, RegI.gd_keep (f12 (RegI.gd_ne (by decide) h)).2⟩⟩
            clear f0 f1 f2 f3 f4 f5 f6 f7 f8 f9 f10 f11 f12 hr hu hO
            go_simp
          case s9 =>
            refine RegI.step_value rfl rfl rfl (by decide) ?_
            rintro L x W ⟨hO, f0, f1, f2, f3, f4, f5, f6, f7, f8, f9, f10, f11, f12⟩ hr hu
            have v5 : ((RegI.FX AA _ x).tmps[5]?).getD undef = _ := (RegI.fx_outG (D := [34, 35, 36, 37, 38, 39, 40, 41, 42, 43, 44, 45, 4]) (by decide)).trans e5
            refine ⟨.int .i64 k, W, ?_, hO, fun h h2 => f0 (RegI.gd_ne (by decide) h) (RegI.gd_off h2), fun h => f1 (RegI.gd_ne (by decide) h), fun h => f2 (RegI.gd_ne (by decide) h), fun h => f3 (RegI.gd_ne (by decide) h), fun h h2 => f4 (RegI.gd_ne (by decide) h) (RegI.gd_off h2), fun h => f5 (RegI.gd_ne (by decide) h), fun h h2 => by obtain ⟨B, b1, b2, b3, b4, b5, b6⟩ := f6 (RegI.gd_ne (by decide) h) (RegI.gd_off h2); exact ⟨B, b1, b2, b3, b4, fun h3 h4 => b5 (RegI.gd_ne (by decide) h3) (RegI.gd_off h4), fun h3 => b6 (RegI.gd_ne (by decide) h3)⟩, fun h => ⟨RegI.gd_keep (f7 (RegI.gd_ne (by decide) h)).1, RegI.gd_keep (f7 (RegI.gd_ne (by decide) h)).2.1, fun h2 => (f7 (RegI.gd_ne (by decide) h)).2.2 (RegI.gd_off h2)⟩, fun h => f8 (RegI.gd_ne (by decide) h), fun _ => rfl, fun h => f10 (RegI.gd_ne (by decide) h), fun h => ⟨RegI.gd_keep (f11 (RegI.gd_ne (by decide) h)).1, (f11 (RegI.gd_ne (by decide) h)).2⟩, fun h => ⟨(f12 (RegI.gd_ne (by decide) h)).1, RegI.gd_keep (f12 (RegI.gd_ne (by decide) h)).2⟩⟩
            clear f0 f1 f2 f3 f4 f5 f6 f7 f8 f9 f10 f11 f12 hr hu hO
            go_simp
          case s10 =>
            refine RegI.step_value rfl rfl rfl (by decide) ?_
            rintro L x W ⟨hO, f0, f1, f2, f3, f4, f5, f6, f7, f8, f9, f10, f11, f12⟩ hr hu
            have l8 := hr { on := 8, ground := .data } (by simp) rfl
            have v42 : ((RegI.FX AA _ x).tmps[42]?).getD undef = _ := (RegI.fx_inG (D := [34, 35, 36, 37, 38, 39, 40, 41, 42, 43, 44, 45, 4]) (by decide) (by rw [hsz]; decide)).trans (f8 l8)
            have l9 := hr { on := 9, ground := .data } (by simp) rfl
            have v43 : ((RegI.FX AA _ x).tmps[43]?).getD undef = _ := (RegI.fx_inG (D := [34, 35, 36, 37, 38, 39, 40, 41, 42, 43, 44, 45, 4]) (by decide) (by rw [hsz]; decide)).trans (f9 l9)
            refine ⟨sliced A k n cap 1, W, ?_, hO, fun h h2 => f0 (RegI.gd_ne (by decide) h) (RegI.gd_off h2), fun h => f1 (RegI.gd_ne (by decide) h), fun h => f2 (RegI.gd_ne (by decide) h), fun h => f3 (RegI.gd_ne (by decide) h), fun h h2 => f4 (RegI.gd_ne (by decide) h) (RegI.gd_off h2), fun h => f5 (RegI.gd_ne (by decide) h), fun h h2 => by obtain ⟨B, b1, b2, b3, b4, b5, b6⟩ := f6 (RegI.gd_ne (by decide) h) (RegI.gd_off h2); exact ⟨B, b1, b2, b3, b4, fun h3 h4 => b5 (RegI.gd_ne (by decide) h3) (RegI.gd_off h4), fun h3 => b6 (RegI.gd_ne (by decide) h3)⟩, fun h => ⟨RegI.gd_keep (f7 (RegI.gd_ne (by decide) h)).1, RegI.gd_keep (f7 (RegI.gd_ne (by decide) h)).2.1, fun h2 => (f7 (RegI.gd_ne (by decide) h)).2.2 (RegI.gd_off h2)⟩, fun h => f8 (RegI.gd_ne (by decide) h), fun h => f9 (RegI.gd_ne (by decide) h), fun _ => slice_hi A ha1 hk, fun h => ⟨RegI.gd_keep (f11 (RegI.gd_ne (by decide) h)).1, (f11 (RegI.gd_ne (by decide) h)).2⟩, fun h => ⟨(f12 (RegI.gd_ne (by decide) h)).1, RegI.gd_keep (f12 (RegI.gd_ne (by decide) h)).2⟩⟩
            clear f0 f1 f2 f3 f4 f5 f6 f7 f8 f9 f10 f11 f12 hr hu hO
            go_simp
          case s11 =>
            refine RegI.step_value rfl rfl rfl (by decide) ?_
            rintro L x W ⟨hO, f0, f1, f2, f3, f4, f5, f6, f7, f8, f9, f10, f11, f12⟩ hr hu
            have l7 := hr { on := 7, ground := .data } (by simp) rfl
            have v41 : (RegI.FX AA [34, 35, 36, 37, 38, 39, 40, 41, 42, 43, 44, 45, 4] x).eval (.tmp 41) = x 41 := RegI.fx_in (D := [34, 35, 36, 37, 38, 39, 40, 41, 42, 43, 44, 45, 4]) (by decide) (by rw [hsz]; decide)
            have l10 := hr { on := 10, ground := .data } (by simp) rfl
            have v44 : (RegI.FX AA [34, 35, 36, 37, 38, 39, 40, 41, 42, 43, 44, 45, 4] x).eval (.tmp 44) = x 44 := RegI.fx_in (D := [34, 35, 36, 37, 38, 39, 40, 41, 42, 43, 44, 45, 4]) (by decide) (by rw [hsz]; decide)
            obtain ⟨A', c', hx44, hA'⟩ := f10 l10
            obtain ⟨v2, W2, hrun, hown, hgr, hat⟩ := run_append_row_any (P := Try.prog) W wc.heap.size 52 52 3 i0 (.int .i64 0) 1 8 Try.underlying52 HI.out HZ0.out HZ1.out HZ2.out rfl (by decide) (x 41) (k + 1) (nums (l.take k ++ [xx])) ((f7 l7).2.2 (RegI.gd_un hu)) A' (n - k) c' (nums (l.drop k)) HLN.out.2 (fun h => hhigh hO (hA' h) h) (nums_one _) (by unfold maxLen; omega) (by omega) hO.size
            refine ⟨v2, W2, ?_, hO.grown hgr (fun j hj => (((f7 l7).2.2 (RegI.gd_un hu)).lt j hj).1), fun h h2 => (RegI.gd_clash (f7 l7).1 (RegI.gd_off h2)).elim, fun h => f1 (RegI.gd_ne (by decide) h), fun h => f2 (RegI.gd_ne (by decide) h), fun h => f3 (RegI.gd_ne (by decide) h), fun h h2 => (RegI.gd_clash l7 (RegI.gd_off h2)).elim, fun h => f5 (RegI.gd_ne (by decide) h), fun _ h2 => (RegI.gd_clash l7 (RegI.gd_off h2)).elim, fun h => ⟨RegI.gd_keep (f7 (RegI.gd_ne (by decide) h)).1, RegI.gd_keep (f7 (RegI.gd_ne (by decide) h)).2.1, fun h2 => (RegI.gd_yes hu h2).elim⟩, fun h => f8 (RegI.gd_ne (by decide) h), fun h => f9 (RegI.gd_ne (by decide) h), fun h => f10 (RegI.gd_ne (by decide) h), fun _ => ⟨RegI.gd_keep l7, by rw [show n + 1 = k + 1 + (n - k) by omega, show l.take k ++ xx :: l.drop k = l.take k ++ [xx] ++ l.drop k by simp, nums_append]; exact hown⟩, fun h => (RegI.gd_no hu (f12 (RegI.gd_ne (by decide) h)).2).elim⟩
            unfold execOp
            simp only [resolve, invoke, builtin, Sem.run_bind, Sem.run_pure, Result.andThen_ok, List.map_toArray, List.map_cons, List.map_nil, v41, v44, hx44, hrun]
          case s12 =>
            refine RegI.step_value rfl rfl rfl (by decide) ?_
            rintro L x W ⟨hO, f0, f1, f2, f3, f4, f5, f6, f7, f8, f9, f10, f11, f12⟩ hr hu
            have l11 := hr { on := 11, ground := .data } (by simp) rfl
            have v45 : (RegI.FX AA [34, 35, 36, 37, 38, 39, 40, 41, 42, 43, 44, 45, 4] x).eval (.tmp 45) = x 45 := RegI.fx_in (D := [34, 35, 36, 37, 38, 39, 40, 41, 42, 43, 44, 45, 4]) (by decide) (by rw [hsz]; decide)
            refine ⟨x 45, W, ?_, hO, fun h h2 => f0 (RegI.gd_ne (by decide) h) (RegI.gd_off h2), fun h => f1 (RegI.gd_ne (by decide) h), fun h => f2 (RegI.gd_ne (by decide) h), fun h => f3 (RegI.gd_ne (by decide) h), fun h h2 => f4 (RegI.gd_ne (by decide) h) (RegI.gd_off h2), fun h => f5 (RegI.gd_ne (by decide) h), fun h h2 => by obtain ⟨B, b1, b2, b3, b4, b5, b6⟩ := f6 (RegI.gd_ne (by decide) h) (RegI.gd_off h2); exact ⟨B, b1, b2, b3, b4, fun h3 h4 => b5 (RegI.gd_ne (by decide) h3) (RegI.gd_off h4), fun h3 => b6 (RegI.gd_ne (by decide) h3)⟩, fun h => ⟨RegI.gd_keep (f7 (RegI.gd_ne (by decide) h)).1, RegI.gd_keep (f7 (RegI.gd_ne (by decide) h)).2.1, fun h2 => (f7 (RegI.gd_ne (by decide) h)).2.2 (RegI.gd_off h2)⟩, fun h => f8 (RegI.gd_ne (by decide) h), fun h => f9 (RegI.gd_ne (by decide) h), fun h => f10 (RegI.gd_ne (by decide) h), fun h => ⟨RegI.gd_keep (f11 (RegI.gd_ne (by decide) h)).1, (f11 (RegI.gd_ne (by decide) h)).2⟩, fun _ => ⟨rfl, RegI.gd_keep l11⟩⟩
            clear f0 f1 f2 f3 f4 f5 f6 f7 f8 f9 f10 f11 f12 hr hu hO
            unfold execOp
            simp only [Sem.run_pure, v45]
end Go.Proofs.Ytggceakihapgiaa.SpaW
